/- Of the road to tagCallsUptoCard_holds: RefShaPad, ShaPiecesLaw, ShaMixesLaw, RefShaSum, AppB, TgRef, TgRefA, EvLit, TgEv, TgPad, TgRef2, FramesB, TgBytes, TcByt, BsStr, TcWord, BsIdx, Clone. -/
import Derived.Test.YtcpchhigiohlnaaDoorG07
import Derived.Test.YtcpchhigiohlnaaDoorG02
import Derived.Test.YtcpchhigiohlnaaDoorG00
import Derived.Laws.AppendOwn
import Derived.Test.YtcpchhigiohlnaaDoorG01
import Derived.Laws.IdiomStrings
import Derived.Test.YtcpchhigiohlnaaDoorChecked
import Derived.Laws.Strings
import Derived.Laws.Strings2
import Derived.Laws.Concat
import Derived.Lib.Strings
import Derived.WalkKit
set_option linter.unusedVariables false
set_option linter.unusedSimpArgs false
set_option maxRecDepth 100000
set_option maxHeartbeats 16000000
namespace Go.Proofs.YtcpchhigiohlnaaDoor
open Go.RowKit
def hiL2 (n m x : Nat) : List Int := (bigL n x).take (n - m)
theorem hiL2_step (n m x : Nat) (h : m < n) : hiL2 n m x = hiL2 n (m + 1) x ++ [((x / 256 ^ m % 256 : Nat) : Int)] := by
 have key : ∀ r j, j < r -> (bigL r x)[j]? = some ((x / 256 ^ (r - 1 - j) % 256 : Nat) : Int) := by
  intro r
  induction r with
  | zero => intro j hj; omega
  | succ r ih =>
   intro j hj
   cases j with
   | zero => simp [bigL]
   | succ j =>
    simp only [bigL, List.getElem?_cons_succ]
    rw [ih j (by omega), show r + 1 - 1 - (j + 1) = r - 1 - j by omega]
 unfold hiL2
 have e : n - m = (n - (m + 1)) + 1 := by omega
 rw [e, List.take_add_one, key n _ (by omega), show n - 1 - (n - (m + 1)) = m by omega]
 rfl
theorem lit_HB (w : World) (x : Int) (hx : 0 <= x /\ x < 256) : HB (w.alloc (.cells #[.int .u8 x] 5)) (.slice (some ⟨w.heap.size, 0, none⟩) 1 1) [x] := by
 have h1 : (w.alloc (.cells #[.int .u8 x] 5)).ownsRow w.heap.size 5 1 (.slice (some ⟨w.heap.size, 0, none⟩) 1 1) 1 [.int .u8 x] := World.ownsRow_lit (base := w.heap.size) (e := 5) (size := 1) w #[.int .u8 x] 1 (Nat.le_refl _) (by decide) rfl
 exact HB.of_own (l := [x]) h1 (fun y hy => by have : y = x := (by simpa using hy); omega)
theorem lit_HB2 (w : World) (x y : Int) (e : x = y) (hy : 0 <= y /\ y < 256) : HB (w.alloc (.cells #[.int .u8 x] 5)) (.slice (some ⟨w.heap.size, 0, none⟩) 1 1) [y] := by
 subst e
 exact lit_HB w x hy
theorem rpad_ok (w : World) (n : Nat) (hn : n <= 1152921504606846976) :
  Calls Tryd.prog 32 #[.int .i64 (n : Int)] w fun e w' => ∃ v', e = .returned (.tuple #[v', .int .i64 0]) /\ w'.ownsRow w.heap.size 5 1 v' (padL n).length ((padL n).map (Value.int .u8)) /\ Below w.heap.size w w' := by
 obtain ⟨z, HZ⟩ : ∃ z, Hid (padZ n = z) := ⟨_, rfl⟩
 have HZE : Hid (z = (64 - (n + 9) % 64) % 64) := by rw [<- HZ.out]; rfl
 have hz64 : z < 64 := by have := HZE.out; omega
 have HO1 : Hid ((w.alloc (.cells #[.int .u8 128] 5)).ownsRow w.heap.size 5 1 (.slice (some ⟨w.heap.size, 0, none⟩) 1 1) (1 + 0) ([.int .u8 128] ++ List.replicate 0 (.int .u8 0))) := World.ownsRow_lit (base := w.heap.size) (e := 5) (size := 1) w #[.int .u8 128] 1 (Nat.le_refl _) (by decide) rfl
 have HB1 : Hid (Below w.heap.size w (w.alloc (.cells #[.int .u8 128] 5))) := (Below.refl _ w).alloc (Nat.le_refl _) _
 go_enter Tryd.func32, Tryd.ntmps32
 go_wp2
 go_loopw [4] (fun v wr => ∃ j : Nat, j <= z /\ Hid (wr.ownsRow w.heap.size 5 1 v (1 + j) ([.int .u8 128] ++ List.replicate j (.int .u8 0))) /\ Hid (Below w.heap.size w wr)) (fun v _ => 64 - lenV v)
 case atStart => exact ⟨0, Nat.zero_le _, HO1, HB1⟩
 case round =>
  obtain ⟨j, hj, HO, HB⟩ := hrel
  obtain ⟨g, cap, ev, hg0⟩ : ∃ g cap, u4 = .slice (some ⟨g, 0, none⟩) (1 + j) cap /\ w.heap.size <= g := by
   rcases HO.out.2 with ⟨_, h⟩ | ⟨g, cap, _, h, h2, _⟩
   ·omega
   ·exact ⟨g, cap, h, h2⟩
  subst ev
  have hsz := HB.out.size
  by_cases hlt : j < z
  ·have hc : ¬ (((n : Int) + (1 + (j : Int))) % 64 = 56) := by have := HZE.out; omega
   have HO2 : Hid ((wr.alloc (.cells #[.int .u8 0] 5)).ownsRow w.heap.size 5 1 (.slice (some ⟨g, 0, none⟩) (1 + j) cap) (1 + j) ([.int .u8 128] ++ List.replicate j (.int .u8 0))) := HO.out.alloc _
   have HLB := hid (lit_HB wr 0 (by decide))
   have HB2 : Hid (Below w.heap.size w (wr.alloc (.cells #[.int .u8 0] 5))) := HB.out.alloc hsz _
   go_wp2_with (at_builtin; refine wpList_append_HB rfl _ _ rfl w.heap.size _ _ _ rfl HO2.out _ _ rfl HLB.out ?q1 ?q2 ?_)
   case q1 => simp; omega
   case q2 => simp; omega
   intro v4 w4 ho4 hg4
   have HO4 : Hid (w4.ownsRow w.heap.size 5 1 v4 (1 + (j + 1)) ([.int .u8 128] ++ List.replicate (j + 1) (.int .u8 0))) := by
    rw [List.replicate_succ', <- Nat.add_assoc]
    exact ho4
   have HB4 : Hid (Below w.heap.size w w4) := HB2.out.grown hg4 HB2.out.size (fun k e => by
    have : g = k := by simpa [Value.ownBlock] using e
    omega)
   obtain ⟨g4, cap4, ev4⟩ : ∃ g cap, v4 = .slice (some ⟨g, 0, none⟩) (1 + (j + 1)) cap := by
    rcases HO4.out.2 with ⟨_, h⟩ | ⟨g, cap, _, h, h2, _⟩
    ·omega
    ·exact ⟨g, cap, h⟩
   subst ev4
   clear ho4 hg4 HO2 HLB HB2 hc
   go_wp2
   exact ⟨⟨j + 1, by omega, HO4, HB4⟩, by simp [lenV]; omega⟩
  ·have hjz : j = z := by omega
   subst hjz
   have hc : ((n : Int) + (1 + (j : Int))) % 64 = 56 := by have := HZE.out; omega
   obtain ⟨xs, HXS⟩ : ∃ xs : List Value, Hid (([Value.int .u8 128] ++ List.replicate j (Value.int .u8 0)) = xs) := ⟨_, rfl⟩
   have HO0 := hid HO.out
   rw [HXS.out] at HO0
   obtain ⟨x, HX0⟩ : ∃ x, Hid (n * 8 = x) := ⟨_, rfl⟩
   have hnx : (n : Int) * 8 = (x : Int) := by rw [<- HX0.out]; omega
   have hxb : x <= 9223372036854775808 := by rw [<- HX0.out]; omega
   go_wp2
   clear hc HO hlt hnx
   go_loopw [4, 6] (fun o i wq => ∃ m : Nat, m <= 8 /\ i = .int .i64 ((m : Int) - 1) /\ Hid (wq.ownsRow w.heap.size 5 1 o (1 + j + (8 - m)) (xs ++ (hiL2 8 m x).map (Value.int .u8))) /\ Hid (Below w.heap.size w wq)) (fun _ i _ => (intOf i + 1).toNat)
   case atStart => exact ⟨8, Nat.le_refl _, rfl, by rw [Nat.sub_self, show hiL2 8 8 x = [] from rfl, List.map_nil, List.append_nil]; exact HO0, HB⟩
   case round =>
    clear HO0 HB hsz
    obtain ⟨m, hm, rfl, HO, HBw⟩ := hrel
    obtain ⟨g2, cap2, ev, hg2⟩ : ∃ g cap, u4 = .slice (some ⟨g, 0, none⟩) (1 + j + (8 - m)) cap /\ w.heap.size <= g := by
     rcases HO.out.2 with ⟨_, h⟩ | ⟨g, cap, _, h, h2, _⟩
     ·omega
     ·exact ⟨g, cap, h, h2⟩
    cases m with
    | zero =>
     have HPL : Hid ((padL n).map (Value.int .u8) = xs ++ (hiL2 8 0 x).map (Value.int .u8)) := by
      show _ = _
      rw [<- HXS.out, show hiL2 8 0 x = bigL 8 x from by unfold hiL2; rw [Nat.sub_zero, List.take_of_length_le (by rw [bigL_length]; exact Nat.le_refl 8)], <- HX0.out]
      unfold padL
      rw [HZ.out]
      simp
     have HLn : Hid ((padL n).length = 1 + j + (8 - 0)) := by show _ = _; rw [padL_length, HZ.out]; omega
     go_wp2
     go_ret2
     refine ⟨_, rfl, ?_, HBw.out⟩
     rw [HPL.out, HLn.out]
     exact HO.out
    | succ m =>
     have HS := hid (hiL2_step 8 m x (by omega))
     have hmc : m = 0 \/ m = 1 \/ m = 2 \/ m = 3 \/ m = 4 \/ m = 5 \/ m = 6 \/ m = 7 := by omega
     have hxi : (x : Int) <= 9223372036854775808 := by omega
     have hsz := HBw.out.size
     obtain ⟨y, HY⟩ : ∃ y, Hid (((x / 256 ^ m % 256 : Nat) : Int) = y) := ⟨_, rfl⟩
     rw [HY.out] at HS
     have hyb : Hid (0 <= y /\ y < 256) := by rw [<- HY.out]; refine hid ?_; omega
     obtain ⟨k0, HK⟩ : ∃ k0, Hid (1 + j + (8 - (m + 1)) = k0) := ⟨_, rfl⟩
     have HK2 : Hid (1 + j + (8 - m) = k0 + 1) := by show _ = _; rw [<- HK.out]; omega
     have hk0 : k0 <= 80 := by rw [<- HK.out]; omega
     obtain ⟨lst, HLs⟩ : ∃ lst, Hid (xs ++ (hiL2 8 (m + 1) x).map (Value.int .u8) = lst) := ⟨_, rfl⟩
     have HSX : Hid (xs ++ (hiL2 8 m x).map (Value.int .u8) = lst ++ [.int .u8 y]) := by
      show _ = _
      rw [HS.out, List.map_append, <- List.append_assoc, HLs.out]
      rfl
     have HO' := hid HO.out
     rw [HK.out, HLs.out] at HO'
     rw [HK.out] at ev
     clear HO
     subst ev
     rcases hmc with rfl | rfl | rfl | rfl | rfl | rfl | rfl | rfl
     all_goals
      go_wp2_with (at_builtin; refine wpList_append_HB rfl _ _ rfl w.heap.size _ _ _ rfl (HO'.out.alloc _) _ [y] rfl ?q0 ?q1 ?q2 ?_)
      case q0 => exact lit_HB2 _ _ _ (by rw [<- HY.out]; simp; try omega) hyb.out
      case q1 => simp; omega
      case q2 => simp; omega
      intro v' w2 hown2 hgr2
      have HO2 : Hid (w2.ownsRow w.heap.size 5 1 v' (k0 + 1) (lst ++ [.int .u8 y])) := hown2
      have HB2 := hid ((HBw.out.alloc HBw.out.size _).grown hgr2 (by simp; omega) (fun k e => (HO'.out.lt k e).1))
      clear hown2 hgr2
      go_wp2
      exact ⟨⟨_, Nat.le_of_succ_le hm, rfl, by rw [HK2.out, HSX.out]; exact HO2, HB2⟩, by simp [intOf]⟩
def HO (w : World) (v : Value) (ls : List Bool) : Prop :=
 ∃ (p : Option Addr) (c : Nat), v = .slice p ls.length c /\ ls.length <= c /\ c <= maxLen /\ (0 < ls.length -> ∃ b off, p = some ⟨b, off, none⟩ /\ ∀ j, j < ls.length -> w.cell? ⟨b, off + j, none⟩ = some (.bool (ls.getD j false)))
theorem own_later {A C : World} {B e n : Nat} {v : Value} {xs : List Value} (h : A.ownsRow B e 1 v n xs) (hb : Below A.heap.size A C) : C.ownsRow B e 1 v n xs := by
 cases hx : v.ownBlock with
 | none => exact h.kept (row := some 0) (grown_below hb) (.inl hx)
 | some y => exact h.kept (row := some (y + 1)) (grown_below hb) (.inr (by rw [hx]; simp))
theorem zero_b64 : (Tryd.prog.info? 71).map (·.zero) = some (some (.agg (cellsB (List.replicate 64 0)))) := by kernel_rfl
theorem cellsB_set2 (l : List Int) (i : Nat) (x : Int) : (cellsB l).setIfInBounds i (.int .u8 x) = cellsB (l.set i x) := by
 unfold cellsB
 rw [List.map_set]
 simp
theorem dig_get {W : List Nat} (hW : W8 W) (a r : Nat) (ha : a < 8) (hr : r < 4) : (W.flatMap (bigL 4)).getD (4 * a + r) 0 = ((W.getD a 0 / 256 ^ (3 - r) % 256 : Nat) : Int) := by
 obtain ⟨x0, x1, x2, x3, x4, x5, x6, x7, rfl, _⟩ := hW.open
 have h1 : a = 0 \/ a = 1 \/ a = 2 \/ a = 3 \/ a = 4 \/ a = 5 \/ a = 6 \/ a = 7 := by omega
 have h2 : r = 0 \/ r = 1 \/ r = 2 \/ r = 3 := by omega
 rcases h1 with rfl | rfl | rfl | rfl | rfl | rfl | rfl | rfl <;> rcases h2 with rfl | rfl | rfl | rfl <;> rfl
def curB (t : List Int) (i : Nat) : List Int := t.take i ++ (List.replicate 64 (0 : Int)).drop i
theorem curB_length (t : List Int) (i : Nat) (hi : i <= 64) (ht : t.length = 64) : (curB t i).length = 64 := by
 unfold curB
 rw [List.length_append, List.length_take, List.length_drop, List.length_replicate]
 omega
theorem curB_step (t : List Int) (i : Nat) (hi : i < 64) (ht : t.length = 64) : (curB t i).set i (t.getD i 0) = curB t (i + 1) := by
 unfold curB
 have hl : (t.take i).length = i := by rw [List.length_take]; omega
 have hz : i < (List.replicate 64 (0 : Int)).length := by rw [List.length_replicate]; omega
 have hi2 : i < t.length := by omega
 rw [List.set_append_right _ _ (by omega), hl, Nat.sub_self, List.drop_eq_getElem_cons hz, List.set_cons_zero, List.take_succ_eq_append_getElem hi2, getD_of_lt hi2, List.append_assoc]
 rfl
theorem blkOf_get (M : List Int) (k j : Nat) (hj : j < 64) : (blkOf M k).getD j 0 = M.getD (64 * k + j) 0 := by
 unfold blkOf
 simp only [List.getD, List.getElem?_take, List.getElem?_drop, if_pos hj]
def curE (t : List Int) (i : Nat) : List Int := t.take i ++ zeros32.drop i
theorem curE_length (t : List Int) (i : Nat) (hi : i <= 32) (ht : t.length = 32) : (curE t i).length = 32 := by
 unfold curE
 rw [List.length_append, List.length_take, List.length_drop, zeros32_length]
 omega
theorem curE_step (t : List Int) (i : Nat) (hi : i < 32) (ht : t.length = 32) : (curE t i).set i (t.getD i 0) = curE t (i + 1) := by
 unfold curE
 have hl : (t.take i).length = i := by rw [List.length_take]; omega
 have hz : i < zeros32.length := by rw [zeros32_length]; omega
 have hi2 : i < t.length := by omega
 rw [List.set_append_right _ _ (by omega), hl, Nat.sub_self, List.drop_eq_getElem_cons hz, List.set_cons_zero, List.take_succ_eq_append_getElem hi2, getD_of_lt hi2, List.append_assoc]
 rfl
theorem rsum_any (w : World) (v : Value) (m : List Int) (h : HB w v m) (hbig : m.length <= 140737488355000) : Calls Tryd.prog 11 #[v] w fun e w' => e = .returned (.agg (cellsB (digL m))) /\ Below w.heap.size w w' := by
 obtain ⟨zd, HZD⟩ : ∃ zd, Hid (cellsB zeros32 = zd) := ⟨_, rfl⟩
 obtain ⟨W0, hW0⟩ : ∃ W0, Hid (w.alloc (.cells zd 34) = W0) := ⟨_, rfl⟩
 have HB0 : Hid (Below w.heap.size w W0) := by rw [<- hW0.out]; exact (Below.refl _ w).alloc (Nat.le_refl _) _
 have HR0 : Hid (W0.heap[w.heap.size]? = some (.cells zd 34 (0, 0))) := by rw [<- hW0.out]; exact heap_alloc_new w _
 have HS0 : Hid (W0.heap.size = w.heap.size + 1) := by rw [<- hW0.out]; refine hid ?_; simp
 obtain ⟨p, c, ev, hlc, hcm⟩ := h.open
 unfold maxLen at hcm
 obtain ⟨n, HN⟩ : ∃ n, Hid (m.length = n) := ⟨_, rfl⟩
 rw [HN.out] at ev hlc hbig
 have HH := hid (h.below HB0.out)
 have hmb := hid h.2
 subst ev
 clear h
 go_enter Tryd.func11, Tryd.ntmps11
 have HV0 : Hid (World.ownsRow W0 W0.heap.size 5 1 (.slice none 0 0) 0 []) := World.ownsRow_nil _ _ _ _
 go_wp2_with (first | (refine wpList_alloc_digest rfl rfl ?_; rw [HZD.out, hW0.out]) | (at_builtin; refine wpList_append_HB rfl _ _ rfl W0.heap.size (.slice none 0 0) 0 [] rfl HV0.out (.slice p n c) m rfl HH.out (by rw [HN.out]; omega) (Nat.le_refl _) ?_))
 intro v3 w2 ho3 hg3
 have HB02 : Hid (Below W0.heap.size W0 w2) := (Below.refl _ W0).grown hg3 (Nat.le_refl _) (fun k e => by cases e)
 have HO2 := hid ho3
 clear ho3 hg3
 go_wp2_with fail
 refine (rpad_ok _ n (by omega)).mono ?_
 rintro e w3 ⟨v2, rfl, ho2, hB2⟩
 obtain ⟨P, HP⟩ : ∃ P, Hid (padL n = P) := ⟨_, rfl⟩
 obtain ⟨q, HQ⟩ : ∃ q, Hid (P.length = q) := ⟨_, rfl⟩
 have hq72 : q <= 72 := by rw [<- HQ.out, <- HP.out, padL_length]; unfold padZ; omega
 have HBP : Hid (HB w3 v2 P) := by rw [<- HP.out]; exact HB.of_own ho2 (padL_byt n)
 have HO3 := hid (own_later HO2.out hB2)
 have HB03 : Hid (Below W0.heap.size W0 w3) := HB02.out.trans (hB2.mono HB02.out.size)
 obtain ⟨p2, c2, e2, hl2, hm2⟩ := HBP.out.open
 rw [HQ.out] at e2
 subst e2
 clear ho2 hB2 HO2
 go_wp2_with (at_builtin; refine wpList_append_HB rfl _ _ rfl W0.heap.size _ _ _ rfl HO3.out _ _ rfl HBP.out ?q1 ?q2 ?_)
 case q1 => rw [HN.out, HQ.out]; omega
 case q2 => exact HB03.out.size
 intro v4 w4 ho4 hg4
 obtain ⟨M, HM0⟩ : ∃ M, Hid (m ++ P = M) := ⟨_, rfl⟩
 have HPM : Hid (padded m = M) := by rw [<- HM0.out, <- HP.out, <- HN.out]; rfl
 have HML : Hid (M.length = n + q) := by show _ = _; rw [<- HM0.out, List.length_append, HN.out, HQ.out]
 have hmod : (n + q) % 64 = 0 := by have := padL_whole n; rwa [HP.out, HQ.out] at this
 have HMB : Hid (∀ x ∈ M, 0 <= x /\ x < 256) := by
  intro x hx
  rw [<- HM0.out] at hx
  rcases List.mem_append.1 hx with h1 | h1
  ·exact hmb.out x h1
  ·exact HBP.out.2 x h1
 have hbm : HB w4 v4 M := by
  refine HB.of_own (B := W0.heap.size) (e := 5) ?_ HMB.out
  have h4 := ho4
  rw [<- List.map_append, HM0.out] at h4
  rw [HML.out, <- HN.out, <- HQ.out]
  exact h4
 have HB04 : Hid (Below W0.heap.size W0 w4) := HB03.out.grown hg4 HB03.out.size (fun k e => (HO3.out.lt k e).1)
 have HB4 : Hid (Below w.heap.size w w4) := HB0.out.trans (HB04.out.mono (by have := HS0.out; omega))
 have HRR4 : Hid (w4.heap[w.heap.size]? = some (.cells zd 34 (0, 0))) := (HB04.out.block _ (by have := HS0.out; omega)).trans HR0.out
 have hq9 : 9 <= q := by rw [<- HQ.out, <- HP.out, padL_length]; omega
 obtain ⟨b4, o4, c4, e4, hc4, hm4, hcell4⟩ := hbm.ne (by rw [HML.out]; omega)
 rw [HML.out] at e4 hc4 hcell4
 have hb4 : b4 < w4.heap.size := World.block_lt_of_cell? w4 _ (hcell4 0 (by omega))
 have HC4 := hid hcell4
 unfold maxLen at hm4
 subst e4
 clear ho4 hg4 hbm hcell4 HO3 HBP
 obtain ⟨ivc, HIV⟩ : ∃ ivc, Hid (cellsW iv = ivc) := ⟨_, rfl⟩
 obtain ⟨z8, HZ8⟩ : ∃ z8, Hid (cellsW (zerosW 8) = z8) := ⟨_, rfl⟩
 have hz8 := zero_w8
 rw [HZ8.out] at hz8
 have HZ1 := hid hz8
 have HIm : Hid ((Tryd.prog.info? 69).map (·.size) = some ivc.size) := by rw [<- HIV.out]; exact size_w8
 have H1m : Hid (ivc.all (·.oneCell') = true) := by rw [<- HIV.out]; exact cellsW_one _
 have HZM : Hid (z8.size = ivc.size) := by rw [<- HZ8.out, <- HIV.out, cellsW_size, zerosW_length]; exact rfl
 have CI := hid (rinitial_any w4)
 clear hz8
 rw [HIV.out] at CI
 go_wp2_with fail
 refine CI.out.mono ?_
 rintro e w5 ⟨rfl, hB5⟩
 have HB5 := hid hB5
 clear hB5
 have HR : Hid ((w5.alloc (.cells z8 69)).heap[w5.heap.size]? = some (.cells z8 69 (0, 0))) := heap_alloc_new w5 _
 have HB6 := hid (below_setRow ((Below.refl _ w5).alloc (Nat.le_refl _) (.cells z8 69)) (g := w5.heap.size) (Nat.le_refl _) ivc)
 have HF0 : Hid (((w5.alloc (.cells z8 69)).setRow w5.heap.size ivc).heap[w5.heap.size]? = some (.cells (cellsW (wAt M 0)) 69 (0, 0))) := by rw [show cellsW (wAt M 0) = ivc from HIV.out]; exact setRow_heap _ _ _ _ _ _ HR.out
 go_wp2_with (first | (refine wpList_alloc_agg HZ1.out rfl rfl ?_) | (refine wpList_store_row rfl 69 _ _ rfl w5.heap.size ivc rfl rfl 69 _ HR.out HIm.out HZM.out H1m.out ?_))
 go_loopw [7] (fun i wr => ∃ k I : Nat, I = 64 * k /\ I <= n + q /\ i = .int .i64 I /\ Hid (wr.heap[w5.heap.size]? = some (.cells (cellsW (wAt M k)) 69 (0, 0))) /\ Hid (Below w5.heap.size w5 wr)) (fun i _ => n + q - (intOf i).toNat)
 case atStart => exact ⟨0, 0, rfl, Nat.zero_le _, rfl, HF0, HB6⟩
 case round =>
  obtain ⟨k, I, hIk, hI, rfl, HF, HBk⟩ := hrel
  obtain ⟨wo, rfl⟩ : ∃ wo, wo = wr := ⟨_, rfl⟩
  have HIK := hid hIk
  clear hIk
  have hbr : b4 < w5.heap.size := by have := HB5.out.size; omega
  have hsr := HBk.out.size
  have HCr : Hid (∀ j, j < n + q -> wo.cell? ⟨b4, o4 + j, none⟩ = some (.int .u8 (M.getD j 0))) := fun j hj => ((HBk.out.cell hbr).trans (HB5.out.cell hb4)).trans (HC4.out j hj)
  have h8 := wAt_W8 M k
  by_cases hlt : I + 64 <= n + q
  ·have hbl := blkOf_length (m := M) (k := k) (by rw [HML.out]; have := HIK.out; omega)
   have hbb := blkOf_byt HMB.out k
   have HBG : Hid (∀ j, j < 64 -> M.getD (I + j) 0 = (blkOf M k).getD j 0) := fun j hj => by rw [blkOf_get M k j hj, HIK.out]
   have HW1 : Hid (wAt M (k + 1) = mixL (wAt M k) (blkOf M k)) := rfl
   obtain ⟨B, HBL⟩ : ∃ B, Hid (blkOf M k = B) := ⟨_, rfl⟩
   obtain ⟨W, HW⟩ : ∃ W, Hid (wAt M k = W) := ⟨_, rfl⟩
   rw [HBL.out] at hbl hbb HBG HW1
   rw [HW.out] at h8 HF HW1
   have H8 := hid h8
   have HBB := hid hbb
   obtain ⟨zb, HZB⟩ : ∃ zb, Hid (cellsB (List.replicate 64 0) = zb) := ⟨_, rfl⟩
   have hzb := zero_b64
   rw [HZB.out] at hzb
   have HZ2 := hid hzb
   obtain ⟨W7, hW7⟩ : ∃ W7, Hid (wo.alloc (.cells zb 71) = W7) := ⟨_, rfl⟩
   have HB7 : Hid (Below wo.heap.size wo W7) := by rw [<- hW7.out]; exact (Below.refl _ wo).alloc (Nat.le_refl _) _
   have hs7 : W7.heap.size = wo.heap.size + 1 := by rw [<- hW7.out]; simp
   have HR7 : Hid (W7.heap[wo.heap.size]? = some (.cells (cellsB (curB B 0)) 71 (0, 0))) := by
    rw [<- hW7.out, show cellsB (curB B 0) = zb from HZB.out]
    exact heap_alloc_new wo _
   clear h8 hbb hzb
   go_wp2_with (refine wpList_alloc_agg HZ2.out rfl rfl ?_; rw [hW7.out])
   clear hW7
   go_loopw [9] (fun i wq => ∃ J : Nat, J <= 64 /\ i = .int .i64 J /\ Hid (wq.heap[wo.heap.size]? = some (.cells (cellsB (curB B J)) 71 (0, 0))) /\ Hid (W7.grownBy wq (some wo.heap.size))) (fun i _ => 64 - (intOf i).toNat)
   case atStart => exact ⟨0, Nat.zero_le _, rfl, HR7, ⟨rfl, rfl, rfl, Nat.le_refl _, fun _ _ _ => rfl⟩⟩
   case round =>
    obtain ⟨J, hJ, rfl, HFB, HG⟩ := hrel
    have hbw : b4 < wo.heap.size := by omega
    have HB8 : Hid (Below wo.heap.size wo wr) := HB7.out.grown HG.out (by omega) (fun k e => by cases e; exact Nat.le_refl _)
    by_cases hlj : J < 64
    ·have hcx : wr.cell? ⟨b4, o4 + (I + J), none⟩ = some (.int .u8 (B.getD J 0)) := by
      rw [<- HBG.out J hlj]
      exact (HB8.out.cell hbw).trans (HCr.out (I + J) (by omega))
     have hcb : wr.cell? ⟨wo.heap.size, J, none⟩ = some (.int .u8 ((curB B J).getD J 0)) := by
      rw [cell_of_row wr wo.heap.size J _ _ _ HFB.out]
      have hj2 : J < (curB B J).length := by rw [curB_length B J (by omega) hbl]; omega
      simp [cellsB, List.getD, List.getElem?_eq_getElem hj2]
     obtain ⟨old, HOLD⟩ : ∃ old, Hid ((curB B J).getD J 0 = old) := ⟨_, rfl⟩
     rw [HOLD.out] at hcb
     obtain ⟨x, HX⟩ : ∃ x, Hid (B.getD J 0 = x) := ⟨_, rfl⟩
     rw [HX.out] at hcx
     have hfz : wr.frozen? ⟨wo.heap.size, J, none⟩ = false := by simp [World.frozen?, HFB.out]
     go_wp2
     refine ⟨⟨J + 1, by omega, by go_num, ?_, grown_tr HG.out (grown_sets _ _ _ _)⟩, by simp [intOf]; omega⟩
     show _ = _
     rw [<- curB_step B J hlj hbl, HX.out, <- cellsB_set2]
     exact heap_setCell_same wr wo.heap.size J _ _ _ HFB.out
    ·have hJ64 : J = 64 := by omega
     subst hJ64
     have HCB : Hid (curB B 64 = B) := by
      show _ = _
      unfold curB
      rw [List.take_of_length_le (by omega), List.drop_eq_nil_of_le (by rw [List.length_replicate]; omega), List.append_nil]
     rw [HCB.out] at HFB
     obtain ⟨mb, HMB2⟩ : ∃ mb, Hid (cellsB B = mb) := ⟨_, rfl⟩
     obtain ⟨mw, HMW⟩ : ∃ mw, Hid (cellsW W = mw) := ⟨_, rfl⟩
     obtain ⟨mx, HMX⟩ : ∃ mx, Hid (cellsW (mixL W B) = mx) := ⟨_, rfl⟩
     have CM := hid (rmix_any wr W B H8.out hbl HBB.out)
     rw [HMB2.out, HMW.out, HMX.out] at CM
     rw [HMB2.out] at HFB
     have HFW : Hid (wr.heap[w5.heap.size]? = some (.cells mw 69 (0, 0))) := by
      show _ = _
      rw [HB8.out.block _ (by have := World.block_lt_of_cell? wo ⟨w5.heap.size, 0, none⟩ (u := .int .u32 ((W.getD 0 0 : Nat) : Int)) (by rw [cell_of_row wo w5.heap.size 0 _ _ _ HF.out]; exact cellsW_get (by rw [H8.out.1]; decide)); exact this), <- HMW.out]
      exact HF.out
     have hmws : mw.size = 8 := by rw [<- HMW.out, cellsW_size, H8.out.1]
     have hmxs : mx.size = 8 := by rw [<- HMX.out, cellsW_size, H8.out.mix.1]
     have hmbs : mb.size = 64 := by rw [<- HMB2.out]; simp [cellsB, hbl]
     have HIb : Hid ((Tryd.prog.info? 71).map (·.size) = some mb.size) := by rw [hmbs]; exact size_b64
     have HIw : Hid ((Tryd.prog.info? 69).map (·.size) = some mw.size) := by rw [hmws]; exact size_w8
     have HIx : Hid ((Tryd.prog.info? 69).map (·.size) = some mx.size) := by rw [hmxs]; exact size_w8
     have HWX : Hid (mw.size = mx.size) := by rw [hmws, hmxs]; exact rfl
     have H1x : Hid (mx.all (·.oneCell') = true) := by rw [<- HMX.out]; exact cellsW_one _
     clear hmws hmxs hmbs
     go_wp2_with (first | (refine wpList_load_row rfl 69 _ rfl w5.heap.size rfl 69 mw (0, 0) _ HFW.out Tryd.underlying69 rfl HIw.out ?_) | (refine wpList_load_row rfl 71 _ rfl wo.heap.size rfl 71 mb (0, 0) _ HFB.out Tryd.underlying71 rfl HIb.out ?_))
     refine CM.out.mono ?_
     rintro e w8 ⟨rfl, hB8⟩
     have hw5r : w5.heap.size < wr.heap.size := by have h1 := HB8.out.size; have h2 := HG.out.size; omega
     have HF8 : Hid (w8.heap[w5.heap.size]? = some (.cells mw 69 (0, 0))) := (hB8.block _ hw5r).trans HFW.out
     have HF9 : Hid ((w8.setRow w5.heap.size mx).heap[w5.heap.size]? = some (.cells mx 69 (0, 0))) := setRow_heap _ _ _ _ _ _ HF8.out
     have HB9 := hid (below_setRow ((HBk.out.trans (HB8.out.mono HBk.out.size)).trans (hB8.mono (Nat.le_trans HBk.out.size HB8.out.size))) (g := w5.heap.size) (Nat.le_refl _) mx)
     clear hB8
     go_wp2_with (refine wpList_store_row rfl 69 _ _ rfl w5.heap.size mx rfl rfl 69 _ HF8.out HIx.out HWX.out H1x.out ?_)
     refine ⟨⟨k + 1, I + 64, by have := HIK.out; omega, by omega, by go_num, ?_, HB9⟩, by simp [intOf]; omega⟩
     show _ = _
     rw [HW1.out, HMX.out]
     exact HF9.out
  ·have hIe : I = n + q := by have := HIK.out; omega
   have HWE : Hid (wAt M k = wAt (padded m) ((padded m).length / 64)) := by
    show _ = _
    have h1 : (padded m).length / 64 = k := by rw [HPM.out, HML.out]; have := HIK.out; omega
    rw [h1, HPM.out]
   obtain ⟨W, HW⟩ : ∃ W, Hid (wAt M k = W) := ⟨_, rfl⟩
   rw [HW.out] at HF h8 HWE
   have H8 := hid h8
   obtain ⟨D, HD⟩ : ∃ D, Hid (W.flatMap (bigL 4) = D) := ⟨_, rfl⟩
   have HDG : Hid (digL m = D) := by show _ = _; rw [<- HD.out, HWE.out]; rfl
   have hDl : D.length = 32 := by rw [<- HDG.out, digL_length]
   have hwol : w5.heap.size < wo.heap.size := World.block_lt_of_cell? wo ⟨w5.heap.size, 0, none⟩ (u := .int .u32 ((W.getD 0 0 : Nat) : Int)) (by rw [cell_of_row wo w5.heap.size 0 _ _ _ HF.out]; exact cellsW_get (by rw [H8.out.1]; decide))
   have HBo5 : Hid (Below w4.heap.size w4 wo) := HB5.out.trans (HBk.out.mono HB5.out.size)
   have HBo : Hid (Below w.heap.size w wo) := HB4.out.trans (HBo5.out.mono HB4.out.size)
   have hw4 : w.heap.size < w4.heap.size := by have := HB04.out.size; have := HS0.out; omega
   have hwwo : w.heap.size < wo.heap.size := by have := HBo5.out.size; omega
   have HRo : Hid (wo.heap[w.heap.size]? = some (.cells zd 34 (0, 0))) := (HBo5.out.block _ hw4).trans HRR4.out
   obtain ⟨W7, hW7⟩ : ∃ W7, Hid (wo.alloc (.cells zd 34) = W7) := ⟨_, rfl⟩
   have HB7 : Hid (Below wo.heap.size wo W7) := by rw [<- hW7.out]; exact (Below.refl _ wo).alloc (Nat.le_refl _) _
   have HS7 : Hid (W7.heap.size = wo.heap.size + 1) := by rw [<- hW7.out]; refine hid ?_; simp
   have HR7 : Hid (W7.heap[wo.heap.size]? = some (.cells (cellsB (curE D 0)) 34 (0, 0))) := by
    rw [<- hW7.out, show cellsB (curE D 0) = zd from HZD.out]
    exact heap_alloc_new wo _
   have HRr7 : Hid (W7.heap[w.heap.size]? = some (.cells zd 34 (0, 0))) := (HB7.out.block _ (by omega)).trans HRo.out
   have HF7 : Hid (W7.heap[w5.heap.size]? = some (.cells (cellsW W) 69 (0, 0))) := (HB7.out.block _ hwol).trans HF.out
   clear h8 hlt
   go_wp2_with (refine wpList_alloc_digest rfl rfl ?_; rw [HZD.out, hW7.out])
   clear hW7
   go_loopw [11] (fun i wq => ∃ J : Nat, J <= 32 /\ i = .int .i64 J /\ Hid (wq.heap[wo.heap.size]? = some (.cells (cellsB (curE D J)) 34 (0, 0))) /\ Hid (W7.grownBy wq (some wo.heap.size))) (fun i _ => 32 - (intOf i).toNat)
   case atStart => exact ⟨0, Nat.zero_le _, rfl, HR7, ⟨rfl, rfl, rfl, Nat.le_refl _, fun _ _ _ => rfl⟩⟩
   case round =>
    obtain ⟨J, hJ, rfl, HFB, HG⟩ := hrel
    by_cases hlj : J < 32
    ·obtain ⟨a, r, HJ⟩ : ∃ a r, Hid (J = 4 * a + r /\ r < 4) := ⟨J / 4, J % 4, by show _ /\ _; omega⟩
     have ha8 : a < 8 := by have := HJ.out; omega
     have HGD := hid (dig_get H8.out a r ha8 HJ.out.2)
     rw [HD.out, <- HJ.out.1] at HGD
     obtain ⟨x, HX⟩ : ∃ x, Hid (W.getD a 0 = x) := ⟨_, rfl⟩
     rw [HX.out] at HGD
     have hxl : x < 4294967296 := by rw [<- HX.out]; exact getW_lt H8.out.2 a
     have cw : wr.cell? ⟨w5.heap.size, a, none⟩ = some (.int .u32 (x : Int)) := by
      rw [cell_of_row wr w5.heap.size a _ _ _ ((HG.out.block w5.heap.size (by have := HS7.out; omega) (by simp; omega)).trans HF7.out), cellsW_get (by rw [H8.out.1]; exact ha8), HX.out]
     have hcb : wr.cell? ⟨wo.heap.size, J, none⟩ = some (.int .u8 ((curE D J).getD J 0)) := by
      rw [cell_of_row wr wo.heap.size J _ _ _ HFB.out]
      have hj2 : J < (curE D J).length := by rw [curE_length D J (by omega) hDl]; omega
      simp [cellsB, List.getD, List.getElem?_eq_getElem hj2]
     obtain ⟨old, HOLD⟩ : ∃ old, Hid ((curE D J).getD J 0 = old) := ⟨_, rfl⟩
     rw [HOLD.out] at hcb
     have hfz : wr.frozen? ⟨wo.heap.size, J, none⟩ = false := by simp [World.frozen?, HFB.out]
     have e1 : Int.tdiv (J : Int) 4 = (a : Int) := by have := HJ.out; rw [Int.tdiv_eq_ediv_of_nonneg (by omega)]; omega
     have FIN : Hid (∀ y : Int, y = D.getD J 0 -> Hid ((wr.setCell ⟨wo.heap.size, J, none⟩ (.int .u8 y)).heap[wo.heap.size]? = some (.cells (cellsB (curE D (J + 1))) 34 (0, 0)))) := fun y hy => by
      rw [<- curE_step D J hlj hDl, <- hy, <- cellsB_set2]
      exact heap_setCell_same wr wo.heap.size J _ _ _ HFB.out
     have hr4 : r = 0 \/ r = 1 \/ r = 2 \/ r = 3 := by have := HJ.out.2; omega
     rcases hr4 with rfl | rfl | rfl | rfl
     ·have e2 : Int.tmod (J : Int) 4 = 0 := by have := HJ.out; rw [Int.tmod_eq_emod_of_nonneg (by omega)]; omega
      go_wp2
      exact ⟨⟨J + 1, by omega, by go_num, FIN.out _ (by rw [HGD.out]; simp; try omega), grown_tr HG.out (grown_sets _ _ _ _)⟩, by simp [intOf]; omega⟩
     ·have e2 : Int.tmod (J : Int) 4 = 1 := by have := HJ.out; rw [Int.tmod_eq_emod_of_nonneg (by omega)]; omega
      go_wp2
      exact ⟨⟨J + 1, by omega, by go_num, FIN.out _ (by rw [HGD.out]; simp; try omega), grown_tr HG.out (grown_sets _ _ _ _)⟩, by simp [intOf]; omega⟩
     ·have e2 : Int.tmod (J : Int) 4 = 2 := by have := HJ.out; rw [Int.tmod_eq_emod_of_nonneg (by omega)]; omega
      go_wp2
      exact ⟨⟨J + 1, by omega, by go_num, FIN.out _ (by rw [HGD.out]; simp; try omega), grown_tr HG.out (grown_sets _ _ _ _)⟩, by simp [intOf]; omega⟩
     ·have e2 : Int.tmod (J : Int) 4 = 3 := by have := HJ.out; rw [Int.tmod_eq_emod_of_nonneg (by omega)]; omega
      go_wp2
      exact ⟨⟨J + 1, by omega, by go_num, FIN.out _ (by rw [HGD.out]; simp; try omega), grown_tr HG.out (grown_sets _ _ _ _)⟩, by simp [intOf]; omega⟩
    ·have hJ32 : J = 32 := by omega
     subst hJ32
     have HCE : Hid (curE D 32 = D) := by
      show _ = _
      unfold curE
      rw [List.take_of_length_le (by omega), List.drop_eq_nil_of_le (by rw [zeros32_length]; omega), List.append_nil]
     rw [HCE.out] at HFB
     obtain ⟨dm, HDM⟩ : ∃ dm, Hid (cellsB D = dm) := ⟨_, rfl⟩
     rw [HDM.out] at HFB
     have hds : dm.size = 32 := by rw [<- HDM.out]; simp [cellsB, hDl]
     have SD : Hid ((Tryd.prog.info? 34).map (·.size) = some dm.size) := by rw [hds]; exact size_digest
     have OD : Hid (dm.all (·.oneCell') = true) := by
      rw [<- HDM.out]
      exact all_oneCell_toArray (fun v hv => by obtain ⟨x, _, rfl⟩ := List.mem_map.1 hv; rfl)
     have ZD : Hid (zd.size = dm.size) := by rw [hds, <- HZD.out]; rfl
     have HRf : Hid (wr.heap[w.heap.size]? = some (.cells zd 34 (0, 0))) := (HG.out.block w.heap.size (by have := HS7.out; omega) (by simp; omega)).trans HRr7.out
     have HBF := hid (below_setRow (HBo.out.trans ((HB7.out.grown HG.out HB7.out.size (fun k e => by cases e; exact Nat.le_refl _)).mono HBo.out.size)) (g := w.heap.size) (Nat.le_refl _) dm)
     clear hds hlj
     go_wp2_with (first | (refine wpList_load_row rfl 34 _ rfl wo.heap.size rfl 34 dm (0, 0) _ HFB.out Tryd.underlying34 rfl SD.out ?_) | (refine wpList_store_row rfl 34 _ _ rfl w.heap.size dm rfl rfl 34 _ HRf.out SD.out ZD.out OD.out ?_))
     refine bodyPost_ret (v := .agg dm) (results_cell_row (p := 2) (ty := 34) rfl _ _ w.heap.size 34 dm (0, 0) _ rfl (setRow_heap _ _ _ _ _ _ HRf.out) Tryd.underlying34 rfl SD.out) rfl ?_
     exact ⟨by rw [HDG.out, HDM.out], HBF.out⟩
theorem run_append_byte (w : World) (base : Nat) (ty : TypeId) (v : Value) (n : Nat) (xs : List Value) (hown : w.ownsRow base 5 1 v n xs) (a : Addr) (c : Nat) (x : Int) (hx : w.cell? a = some (.int .u8 x)) (hn : n + 1 <= 140737488355328) (hbase : base <= w.heap.size) :
  ∃ v' w', (Builtin.append_ #[30, 30] ty #[v, .slice (some a) 1 c]).run Tryd.prog w = .ok v' w' /\ w'.ownsRow base 5 1 v' (n + 1) (xs ++ [.int .u8 x]) /\ w.grownBy w' v.ownBlock ∧
   (v'.ownBlock = v.ownBlock \/ (v'.ownBlock = some w.heap.size /\ w.grownBy w' none)) := by
 obtain ⟨i0, hi, hz0, hz1, hz2⟩ := info_parts info_u8
 have hnews : ∀ j u, [Value.int .u8 x][j]? = some u -> w.cell? (a.add j) = some u := by
  intro j u hj
  match j, hj with
  | 0, hj => simp at hj; subst hj; simpa [Addr.add] using hx
 have h1 : ∀ u ∈ [Value.int .u8 x], u.oneCell' = true := by intro u hu; simp at hu; subst hu; rfl
 obtain ⟨v', w', hr, h2, h3, _⟩ := run_append_own (P := Tryd.prog) w base 30 ty 5 i0 (.int .u8 0) 1 1 Tryd.underlying30 hi hz0 hz1 hz2 rfl (by decide) v n xs hown a 1 c [.int .u8 x] rfl hnews h1 (by unfold maxLen; omega) (by omega) hbase
 refine ⟨v', w', hr, h2, h3, ?_⟩
 rcases hown.2 with ⟨rfl, rfl⟩ | ⟨g, cap, cur, rfl, hbg, hg, hnc, hcm, hcs, htake⟩
 ·have hr2 := run_append_nil (P := Tryd.prog) w 30 ty 5 i0 (.int .u8 0) Tryd.underlying30 hi hz0 a 1 c [.int .u8 x] (by rw [hz1]; rfl) hnews (by omega) (by omega) (by rw [hz2]; omega)
  rw [hr] at hr2
  simp only [Result.ok.injEq] at hr2
  obtain ⟨rfl, rfl⟩ := hr2
  exact .inr ⟨rfl, ⟨rfl, rfl, rfl, by simp, fun k hk _ => heap_alloc_old w.drew _ hk⟩⟩
 ·by_cases hroom : n + 1 <= cap
  ·obtain ⟨w2, hr2, _⟩ := run_append_fits (P := Tryd.prog) w base 30 ty 5 i0 1 Tryd.underlying30 hi hz1 g n cap xs hown a 1 c [.int .u8 x] rfl hnews h1 hroom
   rw [hr] at hr2
   simp only [Result.ok.injEq] at hr2
   obtain ⟨rfl, rfl⟩ := hr2
   exact .inl rfl
  ·have hr2 := run_append_grow (P := Tryd.prog) w 30 ty 5 i0 (.int .u8 0) Tryd.underlying30 hi hz0 ⟨g, 0, none⟩ n cap xs (by rw [hz1]; exact hown.1) (hown.cells (g := g) rfl) a 1 c [.int .u8 x] (by rw [hz1]; rfl) hnews (by omega) (by omega) (growslice_fits (by omega) (by rw [hz2]; omega))
   rw [hr] at hr2
   simp only [Result.ok.injEq] at hr2
   obtain ⟨rfl, rfl⟩ := hr2
   exact .inr ⟨rfl, ⟨rfl, rfl, rfl, by simp, fun k hk _ => heap_alloc_old w.drew _ hk⟩⟩
theorem wpList_append_byte {w : World} {ops : Array Oper} {rest : List Oper} {o : Oper} {a : Act} {Q : Exit -> Act -> World -> Prop} (hgd : o.guard = none) (s x : Operand)
  (ho : o.op = .call { callee := .builtin .append, args := #[s, x], argTypes := #[30, 30] })
  (base : Nat) (v : Value) (n : Nat) (xs : List Value) (hs : a.eval s = v) (hown : w.ownsRow base 5 1 v n xs)
  (ad : Addr) (c : Nat) (y : Int) (hx : a.eval x = .slice (some ad) 1 c) (hy : w.cell? ad = some (.int .u8 y)) (hn : n + 1 <= 140737488355328) (hbase : base <= w.heap.size)
  (h : ∀ v' w', w'.ownsRow base 5 1 v' (n + 1) (xs ++ [.int .u8 y]) -> w.grownBy w' v.ownBlock -> (v'.ownBlock = v.ownBlock \/ (v'.ownBlock = some w.heap.size /\ w.grownBy w' none)) -> wpList Tryd.prog ops Q rest (a.put o.dst v') w') : wpList Tryd.prog ops Q (o :: rest) a w := by
 refine wpList_plain hgd fun K hK => ?_
 obtain ⟨v', w', hr, h2, h3, h4⟩ := run_append_byte w base o.type v n xs hown ad c y hy hn hbase
 unfold Oper.wp execOp
 simp only [ho, resolve, invoke, builtin, Sem.run_bind, Sem.run_pure, Result.andThen_ok, List.map_toArray, List.map_cons, List.map_nil, hs, hx, hr]
 exact hK _ _ (h v' w' h2 h3 h4)
def hi5 (n m x : Nat) : List Int := (bigL n x).take (n - m)
theorem hi5_step (n m x : Nat) (h : m < n) : hi5 n m x = hi5 n (m + 1) x ++ [((x / 256 ^ m % 256 : Nat) : Int)] := by
 have key : ∀ r j, j < r -> (bigL r x)[j]? = some ((x / 256 ^ (r - 1 - j) % 256 : Nat) : Int) := by
  intro r
  induction r with
  | zero => intro j hj; omega
  | succ r ih =>
   intro j hj
   cases j with
   | zero => simp [bigL]
   | succ j =>
    simp only [bigL, List.getElem?_cons_succ]
    rw [ih j (by omega), show r + 1 - 1 - (j + 1) = r - 1 - j by omega]
 unfold hi5
 have e : n - m = (n - (m + 1)) + 1 := by omega
 rw [e, List.take_add_one, key n _ (by omega), show n - 1 - (n - (m + 1)) = m by omega]
 rfl
theorem rbig5_any (W : World) (x n : Nat) (hx : x < 18446744073709551616) (hn : n <= 8) : Calls Tryd.prog 66 #[.int .u64 (x : Int), .int .i64 (n : Int)] W fun e W' => ∃ v', e = .returned v' /\ W'.ownsRow W.heap.size 5 1 v' n ((bigL n x).map (Value.int .u8)) /\ Below W.heap.size W W' := by
 go_enter Tryd.func66, Tryd.ntmps66
 go_wp2
 go_loopw [5, 6] (fun o i wr => ∃ m : Nat, m <= n /\ i = .int .i64 ((m : Int) - 1) /\ Hid (wr.ownsRow W.heap.size 5 1 o (n - m) ((hi5 n m x).map (Value.int .u8))) /\ Hid (Below W.heap.size W wr)) (fun _ i _ => (intOf i + 1).toNat)
 case atStart => exact ⟨n, Nat.le_refl _, rfl, by rw [Nat.sub_self]; simp only [hi5, Nat.sub_self, List.take_zero, List.map_nil]; exact World.ownsRow_nil _ _ _ _, Below.refl _ _⟩
 case round =>
  obtain ⟨m, hm, rfl, HO, HBw⟩ := hrel
  cases m with
  | zero =>
   go_wp2
   go_ret
   refine ⟨_, rfl, ?_, HBw.out⟩
   have := HO.out
   simp only [Nat.sub_zero] at this
   rw [show hi5 n 0 x = bigL n x by unfold hi5; rw [Nat.sub_zero, List.take_of_length_le (by rw [bigL_length]; exact Nat.le_refl n)]] at this
   exact this
  | succ m =>
   have HS := hid (hi5_step n m x (by omega))
   have hmc : m = 0 \/ m = 1 \/ m = 2 \/ m = 3 \/ m = 4 \/ m = 5 \/ m = 6 \/ m = 7 := by omega
   have hxi : (x : Int) < 18446744073709551616 := by omega
   have hsz := HBw.out.size
   obtain ⟨y, HY⟩ : ∃ y, Hid (((x / 256 ^ m % 256 : Nat) : Int) = y) := ⟨_, rfl⟩
   rw [HY.out] at HS
   obtain ⟨k0, HK⟩ : ∃ k0, Hid (n - (m + 1) = k0) := ⟨_, rfl⟩
   have HK2 : Hid (n - m = k0 + 1) := by show _ = _; rw [<- HK.out]; omega
   have hk0 : k0 <= 8 := by rw [<- HK.out]; omega
   obtain ⟨lst, HLs⟩ : ∃ lst, Hid (hi5 n (m + 1) x = lst) := ⟨_, rfl⟩
   rw [HLs.out] at HS
   have HO' := hid HO.out
   rw [HK.out, HLs.out] at HO'
   clear HO
   rcases hmc with rfl | rfl | rfl | rfl | rfl | rfl | rfl | rfl
   all_goals
    go_wp2_with (at_builtin; refine wpList_append_byte rfl _ _ rfl W.heap.size _ _ _ rfl (HO'.out.alloc _) ⟨wr.heap.size, 0, none⟩ 1 y rfl ?q0 ?q1 ?q2 ?_)
    case q0 => rw [<- HY.out]; simp; try omega
    case q1 => omega
    case q2 => simp; omega
    intro v' w2 hown2 hgr2 _
    have HO2 : Hid (w2.ownsRow W.heap.size 5 1 v' (k0 + 1) (lst.map (Value.int .u8) ++ [.int .u8 y])) := hown2
    have HB2 := hid ((HBw.out.alloc HBw.out.size _).grown hgr2 (by simp; omega) (fun k e => (HO'.out.lt k e).1))
    clear hown2 hgr2
    go_wp2
    exact ⟨⟨_, Nat.le_of_succ_le hm, rfl, by rw [HK2.out, HS.out, List.map_append]; exact HO2, HB2⟩, by simp [intOf]⟩
def fr1 (l : List Int) : List Int := bigL 8 l.length ++ l
theorem fr1_length (l : List Int) : (fr1 l).length = 8 + l.length := by simp [fr1, bigL_length]
theorem fr1_byt {l : List Int} (h : ∀ x ∈ l, 0 <= x /\ x < 256) : ∀ x ∈ fr1 l, 0 <= x /\ x < 256 := fun x hx => (List.mem_append.1 hx).elim (bigL_byt _ _ x) (h x)
theorem rframe_any (w : World) (v : Value) (l : List Int) (h : HB w v l) (hl : l.length <= 140737488355000) : Calls Tryd.prog 36 #[v] w fun e w' => ∃ v', e = .returned v' /\ w'.ownsRow w.heap.size 5 1 v' (fr1 l).length ((fr1 l).map (Value.int .u8)) /\ Below w.heap.size w w' := by
 obtain ⟨p, c, e, hlc, hm⟩ := h.open
 have HH := hid h
 obtain ⟨n, HN⟩ : ∃ n, Hid (l.length = n) := ⟨_, rfl⟩
 rw [HN.out] at e hl hlc
 subst e
 clear h
 go_enter Tryd.func36, Tryd.ntmps36
 go_wp2_with fail
 refine (rbig5_any w n 8 (by omega) (by omega)).mono ?_
 rintro e w1 ⟨v1, rfl, ho1, hB1⟩
 have HO := hid ho1
 have HB1 := hid hB1
 have H1 := hid (HH.out.below hB1)
 clear ho1 hB1
 go_wp2_with (at_builtin; refine wpList_append_HB rfl _ _ rfl w.heap.size _ _ _ rfl HO.out _ _ rfl H1.out ?q1 ?q2 ?_)
 case q1 => rw [HN.out]; omega
 case q2 => exact HB1.out.size
 intro v2 w2 ho2 hg2
 have HO2 : Hid (w2.ownsRow w.heap.size 5 1 v2 (fr1 l).length ((fr1 l).map (Value.int .u8))) := by
  rw [fr1_length]
  show World.ownsRow _ _ _ _ _ _ _
  unfold fr1
  rw [List.map_append, HN.out]
  rw [HN.out] at ho2
  exact ho2
 have HB2 : Hid (Below w.heap.size w w2) := HB1.out.grown hg2 HB1.out.size (fun k e => (HO.out.lt k e).1)
 clear ho2 hg2
 go_wp2
 go_ret
 exact ⟨_, rfl, HO2.out, HB2.out⟩
def strI (s : ByteArray) : List Int := s.data.toList.map fun b => ((b.toNat : Nat) : Int)
theorem strI_length (s : ByteArray) : (strI s).length = s.size := by
 unfold strI
 rw [List.length_map, Array.length_toList]
 rfl
theorem wpList_bytes_str {ops : Array Oper} {rest : List Oper} {o : Oper} {a : Act} {w : World} {Q : Exit -> Act -> World -> Prop} (hgd : o.guard = none) (x : Operand) (ho : o.op = .convert 9 30 x) (s : ByteArray) (hx : a.eval x = .string s) (hs : s.size <= 1000)
  (h : ∀ v' w', HB w' v' (strI s) -> Below w.heap.size w w' -> wpList Tryd.prog ops Q rest (a.put o.dst v') w') : wpList Tryd.prog ops Q (o :: rest) a w :=
 wpList_plain hgd fun _ hK => by
  have hr := run_bytes_of_string (P := Tryd.prog) w 9 30 5 s Tryd.underlying9 Tryd.underlying30 Tryd.underlying5
  unfold Oper.wp
  simp only [execOp, ho, hx, Sem.run_bind, hr, Result.andThen_ok]
  have hge := grownCap_ge w s.size 0 5
  have hle := grownCap_le_maxLen w s.size 0 5 (by unfold maxLen; omega)
  refine hK _ _ (h _ _ ⟨⟨_, _, by rw [strI_length], by rw [strI_length]; exact hge, hle, (fun e => by cases e), fun _ => ⟨w.heap.size, 0, rfl, fun j hj => ?_⟩⟩, fun x hx => ?_⟩ ((Below.refl _ w).drew.alloc (Nat.le_refl _) _))
  ·have hb : (w.drew.alloc (.cells (bytesRow s (grownCap w s.size 0 5)) 5 ((bytesRow s (grownCap w s.size 0 5)).size, (bytesRow s (grownCap w s.size 0 5)).size + 1))).heap[w.heap.size]? = some (.cells (bytesRow s (grownCap w s.size 0 5)) 5 ((bytesRow s (grownCap w s.size 0 5)).size, (bytesRow s (grownCap w s.size 0 5)).size + 1)) := heap_alloc_new w.drew _
   rw [cell_of_row _ _ _ _ _ _ hb]
   have hj2 : j < s.data.size := by rw [strI_length] at hj; exact hj
   have hj3 : j < s.size := hj2
   simp [bytesRow, Array.getElem?_append, hj3, strI, List.getD, Array.getElem?_eq_getElem hj2]
  ·unfold strI at hx
   obtain ⟨b, _, rfl⟩ := List.mem_map.1 hx
   have := b.toNat_lt
   omega
def frK (wd : List Int) (ps : List (List Int)) (k : Nat) : List Int := framed (wd :: ps.take k)
theorem frK_zero (wd : List Int) (ps : List (List Int)) : frK wd ps 0 = fr1 wd := by simp [frK, framed, pcs, fr1]
theorem frK_snoc (wd : List Int) (ps : List (List Int)) (k : Nat) (hk : k < ps.length) : frK wd ps (k + 1) = frK wd ps k ++ fr1 (ps.getD k []) := by
 unfold frK framed
 rw [List.take_succ_eq_append_getElem hk]
 have e : ps.getD k [] = ps[k] := by simp [List.getD, List.getElem?_eq_getElem hk]
 rw [e]
 simp only [pcs, fr1, List.flatMap_cons, List.flatMap_append, List.flatMap_nil, List.flatten_append, List.flatten_cons, List.flatten_nil, List.append_nil, List.append_assoc, List.cons_append, List.nil_append]
theorem frK_all (wd : List Int) (ps : List (List Int)) : frK wd ps ps.length = framed (wd :: ps) := by simp [frK]
theorem frK_le (wd : List Int) (ps : List (List Int)) (k : Nat) : (frK wd ps k).length <= wd.length + 8 + (ps.flatten.length + 8 * ps.length) := by
 unfold frK
 rw [framed_length]
 have := flat_take_le ps k
 simp only [List.flatten_cons, List.length_append, List.length_cons, List.length_take]
 omega
theorem framed_byt : ∀ (ps : List (List Int)), (∀ l ∈ ps, ∀ x ∈ l, 0 <= x /\ x < 256) -> ∀ x ∈ framed ps, 0 <= x /\ x < 256 := by
 intro ps h x hx
 unfold framed pcs at hx
 obtain ⟨l, h1, h2⟩ := List.mem_flatten.1 hx
 obtain ⟨q, h3, h4⟩ := List.mem_flatMap.1 h1
 simp only [List.mem_cons, List.not_mem_nil, or_false] at h4
 rcases h4 with rfl | rfl
 ·exact bigL_byt _ _ x h2
 ·exact h _ h3 x h2
end Go.Proofs.YtcpchhigiohlnaaDoor
namespace Go.Proofs.YtcpchhigiohlnaaDoor
open Go Go.RowKit Ev
def TV.plainT : TV -> Bool
 | .sc s => s.plain
 | .agg l => l.all SV.plain
def plainA : AV -> Bool
 | .tv v => TV.plainT v
 | .tup l => l.all TV.plainT
theorem sv_any {ρ : Env} {ms ms' : List Nat} {s : SV} (h : s.plain = true) : s.inst ρ ms = s.inst ρ ms' := by
 cases s <;> simp [SV.plain] at h <;> simp only [SV.inst]
 subst h; rfl
theorem tv_any {ρ : Env} {ms ms' : List Nat} {s : TV} (h : TV.plainT s = true) : s.inst ρ ms = s.inst ρ ms' := by
 cases s with
 | sc s => exact sv_any h
 | agg l =>
  simp only [TV.inst]
  congr 2
  refine List.map_congr_left fun p hp => sv_any ?_
  simp only [TV.plainT, List.all_eq_true] at h
  exact h p hp
theorem av_any {ρ : Env} {ms ms' : List Nat} {s : AV} (h : plainA s = true) : s.inst ρ ms = s.inst ρ ms' := by
 cases s with
 | tv s => exact tv_any h
 | tup l =>
  simp only [AV.inst]
  congr 2
  refine List.map_congr_left fun p hp => tv_any ?_
  simp only [plainA, List.all_eq_true] at h
  exact h p hp
def con1 (g : Nat) (xs : List AV) (v : AV) : ConF := fun g' xs' _ => if g' = g then (if xs' = xs then some v else none) else none
theorem con1_ok {ρ : Env} {con : ConF} (hcon : ConOk Tryd.prog ρ con) (hm : Tryd.prog.follows .mixedOrders = true) {n g : Nat} {xs : List AV} {v : AV} {H' : List Blk} (h : evCallF Tryd.prog noLore con n g xs H0 = some (v, H')) (hx : xs.all plainA = true) (hv : plainA v = true) : ConOk Tryd.prog ρ (con1 g xs v) := by
 intro g' xs' H u hu ms B w args ha hH
 unfold con1 at hu
 split at hu
 case isFalse => cases hu
 rename_i e
 subst e
 split at hu <;> cases hu
 rename_i e
 subst e
 have ha0 : xs'.map (AV.inst ρ ms0) = args.toList.map some := by
  rw [<- ha]
  exact List.map_congr_left fun x hx' => av_any (List.all_eq_true.1 hx x hx')
 refine (calls_of_evHF (noLore_ok ρ) hcon hm n h w ha0 (holds_nil ρ w)).mono ?_
 rintro e w' ⟨ms', u', rfl, _, h1, _, h3⟩
 exact ⟨u', rfl, by rw [av_any hv (ms' := ms')]; exact h1, h3⟩
def conOr (c d : ConF) : ConF := fun g xs H => match c g xs H with | some v => some v | none => d g xs H
theorem conOr_ok {ρ : Env} {c d : ConF} (hc : ConOk Tryd.prog ρ c) (hd : ConOk Tryd.prog ρ d) : ConOk Tryd.prog ρ (conOr c d) := by
 intro g xs H v h
 unfold conOr at h
 split at h
 ·rename_i u hu
  cases h
  exact hc g xs H _ hu
 ·exact hd g xs H v h
def litB (l : List Nat) : List SV := l.map fun x : Nat => .int .u8 (.lit (x : Int))
def wNode : List Int := [115, 116, 114, 111, 110, 103, 114, 111, 111, 109, 32, 110, 111, 100, 101]
def wPad : List Int := [115, 116, 114, 111, 110, 103, 114, 111, 111, 109, 32, 112, 97, 100]
def num8 (n : Int) : List Int := [0, 0, 0, 0, 0, 0, 0, n]
def ndB (l r : List Int) : List Int := num8 15 ++ (wNode ++ (num8 32 ++ (l ++ (num8 32 ++ r))))
def ndL (l r : List Int) : List Int := digL (ndB l r)
def pdB (x : Nat) : List Int := num8 14 ++ (wPad ++ (num8 4 ++ bigL 4 x))
def pdL (x : Nat) : List Int := digL (pdB x)
def ByI (l : List Int) : Prop := ∀ x ∈ l, 0 <= x /\ x < 256
def D32 (l : List Int) : Prop := l.length = 32 /\ ByI l
def tellSl : SV -> Option (Nat × Nat × Nat)
 | .sl n o len cap => if len <= cap /\ cap <= 100000 then some (n, o, len) else none
 | _ => none
theorem tellSl_ok {ρ : Env} {ms : List Nat} {s : SV} {n o len : Nat} (h : tellSl s = some (n, o, len)) {u : Value} (hu : s.inst ρ ms = some u) : ∃ b c, ms[n]? = some b /\ u = .slice (some ⟨b, o, none⟩) len c /\ len <= c /\ c <= 100000 := by
 unfold tellSl at h
 split at h
 case h_2 => cases h
 rename_i n' o' len' cap
 split at h <;> cases h
 rename_i hc
 simp only [SV.inst, Option.map_eq_some_iff] at hu
 obtain ⟨b, h1, rfl⟩ := hu
 exact ⟨b, cap, h1, rfl, hc⟩
def toldAt (H : List Blk) (s : SV) : Option (List SV) := (tellSl s).bind fun x => span H x.1 x.2.1 x.2.2
theorem toldAt_ok {ρ : Env} {ms : List Nat} {H : List Blk} {B : Nat} {w : World} (hH : Holds ρ ms H B w) {s : SV} {l : List SV} (h : toldAt H s = some l) {u : Value} (hu : s.inst ρ ms = some u) :
  ∃ (b o c : Nat) (vs : List Value), u = .slice (some ⟨b, o, none⟩) vs.length c /\ vs.length <= c /\ c <= 100000 /\ l.map (SV.inst ρ ms) = vs.map some /\ ∀ j v, vs[j]? = some v -> w.cell? ⟨b, o + j, none⟩ = some v := by
 unfold toldAt at h
 rw [Option.bind_eq_some_iff] at h
 obtain ⟨⟨n, o, len⟩, h1, h2⟩ := h
 obtain ⟨b, c, hb, rfl, hc1, hc2⟩ := tellSl_ok h1 hu
 obtain ⟨vs, r1, r2, r3⟩ := span_ok ((hH.sees n).at _ _) hb h2
 dsimp only at r2
 subst r2
 exact ⟨b, o, c, vs, rfl, hc1, hc2, r1, r3⟩
def conSum (exp : List SV) (o : Nat) : ConF := fun g xs H =>
 if g = 37 then
  match xs with
  | [.tv (.sc s)] =>
   match toldAt H s with
   | some [t] => match toldAt H t with
    | some l => if l = exp /\ hasK H = true then some (.tv (.agg ((List.range 32).map fun i => .int .u8 (.var (o + i))))) else none
    | none => none
   | _ => none
  | _ => none
 else none
theorem conSum_ok {ρ : Env} {exp : List SV} {o : Nat} {m : List Int} (hm : ByI m) (hl : m.length <= 1000) (hexp : ∀ ms, exp.map (SV.inst ρ ms) = (m.map (Value.int .u8)).map some) (hout : ∀ i, i < 32 -> ρ.int (o + i) = (digL m).getD i 0) : ConOk Tryd.prog ρ (conSum exp o) := by
 intro g xs H v h ms B w args ha hH
 unfold conSum at h
 split at h
 case isFalse => cases h
 rename_i hg
 subst hg
 split at h
 case h_2 => cases h
 rename_i s
 split at h
 case h_2 => cases h
 rename_i t h1
 split at h
 case h_2 => cases h
 rename_i l h2
 split at h <;> cases h
 rename_i hc
 obtain ⟨rfl, hK⟩ := hc
 obtain ⟨al⟩ := args
 obtain ⟨u, rfl, hau⟩ : ∃ u, al = [u] /\ s.inst ρ ms = some u := by
  cases al with
  | nil => simp at ha
  | cons u r =>
   cases r with
   | cons _ _ => simp at ha
   | nil =>
    simp only [List.map_cons, List.map_nil, List.cons.injEq, and_true, AV.inst, TV.inst] at ha
    exact ⟨u, rfl, ha⟩
 obtain ⟨b, off, c, vs, rfl, hc1, hc2, r1, r3⟩ := toldAt_ok hH h1 hau
 obtain ⟨u2, rfl⟩ : ∃ u2, vs = [u2] := by
  cases vs with
  | nil => simp at r1
  | cons u2 r => cases r with
   | nil => exact ⟨u2, rfl⟩
   | cons _ _ => simp at r1
 simp only [List.map_cons, List.map_nil, List.cons.injEq, and_true] at r1
 obtain ⟨b2, off2, c2, vs2, rfl, hd1, hd2, q1, q3⟩ := toldAt_ok hH h2 r1
 have e : vs2 = m.map (Value.int .u8) := by
  have := hexp ms
  rw [q1] at this
  exact List.map_inj_right (fun _ _ h => Option.some.inj h) |>.1 this
 subst e
 simp only [List.length_map] at hd1 q3 r3
 have hHB : HB w (.slice (some ⟨b2, off2, none⟩) m.length c2) m := ⟨⟨_, c2, rfl, hd1, by unfold maxLen; omega, (fun e => by cases e), fun _ => ⟨b2, off2, rfl, fun j hj => q3 j _ (by simp [List.getD, List.getElem?_eq_getElem hj])⟩⟩, hm⟩
 have hHL : HL w (.slice (some ⟨b, off, none⟩) 1 c) [m] := ⟨_, c, rfl, hc1, by unfold maxLen; omega, (fun e => by cases e), fun _ => ⟨b, off, rfl, fun j hj => by
  have hj0 : j = 0 := by simp at hj; omega
  subst hj0
  exact ⟨_, r3 0 _ rfl, hHB⟩⟩⟩
 refine (sums_any w _ [m] hHL (hasK_ok hH hK) (by simp; omega)).mono fun e w' ⟨r1, r2⟩ => ⟨_, r1, ?_, r2⟩
 simp only [AV.inst, TV.inst, List.flatten_cons, List.flatten_nil, List.append_nil]
 rw [(seqO_iff _ ((digL m).map (Value.int .u8))).2 ?_]
 ·rfl
 ·rw [List.map_map, List.map_map]
  refine List.ext_getElem (by simp [digL_length]) fun i h1 h2 => ?_
  have hi : i < 32 := by simpa using h1
  have hi2 : i < (digL m).length := by rw [digL_length]; exact hi
  simp only [List.getElem_map, List.getElem_range, Function.comp, SV.inst, Ex.den, hout i hi]
  simp [List.getD, List.getElem?_eq_getElem hi2]
def vI (o n : Nat) : List SV := (List.range n).map fun i => .int .u8 (.var (o + i))
def lI (l : List Int) : List SV := l.map fun x => .int .u8 (.lit x)
theorem lI_inst (ρ : Env) (ms : List Nat) (l : List Int) : (lI l).map (SV.inst ρ ms) = (l.map (Value.int .u8)).map some := by simp [lI, SV.inst, Ex.den]
theorem vI_inst (ρ : Env) (ms : List Nat) (o n : Nat) (l : List Int) (hl : l.length = n) (h : ∀ i, i < n -> ρ.int (o + i) = l.getD i 0) : (vI o n).map (SV.inst ρ ms) = (l.map (Value.int .u8)).map some := by
 unfold vI
 rw [List.map_map, List.map_map]
 refine List.ext_getElem (by simp [hl]) fun i h1 h2 => ?_
 have hi : i < n := by simpa using h1
 have hi2 : i < l.length := by omega
 simp only [List.getElem_map, List.getElem_range, Function.comp, SV.inst, Ex.den, h i hi]
 simp [List.getD, List.getElem?_eq_getElem hi2]
theorem agg_inst {ρ : Env} {ms : List Nat} {s : List SV} {l : List Int} (h : s.map (SV.inst ρ ms) = (l.map (Value.int .u8)).map some) : (AV.tv (.agg s)).inst ρ ms = some (.agg (cellsB l)) := by
 simp only [AV.inst, TV.inst]
 rw [(seqO_iff _ _).2 h]
 rfl
def envN (l r : List Int) : Env := ⟨fun i => if i < 32 then l.getD i 0 else if i < 64 then r.getD (i - 32) 0 else (ndL l r).getD (i - 64) 0, fun _ => .tuple #[], fun _ _ _ => 0⟩
def expN : List SV := lI (num8 15) ++ (lI wNode ++ (lI (num8 32) ++ (vI 0 32 ++ (lI (num8 32) ++ vI 32 32))))
theorem expN_inst {l r : List Int} (hl : D32 l) (hr : D32 r) (ms : List Nat) : expN.map (SV.inst (envN l r) ms) = ((ndB l r).map (Value.int .u8)).map some := by
 unfold expN ndB
 simp only [List.map_append, lI_inst]
 rw [vI_inst (envN l r) ms 0 32 l hl.1 (fun i hi => by simp [envN, hi]), vI_inst (envN l r) ms 32 32 r hr.1 (fun i hi => by
  simp only [envN]
  rw [if_neg (by omega), if_pos (by omega), show 32 + i - 32 = i by omega])]
theorem ndB_byt {l r : List Int} (hl : D32 l) (hr : D32 r) : ByI (ndB l r) := by
 have k : ∀ l : List Int, (l.all fun x => decide (0 <= x /\ x < 256)) = true -> ByI l := fun l h x hx => by simpa using List.all_eq_true.1 h x hx
 have a : ∀ a b : List Int, ByI a -> ByI b -> ByI (a ++ b) := fun a b ha hb x hx => (List.mem_append.1 hx).elim (ha x) (hb x)
 exact a _ _ (k _ (by decide)) (a _ _ (k _ (by decide)) (a _ _ (k _ (by decide)) (a _ _ hl.2 (a _ _ (k _ (by decide)) hr.2))))
theorem node_ev : evCallF Tryd.prog noLore (conSum expN 64) 100 54 [.tv (.agg (vI 0 32)), .tv (.agg (vI 32 32))] HK = some (.tv (.agg (vI 64 32)), HK) := by kernel_rfl
theorem node_any (w : World) (l r : List Int) (hl : D32 l) (hr : D32 r) (hk : KC w) : Calls Tryd.prog 54 #[.agg (cellsB l), .agg (cellsB r)] w fun e w' => e = .returned (.agg (cellsB (ndL l r))) /\ Below w.heap.size w w' := by
 have hcon : ConOk Tryd.prog (envN l r) (conSum expN 64) := conSum_ok (m := ndB l r) (ndB_byt hl hr) (by simp [ndB, num8, wNode, hl.1, hr.1]) (expN_inst hl hr) (fun i hi => by
  simp only [envN]
  rw [if_neg (by omega), if_neg (by omega), show 64 + i - 64 = i by omega]
  rfl)
 refine (calls_of_evHF (noLore_ok (envN l r)) hcon mixedOrders 100 node_ev (args := #[.agg (cellsB l), .agg (cellsB r)]) w ?_ (holdsK (envN l r) w hk)).mono ?_
 ·simp only [List.map_cons, List.map_nil]
  rw [agg_inst (vI_inst (envN l r) ms0 0 32 l hl.1 (fun i hi => by simp [envN, hi])), agg_inst (vI_inst (envN l r) ms0 32 32 r hr.1 (fun i hi => by
   simp only [envN]
   rw [if_neg (by omega), if_pos (by omega), show 32 + i - 32 = i by omega]))]
 ·rintro e w' ⟨ms, u, rfl, _, h1, _, h3⟩
  rw [agg_inst (vI_inst (envN l r) ms 64 32 (ndL l r) (digL_length _) (fun i hi => by
   simp only [envN]
   rw [if_neg (by omega), if_neg (by omega), show 64 + i - 64 = i by omega]))] at h1
  simp only [Option.some.injEq] at h1
  rw [<- h1]
  exact ⟨rfl, h3⟩
def envP (x : Nat) : Env := ⟨fun i => if i = 0 then (x : Int) else (pdL x).getD (i - 1) 0, fun _ => .tuple #[], fun _ _ _ => 0⟩
def bigE : List SV := [.int .u8 (.con .u8 (.shr (.con .u64 (.var 0)) 24)), .int .u8 (.con .u8 (.shr (.con .u64 (.var 0)) 16)), .int .u8 (.con .u8 (.shr (.con .u64 (.var 0)) 8)), .int .u8 (.con .u8 (.con .u64 (.var 0)))]
def expP : List SV := lI (num8 14) ++ (lI wPad ++ (lI (num8 4) ++ bigE))
theorem bigE_inst (x : Nat) (hx : x < 4294967296) (ms : List Nat) : bigE.map (SV.inst (envP x) ms) = ((bigL 4 x).map (Value.int .u8)).map some := by
 have e0 : IntKind.u64.wrap (x : Int) = (x : Int) := by rw [IntKind.wrap_u64]; omega
 have f : ∀ k : Nat, ((x : Int).fdiv (2 ^ k)) = ((x / 2 ^ k : Nat) : Int) := fun k => by
  rw [show (2 : Int) ^ k = ((2 ^ k : Nat) : Int) by simp, Int.ofNat_fdiv]
 have g : ∀ n : Nat, IntKind.u8.wrap (n : Int) = ((n % 256 : Nat) : Int) := fun n => by rw [IntKind.wrap_u8]; rfl
 simp only [bigE, bigL, List.map_cons, List.map_nil, SV.inst, Ex.den, envP, if_pos, e0, f, g, Nat.pow_zero, Nat.div_one]
theorem expP_inst (x : Nat) (hx : x < 4294967296) (ms : List Nat) : expP.map (SV.inst (envP x) ms) = ((pdB x).map (Value.int .u8)).map some := by
 unfold expP pdB
 simp only [List.map_append, lI_inst]
 rw [bigE_inst x hx]
theorem pdB_byt (x : Nat) : ByI (pdB x) := by
 have k : ∀ l : List Int, (l.all fun x => decide (0 <= x /\ x < 256)) = true -> ByI l := fun l h x hx => by simpa using List.all_eq_true.1 h x hx
 have a : ∀ a b : List Int, ByI a -> ByI b -> ByI (a ++ b) := fun a b ha hb x hx => (List.mem_append.1 hx).elim (ha x) (hb x)
 exact a _ _ (k _ (by decide)) (a _ _ (k _ (by decide)) (a _ _ (k _ (by decide)) (bigL_byt 4 x)))
theorem pad_ev : evCallF Tryd.prog noLore (conSum expP 1) 100 10 [.tv (.sc (.int .u32 (.var 0)))] HK = some (.tv (.agg (vI 1 32)), HK) := by kernel_rfl
theorem tpad_any (w : World) (x : Nat) (hx : x < 4294967296) (hk : KC w) : Calls Tryd.prog 10 #[.int .u32 (x : Int)] w fun e w' => e = .returned (.agg (cellsB (pdL x))) /\ Below w.heap.size w w' := by
 have hv : ∀ i, (envP x).int (1 + i) = (pdL x).getD i 0 := fun i => by
  simp only [envP]
  rw [if_neg (by omega), show 1 + i - 1 = i by omega]
 have hcon : ConOk Tryd.prog (envP x) (conSum expP 1) := conSum_ok (m := pdB x) (pdB_byt x) (by simp [pdB, num8, wPad, bigL_length]) (expP_inst x hx) (fun i _ => hv i)
 refine (calls_of_evHF (noLore_ok (envP x)) hcon mixedOrders 100 pad_ev (args := #[.int .u32 (x : Int)]) w ?_ (holdsK (envP x) w hk)).mono ?_
 ·simp [AV.inst, TV.inst, SV.inst, Ex.den, envP]
 ·rintro e w' ⟨ms, u, rfl, _, h1, _, h3⟩
  rw [agg_inst (vI_inst (envP x) ms 1 32 (pdL x) (digL_length _) (fun i _ => hv i))] at h1
  simp only [Option.some.injEq] at h1
  rw [<- h1]
  exact ⟨rfl, h3⟩
theorem digL_byt (m : List Int) : ByI (digL m) := by
 intro x hx
 unfold digL at hx
 obtain ⟨y, _, h⟩ := List.mem_flatMap.1 hx
 exact bigL_byt _ _ x h
theorem ndL_D (l r : List Int) : D32 (ndL l r) := ⟨digL_length _, digL_byt _⟩
theorem pdL_D (x : Nat) : D32 (pdL x) := ⟨digL_length _, digL_byt _⟩
end Go.Proofs.YtcpchhigiohlnaaDoor
namespace Go.Proofs.YtcpchhigiohlnaaDoor
open Go.RowKit
def snode : ByteArray := ⟨((if 6 = 6 then wNode else wPad).map fun x => UInt8.ofNat x.toNat).toArray⟩
theorem snode_strI : strI snode = if 6 = 6 then wNode else wPad := by decide
theorem rword_node (w : World) : Calls Tryd.prog 24 #[.int .u8 6] w fun e w' => e = .returned (.string snode) /\ w' = w := by
 go_enter Tryd.func24, Tryd.ntmps24
 go_wp2
 go_ret
 exact ⟨rfl, rfl⟩
def spad : ByteArray := ⟨((if 7 = 6 then wNode else wPad).map fun x => UInt8.ofNat x.toNat).toArray⟩
theorem spad_strI : strI spad = if 7 = 6 then wNode else wPad := by decide
theorem rword_pad (w : World) : Calls Tryd.prog 24 #[.int .u8 7] w fun e w' => e = .returned (.string spad) /\ w' = w := by
 go_enter Tryd.func24, Tryd.ntmps24
 go_wp2
 go_ret
 exact ⟨rfl, rfl⟩
theorem rfits_node (w : World) (v : Value) (l r : List Int) (h : HL w v [l, r]) (hl : l.length = 32) (hr : r.length = 32) : Calls Tryd.prog 35 #[.int .u8 6, v] w fun e w' => e = .returned (.bool true) /\ w' = w := by
 obtain ⟨b, off, c, rfl, hc1, hc2, hh⟩ := h.ne (by simp)
 obtain ⟨u0, h0, hb0⟩ := hh 0 (by simp)
 obtain ⟨u1, h1, hb1⟩ := hh 1 (by simp)
 obtain ⟨p0, c0, rfl, _, _⟩ := hb0.open
 obtain ⟨p1, c1, rfl, _, _⟩ := hb1.open
 simp only [List.getD_cons_zero, List.getD_cons_succ, hl, hr, List.length_cons, List.length_nil, Nat.add_zero, Nat.zero_add, Nat.reduceAdd] at h0 h1 ⊢
 clear hh hb0 hb1 h
 go_enter Tryd.func35, Tryd.ntmps35
 go_wp2
 go_ret
 exact ⟨rfl, rfl⟩
theorem rfits_pad (w : World) (v : Value) (l : List Int) (h : HL w v [l]) (hl : l.length = 4) : Calls Tryd.prog 35 #[.int .u8 7, v] w fun e w' => e = .returned (.bool true) /\ w' = w := by
 obtain ⟨b, off, c, rfl, hc1, hc2, hh⟩ := h.ne (by simp)
 obtain ⟨u0, h0, hb0⟩ := hh 0 (by simp)
 obtain ⟨p0, c0, rfl, _, _⟩ := hb0.open
 simp only [List.getD_cons_zero, List.getD_cons_succ, hl, List.length_cons, List.length_nil, Nat.add_zero, Nat.zero_add, Nat.reduceAdd] at h0 ⊢
 clear hh hb0 h
 go_enter Tryd.func35, Tryd.ntmps35
 go_wp2
 go_ret
 exact ⟨rfl, rfl⟩
theorem rbytes_node (w : World) (v : Value) (ps : List (List Int)) (h : HL w v ps) (hF : ∀ w', Below w.heap.size w w' -> Calls Tryd.prog 35 #[.int .u8 6, v] w' fun e w'' => e = .returned (.bool true) /\ w'' = w') (hbig : ps.flatten.length + 8 * ps.length <= 100000000000000) :
  Calls Tryd.prog 14 #[.int .u8 6, v] w fun e w' => ∃ v', e = .returned (.tuple #[v', .int .i64 0]) /\ w'.ownsRow w.heap.size 5 1 v' (framed (strI snode :: ps)).length ((framed (strI snode :: ps)).map (Value.int .u8)) /\ Below w.heap.size w w' := by
 have hsz : snode.size <= 1000 := by decide
 have hse : snode.toList.isEmpty = false := by decide +kernel
 have A0 := hid h
 obtain ⟨p, c, e, hlc, hm⟩ := h.open
 unfold maxLen at hm
 have A : Hid (0 < ps.length -> ∃ b off, p = some ⟨b, off, none⟩ /\ ∀ j, j < ps.length -> ∃ u, w.cell? ⟨b, off + j, none⟩ = some u /\ HB w u (ps.getD j [])) := by
  intro h0
  obtain ⟨b, off, c', e', _, _, hh⟩ := h.ne h0
  rw [e] at e'
  simp only [Value.slice.injEq, true_and] at e'
  exact ⟨b, off, e'.1, hh⟩
 have HF := hid hF
 obtain ⟨n, HN⟩ : ∃ n, Hid (ps.length = n) := ⟨_, rfl⟩
 have HBig := hid hbig
 rw [HN.out] at e hlc hbig
 subst e
 clear h hF
 go_enter Tryd.func14, Tryd.ntmps14
 go_wp2_with fail
 refine (rword_node _).mono ?_
 rintro e w1 ⟨rfl, rfl⟩
 go_wp2_with fail
 refine (HF.out _ (Below.refl _ _)).mono ?_
 rintro e w2 ⟨rfl, rfl⟩
 go_wp2_with fail
 refine (rword_node _).mono ?_
 rintro e w3 ⟨rfl, rfl⟩
 go_wp2_with (refine wpList_bytes_str rfl _ rfl snode rfl hsz ?_)
 intro v4 w4 hb4 hB4
 have HB4 := hid hb4
 have BL4 := hid hB4
 clear hb4 hB4
 go_wp2_with fail
 refine (rframe_any w4 v4 _ HB4.out (by rw [strI_length]; omega)).mono ?_
 rintro e w5 ⟨v5, rfl, ho5, hB5⟩
 have HO5 : Hid (w5.ownsRow w3.heap.size 5 1 v5 (frK (strI snode) ps 0).length ((frK (strI snode) ps 0).map (Value.int .u8))) := by
  rw [frK_zero]
  exact own_mono ho5 BL4.out.size
 have BL5 := hid (BL4.out.trans (hB5.mono BL4.out.size))
 clear ho5 hB5
 go_wp2
 go_loopw [6, 7] (fun o i wr => ∃ k : Nat, k <= n /\ i = .int .i64 k /\ Hid (wr.ownsRow w3.heap.size 5 1 o (frK (strI snode) ps k).length ((frK (strI snode) ps k).map (Value.int .u8))) /\ Hid (Below w3.heap.size w3 wr)) (fun _ i _ => n - (intOf i).toNat)
 case atStart => exact ⟨0, Nat.zero_le _, rfl, HO5, BL5⟩
 case round =>
  obtain ⟨k, hk, rfl, HO, HBel⟩ := hrel
  by_cases hlt : k < n
  ·obtain ⟨b, off, rfl, hh⟩ := A.out (by rw [HN.out]; omega)
   obtain ⟨u, hu0, hb⟩ := hh k (by rw [HN.out]; exact hlt)
   have hu : wr.cell? ⟨b, off + k, none⟩ = some u := (HBel.out.cell (World.block_lt_of_cell? w3 _ hu0)).trans hu0
   have HBu := hid (hb.below HBel.out)
   have hls : (ps.getD k []).length <= 100000000000000 := by
    have h1 := flat_take_le ps (k + 1)
    rw [flat_snoc ps k (by rw [HN.out]; exact hlt), List.length_append] at h1
    have := HBig.out
    omega
   have HS := hid (frK_snoc (strI snode) ps k (by rw [HN.out]; exact hlt))
   have HLe := hid (frK_le (strI snode) ps (k + 1))
   rw [HS.out, List.length_append, strI_length] at HLe
   clear hh hb hu0
   go_wp2_with fail
   refine (rframe_any wr u _ HBu.out (by omega)).mono ?_
   rintro e w6 ⟨v6, rfl, ho6, hB6⟩
   have HB6 : Hid (HB w6 v6 (fr1 (ps.getD k []))) := HB.of_own ho6 (fr1_byt HBu.out.2)
   have HO6 := hid (own_below HO.out hB6)
   have BL6 := hid (HBel.out.trans (hB6.mono HBel.out.size))
   clear ho6 hB6
   go_wp2_with (at_builtin; refine wpList_append_HB rfl _ _ rfl w3.heap.size _ _ _ rfl HO6.out _ _ rfl HB6.out ?q1 ?q2 ?_)
   case q1 => have := HLe.out; have := HBig.out; omega
   case q2 => exact BL6.out.size
   intro v7 w7 ho7 hg7
   have HO7 : Hid (w7.ownsRow w3.heap.size 5 1 v7 (frK (strI snode) ps (k + 1)).length ((frK (strI snode) ps (k + 1)).map (Value.int .u8))) := by
    rw [HS.out, List.length_append, List.map_append]
    exact ho7
   have BL7 : Hid (Below w3.heap.size w3 w7) := BL6.out.grown hg7 BL6.out.size (fun k e => (HO6.out.lt k e).1)
   clear ho7 hg7
   go_wp2
   exact ⟨⟨k + 1, by omega, by go_num, HO7, BL7⟩, by simp [intOf]; omega⟩
  ·have hkn : k = ps.length := by rw [HN.out]; omega
   have HO8 := hid HO.out
   rw [hkn, frK_all] at HO8
   go_wp2
   go_ret2
   exact ⟨_, rfl, HO8.out, HBel.out⟩
theorem rbytes_pad (w : World) (v : Value) (ps : List (List Int)) (h : HL w v ps) (hF : ∀ w', Below w.heap.size w w' -> Calls Tryd.prog 35 #[.int .u8 7, v] w' fun e w'' => e = .returned (.bool true) /\ w'' = w') (hbig : ps.flatten.length + 8 * ps.length <= 100000000000000) :
  Calls Tryd.prog 14 #[.int .u8 7, v] w fun e w' => ∃ v', e = .returned (.tuple #[v', .int .i64 0]) /\ w'.ownsRow w.heap.size 5 1 v' (framed (strI spad :: ps)).length ((framed (strI spad :: ps)).map (Value.int .u8)) /\ Below w.heap.size w w' := by
 have hsz : spad.size <= 1000 := by decide
 have hse : spad.toList.isEmpty = false := by decide +kernel
 have A0 := hid h
 obtain ⟨p, c, e, hlc, hm⟩ := h.open
 unfold maxLen at hm
 have A : Hid (0 < ps.length -> ∃ b off, p = some ⟨b, off, none⟩ /\ ∀ j, j < ps.length -> ∃ u, w.cell? ⟨b, off + j, none⟩ = some u /\ HB w u (ps.getD j [])) := by
  intro h0
  obtain ⟨b, off, c', e', _, _, hh⟩ := h.ne h0
  rw [e] at e'
  simp only [Value.slice.injEq, true_and] at e'
  exact ⟨b, off, e'.1, hh⟩
 have HF := hid hF
 obtain ⟨n, HN⟩ : ∃ n, Hid (ps.length = n) := ⟨_, rfl⟩
 have HBig := hid hbig
 rw [HN.out] at e hlc hbig
 subst e
 clear h hF
 go_enter Tryd.func14, Tryd.ntmps14
 go_wp2_with fail
 refine (rword_pad _).mono ?_
 rintro e w1 ⟨rfl, rfl⟩
 go_wp2_with fail
 refine (HF.out _ (Below.refl _ _)).mono ?_
 rintro e w2 ⟨rfl, rfl⟩
 go_wp2_with fail
 refine (rword_pad _).mono ?_
 rintro e w3 ⟨rfl, rfl⟩
 go_wp2_with (refine wpList_bytes_str rfl _ rfl spad rfl hsz ?_)
 intro v4 w4 hb4 hB4
 have HB4 := hid hb4
 have BL4 := hid hB4
 clear hb4 hB4
 go_wp2_with fail
 refine (rframe_any w4 v4 _ HB4.out (by rw [strI_length]; omega)).mono ?_
 rintro e w5 ⟨v5, rfl, ho5, hB5⟩
 have HO5 : Hid (w5.ownsRow w3.heap.size 5 1 v5 (frK (strI spad) ps 0).length ((frK (strI spad) ps 0).map (Value.int .u8))) := by
  rw [frK_zero]
  exact own_mono ho5 BL4.out.size
 have BL5 := hid (BL4.out.trans (hB5.mono BL4.out.size))
 clear ho5 hB5
 go_wp2
 go_loopw [6, 7] (fun o i wr => ∃ k : Nat, k <= n /\ i = .int .i64 k /\ Hid (wr.ownsRow w3.heap.size 5 1 o (frK (strI spad) ps k).length ((frK (strI spad) ps k).map (Value.int .u8))) /\ Hid (Below w3.heap.size w3 wr)) (fun _ i _ => n - (intOf i).toNat)
 case atStart => exact ⟨0, Nat.zero_le _, rfl, HO5, BL5⟩
 case round =>
  obtain ⟨k, hk, rfl, HO, HBel⟩ := hrel
  by_cases hlt : k < n
  ·obtain ⟨b, off, rfl, hh⟩ := A.out (by rw [HN.out]; omega)
   obtain ⟨u, hu0, hb⟩ := hh k (by rw [HN.out]; exact hlt)
   have hu : wr.cell? ⟨b, off + k, none⟩ = some u := (HBel.out.cell (World.block_lt_of_cell? w3 _ hu0)).trans hu0
   have HBu := hid (hb.below HBel.out)
   have hls : (ps.getD k []).length <= 100000000000000 := by
    have h1 := flat_take_le ps (k + 1)
    rw [flat_snoc ps k (by rw [HN.out]; exact hlt), List.length_append] at h1
    have := HBig.out
    omega
   have HS := hid (frK_snoc (strI spad) ps k (by rw [HN.out]; exact hlt))
   have HLe := hid (frK_le (strI spad) ps (k + 1))
   rw [HS.out, List.length_append, strI_length] at HLe
   clear hh hb hu0
   go_wp2_with fail
   refine (rframe_any wr u _ HBu.out (by omega)).mono ?_
   rintro e w6 ⟨v6, rfl, ho6, hB6⟩
   have HB6 : Hid (HB w6 v6 (fr1 (ps.getD k []))) := HB.of_own ho6 (fr1_byt HBu.out.2)
   have HO6 := hid (own_below HO.out hB6)
   have BL6 := hid (HBel.out.trans (hB6.mono HBel.out.size))
   clear ho6 hB6
   go_wp2_with (at_builtin; refine wpList_append_HB rfl _ _ rfl w3.heap.size _ _ _ rfl HO6.out _ _ rfl HB6.out ?q1 ?q2 ?_)
   case q1 => have := HLe.out; have := HBig.out; omega
   case q2 => exact BL6.out.size
   intro v7 w7 ho7 hg7
   have HO7 : Hid (w7.ownsRow w3.heap.size 5 1 v7 (frK (strI spad) ps (k + 1)).length ((frK (strI spad) ps (k + 1)).map (Value.int .u8))) := by
    rw [HS.out, List.length_append, List.map_append]
    exact ho7
   have BL7 : Hid (Below w3.heap.size w3 w7) := BL6.out.grown hg7 BL6.out.size (fun k e => (HO6.out.lt k e).1)
   clear ho7 hg7
   go_wp2
   exact ⟨⟨k + 1, by omega, by go_num, HO7, BL7⟩, by simp [intOf]; omega⟩
  ·have hkn : k = ps.length := by rw [HN.out]; omega
   have HO8 := hid HO.out
   rw [hkn, frK_all] at HO8
   go_wp2
   go_ret2
   exact ⟨_, rfl, HO8.out, HBel.out⟩
theorem framed_big (w : World) (v : Value) (ls : List (List Int)) (h : HL w v ls) (hbig : ls.flatten.length + 8 * ls.length <= 140737488355328) (hcnt : ls.length <= 1100000) :
  Calls Tryd.prog 29 #[v] w fun e w' => ∃ v', e = .returned v' /\ w'.ownsRow w.heap.size 5 1 v' (framed ls).length ((framed ls).map (Value.int .u8)) /\ HB w' v' (framed ls) /\ Below w.heap.size w w' := by
 obtain ⟨i0, hi, hz0, hz1, hz2⟩ := info_parts info_bytes
 obtain ⟨p, c, e, hlc, hm⟩ := h.open
 unfold maxLen at hm
 have A : Hid (0 < ls.length -> ∃ b off, p = some ⟨b, off, none⟩ /\ ∀ j, j < ls.length -> ∃ u, w.cell? ⟨b, off + j, none⟩ = some u /\ HB w u (ls.getD j [])) := by
  intro h0
  obtain ⟨b, off, c', e', _, _, hh⟩ := h.ne h0
  rw [e] at e'
  simp only [Value.slice.injEq, true_and] at e'
  exact ⟨b, off, e'.1, hh⟩
 clear h
 subst e
 obtain ⟨w1, hmk, hown, hgr⟩ := run_make_own (P := Tryd.prog) w w.heap.size 24 30 i0 (.slice none 0 0) 1 Tryd.underlying24 hi hz0 hz1 .i64 .i64 (2 * ls.length) (by rw [hz2]; omega) (by unfold maxLen; omega) (Nat.le_refl _)
 rw [show ((2 * ls.length : Nat) : Int) = 2 * (ls.length : Int) by omega] at hmk
 have HB1 := hid ((Below.refl _ w).grown hgr (Nat.le_refl _) (fun k e => by cases e))
 have HO1 : Hid (OWL w w1 _ []) := ⟨[], hown, fun j hj => by simp at hj⟩
 clear hown hgr
 go_enter Tryd.func29, Tryd.ntmps29
 go_wp2
 go_loopw [3, 12] (fun o i wr => ∃ k : Nat, k <= ls.length /\ i = .int .i64 k /\ Hid (OWL w wr o (pcsTo ls k)) /\ Hid (Below w.heap.size w wr)) (fun _ i _ => ls.length - (intOf i).toNat)
 case atStart => exact ⟨0, Nat.zero_le _, rfl, HO1, HB1⟩
 case round =>
  clear HO1 HB1 hmk
  obtain ⟨k, hk, rfl, HO, HBw⟩ := hrel
  by_cases hlt : k < ls.length
  ·obtain ⟨b, off, rfl, hh⟩ := A.out (by omega)
   obtain ⟨u, hu0, hb⟩ := hh k hlt
   have hu : wr.cell? ⟨b, off + k, none⟩ = some u := (HBw.out.cell (World.block_lt_of_cell? w _ hu0)).trans hu0
   have HS := hid (pcs_snoc ls k hlt)
   have hlen : (ls.getD k []).length <= 140737488355328 := by
    have h1 := flat_snoc ls k hlt
    have h2 := flat_take_le ls (k + 1)
    rw [h1, List.length_append] at h2
    omega
   obtain ⟨l, HLk⟩ : ∃ l, Hid (l = ls.getD k []) := ⟨_, rfl⟩
   rw [<- HLk.out] at hb HS hlen
   have HU := hid hb
   obtain ⟨p2, c2, hu2, _, _⟩ := hb.open
   subst hu2
   clear hh hu0 hb
   go_wp2_with fail
   refine (big_uint64 l.length (by omega) wr).mono ?_
   rintro e w2 ⟨v2, rfl, hown2, hB2⟩
   have hO2 := HO.out.below hB2
   have hel : EL w w2 v2 (bigL 8 l.length) := .inl ⟨by rw [bigL_length]; exact own_mono hown2 HBw.out.size, bigL_byt _ _⟩
   have hBw2 : Below w.heap.size w w2 := HBw.out.trans (hB2.mono HBw.out.size)
   obtain ⟨p3, c3, e3, _, _⟩ := (hel.hb hBw2).open
   rw [bigL_length] at e3
   obtain ⟨W3, hW3⟩ : ∃ W3, W3 = w2.alloc (.cells #[v2, .slice p2 l.length c2] 30) := ⟨_, rfl⟩
   have hal : Below w2.heap.size w2 W3 := by rw [hW3]; exact (Below.refl _ _).alloc (Nat.le_refl _) _
   have HO3 := hid (hO2.below hal)
   have HE3 := hid (hel.below hal)
   have HB3 := hid (hBw2.trans (hal.mono hBw2.size))
   rw [hW3] at HO3 HE3 HB3
   clear hO2 hel hBw2 hown2 hal hW3 W3 hB2
   subst e3
   go_wp2_with (at_builtin; refine wpList_append_OWL (w0 := w) rfl _ _ rfl _ _ rfl HO3.out ⟨w2.heap.size, 0, none⟩ 2 2 [_, _] [bigL 8 l.length, l] rfl rfl rfl (cell_two_new _ _ _ _) ?q1 ?q2 ?q3 ?q4 ?_)
   case q1 =>
    intro j hj
    match j, hj with
    | 0, _ => exact HE3.out
    | 1, _ => exact .inr HU.out
   case q2 =>
    intro u hu
    simp only [List.mem_cons, List.not_mem_nil, or_false] at hu
    rcases hu with rfl | rfl <;> rfl
   case q3 => have := pcsTo_length ls k; omega
   case q4 => exact HB3.out.size
   intro v' w4 hO4 hg4 hbk
   have HO4 : Hid (OWL w w4 v' (pcsTo ls (k + 1))) := by rw [HS.out]; exact hO4
   have HB4 := hid (HB3.out.grown hg4 HB3.out.size (fun k e => (hbk k e).1))
   clear hO4 hg4 hbk
   go_wp2
   exact ⟨⟨k + 1, by omega, by go_num, HO4, HB4⟩, by simp [intOf]; omega⟩
  ·have HP : Hid (pcsTo ls k = pcs ls) := by
    show _ = _
    unfold pcsTo
    rw [List.take_of_length_le (by omega)]
   have HO2 : Hid (OWL w wr u3 (pcs ls)) := by rw [<- HP.out]; exact HO
   have HFl := hid (framed_length ls)
   obtain ⟨fl, HF⟩ : ∃ fl, Hid (framed ls = fl) := ⟨_, rfl⟩
   rw [HF.out] at HFl
   go_wp2_with fail
   have hHL := HO2.out.hl HBw.out
   refine (join_any wr _ (pcs ls) hHL (by have := HFl.out; rw [<- HF.out] at this; unfold framed at this; omega)).mono ?_
   rintro e w2 ⟨v2, rfl, hown2, hB2⟩
   have hbt := hHL.byt
   rw [show (pcs ls).flatten = fl from HF.out] at hown2 hbt
   have H2 := hid hown2
   have Hb := hid hbt
   have HB3 := hid (HBw.out.trans (hB2.mono HBw.out.size))
   have hsz := HBw.out.size
   clear hHL hown2 hB2 hbt
   go_wp2
   go_ret
   refine ⟨_, rfl, ?_, ?_, HB3.out⟩
   ·rw [HF.out]; exact own_mono H2.out hsz
   ·rw [HF.out]; exact HB.of_own H2.out Hb.out
end Go.Proofs.YtcpchhigiohlnaaDoor
namespace Go.Proofs.YtcpchhigiohlnaaDoor
open Go Go.RowKit
def TagOk (t : Nat) (ls : List (List Int)) : Prop := (1 <= t /\ t <= 9) /\ FitQ t ls
def tagB (t : Nat) (ls : List (List Int)) : List Int := framed (strI (wS t) :: ls)
theorem wS_size (t : Nat) : (wS t).size <= 18 := by
 rcases tag_cases t with rfl | rfl | rfl | rfl | rfl | rfl | rfl | rfl | rfl | h
 all_goals first | (rw [(none_of h).2]; decide) | decide
theorem wS_ne {t : Nat} (h : 1 <= t /\ t <= 9) : (wS t).toList.isEmpty = false := by
 rcases tag_cases t with rfl | rfl | rfl | rfl | rfl | rfl | rfl | rfl | rfl | h
 all_goals first | omega | decide +kernel
theorem strI_len (s : ByteArray) : (strI s).length = s.size := by unfold strI; rw [List.length_map, Array.length_toList]; rfl
theorem tagB_len (t : Nat) (ls : List (List Int)) : (tagB t ls).length <= ls.flatten.length + 8 * ls.length + 26 := by
 unfold tagB
 rw [framed_length, List.flatten_cons, List.length_append, List.length_cons, strI_len]
 have := wS_size t
 omega
theorem fit_ne {t : Nat} {ls : List (List Int)} (h : TagOk t ls) : 0 < ls.length /\ ls.length <= 3 := by
 have h1 := h.2.1
 have h2 := bds_len t
 refine ⟨?_, by omega⟩
 have h3 : 0 < (bdsOf t).length := by
  rcases tag_cases t with rfl | rfl | rfl | rfl | rfl | rfl | rfl | rfl | rfl | q
  all_goals first | (have := h.1; omega) | decide
 omega
theorem len1 {α : Type} {l : List α} (h : l.length = 1) : ∃ a, l = [a] := by
 match l, h with
 | [a], _ => exact ⟨a, rfl⟩
theorem len2 {α : Type} {l : List α} (h : l.length = 2) : ∃ a b, l = [a, b] := by
 match l, h with
 | [a, b], _ => exact ⟨a, b, rfl⟩
theorem len3 {α : Type} {l : List α} (h : l.length = 3) : ∃ a b c, l = [a, b, c] := by
 match l, h with
 | [a, b, c], _ => exact ⟨a, b, c, rfl⟩
theorem fit_flat {t : Nat} {ls : List (List Int)} (h : TagOk t ls) (hn : ∀ l ∈ ls, l.length <= 140737488351232) : ls.flatten.length <= 140737488351232 := by
 obtain ⟨h0, h1, h2⟩ := h
 have one : ls.length = 1 -> ls.flatten.length <= 140737488351232 := fun h => by
  obtain ⟨a, rfl⟩ := len1 h
  simpa using hn a (by simp)
 rcases tag_cases t with rfl | rfl | rfl | rfl | rfl | rfl | rfl | rfl | rfl | q
 ·obtain ⟨a, b, c, rfl⟩ := len3 (show ls.length = 3 from h1)
  have e0 := h2 0 (by simp)
  have e1 := h2 1 (by simp)
  have e2 := h2 2 (by simp)
  simp [bdsOf, Bd.ok] at e0 e1 e2
  simp
  omega
 ·exact one h1
 ·exact one h1
 ·exact one h1
 ·exact one h1
 ·obtain ⟨a, b, rfl⟩ := len2 (show ls.length = 2 from h1)
  have e0 := h2 0 (by simp)
  have e1 := h2 1 (by simp)
  simp [bdsOf, Bd.ok] at e0 e1
  simp
  omega
 ·exact one h1
 ·exact one h1
 ·obtain ⟨a, b, rfl⟩ := len2 (show ls.length = 2 from h1)
  have e0 := h2 0 (by simp)
  have e1 := h2 1 (by simp)
  simp [bdsOf, Bd.ok] at e0 e1
  simp
  omega
 ·omega
theorem HL.vals {w : World} {v : Value} {ls : List (List Int)} (h : HL w v ls) (h0 : 0 < ls.length) : ∃ (b off c : Nat) (us : List Value), v = .slice (some ⟨b, off, none⟩) ls.length c /\ us.length = ls.length /\ (∀ j u, us[j]? = some u -> w.cell? ⟨b, off + j, none⟩ = some u) /\ ∀ j, j < ls.length -> HB w (us.getD j undef) (ls.getD j []) := by
 obtain ⟨p, c, rfl, _, _⟩ := h.open
 obtain ⟨b, off, rfl, hq⟩ := h.at5 h0
 let f : Nat -> Value := fun j => if hj : j < ls.length then Classical.choose (hq j hj) else undef
 have hf : ∀ j, j < ls.length -> w.cell? ⟨b, off + j, none⟩ = some (f j) /\ HB w (f j) (ls.getD j []) := fun j hj => by
  simp only [f, hj, dif_pos]
  exact Classical.choose_spec (hq j hj)
 refine ⟨b, off, c, (List.range ls.length).map f, rfl, by simp, fun j u hu => ?_, fun j hj => ?_⟩
 ·rw [List.getElem?_map, Option.map_eq_some_iff] at hu
  obtain ⟨k, hk, rfl⟩ := hu
  rw [List.getElem?_eq_some_iff] at hk
  obtain ⟨hk1, hk2⟩ := hk
  simp at hk1 hk2
  subst hk2
  exact (hf j hk1).1
 ·have e : ((List.range ls.length).map f).getD j undef = f j := by simp [List.getD, hj]
  rw [e]
  exact (hf j hj).2
theorem HB.one {w : World} {v : Value} {l : List Int} (h : HB w v l) : v.oneCell' = true := by
 obtain ⟨p, c, rfl, _, _⟩ := h.open
 rfl
def TyQ (t : Nat) (ls : List (List Int)) (w : World) (v : Value) (E : Int) : Prop := (E = 0 /\ TagOk t ls /\ HB w v (tagB t ls)) \/ (E ≠ 0 /\ ¬ TagOk t ls /\ v = .slice none 0 0)
theorem tbytes_any (w : World) (t : Nat) (v : Value) (ls : List (List Int)) (h : HL w v ls) (hn : ∀ l ∈ ls, l.length <= 140737488351232) : Calls Tryd.prog 9 #[.int .u8 (t : Int), v] w fun e w' => ∃ v' E, e = .returned (.tuple #[v', .int .i64 E]) /\ TyQ t ls w' v' E /\ Below w.heap.size w w' := by
 have C1 := hid fun w => word_tag w t
 have HH := hid h
 have C2 := hid (fit_any w t v ls h)
 have HN := hid hn
 have hs1 : (wS t).size <= 1000 := by have := wS_size t; omega
 have TB : Hid (tagB t ls = framed (strI (wS t) :: ls)) := hid rfl
 have LB : Hid ((strI (wS t)).length <= 18) := hid (by rw [strI_len]; exact wS_size t)
 by_cases ht : 1 <= t /\ t <= 9
 case neg =>
  have he := (none_of (t := t) (by omega)).2
  have hno : Hid (¬ TagOk t ls) := hid fun q => ht q.1
  rw [he] at C1
  clear h hs1 TB LB he
  obtain ⟨p, c, rfl, _, _⟩ := HH.out.open
  go_enter Tryd.func9, Tryd.ntmps9
  go_wp2_with fail
  refine (C1.out w).mono ?_
  rintro e w1 ⟨rfl, rfl⟩
  go_wp2
  go_ret2
  exact ⟨_, _, rfl, .inr ⟨by decide, hno.out, rfl⟩, Below.refl _ _⟩
 case pos =>
  have hse := wS_ne ht
  obtain ⟨sb, HSB⟩ : ∃ x, Hid (wS t = x) := ⟨_, rfl⟩
  rw [HSB.out] at C1 hs1 hse TB LB
  have TO : Hid (TagOk t ls ↔ FitQ t ls) := hid ⟨fun q => q.2, fun q => ⟨ht, q⟩⟩
  have FNE : Hid (TagOk t ls -> 0 < ls.length /\ ls.length <= 3) := hid fit_ne
  by_cases hf : FitQ t ls
  case neg =>
   rw [decide_eq_false hf] at C2
   have hno : Hid (¬ TagOk t ls) := hid fun q => hf q.2
   clear hf h hn
   obtain ⟨p, c, rfl, _, _⟩ := HH.out.open
   go_enter Tryd.func9, Tryd.ntmps9
   go_wp2_with fail
   refine (C1.out w).mono ?_
   rintro e w1 ⟨rfl, rfl⟩
   clear C1
   go_wp2_with fail
   refine C2.out.mono ?_
   rintro e w2 ⟨rfl, hb2⟩
   have B2 := hid hb2
   clear hb2 C2
   go_wp2
   go_ret2
   exact ⟨_, _, rfl, .inr ⟨by decide, hno.out, rfl⟩, B2.out⟩
  case pos =>
   rw [decide_eq_true hf] at C2
   have YES := hid (TO.out.2 hf)
   obtain ⟨h0, h3⟩ := FNE.out YES.out
   obtain ⟨b, off, c, us, rfl, hul, huc, hub⟩ := h.vals h0
   have HUC := hid huc
   have HUB := hid hub
   have HUL := hid hul
   have H03 := hid (And.intro h0 h3)
   clear hf h hn hul huc hub h0 h3 TO FNE ht
   obtain ⟨n, Hn⟩ : ∃ x, Hid (ls.length = x) := ⟨_, rfl⟩
   rw [Hn.out] at C2 HUL
   rw [Hn.out]
   go_enter Tryd.func9, Tryd.ntmps9
   go_wp2_with fail
   refine (C1.out w).mono ?_
   rintro e w1 ⟨rfl, rfl⟩
   clear C1
   go_wp2_with fail
   refine C2.out.mono ?_
   rintro e w2 ⟨rfl, hb2⟩
   have B2 := hid hb2
   clear hb2 C2
   go_wp2_with (first | (refine wpList_bytes_str rfl _ rfl sb rfl hs1 (fun v3 w3 hv3 hb3 => Hid.out ?_)) | fail)
   obtain ⟨wl, HWL⟩ : ∃ x, Hid (strI sb = x) := ⟨_, rfl⟩
   rw [HWL.out] at hv3 TB LB
   have B3 := hid (B2.out.trans (hb3.mono B2.out.size))
   have V3 := hid hv3
   obtain ⟨p3, c3, rfl, _, _⟩ := hv3.open
   obtain ⟨zl, Hzl⟩ : ∃ x, Hid (wl.length = x) := ⟨_, rfl⟩
   rw [Hzl.out] at V3 LB
   rw [Hzl.out]
   have HA := hid (heap_alloc_new w3 (.cells #[.slice p3 zl c3] 30))
   have HAB := hid ((Below.refl w3.heap.size w3).alloc (Nat.le_refl _) (.cells #[.slice p3 zl c3] 30))
   have HO : Hid (OWL w3 (w3.alloc (.cells #[.slice p3 zl c3] 30)) (.slice (some ⟨w3.heap.size, 0, none⟩) 1 1) [wl]) := by
    refine hid ⟨[.slice p3 zl c3], ⟨rfl, .inr ⟨w3.heap.size, 1, _, rfl, Nat.le_refl _, HA.out, Nat.le_refl _, by unfold maxLen; omega, rfl, rfl⟩⟩, fun j hj => ?_⟩
    match j, hj with
    | 0, _ => exact .inr V3.out
   have B4 := hid (B3.out.alloc B3.out.size (.cells #[.slice p3 zl c3] 30))
   have S4 : Hid ((w3.alloc (.cells #[.slice p3 zl c3] 30)).heap.size = w3.heap.size + 1) := by refine hid ?_; simp
   have Q0 : Hid (∀ j u, us[j]? = some u -> (w3.alloc (.cells #[.slice p3 zl c3] 30)).cell? ((⟨b, off, none⟩ : Addr).add j) = some u) := hid fun j u hu => by
    have := HUC.out j u hu
    rw [Go.WideShapes.add_plain]
    exact (B4.out.cell (World.block_lt_of_cell? _ _ this)).trans this
   have Q1 : Hid (∀ j, j < n -> EL w3 (w3.alloc (.cells #[.slice p3 zl c3] 30)) (us.getD j undef) (ls.getD j [])) := hid fun j hj => .inr ((HUB.out j (by rw [Hn.out]; exact hj)).below B3.out)
   have Q2 : Hid (∀ u ∈ us, u.oneCell' = true) := hid fun u hu => by
    obtain ⟨j, hj, rfl⟩ := List.getElem_of_mem hu
    have hj2 : j < ls.length := by rw [Hn.out, <- HUL.out]; exact hj
    have := (HUB.out j hj2).one
    simpa [List.getD, List.getElem?_eq_getElem hj] using this
   clear hb3 hv3
   have hn3 : n <= 3 := by rw [<- Hn.out]; exact H03.out.2
   refine hid ?_
   go_wp2_with (at_builtin; refine wpList_append_OWL (w0 := w3) rfl _ _ rfl _ _ rfl HO.out ⟨b, off, none⟩ n c us ls rfl HUL.out Hn.out Q0.out Q1.out Q2.out (by simp; omega) (by rw [S4.out]; omega) ?_)
   intro v5 w5 ho5 hg5 hbk5
   have B5 := hid (B4.out.grown hg5 B4.out.size (fun q e => by have := (hbk5 q e).1; have := B3.out.size; omega))
   have b35 : Below w3.heap.size w3 w5 := HAB.out.grown hg5 (by rw [S4.out]; omega) (fun q e => (hbk5 q e).1)
   have H5 := hid (ho5.hl b35)
   have CF := framed_big w5 v5 _ H5.out (by have := fit_flat YES.out HN.out; have := LB.out; have := Hzl.out; have := Hn.out; rw [List.flatten_cons, List.length_append, List.length_cons]; omega) (by have := Hn.out; rw [List.length_cons]; omega)
   rw [<- TB.out] at CF
   have CF := hid CF
   clear ho5 hg5 hbk5 b35
   go_wp2_with fail
   refine CF.out.mono ?_
   rintro e w6 ⟨v6, rfl, _, hb6, hB6⟩
   have H6 := hid hb6
   have B6 := hid (B5.out.trans (hB6.mono B5.out.size))
   clear hb6 hB6 CF
   go_wp2
   go_ret2
   exact ⟨_, _, rfl, .inl ⟨rfl, YES.out, H6.out⟩, B6.out⟩
instance (t : Nat) (ls : List (List Int)) : Decidable (TagOk t ls) := by unfold TagOk; infer_instance
def byE (t : Nat) (ls : List (List Int)) : Int := if 1 <= t /\ t <= 9 then (if FitQ t ls then 0 else 51) else 50
def byL (t : Nat) (ls : List (List Int)) : List Int := if TagOk t ls then tagB t ls else []
theorem tbytesC (w : World) (t : Nat) (v : Value) (ls : List (List Int)) (h : HL w v ls) (hn : ∀ l ∈ ls, l.length <= 140737488351232) : Calls Tryd.prog 9 #[.int .u8 (t : Int), v] w fun e w' => ∃ v', e = .returned (.tuple #[v', .int .i64 (byE t ls)]) /\ w'.ownsRow w.heap.size 5 1 v' (byL t ls).length ((byL t ls).map (Value.int .u8)) /\ Below w.heap.size w w' := by
 have C1 := hid fun w => word_tag w t
 have HH := hid h
 have C2 := hid (fit_any w t v ls h)
 have HN := hid hn
 have hs1 : (wS t).size <= 1000 := by have := wS_size t; omega
 have TB : Hid (tagB t ls = framed (strI (wS t) :: ls)) := hid rfl
 have LB : Hid ((strI (wS t)).length <= 18) := hid (by rw [strI_len]; exact wS_size t)
 by_cases ht : 1 <= t /\ t <= 9
 case neg =>
  have he := (none_of (t := t) (by omega)).2
  have hE : Hid (byE t ls = 50) := hid (by unfold byE; rw [if_neg ht])
  have hL : Hid (byL t ls = []) := hid (by unfold byL; rw [if_neg fun q => ht q.1])
  rw [he] at C1
  clear h hs1 TB LB he
  obtain ⟨p, c, rfl, _, _⟩ := HH.out.open
  go_enter Tryd.func9, Tryd.ntmps9
  go_wp2_with fail
  refine (C1.out w).mono ?_
  rintro e w1 ⟨rfl, rfl⟩
  go_wp2
  go_ret2
  rw [hE.out, hL.out]
  exact ⟨_, rfl, World.ownsRow_nil _ _ _ _, Below.refl _ _⟩
 case pos =>
  have hse := wS_ne ht
  obtain ⟨sb, HSB⟩ : ∃ x, Hid (wS t = x) := ⟨_, rfl⟩
  rw [HSB.out] at C1 hs1 hse TB LB
  have TO : Hid (TagOk t ls ↔ FitQ t ls) := hid ⟨fun q => q.2, fun q => ⟨ht, q⟩⟩
  have FNE : Hid (TagOk t ls -> 0 < ls.length /\ ls.length <= 3) := hid fit_ne
  by_cases hf : FitQ t ls
  case neg =>
   rw [decide_eq_false hf] at C2
   have hE : Hid (byE t ls = 51) := hid (by unfold byE; rw [if_pos ht, if_neg hf])
   have hL : Hid (byL t ls = []) := hid (by unfold byL; rw [if_neg fun q => hf q.2])
   clear hf h hn
   obtain ⟨p, c, rfl, _, _⟩ := HH.out.open
   go_enter Tryd.func9, Tryd.ntmps9
   go_wp2_with fail
   refine (C1.out w).mono ?_
   rintro e w1 ⟨rfl, rfl⟩
   clear C1
   go_wp2_with fail
   refine C2.out.mono ?_
   rintro e w2 ⟨rfl, hb2⟩
   have B2 := hid hb2
   clear hb2 C2
   go_wp2
   go_ret2
   rw [hE.out, hL.out]
   exact ⟨_, rfl, World.ownsRow_nil _ _ _ _, B2.out⟩
  case pos =>
   rw [decide_eq_true hf] at C2
   have YES := hid (TO.out.2 hf)
   have hE : Hid (byE t ls = 0) := hid (by unfold byE; rw [if_pos ht, if_pos hf])
   have hL : Hid (byL t ls = tagB t ls) := hid (by unfold byL; rw [if_pos (TO.out.2 hf)])
   obtain ⟨h0, h3⟩ := FNE.out YES.out
   obtain ⟨b, off, c, us, rfl, hul, huc, hub⟩ := h.vals h0
   have HUC := hid huc
   have HUB := hid hub
   have HUL := hid hul
   have H03 := hid (And.intro h0 h3)
   clear hf h hn hul huc hub h0 h3 TO FNE ht
   obtain ⟨n, Hn⟩ : ∃ x, Hid (ls.length = x) := ⟨_, rfl⟩
   rw [Hn.out] at C2 HUL
   rw [Hn.out]
   go_enter Tryd.func9, Tryd.ntmps9
   go_wp2_with fail
   refine (C1.out w).mono ?_
   rintro e w1 ⟨rfl, rfl⟩
   clear C1
   go_wp2_with fail
   refine C2.out.mono ?_
   rintro e w2 ⟨rfl, hb2⟩
   have B2 := hid hb2
   clear hb2 C2
   go_wp2_with (first | (refine wpList_bytes_str rfl _ rfl sb rfl hs1 (fun v3 w3 hv3 hb3 => Hid.out ?_)) | fail)
   obtain ⟨wl, HWL⟩ : ∃ x, Hid (strI sb = x) := ⟨_, rfl⟩
   rw [HWL.out] at hv3 TB LB
   have B3 := hid (B2.out.trans (hb3.mono B2.out.size))
   have V3 := hid hv3
   obtain ⟨p3, c3, rfl, _, _⟩ := hv3.open
   obtain ⟨zl, Hzl⟩ : ∃ x, Hid (wl.length = x) := ⟨_, rfl⟩
   rw [Hzl.out] at V3 LB
   rw [Hzl.out]
   have HA := hid (heap_alloc_new w3 (.cells #[.slice p3 zl c3] 30))
   have HAB := hid ((Below.refl w3.heap.size w3).alloc (Nat.le_refl _) (.cells #[.slice p3 zl c3] 30))
   have HO : Hid (OWL w3 (w3.alloc (.cells #[.slice p3 zl c3] 30)) (.slice (some ⟨w3.heap.size, 0, none⟩) 1 1) [wl]) := by
    refine hid ⟨[.slice p3 zl c3], ⟨rfl, .inr ⟨w3.heap.size, 1, _, rfl, Nat.le_refl _, HA.out, Nat.le_refl _, by unfold maxLen; omega, rfl, rfl⟩⟩, fun j hj => ?_⟩
    match j, hj with
    | 0, _ => exact .inr V3.out
   have B4 := hid (B3.out.alloc B3.out.size (.cells #[.slice p3 zl c3] 30))
   have S4 : Hid ((w3.alloc (.cells #[.slice p3 zl c3] 30)).heap.size = w3.heap.size + 1) := by refine hid ?_; simp
   have Q0 : Hid (∀ j u, us[j]? = some u -> (w3.alloc (.cells #[.slice p3 zl c3] 30)).cell? ((⟨b, off, none⟩ : Addr).add j) = some u) := hid fun j u hu => by
    have := HUC.out j u hu
    rw [Go.WideShapes.add_plain]
    exact (B4.out.cell (World.block_lt_of_cell? _ _ this)).trans this
   have Q1 : Hid (∀ j, j < n -> EL w3 (w3.alloc (.cells #[.slice p3 zl c3] 30)) (us.getD j undef) (ls.getD j [])) := hid fun j hj => .inr ((HUB.out j (by rw [Hn.out]; exact hj)).below B3.out)
   have Q2 : Hid (∀ u ∈ us, u.oneCell' = true) := hid fun u hu => by
    obtain ⟨j, hj, rfl⟩ := List.getElem_of_mem hu
    have hj2 : j < ls.length := by rw [Hn.out, <- HUL.out]; exact hj
    have := (HUB.out j hj2).one
    simpa [List.getD, List.getElem?_eq_getElem hj] using this
   clear hb3 hv3
   have hn3 : n <= 3 := by rw [<- Hn.out]; exact H03.out.2
   refine hid ?_
   go_wp2_with (at_builtin; refine wpList_append_OWL (w0 := w3) rfl _ _ rfl _ _ rfl HO.out ⟨b, off, none⟩ n c us ls rfl HUL.out Hn.out Q0.out Q1.out Q2.out (by simp; omega) (by rw [S4.out]; omega) ?_)
   intro v5 w5 ho5 hg5 hbk5
   have B5 := hid (B4.out.grown hg5 B4.out.size (fun q e => by have := (hbk5 q e).1; have := B3.out.size; omega))
   have b35 : Below w3.heap.size w3 w5 := HAB.out.grown hg5 (by rw [S4.out]; omega) (fun q e => (hbk5 q e).1)
   have H5 := hid (ho5.hl b35)
   have CF := framed_big w5 v5 _ H5.out (by have := fit_flat YES.out HN.out; have := LB.out; have := Hzl.out; have := Hn.out; rw [List.flatten_cons, List.length_append, List.length_cons]; omega) (by have := Hn.out; rw [List.length_cons]; omega)
   rw [<- TB.out] at CF
   have CF := hid CF
   clear ho5 hg5 hbk5 b35
   go_wp2_with fail
   refine CF.out.mono ?_
   rintro e w6 ⟨v6, rfl, ho6, hb6, hB6⟩
   have H6 := hid (own_mono ho6 B5.out.size)
   have B6 := hid (B5.out.trans (hB6.mono B5.out.size))
   clear hb6 hB6 CF ho6
   go_wp2
   go_ret2
   rw [hE.out, hL.out]
   exact ⟨_, rfl, H6.out, B6.out⟩
theorem rbytesC (w : World) (t : Nat) (v : Value) (ps : List (List Int)) (h : HL w v ps) (hbig : ps.flatten.length + 8 * ps.length <= 100000000000000) :
  Calls Tryd.prog 14 #[.int .u8 (t : Int), v] w fun e w' => ∃ v', e = .returned (.tuple #[v', .int .i64 (byE t ps)]) /\ w'.ownsRow w.heap.size 5 1 v' (byL t ps).length ((byL t ps).map (Value.int .u8)) /\ Below w.heap.size w w' := by
 by_cases ht : 1 <= t /\ t <= 9
 case neg =>
  have hE : Hid (byE t ps = 50) := hid (by unfold byE; rw [if_neg ht])
  have hL : Hid (byL t ps = []) := hid (by unfold byL; rw [if_neg fun q => ht q.1])
  have C1 := hid (rwordC w t)
  rw [(none_of (t := t) (by omega)).2] at C1
  obtain ⟨p, c, rfl, _, _⟩ := h.open
  clear h ht
  go_enter Tryd.func14, Tryd.ntmps14
  go_wp2_with fail
  refine C1.out.mono ?_
  rintro e w1 ⟨rfl, rfl⟩
  go_wp2
  go_ret2
  rw [hE.out, hL.out]
  exact ⟨_, rfl, World.ownsRow_nil _ _ _ _, Below.refl _ _⟩
 have C1 := hid fun w => rwordC w t
 have C2 := hid fun w' (hw : Below w.heap.size w w') => rfitC w' t ht v ps (h.below hw)
 by_cases hf : FitQ t ps
 case neg =>
  have hE : Hid (byE t ps = 51) := hid (by unfold byE; rw [if_pos ht, if_neg hf])
  have hL : Hid (byL t ps = []) := hid (by unfold byL; rw [if_neg fun q => hf q.2])
  have hse := wS_ne ht
  rw [decide_eq_false hf] at C2
  obtain ⟨sb, HSB⟩ : ∃ x, Hid (wS t = x) := ⟨_, rfl⟩
  rw [HSB.out] at C1 hse
  obtain ⟨p, c, rfl, _, _⟩ := h.open
  clear h ht hf
  go_enter Tryd.func14, Tryd.ntmps14
  go_wp2_with fail
  refine (C1.out _).mono ?_
  rintro e w1 ⟨rfl, rfl⟩
  clear C1
  go_wp2_with fail
  refine (C2.out _ (Below.refl _ _)).mono ?_
  rintro e w2 ⟨rfl, rfl⟩
  go_wp2
  go_ret2
  rw [hE.out, hL.out]
  exact ⟨_, rfl, World.ownsRow_nil _ _ _ _, Below.refl _ _⟩
 have hE : Hid (byE t ps = 0) := hid (by unfold byE; rw [if_pos ht, if_pos hf])
 have hL : Hid (byL t ps = framed (strI (wS t) :: ps)) := hid (by unfold byL; rw [if_pos ⟨ht, hf⟩]; rfl)
 rw [decide_eq_true hf] at C2
 rw [hE.out, hL.out]
 have hsz : (wS t).size <= 1000 := by have := wS_size t; omega
 have hse := wS_ne ht
 obtain ⟨sb, HSB⟩ : ∃ x, Hid (wS t = x) := ⟨_, rfl⟩
 rw [HSB.out] at C1 hse hsz
 rw [HSB.out]
 clear ht hf hE hL HSB
 have A0 := hid h
 obtain ⟨p, c, e, hlc, hm⟩ := h.open
 unfold maxLen at hm
 have A : Hid (0 < ps.length -> ∃ b off, p = some ⟨b, off, none⟩ /\ ∀ j, j < ps.length -> ∃ u, w.cell? ⟨b, off + j, none⟩ = some u /\ HB w u (ps.getD j [])) := by
  intro h0
  obtain ⟨b, off, c', e', _, _, hh⟩ := h.ne h0
  rw [e] at e'
  simp only [Value.slice.injEq, true_and] at e'
  exact ⟨b, off, e'.1, hh⟩
 obtain ⟨n, HN⟩ : ∃ n, Hid (ps.length = n) := ⟨_, rfl⟩
 have HBig := hid hbig
 rw [HN.out] at e hlc hbig
 subst e
 clear h
 go_enter Tryd.func14, Tryd.ntmps14
 go_wp2_with fail
 refine (C1.out _).mono ?_
 rintro e w1 ⟨rfl, rfl⟩
 go_wp2_with fail
 refine (C2.out _ (Below.refl _ _)).mono ?_
 rintro e w2 ⟨rfl, rfl⟩
 go_wp2_with fail
 refine (C1.out _).mono ?_
 rintro e w3 ⟨rfl, rfl⟩
 go_wp2_with (refine wpList_bytes_str rfl _ rfl sb rfl hsz ?_)
 intro v4 w4 hb4 hB4
 have HB4 := hid hb4
 have BL4 := hid hB4
 clear hb4 hB4
 go_wp2_with fail
 refine (rframe_any w4 v4 _ HB4.out (by rw [strI_length]; omega)).mono ?_
 rintro e w5 ⟨v5, rfl, ho5, hB5⟩
 have HO5 : Hid (w5.ownsRow w3.heap.size 5 1 v5 (frK (strI sb) ps 0).length ((frK (strI sb) ps 0).map (Value.int .u8))) := by
  rw [frK_zero]
  exact own_mono ho5 BL4.out.size
 have BL5 := hid (BL4.out.trans (hB5.mono BL4.out.size))
 clear ho5 hB5
 go_wp2
 go_loopw [6, 7] (fun o i wr => ∃ k : Nat, k <= n /\ i = .int .i64 k /\ Hid (wr.ownsRow w3.heap.size 5 1 o (frK (strI sb) ps k).length ((frK (strI sb) ps k).map (Value.int .u8))) /\ Hid (Below w3.heap.size w3 wr)) (fun _ i _ => n - (intOf i).toNat)
 case atStart => exact ⟨0, Nat.zero_le _, rfl, HO5, BL5⟩
 case round =>
  obtain ⟨k, hk, rfl, HO, HBel⟩ := hrel
  by_cases hlt : k < n
  ·obtain ⟨b, off, rfl, hh⟩ := A.out (by rw [HN.out]; omega)
   obtain ⟨u, hu0, hb⟩ := hh k (by rw [HN.out]; exact hlt)
   have hu : wr.cell? ⟨b, off + k, none⟩ = some u := (HBel.out.cell (World.block_lt_of_cell? w3 _ hu0)).trans hu0
   have HBu := hid (hb.below HBel.out)
   have hls : (ps.getD k []).length <= 100000000000000 := by
    have h1 := flat_take_le ps (k + 1)
    rw [flat_snoc ps k (by rw [HN.out]; exact hlt), List.length_append] at h1
    have := HBig.out
    omega
   have HS := hid (frK_snoc (strI sb) ps k (by rw [HN.out]; exact hlt))
   have HLe := hid (frK_le (strI sb) ps (k + 1))
   rw [HS.out, List.length_append, strI_length] at HLe
   clear hh hb hu0
   go_wp2_with fail
   refine (rframe_any wr u _ HBu.out (by omega)).mono ?_
   rintro e w6 ⟨v6, rfl, ho6, hB6⟩
   have HB6 : Hid (HB w6 v6 (fr1 (ps.getD k []))) := HB.of_own ho6 (fr1_byt HBu.out.2)
   have HO6 := hid (own_below HO.out hB6)
   have BL6 := hid (HBel.out.trans (hB6.mono HBel.out.size))
   clear ho6 hB6
   go_wp2_with (at_builtin; refine wpList_append_HB rfl _ _ rfl w3.heap.size _ _ _ rfl HO6.out _ _ rfl HB6.out ?q1 ?q2 ?_)
   case q1 => have := HLe.out; have := HBig.out; omega
   case q2 => exact BL6.out.size
   intro v7 w7 ho7 hg7
   have HO7 : Hid (w7.ownsRow w3.heap.size 5 1 v7 (frK (strI sb) ps (k + 1)).length ((frK (strI sb) ps (k + 1)).map (Value.int .u8))) := by
    rw [HS.out, List.length_append, List.map_append]
    exact ho7
   have BL7 : Hid (Below w3.heap.size w3 w7) := BL6.out.grown hg7 BL6.out.size (fun k e => (HO6.out.lt k e).1)
   clear ho7 hg7
   go_wp2
   exact ⟨⟨k + 1, by omega, by go_num, HO7, BL7⟩, by simp [intOf]; omega⟩
  ·have hkn : k = ps.length := by rw [HN.out]; omega
   have HO8 := hid HO.out
   rw [hkn, frK_all] at HO8
   go_wp2
   go_ret2
   exact ⟨_, rfl, HO8.out, HBel.out⟩
end Go.Proofs.YtcpchhigiohlnaaDoor
namespace Go.Proofs.YtcpchhigiohlnaaDoor
open Go.RowKit
def bS (l : List Int) : ByteArray := ⟨(l.map fun x => UInt8.ofNat x.toNat).toArray⟩
def sB (s : ByteArray) : List Int := s.data.toList.map fun b => (b.toNat : Int)
def Byt8 (l : List Int) : Prop := ∀ x ∈ l, 0 <= x /\ x < 256
theorem sB_bS {l : List Int} (h : Byt8 l) : sB (bS l) = l := by
 unfold sB bS
 simp only [List.map_map]
 have : ∀ x ∈ l, ((fun b : UInt8 => (b.toNat : Int)) ∘ fun x : Int => UInt8.ofNat x.toNat) x = x := by
  intro x hx
  have := h x hx
  simp only [Function.comp, UInt8.toNat_ofNat']
  omega
 rw [List.map_congr_left this, List.map_id']
theorem bS_sB (s : ByteArray) : bS (sB s) = s := by
 unfold sB bS
 simp only [List.map_map]
 have : ∀ x ∈ s.data.toList, ((fun x : Int => UInt8.ofNat x.toNat) ∘ fun b : UInt8 => (b.toNat : Int)) x = x := by
  intro x hx
  simp
 rw [List.map_congr_left this, List.map_id']
theorem sB_inj {a b : ByteArray} (h : sB a = sB b) : a = b := by rw [<- bS_sB a, h, bS_sB]
theorem eq_iff_sB (a b : ByteArray) : (a.toList == b.toList) = decide (sB a = sB b) := by
 rw [ByteArray.toList_eq, ByteArray.toList_eq]
 by_cases h : a = b
 ·subst h; simp
 ·have h2 : ¬ sB a = sB b := fun e => h (sB_inj e)
  have h3 : ¬ a.data.toList = b.data.toList := by
   intro e
   apply h2
   unfold sB
   rw [e]
  simp [h2, h3]
  intro e
  exact h3 (by rw [e])
end Go.Proofs.YtcpchhigiohlnaaDoor
namespace Go.Proofs.YtcpchhigiohlnaaDoor
open Go Go.RowKit
def bwT (s : ByteArray) : Nat := if wS 1 = s then 1 else if wS 2 = s then 2 else if wS 3 = s then 3 else if wS 4 = s then 4 else if wS 5 = s then 5 else if wS 6 = s then 6 else if wS 7 = s then 7 else if wS 8 = s then 8 else if wS 9 = s then 9 else 0
theorem bwT_hit {s : ByteArray} {k : Nat} (h1 : 1 <= k /\ k <= 9) (hk : wS k = s) (hn : ∀ t, 1 <= t -> t < k -> wS t ≠ s) : bwT s = k := by
 unfold bwT
 have : k = 1 \/ k = 2 \/ k = 3 \/ k = 4 \/ k = 5 \/ k = 6 \/ k = 7 \/ k = 8 \/ k = 9 := by omega
 rcases this with rfl | rfl | rfl | rfl | rfl | rfl | rfl | rfl | rfl
 all_goals
  repeat rw [if_neg (hn _ (by omega) (by omega))]
  rw [if_pos hk]
theorem bwT_none {s : ByteArray} (hn : ∀ t, 1 <= t -> t < 10 -> wS t ≠ s) : bwT s = 0 := by
 unfold bwT
 rw [if_neg (hn 1 (by omega) (by omega)), if_neg (hn 2 (by omega) (by omega)), if_neg (hn 3 (by omega) (by omega)), if_neg (hn 4 (by omega) (by omega)), if_neg (hn 5 (by omega) (by omega)), if_neg (hn 6 (by omega) (by omega)), if_neg (hn 7 (by omega) (by omega)), if_neg (hn 8 (by omega) (by omega)), if_neg (hn 9 (by omega) (by omega))]
theorem rbyword_any (w : World) (s : ByteArray) : Calls Tryd.prog 41 #[.string s] w fun e w' => e = .returned (.int .u8 (bwT s : Int)) /\ w' = w := by
 have C1 := hid fun w t => rwordC w t
 go_enter Tryd.func41, Tryd.ntmps41
 go_wp2
 go_loopw [3] (fun i wr => ∃ k : Nat, (1 <= k /\ k <= 10) /\ i = .int .i64 (k : Int) /\ Hid (∀ t, 1 <= t -> t < k -> wS t ≠ s) /\ Hid (wr = w)) (fun i _ => 10 - (intOf i).toNat)
 case atStart => exact ⟨1, by omega, rfl, hid fun t h1 h2 => by omega, rfl⟩
 case round =>
  obtain ⟨k, hk, rfl, HN, HW⟩ := hrel
  have e := HW.out
  subst e
  by_cases hlt : k <= 9
  ·have z1 : (k : Int) <= 9 := by omega
   have w8 : IntKind.u8.wrap (k : Int) = (k : Int) := by rw [IntKind.wrap_u8]; omega
   have C := hid (C1.out wr k)
   obtain ⟨sb, HSB⟩ : ∃ x, Hid (wS k = x) := ⟨_, rfl⟩
   rw [HSB.out] at C
   have w9 : IntKind.i64.wrap ((k : Int) + 1) = ((k + 1 : Nat) : Int) := by rw [IntKind.wrap_i64]; omega
   by_cases hs : sb = s
   ·subst hs
    have hne : (sb.toList == sb.toList) = true := by simp
    have HB := hid (bwT_hit ⟨hk.1, hlt⟩ HSB.out HN.out)
    go_wp2_with fail
    refine C.out.mono ?_
    rintro e w1 ⟨rfl, rfl⟩
    go_wp2_with fail
    go_ret
    exact ⟨by rw [HB.out]; rfl, rfl⟩
   ·have hne : (sb.toList == s.toList) = false := by rw [eq_iff_sB]; exact decide_eq_false (fun e => hs (sB_inj e))
    have HN1 : Hid (∀ t, 1 <= t -> t < k + 1 -> wS t ≠ s) := hid fun t h1 h2 => by
     by_cases q : t < k
     ·exact HN.out t h1 q
     ·obtain rfl : t = k := by omega
      rw [HSB.out]
      exact hs
    clear hs
    go_wp2_with fail
    refine C.out.mono ?_
    rintro e w1 ⟨rfl, rfl⟩
    go_wp2_with fail
    exact ⟨⟨k + 1, by omega, by go_num, HN1, hid trivial⟩, by simp [intOf]; omega⟩
  ·obtain rfl : k = 10 := by omega
   have HB := hid (bwT_none HN.out)
   go_wp2
   go_ret
   exact ⟨by rw [HB.out]; rfl, rfl⟩
theorem conv_str {w : World} {v : Value} {l : List Int} (h : HB w v l) : (convert 30 9 v).run Tryd.prog w = .ok (.string (bS l)) w := by
 have hby : Byt8 l := h.2
 by_cases h0 : 0 < l.length
 ·obtain ⟨b, off, c, rfl, _, _, hc⟩ := h.ne h0
  obtain ⟨u, Hu⟩ : ∃ u : List UInt8, l.map (fun x => UInt8.ofNat x.toNat) = u := ⟨_, rfl⟩
  have hul : u.length = l.length := by rw [<- Hu]; simp
  have := run_convert_bytes_back (P := Tryd.prog) w 30 9 5 ⟨b, off, none⟩ c u Tryd.underlying30 Tryd.underlying5 Tryd.underlying9 (by
   intro j hj
   rw [Go.WideShapes.add_plain, hc j (by omega)]
   subst Hu
   simp only [List.getElem_map, UInt8.toNat_ofNat']
   rw [getD_of_lt (by omega)]
   have := hby _ (List.getElem_mem (by omega : j < l.length))
   congr 2
   omega)
  rw [hul] at this
  rw [this]
  unfold bS
  rw [Hu]
 ·have e : l = [] := List.length_eq_zero_iff.1 (by omega)
  subst e
  obtain ⟨p, c, rfl, _, _⟩ := h.open
  cases p with
  | none =>
   rw [List.length_nil, run_convert_bytes_string w 30 9 5 none 0 c Tryd.underlying30 Tryd.underlying5 Tryd.underlying9]
   simp [Conv.bytesToString, loadCells, bS]
   rfl
  | some a =>
   exact run_convert_bytes_back (P := Tryd.prog) w 30 9 5 a c [] Tryd.underlying30 Tryd.underlying5 Tryd.underlying9 (by intro j hj; simp at hj)
end Go.Proofs.YtcpchhigiohlnaaDoor
namespace Go.Proofs.YtcpchhigiohlnaaDoor
open Go.RowKit
theorem clone_any (w : World) (v : Value) (l : List Int) (h : HB w v l) (hbig : l.length <= 140737488355328) :
  Calls Tryd.prog 40 #[v] w fun e w' => ∃ v', e = .returned v' /\ w'.ownsRow w.heap.size 5 1 v' l.length (l.map (Value.int .u8)) /\ Below w.heap.size w w' := by
 obtain ⟨i0, hi, hz0, hz1, hz2⟩ := info_parts info_u8
 have q22 := eql_nil_bytes
 obtain ⟨⟨p, c, rfl, hlc, hm, _, hcell⟩, hby⟩ := h
 cases p with
 | none =>
  have e : l = [] := by
   apply Classical.byContradiction
   intro hne
   obtain ⟨b, off, e, _⟩ := hcell hne
   cases e
  subst e
  go_enter Tryd.func40, Tryd.ntmps40
  go_wp2
  go_ret
  exact ⟨_, rfl, World.ownsRow_nil _ _ _ _, Below.refl _ _⟩
 | some a =>
  have A : Hid (l ≠ [] -> ∃ b off, some a = some ⟨b, off, none⟩ /\ ∀ j, j < l.length -> w.cell? ⟨b, off + j, none⟩ = some (.int .u8 (l.getD j 0))) := hcell
  clear hcell
  go_enter Tryd.func40, Tryd.ntmps40
  go_wp2_with (at_builtin; refine wpList_append_own _ rfl _ _ 30 rfl w.heap.size 5 i0 (.int .u8 0) 1 1 Tryd.underlying30 hi hz0 hz1 hz2 rfl (by decide) _ _ _ rfl (World.ownsRow_made w #[] 0 (Nat.le_refl _) (Nat.zero_le _) rfl) a l.length c (l.map (Value.int .u8)) rfl ?qc1 ?qc2 ?qc3 ?qc4 ?qc5 ?qc6 ?_)
  case qc1 => simp
  case qc2 =>
   intro j u hj
   have hjn : j < l.length := by
    have := (List.getElem?_eq_some_iff.1 hj).1
    simpa using this
   refine Lib.cell?_alloc_some _ ?_
   obtain ⟨b, off, e, hh⟩ := A.out (by intro e; subst e; simp at hjn)
   cases e
   rw [Go.WideShapes.add_plain, hh j hjn]
   have e : (l.map (Value.int .u8))[j]? = some (Value.int .u8 (l.getD j 0)) := by simp [List.getD, List.getElem?_eq_getElem hjn]
   rw [e] at hj
   exact hj
  case qc3 => intro u hu; obtain ⟨x, _, rfl⟩ := List.mem_map.1 hu; rfl
  case qc4 => unfold maxLen; omega
  case qc5 => omega
  case qc6 => simp
  intro v' w1 hown hgrow hnil
  go_wp2
  go_ret
  exact ⟨v', rfl, by simpa using hown, ((Below.refl _ w).alloc (Nat.le_refl _) _).grown hgrow (by simp) (by intro k hk; simp [Value.ownBlock] at hk; omega)⟩
end Go.Proofs.YtcpchhigiohlnaaDoor
