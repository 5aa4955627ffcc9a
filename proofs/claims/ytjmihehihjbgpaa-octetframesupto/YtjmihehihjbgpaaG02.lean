/- Of the road to octetFramesUpto_holds: RefNum, RefFrames, RefUnframed, LentLists2, KeptLists2, OverLists3, AptL1. -/
import Derived.Test.YtjmihehihjbgpaaG01
import Derived.Test.YtjmihehihjbgpaaG00
import Derived.Deep.AppendLies
import Derived.Deep.RegionHeld3
import Derived.Deep.RegionLaw
import Derived.Deep.DrawnRows
set_option linter.unusedVariables false
set_option linter.unusedSimpArgs false
namespace Go.Proofs.Ytjmihehihjbgpaa
open Go.RowKit
def hiL (n m x : Nat) : List Int := (bigL n x).take (n - m)
theorem hiL_step (n m x : Nat) (h : m < n) : hiL n m x = hiL n (m + 1) x ++ [((x / 256 ^ m % 256 : Nat) : Int)] := by
  have key : ∀ r j, j < r → (bigL r x)[j]? = some ((x / 256 ^ (r - 1 - j) % 256 : Nat) : Int) := by
    intro r
    induction r with
    | zero => intro j hj; omega
    | succ r ih =>
      intro j hj
      cases j with
      | zero => simp [bigL]
      | succ j =>
        simp only [bigL, List.getElem?_cons_succ]
        rw [ih j (by omega), show r + 1 - 1 - (j + 1) = r - 1 - j by omega]
  unfold hiL
  have e : n - m = (n - (m + 1)) + 1 := by omega
  rw [e, List.take_add_one, key n _ (by omega), show n - 1 - (n - (m + 1)) = m by omega]
  rfl
set_option maxHeartbeats 1000000 in
theorem rbig_any (W : World) (x n : Nat) (hx : x < 18446744073709551616) (hn : n ≤ 8) : Calls Try.prog 31 #[.int .u64 (x : Int), .int .i64 (n : Int)] W fun e W' => ∃ v', e = .returned v' ∧ W'.ownsRow W.heap.size 5 1 v' n ((bigL n x).map (Value.int .u8)) ∧ Below W.heap.size W W' := by
  go_enter Try.func31, Try.ntmps31
  go_wp2
  go_loopw [5, 6] (fun o i wr => ∃ m : Nat, m ≤ n ∧ i = .int .i64 ((m : Int) - 1) ∧ Hid (wr.ownsRow W.heap.size 5 1 o (n - m) ((hiL n m x).map (Value.int .u8))) ∧ Hid (Below W.heap.size W wr)) (fun _ i _ => (intOf i + 1).toNat)
  case atStart => exact ⟨n, Nat.le_refl _, rfl, by rw [Nat.sub_self]; simp only [hiL, Nat.sub_self, List.take_zero, List.map_nil]; exact World.ownsRow_nil _ _ _ _, Below.refl _ _⟩
  case round =>
    obtain ⟨m, hm, rfl, HO, HBw⟩ := hrel
    cases m with
    | zero =>
      go_wp2
      go_ret
      refine ⟨_, rfl, ?_, HBw.out⟩
      have := HO.out
      simp only [Nat.sub_zero] at this
      rw [show hiL n 0 x = bigL n x by unfold hiL; rw [Nat.sub_zero, List.take_of_length_le (by rw [bigL_length]; exact Nat.le_refl n)]] at this
      exact this
    | succ m =>
      have HS := hid (hiL_step n m x (by omega))
      have hmc : m = 0 ∨ m = 1 ∨ m = 2 ∨ m = 3 ∨ m = 4 ∨ m = 5 ∨ m = 6 ∨ m = 7 := by omega
      have hxi : (x : Int) < 18446744073709551616 := by omega
      have hsz := HBw.out.size
      obtain ⟨y, HY⟩ : ∃ y, Hid (((x / 256 ^ m % 256 : Nat) : Int) = y) := ⟨_, rfl⟩
      rw [HY.out] at HS
      obtain ⟨k0, HK⟩ : ∃ k0, Hid (n - (m + 1) = k0) := ⟨_, rfl⟩
      have HK2 : Hid (n - m = k0 + 1) := by show _ = _; rw [← HK.out]; omega
      have hk0 : k0 ≤ 8 := by rw [← HK.out]; omega
      obtain ⟨lst, HLs⟩ : ∃ lst, Hid (hiL n (m + 1) x = lst) := ⟨_, rfl⟩
      rw [HLs.out] at HS
      have HO' := hid HO.out
      rw [HK.out, HLs.out] at HO'
      clear HO
      rcases hmc with rfl | rfl | rfl | rfl | rfl | rfl | rfl | rfl
      all_goals
        go_wp2_with (at_builtin; refine wpList_append_byte rfl _ _ rfl W.heap.size _ _ _ rfl (HO'.out.alloc _) ⟨wr.heap.size, 0, none⟩ 1 y rfl ?q0 ?q1 ?q2 ?_)
        case q0 => rw [← HY.out]; simp; try omega
        case q1 => omega
        case q2 => simp; omega
        intro v' w2 hown2 hgr2 _
        have HO2 : Hid (w2.ownsRow W.heap.size 5 1 v' (k0 + 1) (lst.map (Value.int .u8) ++ [.int .u8 y])) := hown2
        have HB2 := hid ((HBw.out.alloc HBw.out.size _).grown hgr2 (by simp; omega) (fun k e => (HO'.out.lt k e).1))
        clear hown2 hgr2
        go_wp2
        exact ⟨⟨_, Nat.le_of_succ_le hm, rfl, by rw [HK2.out, HS.out, List.map_append]; exact HO2, HB2⟩, by simp [intOf]⟩
set_option maxHeartbeats 1000000 in
theorem rsmall_any (w : World) (v : Value) (l : List Int) (n : Nat) (h : HB w v l) (hn0 : 1 ≤ n) (hn : n ≤ 8) : Calls Try.prog 32 #[v, .int .i64 (n : Int)] w fun e w' => e = .returned (.tuple #[.int .u64 (smallNo n l), .int .i64 (smallErr n l)]) ∧ w' = w := by
  obtain ⟨p, c, rfl, hlc, hm⟩ := h.open
  unfold maxLen at hm
  by_cases h1 : l.length < n
  · have HN : Hid (smallNo n l = 0) := if_neg (by omega)
    have HE : Hid (smallErr n l = 10) := if_pos h1
    have hd : decide ((l.length : Int) < (n : Int)) = true := by simp; omega
    rw [HN.out, HE.out]
    clear h
    go_enter Try.func32, Try.ntmps32
    go_wp2
    go_ret2
    exact ⟨rfl, rfl⟩
  · have hd : decide ((l.length : Int) < (n : Int)) = false := by simp; omega
    by_cases h2 : n < l.length
    · have HN : Hid (smallNo n l = 0) := if_neg (by omega)
      have HE : Hid (smallErr n l = 11) := (if_neg h1).trans (if_pos h2)
      have hd2 : decide ((n : Int) < l.length) = true := by simp; omega
      rw [HN.out, HE.out]
      clear h
      go_enter Try.func32, Try.ntmps32
      go_wp2
      go_ret2
      exact ⟨rfl, rfl⟩
    · have hl : l.length = n := by omega
      have HN : Hid (smallNo n l = valL l) := if_pos hl
      have HE : Hid (smallErr n l = 0) := (if_neg h1).trans (if_neg h2)
      rw [HN.out, HE.out]
      have hby := h.2
      obtain ⟨b, off, c', e, _, _, hh⟩ := h.ne (by omega)
      simp only [Value.slice.injEq, true_and] at e
      obtain ⟨rfl, rfl⟩ := e
      rw [hl] at hlc hh ⊢
      have HL := hid hl
      have HBy := hid hby
      clear hd h1 h2 hl h hby
      go_enter Try.func32, Try.ntmps32
      go_wp2
      go_loop [6, 7] (fun x i => ∃ j : Nat, j ≤ n ∧ i = .int .i64 j ∧ x = .int .u64 (valL (l.take j))) (fun _ i => n - (intOf i).toNat)
      case atStart => exact ⟨0, Nat.zero_le _, rfl, rfl⟩
      case round =>
        obtain ⟨j, hj, rfl, rfl⟩ := hrel
        have hv := valL_take_lt l HBy.out j
        obtain ⟨x, HX⟩ : ∃ x, Hid (valL (l.take j) = x) := ⟨_, rfl⟩
        rw [HX.out] at hv ⊢
        by_cases hlt : j < n
        · have hcell := hh j hlt
          obtain ⟨y, HY⟩ : ∃ y, Hid (l.getD j 0 = y) := ⟨_, rfl⟩
          rw [HY.out] at hcell
          have hx : x < 72057594037927936 := Nat.lt_of_lt_of_le hv (Nat.pow_le_pow_right (by omega) (by omega : j ≤ 7))
          clear hv hh
          have hjl : j < l.length := by rw [HL.out]; exact hlt
          have hy : 0 ≤ y ∧ y < 256 := by
            rw [← HY.out, getD_of_lt hjl]
            exact HBy.out _ (List.getElem_mem hjl)
          have HV : Hid ((valL (l.take (j + 1)) : Int) = (x : Int) * 256 + y) := by
            show _ = _
            rw [List.take_succ_eq_append_getElem hjl, valL_snoc, HX.out, ← getD_of_lt hjl, HY.out]
            omega
          obtain ⟨hy0, hy1⟩ := hy
          clear hjl
          go_wp2
          exact ⟨⟨j + 1, by omega, by go_num, by rw [HV.out]⟩, by simp [intOf]; omega⟩
        · have HV : Hid (valL l = x) := by
            show _ = _
            rw [← HX.out, List.take_of_length_le (by rw [HL.out]; omega)]
          clear hv hh
          go_wp2
          go_ret2
          exact ⟨by rw [HV.out]; rfl, rfl⟩
set_option maxHeartbeats 1000000 in
theorem rjoin_any (w : World) (v : Value) (ls : List (List Int)) (h : HL w v ls) (hbig : ls.flatten.length ≤ 140737488355328) :
    Calls Try.prog 14 #[v] w fun e w' => ∃ v', e = .returned v' ∧ w'.ownsRow w.heap.size 5 1 v' ls.flatten.length (ls.flatten.map (Value.int .u8)) ∧ Below w.heap.size w w' := by
  obtain ⟨p, c, e, hlc, hm⟩ := h.open
  unfold maxLen at hm
  have A : Hid (0 < ls.length → ∃ b off, p = some ⟨b, off, none⟩ ∧ ∀ j, j < ls.length → ∃ u, w.cell? ⟨b, off + j, none⟩ = some u ∧ HB w u (ls.getD j [])) := by
    intro h0
    obtain ⟨b, off, c', e', _, _, hh⟩ := h.ne h0
    rw [e] at e'
    simp only [Value.slice.injEq, true_and] at e'
    exact ⟨b, off, e'.1, hh⟩
  clear h
  subst e
  obtain ⟨fl, HF⟩ : ∃ fl : List Int, Hid (fl = ls.flatten) := ⟨_, rfl⟩
  rw [← HF.out] at hbig ⊢
  obtain ⟨N, HN⟩ : ∃ N, Hid (N = fl.length) := ⟨_, rfl⟩
  rw [← HN.out] at hbig ⊢
  go_enter Try.func14, Try.ntmps14
  go_wp2
  go_loopw [3, 4] (fun o i wr => ∃ k : Nat, k ≤ ls.length ∧ i = .int .i64 k ∧ wr.ownsRow w.heap.size 5 1 o (flatTo ls k).length ((flatTo ls k).map (Value.int .u8)) ∧ Below w.heap.size w wr) (fun _ i _ => ls.length - (intOf i).toNat)
  case atStart => exact ⟨0, Nat.zero_le _, rfl, World.ownsRow_nil _ _ _ _, Below.refl _ _⟩
  case round =>
    obtain ⟨k, hk, rfl, hown, hB⟩ := hrel
    by_cases hlt : k < ls.length
    · obtain ⟨b, off, rfl, hh⟩ := A.out (by omega)
      obtain ⟨u, hu0, hb⟩ := hh k hlt
      have hu : wr.cell? ⟨b, off + k, none⟩ = some u := (hB.cell (World.block_lt_of_cell? w _ hu0)).trans hu0
      have HBu := hid (hb.below hB)
      have HS : Hid (flatTo ls (k + 1) = flatTo ls k ++ ls.getD k []) := flat_snoc ls k hlt
      have HL2 : Hid ((flatTo ls k).length + (ls.getD k []).length ≤ 140737488355328) := by
        have := flat_take_le ls (k + 1)
        rw [flat_snoc ls k hlt, List.length_append, ← HF.out, ← HN.out] at this
        exact Nat.le_trans this hbig
      have HO := hid hown
      have HBel := hid hB
      obtain ⟨lk, HK⟩ : ∃ lk, Hid (lk = ls.getD k []) := ⟨_, rfl⟩
      rw [← HK.out] at HBu HS HL2 hb
      obtain ⟨p2, c2, hu2, _, _⟩ := hb.open
      clear hh hb hu0 hown hB
      subst hu2
      go_wp2_with (at_builtin; refine wpList_append_HB rfl _ _ rfl w.heap.size _ _ _ rfl HO.out _ _ rfl HBu.out ?q1 ?q2 ?_)
      case q1 => exact HL2.out
      case q2 => exact HBel.out.size
      intro v' w2 hown2 hgr2
      have HO2 : Hid (w2.ownsRow w.heap.size 5 1 v' (flatTo ls (k + 1)).length ((flatTo ls (k + 1)).map (Value.int .u8))) := by
        show World.ownsRow _ _ _ _ _ _ _
        rw [HS.out, List.length_append, List.map_append]
        exact hown2
      have HB2 : Hid (Below w.heap.size w w2) := HBel.out.grown hgr2 HBel.out.size (fun k e => (HO.out.lt k e).1)
      clear hown2 hgr2
      go_wp2
      exact ⟨⟨k + 1, by omega, by go_num, HO2.out, HB2.out⟩, by simp [intOf]; omega⟩
    · have HK : Hid (flatTo ls k = fl) := by
        show _ = _
        unfold flatTo
        rw [List.take_of_length_le (by omega), HF.out]
      go_wp2
      go_ret
      refine ⟨_, rfl, ?_, hB⟩
      rw [HK.out, ← HN.out] at hown
      exact hown
def framedTo (ls : List (List Int)) (k : Nat) : List Int := (pcsTo ls k).flatten
theorem framedTo_snoc (ls : List (List Int)) (k : Nat) (hk : k < ls.length) : framedTo ls (k + 1) = (framedTo ls k ++ bigL 8 (ls.getD k []).length) ++ ls.getD k [] := by
  unfold framedTo
  rw [pcs_snoc ls k hk]
  simp
theorem framedTo_le (ls : List (List Int)) (k : Nat) : (framedTo ls k).length ≤ ls.flatten.length + 8 * ls.length := by
  have h1 := framed_length (ls.take k)
  have h2 := flat_take_le ls k
  have h3 : (ls.take k).length ≤ ls.length := by rw [List.length_take]; omega
  unfold framed at h1
  unfold framedTo pcsTo
  omega
set_option maxHeartbeats 1000000 in
theorem rframed_any (w : World) (v : Value) (ls : List (List Int)) (h : HL w v ls) (hbig : ls.flatten.length + 8 * ls.length ≤ 140737488355328) :
    Calls Try.prog 15 #[v] w fun e w' => ∃ v', e = .returned v' ∧ w'.ownsRow w.heap.size 5 1 v' (framed ls).length ((framed ls).map (Value.int .u8)) ∧ Below w.heap.size w w' := by
  obtain ⟨p, c, e, hlc, hm⟩ := h.open
  unfold maxLen at hm
  have A : Hid (0 < ls.length → ∃ b off, p = some ⟨b, off, none⟩ ∧ ∀ j, j < ls.length → ∃ u, w.cell? ⟨b, off + j, none⟩ = some u ∧ HB w u (ls.getD j [])) := by
    intro h0
    obtain ⟨b, off, c', e', _, _, hh⟩ := h.ne h0
    rw [e] at e'
    simp only [Value.slice.injEq, true_and] at e'
    exact ⟨b, off, e'.1, hh⟩
  clear h
  subst e
  have HL3 : Hid (∀ k, (framedTo ls k).length ≤ 140737488355328) := fun k => Nat.le_trans (framedTo_le ls k) hbig
  clear hbig
  go_enter Try.func15, Try.ntmps15
  go_wp2
  go_loopw [3, 4] (fun o i wr => ∃ k : Nat, k ≤ ls.length ∧ i = .int .i64 k ∧ Hid (wr.ownsRow w.heap.size 5 1 o (framedTo ls k).length ((framedTo ls k).map (Value.int .u8))) ∧ Hid (Below w.heap.size w wr)) (fun _ i _ => ls.length - (intOf i).toNat)
  case atStart => exact ⟨0, Nat.zero_le _, rfl, World.ownsRow_nil _ _ _ _, Below.refl _ _⟩
  case round =>
    obtain ⟨k, hk, rfl, HO, HBel⟩ := hrel
    by_cases hlt : k < ls.length
    · obtain ⟨b, off, rfl, hh⟩ := A.out (by omega)
      obtain ⟨u, hu0, hb⟩ := hh k hlt
      have hblt := World.block_lt_of_cell? w _ hu0
      have hu : wr.cell? ⟨b, off + k, none⟩ = some u := (HBel.out.cell (p := ⟨b, off + k, none⟩) hblt).trans hu0
      have HS : Hid (framedTo ls (k + 1) = (framedTo ls k ++ bigL 8 (ls.getD k []).length) ++ ls.getD k []) := framedTo_snoc ls k hlt
      have HLk := hid (HL3.out (k + 1))
      obtain ⟨lk, HK⟩ : ∃ lk, Hid (ls.getD k [] = lk) := ⟨_, rfl⟩
      rw [HK.out] at HS hb
      rw [HS.out] at HLk
      obtain ⟨fk, HFK⟩ : ∃ fk, Hid (framedTo ls k = fk) := ⟨_, rfl⟩
      rw [HFK.out] at HS HLk HO
      obtain ⟨p2, c2, hu2, hlc2, hm2⟩ := hb.open
      unfold maxLen at hm2
      have HBw := hid hb
      clear hh hb
      subst hu2
      have hll : (lk.length : Int) < 18446744073709551616 := by omega
      obtain ⟨po, co, eo⟩ := own_slice HO.out
      subst eo
      go_wp2_with fail
      refine (rbig_any wr lk.length 8 (by omega) (by omega)).mono ?_
      rintro e w1 ⟨v1, rfl, ho1, hB1⟩
      have hbl : (bigL 8 lk.length).length = 8 := bigL_length _ _
      obtain ⟨bl, HBL⟩ : ∃ bl, Hid (bigL 8 lk.length = bl) := ⟨_, rfl⟩
      have hby : ∀ x ∈ bl, 0 ≤ x ∧ x < 256 := by rw [← HBL.out]; exact bigL_byt _ _
      rw [HBL.out] at hbl HS HLk ho1
      have HB1 : Hid (HB w1 v1 bl) := HB.of_own (by rw [hbl]; exact ho1) hby
      have HO1 := hid (own_mono (HO.out.kept (grown_below (r := none) hB1) (by cases (Value.slice po fk.length co).ownBlock <;> simp)) (Nat.le_refl _))
      have Bel1 := hid (HBel.out.trans (hB1.mono HBel.out.size))
      obtain ⟨p1, c1, e1, _, _⟩ := HB1.out.open
      subst e1
      have hu1 : w1.cell? ⟨b, off + k, none⟩ = some (.slice p2 lk.length c2) := (Bel1.out.cell (p := ⟨b, off + k, none⟩) hblt).trans hu0
      rw [List.length_append, List.length_append] at HLk
      have HLB := hid hbl
      clear ho1 hB1 hbl hby hu HO HBel
      go_wp2_with (at_builtin; refine wpList_append_HB rfl _ _ rfl w.heap.size _ _ _ rfl HO1.out _ _ rfl HB1.out ?q1 ?q2 ?_)
      case q1 => have := HLk.out; omega
      case q2 => exact Bel1.out.size
      intro v2 w2 hown2 hgr2
      have Bel2 := hid (Bel1.out.grown hgr2 Bel1.out.size (fun k e => (HO1.out.lt k e).1))
      have HO2 := hid hown2
      obtain ⟨po2, co2, eo2⟩ := own_slice hown2
      subst eo2
      have hu2 : w2.cell? ⟨b, off + k, none⟩ = some (.slice p2 lk.length c2) := (Bel2.out.cell (p := ⟨b, off + k, none⟩) hblt).trans hu0
      have HBw2 := hid (HBw.out.below Bel2.out)
      clear hown2 hgr2 hu1 HO1 Bel1 HB1
      go_wp2_with (at_builtin; refine wpList_append_HB rfl _ _ rfl w.heap.size _ _ _ rfl HO2.out _ _ rfl HBw2.out ?q1 ?q2 ?_)
      case q1 => have := HLk.out; omega
      case q2 => exact Bel2.out.size
      intro v3 w3 hown3 hgr3
      have HO3 : Hid (w3.ownsRow w.heap.size 5 1 v3 (framedTo ls (k + 1)).length ((framedTo ls (k + 1)).map (Value.int .u8))) := by
        show World.ownsRow _ _ _ _ _ _ _
        rw [HS.out, List.length_append, List.length_append, List.map_append, List.map_append, List.append_assoc]
        exact hown3
      have HB3 : Hid (Below w.heap.size w w3) := Bel2.out.grown hgr3 Bel2.out.size (fun k e => (HO2.out.lt k e).1)
      clear hown3 hgr3
      go_wp2
      exact ⟨⟨k + 1, by omega, by go_num, HO3, HB3⟩, by simp [intOf]; omega⟩
    · have HK : Hid (framedTo ls k = framed ls) := by
        show _ = _
        unfold framedTo pcsTo framed
        rw [List.take_of_length_le (by omega)]
      rw [HK.out] at HO
      go_wp2
      go_ret
      exact ⟨_, rfl, HO.out, HBel.out⟩
theorem HB.mid {w : World} {b o c : Nat} {l : List Int} (h : HB w (.slice (some ⟨b, o, none⟩) l.length c) l) (i n : Nat) (hn : i + n ≤ l.length) (hc : l.length ≤ c) : HB w (.slice (if c = i then some ⟨b, o, none⟩ else some ⟨b, o + i, none⟩) n (c - i)) ((l.drop i).take n) := by
  have h1 := h.sliced i (i + n) c (by omega) hn (by omega) (Nat.le_refl _)
  rw [show i + n - i = n by omega, List.drop_take, show i + n - i = n by omega] at h1
  rw [show Option.map (fun x : Addr => x.add i) (some ⟨b, o, none⟩) = some ⟨b, o + i, none⟩ by simp [Addr.add]] at h1
  exact h1
set_option maxHeartbeats 4000000 in
theorem runframed_any (w : World) (v : Value) (raw : List Int) (h : HB w v raw) (hbig : raw.length ≤ 40000000000000) :
    Calls Try.prog 16 #[v] w fun e w' => ∃ v' n, e = .returned (.tuple #[v', .int .i64 n]) ∧ UAns w w' raw v' n ∧ Below w.heap.size w w' := by
  obtain ⟨p, c, e, hlc, hm⟩ := h.open
  unfold maxLen at hm
  have H := hid h
  have HP : Hid (0 < raw.length → ∃ b o, p = some ⟨b, o, none⟩) := by
    intro h0
    obtain ⟨b, o, c', e', _⟩ := h.ne h0
    rw [e] at e'
    simp only [Value.slice.injEq, true_and] at e'
    exact ⟨b, o, e'.1⟩
  clear h
  subst e
  have sz := size_u8
  go_enter Try.func16, Try.ntmps16
  go_wp2
  go_loopw [4, 5] (fun o i wr => ∃ (ls : List (List Int)) (k : Nat), k ≤ raw.length ∧ i = .int .i64 (k : Int) ∧ Hid (OWL w wr o ls) ∧ Hid (Below w.heap.size w wr) ∧ Hid (UInv raw ls false (raw.drop k))) (fun _ i _ => raw.length - (intOf i).toNat)
  case atStart => exact ⟨[], 0, Nat.zero_le _, rfl, OWL.nil _ _, Below.refl _ _, UInv.start raw⟩
  case round =>
    obtain ⟨ls, k, hk, rfl, HO, HBw, HU⟩ := hrel
    by_cases h0 : k < raw.length
    · obtain ⟨b, o, rfl⟩ := HP.out (by omega)
      have hlt : (k : Int) < (raw.length : Int) := by omega
      obtain ⟨l, HL⟩ : ∃ l, Hid (raw.drop k = l) := ⟨_, rfl⟩
      have hll : l.length = raw.length - k := by rw [← HL.out, List.length_drop]
      have HLL := hid hll
      rw [HL.out] at HU
      by_cases h8 : raw.length - k < 8
      · have HA : Hid (UAns w wr raw (.slice none 0 0) 13) := .inr ⟨rfl, rfl, HU.out.none (no_frames_short (by rw [HLL.out]; omega) (by rw [HLL.out]; omega))⟩
        have hlt8 : (raw.length : Int) - (k : Int) < 8 := by omega
        have hwr : IntKind.i64.wrap ((raw.length : Int) - (k : Int)) = (raw.length : Int) - (k : Int) := by rw [IntKind.wrap_i64]; omega
        clear hll
        go_wp2
        go_ret2
        exact ⟨_, _, rfl, HA.out, HBw.out⟩
      · have hlt8 : ¬ (raw.length : Int) - (k : Int) < 8 := by omega
        have hwr : IntKind.i64.wrap ((raw.length : Int) - (k : Int)) = (raw.length : Int) - (k : Int) := by rw [IntKind.wrap_i64]; omega
        have hw8 : IntKind.i64.wrap ((k : Int) + 8) = ((k + 8 : Nat) : Int) := by rw [IntKind.wrap_i64]; omega
        have g1 : ((k : Int)) ≤ ((k + 8 : Nat) : Int) := by omega
        have g2 : ((k + 8 : Nat) : Int) ≤ c := by omega
        have g3 : c ≠ k := by omega
        have S1 : Hid (HB wr (.slice (some ⟨b, o + k, none⟩) 8 (c - k)) (l.take 8)) := by
          have := (H.out.below HBw.out).mid k 8 (by omega) hlc
          rw [if_neg g3, HL.out] at this
          exact this
        clear hll
        go_wp2_with fail
        refine (rsmall_any wr _ (l.take 8) 8 S1.out (by omega) (by omega)).mono ?_
        rintro e w2 ⟨rfl, hw⟩
        have hw' := hw.symm
        subst hw'
        clear hw S1
        obtain ⟨N, HN⟩ : ∃ N : Nat, Hid (smallNo 8 (l.take 8) = N) := ⟨_, rfl⟩
        rw [HN.out]
        have HV : Hid (N = valL (l.take 8)) := by
          show _ = _
          rw [← HN.out, smallNo, if_pos (by simp; rw [HLL.out]; omega)]
        have hby : ∀ x ∈ l, 0 ≤ x ∧ x < 256 := by rw [← HL.out]; exact fun x hx => H.out.2 x (List.mem_of_mem_drop hx)
        have hNb : N < 18446744073709551616 := by
          rw [HV.out]
          have := valL_take_lt l hby 8
          omega
        have HBY := hid hby
        clear hby
        have hw9 : IntKind.i64.wrap ((raw.length : Int) - ((k : Int) + 8)) = (raw.length : Int) - ((k : Int) + 8) := by rw [IntKind.wrap_i64]; omega
        have hwu : IntKind.u64.wrap ((raw.length : Int) - ((k : Int) + 8)) = (raw.length : Int) - ((k : Int) + 8) := by rw [IntKind.wrap_u64]; omega
        by_cases hgt : raw.length - (k + 8) < N
        · have HA : Hid (UAns w wr raw (.slice none 0 0) 13) := .inr ⟨rfl, rfl, HU.out.none (no_frames_long (by rw [HLL.out]; omega) (by rw [← HV.out, List.length_drop, HLL.out]; omega))⟩
          have hd : (raw.length : Int) - ((k : Int) + 8) < (N : Int) := by omega
          have hdd : decide ((raw.length : Int) - ((k : Int) + 8) < (N : Int)) = true := decide_eq_true hd
          go_wp2
          go_ret2
          exact ⟨_, _, rfl, HA.out, HBw.out⟩
        · have hd : ¬ (raw.length : Int) - ((k : Int) + 8) < (N : Int) := by omega
          have hdd : decide ((raw.length : Int) - ((k : Int) + 8) < (N : Int)) = false := decide_eq_false hd
          have hwN : IntKind.i64.wrap (N : Int) = (N : Int) := by rw [IntKind.wrap_i64]; omega
          have hwK : IntKind.i64.wrap ((k : Int) + 8 + (N : Int)) = (k : Int) + 8 + (N : Int) := by rw [IntKind.wrap_i64]; omega
          have g5 : (k : Int) + 8 ≤ (k : Int) + 8 + (N : Int) := by omega
          have g6 : (k : Int) + 8 + (N : Int) ≤ c := by omega
          have S0 : Hid (HB wr (.slice (if c = k + 8 then some ⟨b, o, none⟩ else some ⟨b, o + (k + 8), none⟩) N (c - (k + 8))) ((l.drop 8).take N)) := by
            have := (H.out.below HBw.out).mid (k + 8) N (by omega) hlc
            rw [← List.drop_drop, HL.out] at this
            exact this
          have HLE : Hid (((l.drop 8).take N).length = N) := by
            show _ = _
            rw [List.length_take, List.length_drop, HLL.out]; omega
          have HU3 : Hid (UInv raw (ls ++ [(l.drop 8).take N]) false (raw.drop (k + 8 + N))) := by
            show UInv _ _ _ _
            have := UInv.step (by omega) HBY.out HU.out (by rw [HLL.out]; omega) (by rw [← HV.out, List.length_drop, HLL.out]; omega)
            rw [← HV.out, List.drop_drop] at this
            rw [show k + 8 + N = k + (8 + N) by omega, ← List.drop_drop, HL.out]
            exact this
          by_cases hck : c = k + 8
          · have hN0 : N = 0 := by omega
            have S2 := S0
            rw [if_pos hck] at S2
            clear S0
            subst hck hN0
            obtain ⟨pe, HPE⟩ : ∃ pe, Hid ((l.drop 8).take 0 = pe) := ⟨_, rfl⟩
            rw [HPE.out] at HLE S2 HU3
            have HPB : Hid (BytI pe) := by rw [← HPE.out]; exact fun x hx => HBY.out x (List.mem_of_mem_drop (List.mem_of_mem_take hx))
            go_wp2_with (at_builtin; refine wpList_append_HB rfl _ _ rfl w.heap.size _ 0 [] rfl (World.ownsRow_nil _ _ _ _) _ _ rfl S2.out ?q1 ?q2 ?_)
            case q1 => have := HLE.out; rw [this]; omega
            case q2 => exact HBw.out.size
            intro v3 w3 hown3 hgr3
            have hB3 : Below w.heap.size w w3 := HBw.out.grown hgr3 HBw.out.size (fun k e => by cases e)
            have hG3 : Below wr.heap.size wr w3 := (Below.refl _ wr).grown hgr3 (Nat.le_refl _) (fun k e => by cases e)
            have hO3 := HO.out.below hG3
            have hel : EL w w3 v3 pe := .inl ⟨hown3, HPB.out⟩
            obtain ⟨p3, c3, e3⟩ := own_slc hown3
            obtain ⟨W4, hW4⟩ : ∃ W4, W4 = w3.alloc (.cells #[v3] 23) := ⟨_, rfl⟩
            have hal : Below w3.heap.size w3 W4 := by rw [hW4]; exact (Below.refl _ _).alloc (Nat.le_refl _) _
            have HO4 := hid (hO3.below hal)
            have HE4 := hid (hel.below hal)
            have HB4 := hid (hB3.trans (hal.mono hB3.size))
            rw [hW4] at HO4 HE4 HB4
            have hll : 8 * ls.length ≤ raw.length + 8 := HU.out.1
            have HPL := hid HLE.out
            clear hO3 hel hB3 hG3 hal hW4 W4 hgr3 hown3 HPB HPE
            subst e3
            go_wp2_with (at_builtin; refine wpList_append_OWL (w0 := w) rfl _ _ rfl _ ls rfl HO4.out ⟨w3.heap.size, 0, none⟩ 1 1 [_] [pe] rfl rfl rfl (cell_one_new _ _ _) ?q1 ?q2 ?q3 ?q4 ?_)
            case q1 => intro j hj; have : j = 0 := by omega
                       subst this; exact HE4.out
            case q2 => intro u hu; simp only [List.mem_singleton] at hu; subst hu; rfl
            case q3 => omega
            case q4 => exact HB4.out.size
            intro v5 w5 hO5 hg5 hbk
            have HO5 := hid hO5
            have HB5 := hid (HB4.out.grown hg5 HB4.out.size (fun k e => (hbk k e).1))
            clear hO5 hg5 hbk
            go_wp2
            exact ⟨⟨_, k + 8, by omega, by go_num, HO5, HB5, (by simpa using HU3)⟩, by simp [intOf]; omega⟩
          · have S2 : Hid (HB wr (.slice (some ⟨b, o + (k + 8), none⟩) (k + 8 + N - (k + 8)) (c - (k + 8))) ((l.drop 8).take N)) := by
              rw [if_neg hck] at S0
              show HB _ _ _
              rw [Nat.add_sub_cancel_left]
              exact S0.out
            clear S0
            obtain ⟨pe, HPE⟩ : ∃ pe, Hid ((l.drop 8).take N = pe) := ⟨_, rfl⟩
            rw [HPE.out] at HLE S2 HU3
            have HPB : Hid (BytI pe) := by rw [← HPE.out]; exact fun x hx => HBY.out x (List.mem_of_mem_drop (List.mem_of_mem_take hx))
            go_wp2_with (at_builtin; refine wpList_append_HB rfl _ _ rfl w.heap.size _ 0 [] rfl (World.ownsRow_nil _ _ _ _) _ _ rfl S2.out ?q1 ?q2 ?_)
            case q1 => have := HLE.out; rw [this]; omega
            case q2 => exact HBw.out.size
            intro v3 w3 hown3 hgr3
            have hB3 : Below w.heap.size w w3 := HBw.out.grown hgr3 HBw.out.size (fun k e => by cases e)
            have hG3 : Below wr.heap.size wr w3 := (Below.refl _ wr).grown hgr3 (Nat.le_refl _) (fun k e => by cases e)
            have hO3 := HO.out.below hG3
            have hel : EL w w3 v3 pe := .inl ⟨hown3, HPB.out⟩
            obtain ⟨p3, c3, e3⟩ := own_slc hown3
            obtain ⟨W4, hW4⟩ : ∃ W4, W4 = w3.alloc (.cells #[v3] 23) := ⟨_, rfl⟩
            have hal : Below w3.heap.size w3 W4 := by rw [hW4]; exact (Below.refl _ _).alloc (Nat.le_refl _) _
            have HO4 := hid (hO3.below hal)
            have HE4 := hid (hel.below hal)
            have HB4 := hid (hB3.trans (hal.mono hB3.size))
            rw [hW4] at HO4 HE4 HB4
            have hll : 8 * ls.length ≤ raw.length + 8 := HU.out.1
            have HPL := hid HLE.out
            clear hO3 hel hB3 hG3 hal hW4 W4 hgr3 hown3 HPB HPE
            subst e3
            go_wp2_with (at_builtin; refine wpList_append_OWL (w0 := w) rfl _ _ rfl _ ls rfl HO4.out ⟨w3.heap.size, 0, none⟩ 1 1 [_] [pe] rfl rfl rfl (cell_one_new _ _ _) ?q1 ?q2 ?q3 ?q4 ?_)
            case q1 => intro j hj; have : j = 0 := by omega
                       subst this; exact HE4.out
            case q2 => intro u hu; simp only [List.mem_singleton] at hu; subst hu; rfl
            case q3 => omega
            case q4 => exact HB4.out.size
            intro v5 w5 hO5 hg5 hbk
            have HO5 := hid hO5
            have HB5 := hid (HB4.out.grown hg5 HB4.out.size (fun k e => (hbk k e).1))
            clear hO5 hg5 hbk
            go_wp2
            exact ⟨⟨_, k + 8 + N, by omega, by go_num, HO5, HB5, HU3⟩, by simp [intOf]; omega⟩
    · have hk2 : k = raw.length := by omega
      have HA : Hid (UAns w wr raw u4 0) := by
        refine .inl ⟨rfl, ls, HO.out, HU.out.2.2.1, ?_⟩
        have := HU.out.2.2.2.1 rfl
        rw [hk2, List.drop_length, List.append_nil] at this
        exact this.symm
      have hlt : ¬ (k : Int) < (raw.length : Int) := by omega
      clear hk2
      go_wp2
      go_ret2
      exact ⟨_, _, rfl, HA.out, HBw.out⟩
attribute [local go_sem ↓] Go.wp_at_zero Go.wp_at_succ
def LsV (B : Nat) (w : World) (O : Nat) (vF vE : Value) (fU eU : List Value) (ms : List (List Int)) : Prop :=
  (B < O ∧ w.heap[B]? = some (.cells #[.slice none 0 0, .slice none 0 0, .slice none 0 0] 25 (0, 0))) ∧ w.heap[O]? = some (.cells #[.slice none 0 0, vF, vE] 25 (0, 0)) ∧ w.ownsRow B 23 1 vF fU.length fU ∧ w.ownsRow B 23 1 vE ms.length eU ∧
    (∀ k, vF.ownBlock = some k → vE.ownBlock ≠ some k) ∧ Apt B w eU (ms.map lent) ∧
    ∀ j, j < fU.length → j < ms.length → ∃ p c, eU.getD j undef = .slice p ((ms.getD j []).length + 70) c ∧ fU.getD j undef = .slice p (ms.getD j []).length c
theorem LsV.block {B : Nat} {w : World} {O : Nat} {vF vE : Value} {fU eU : List Value} {ms : List (List Int)} (h : LsV B w O vF vE fU eU ms) : BT w O 25 := ⟨_, _, h.2.1⟩
theorem own_away {w w' : World} {B n : Nat} {e : TypeId} {v : Value} {xs : List Value} {row : Option Nat} (h : w.ownsRow B e 1 v n xs) (hg : w.grownBy w' row) (hr : ∀ k, row = some k → v.ownBlock ≠ some k) : w'.ownsRow B e 1 v n xs := by
  refine h.kept hg ?_
  cases hrow : row with
  | none => cases v.ownBlock <;> simp
  | some k => exact .inr (hr k hrow)
theorem LsV.away {B : Nat} {w w' : World} {O : Nat} {vF vE : Value} {fU eU : List Value} {ms : List (List Int)} {row : Option Nat} (h : LsV B w O vF vE fU eU ms) (hg : w.grownBy w' row) (hr : ∀ k, row = some k → k ≠ O ∧ vF.ownBlock ≠ some k ∧ vE.ownBlock ≠ some k ∧ k ≠ B ∧ ∃ e, BT w k e ∧ e ≠ 5) : LsV B w' O vF vE fU eU ms := by
  obtain ⟨h0, h1, h2, h3, h4, h5, h6⟩ := h
  refine ⟨⟨h0.1, by rw [hg.block B (Array.getElem?_eq_some_iff.1 h0.2).1 (fun e => (hr B e.symm).2.2.2.1 rfl)]; exact h0.2⟩, ?_, own_away h2 hg (fun k e => (hr k e).2.1), own_away h3 hg (fun k e => (hr k e).2.2.1), h4, h5.away hg (fun k e => (hr k e).2.2.2.2), h6⟩
  rw [hg.block O (Array.getElem?_eq_some_iff.1 h1).1 (fun e => (hr O e.symm).1 rfl)]
  exact h1
theorem LsV.below {B : Nat} {w w' : World} {O : Nat} {vF vE : Value} {fU eU : List Value} {ms : List (List Int)} (h : LsV B w O vF vE fU eU ms) (hb : Below w.heap.size w w') : LsV B w' O vF vE fU eU ms :=
  h.away (grown_below (r := none) hb) (fun k e => by cases e)
theorem LsV.each {B : Nat} {w w2 : World} {O : Nat} {vF vE vE' : Value} {fU eU : List Value} {ms : List (List Int)} {o : Obj} (h : LsV B w O vF vE fU eU ms) (hg : (w.alloc o).grownBy w2 vE.ownBlock) {u : Value} {x : List Int}
    (hu : w.ownsRow B 5 1 u (lent x).length ((lent x).map (Value.int .u8))) (hd : ∀ j, j < eU.length → u.ownBlock = none ∨ u.ownBlock ≠ (eU.getD j undef).ownBlock) (hle : fU.length ≤ ms.length)
    (hown : w2.ownsRow B 23 1 vE' (ms.length + 1) (eU ++ [u])) (hloc : vE'.ownBlock = vE.ownBlock ∨ vE'.ownBlock = some (w.heap.size + 1)) :
    w2.heap[O]? = some (.cells #[.slice none 0 0, vF, vE] 25 (0, 0)) ∧ LsV B (w2.setCell ⟨O, 2, none⟩ vE') O vF vE' fU (eU ++ [u]) (ms ++ [x]) := by
  have h' : LsV B (w.alloc o) O vF vE fU eU ms := h.away (World.grownBy_alloc w o none) (fun k e => by cases e)
  have hu' := hu.alloc o
  obtain ⟨h0, h1, h2, h3, h4, h5, h6⟩ := h'
  have bk : ∀ k, vE.ownBlock = some k → BT (w.alloc o) k 23 := own_BT h3
  have a2 := own_away h2 hg (fun k e => fun e2 => h4 k e2 e)
  have a5 := h5.away hg (fun k e => ⟨_, bk k e, by decide⟩)
  have au := own_away hu' hg (fun k e => by obtain ⟨cur, fz, hb⟩ := bk k e; exact own_block_ne hu' hb (by decide))
  have hb2 : w2.heap[O]? = some (.cells #[.slice none 0 0, vF, vE] 25 (0, 0)) := by
    rw [hg.block O (Array.getElem?_eq_some_iff.1 h1).1 (fun e => own_block_ne h3 h1 (by decide) e.symm)]
    exact h1
  have hB2 : w2.heap[B]? = some (.cells #[.slice none 0 0, .slice none 0 0, .slice none 0 0] 25 (0, 0)) := by
    rw [hg.block B (Array.getElem?_eq_some_iff.1 h0.2).1 (fun e => own_block_ne h3 h0.2 (by decide) e.symm)]
    exact h0.2
  have gs := grown_set w2 O 2 vE'
  have bO : BT w2 O 25 := ⟨_, _, hb2⟩
  refine ⟨hb2, ⟨h0.1, by rw [gs.block B (Array.getElem?_eq_some_iff.1 hB2).1 (by have := h0.1; simp; omega)]; exact hB2⟩, ?_, own_away a2 gs (fun k e => by cases e; exact own_block_ne a2 hb2 (by decide)), ?_, ?_, ?_, ?_⟩
  · rw [heap_setCell_same w2 O 2 _ _ vE' hb2]; rfl
  · rw [List.length_append, List.length_singleton]
    exact own_away hown gs (fun k e => by cases e; exact own_block_ne hown hb2 (by decide))
  · intro k hk e
    rcases hloc with h | h
    · rw [h] at e; exact h4 k hk e
    · rw [h] at e
      have := (h2.lt k hk).2
      simp at this e
      omega
  · rw [List.map_append]
    exact (a5.away gs (fun k e => by cases e; exact ⟨_, bO, by decide⟩)).snoc (own_away au gs (fun k e => by cases e; exact own_block_ne au hb2 (by decide))) hd
  · intro j hj hj2
    have hl : eU.length = ms.length := by have := h5.1; simpa using this
    rw [getD_app, getD_app, if_pos (by omega), if_pos (by omega)]
    exact h6 j hj (by omega)
theorem LsV.full {B : Nat} {w w2 : World} {O : Nat} {vF vE vF' : Value} {fU eU : List Value} {ms : List (List Int)} {o : Obj} (h : LsV B w O vF vE fU eU ms) (hg : (w.alloc o).grownBy w2 vF.ownBlock) {u : Value}
    (hu : fU.length < ms.length → ∃ p c, eU.getD fU.length undef = .slice p ((ms.getD fU.length []).length + 70) c ∧ u = .slice p (ms.getD fU.length []).length c)
    (hown : w2.ownsRow B 23 1 vF' (fU.length + 1) (fU ++ [u])) (hloc : vF'.ownBlock = vF.ownBlock ∨ vF'.ownBlock = some (w.heap.size + 1)) :
    w2.heap[O]? = some (.cells #[.slice none 0 0, vF, vE] 25 (0, 0)) ∧ LsV B (w2.setCell ⟨O, 1, none⟩ vF') O vF' vE (fU ++ [u]) eU ms := by
  have h' : LsV B (w.alloc o) O vF vE fU eU ms := h.away (World.grownBy_alloc w o none) (fun k e => by cases e)
  obtain ⟨h0, h1, h2, h3, h4, h5, h6⟩ := h'
  have bk : ∀ k, vF.ownBlock = some k → BT (w.alloc o) k 23 := own_BT h2
  have a3 := own_away h3 hg (fun k e => h4 k e)
  have a5 := h5.away hg (fun k e => ⟨_, bk k e, by decide⟩)
  have hb2 : w2.heap[O]? = some (.cells #[.slice none 0 0, vF, vE] 25 (0, 0)) := by
    rw [hg.block O (Array.getElem?_eq_some_iff.1 h1).1 (fun e => own_block_ne h2 h1 (by decide) e.symm)]
    exact h1
  have hB2 : w2.heap[B]? = some (.cells #[.slice none 0 0, .slice none 0 0, .slice none 0 0] 25 (0, 0)) := by
    rw [hg.block B (Array.getElem?_eq_some_iff.1 h0.2).1 (fun e => own_block_ne h2 h0.2 (by decide) e.symm)]
    exact h0.2
  have gs := grown_set w2 O 1 vF'
  have bO : BT w2 O 25 := ⟨_, _, hb2⟩
  refine ⟨hb2, ⟨h0.1, by rw [gs.block B (Array.getElem?_eq_some_iff.1 hB2).1 (by have := h0.1; simp; omega)]; exact hB2⟩, ?_, ?_, own_away a3 gs (fun k e => by cases e; exact own_block_ne a3 hb2 (by decide)), ?_, a5.away gs (fun k e => by cases e; exact ⟨_, bO, by decide⟩), ?_⟩
  · rw [heap_setCell_same w2 O 1 _ _ vF' hb2]; rfl
  · rw [List.length_append, List.length_singleton]
    exact own_away hown gs (fun k e => by cases e; exact own_block_ne hown hb2 (by decide))
  · intro k hk e
    rcases hloc with h | h
    · rw [h] at hk; exact h4 k hk e
    · rw [h] at hk
      have := (h3.lt k e).2
      simp at this hk
      omega
  · intro j hj hj2
    rw [List.length_append, List.length_singleton] at hj
    rw [getD_app]
    by_cases hjl : j < fU.length
    · rw [if_pos hjl]; exact h6 j hjl hj2
    · have : j = fU.length := by omega
      subst this
      rw [if_neg (by omega), Nat.sub_self]
      exact hu hj2
def MkV (B : Nat) (w : World) (fU : List Value) (n J : Nat) : Prop :=
  ∀ j, j < J → w.ownsRow B 5 1 (fU.getD (n + j) undef) 2 [.int .u8 j, .int .u8 99]
theorem MkV.away {B : Nat} {w w' : World} {fU : List Value} {n J : Nat} {row : Option Nat} (h : MkV B w fU n J) (hg : w.grownBy w' row) (hr : ∀ k, row = some k → ∃ e, BT w k e ∧ e ≠ 5) : MkV B w' fU n J := fun j hj =>
  own_away (h j hj) hg (fun k e => by obtain ⟨e', ⟨cur, fz, hb⟩, hne⟩ := hr k e; exact own_block_ne (h j hj) hb (Ne.symm hne))
theorem size_bytes : ∀ w, Sem.run Try.prog (Go.sizeOf 23) w = .ok 1 w := fun w => by
  obtain ⟨i0, hi, hz0, hz1, hz2⟩ := info_parts info_bytes
  simp [Go.sizeOf, typeInfo, hi, hz1]
theorem size_lists : (Try.prog.info? 25).map (·.size) = some 3 := by kernel_rfl
def XL (B : Nat) (w : World) (vL vF vE : Value) (fU eU : List Value) (ls : List (List Int)) : Prop :=
  w.ownsRow B 23 1 vF (ls.length + 70) fU ∧ w.ownsRow B 23 1 vE ls.length eU ∧ (∀ k, vF.ownBlock = some k → vE.ownBlock ≠ some k) ∧ Apt B w eU (ls.map lent) ∧
    (∀ j, j < ls.length → ∃ p c, eU.getD j undef = .slice p ((ls.getD j []).length + 70) c ∧ fU.getD j undef = .slice p (ls.getD j []).length c) ∧ MkV B w fU ls.length 70 ∧ ∃ p c, vF = .slice p (ls.length + 70) c ∧ vL = .slice p ls.length c
theorem XL.away {B : Nat} {w w' : World} {vL vF vE : Value} {fU eU : List Value} {ls : List (List Int)} {row : Option Nat} (h : XL B w vL vF vE fU eU ls) (hg : w.grownBy w' row) (hr : ∀ k, row = some k → ∃ e, BT w k e ∧ e ≠ 5 ∧ e ≠ 23) : XL B w' vL vF vE fU eU ls := by
  obtain ⟨h1, h2, h3, h4, h5, h6, h7⟩ := h
  have ne : ∀ {v n xs}, w.ownsRow B 23 1 v n xs → ∀ k, row = some k → v.ownBlock ≠ some k := fun {v n xs} h k e => by
    obtain ⟨e', ⟨cur, fz, hb⟩, _, hne⟩ := hr k e
    exact own_block_ne h hb (Ne.symm hne)
  exact ⟨own_away h1 hg (ne h1), own_away h2 hg (ne h2), h3, h4.away hg (fun k e => by obtain ⟨e', hb, hne, _⟩ := hr k e; exact ⟨e', hb, hne⟩), h5, h6.away hg (fun k e => by obtain ⟨e', hb, hne, _⟩ := hr k e; exact ⟨e', hb, hne⟩), h7⟩
theorem three_cells {w : World} {g : Nat} {a b c : Value} {T : TypeId} (h : w.heap[g]? = some (.cells #[a, b, c] T (0, 0))) :
    w.cell? ⟨g, 0, none⟩ = some a ∧ w.cell? ⟨g, 1, none⟩ = some b ∧ w.cell? ⟨g, 2, none⟩ = some c ∧ w.frozen? ⟨g, 0, none⟩ = false ∧ w.frozen? ⟨g, 1, none⟩ = false ∧ w.frozen? ⟨g, 2, none⟩ = false := by
  simp [World.cell?, World.frozen?, h]
set_option maxRecDepth 100000 in
set_option maxHeartbeats 2000000 in
theorem lentLists_any (w : World) (v : Value) (ls : List (List Int)) (h : HL w v ls) (hn : ls.length ≤ 1048576) (hb : ∀ j, (ls.getD j []).length ≤ 1048576) :
    Calls Try.prog 5 #[v] w fun e w' => ∃ vL vF vE fU eU, e = .returned (.agg #[vL, vF, vE]) ∧ XL w.heap.size w' vL vF vE fU eU ls ∧ Below w.heap.size w w' := by
  obtain ⟨p, c, rfl, hlc, hm, hpc, hcl⟩ := h
  have HC : Hid (0 < ls.length → _) := fun h0 => hcl (by intro e; subst e; simp at h0)
  clear hcl
  unfold maxLen at hm
  have sz := size_u8
  have HBd := hid hb
  clear hb
  obtain ⟨W0, hW0⟩ : ∃ W0, Hid ((w.alloc (.cells #[.slice none 0 0, .slice none 0 0, .slice none 0 0] 25)).alloc (.cells #[.slice none 0 0, .slice none 0 0, .slice none 0 0] 25) = W0) := ⟨_, rfl⟩
  have B0 : Hid (Below w.heap.size w W0) := by rw [← hW0.out]; exact ((Below.refl _ w).alloc (Nat.le_refl _) _).alloc (by simp) _
  have L0 : Hid (LsV w.heap.size W0 (w.heap.size + 1) (.slice none 0 0) (.slice none 0 0) [] [] []) := by
    rw [← hW0.out]
    exact ⟨⟨by omega, heap_alloc2_old _ _ _⟩, heap_alloc2_new _ _ _, World.ownsRow_nil _ _ _ _, World.ownsRow_nil _ _ _ _, fun k e => by simp [Value.ownBlock] at e, ⟨rfl, fun k hk => by simp at hk, fun i j hi => by simp at hi⟩, fun j hj => by simp at hj⟩
  go_enter Try.func5, Try.ntmps5
  go_wp2_with fail
  rw [hW0.out]
  clear hW0
  obtain ⟨O, hO⟩ : ∃ O, w.heap.size + 1 = O := ⟨_, rfl⟩
  rw [hO] at L0 ⊢
  go_loopw [4] (fun i wr => ∃ I : Nat, I ≤ ls.length ∧ i = .int .i64 I ∧ ∃ vF vE fU eU, fU.length = I ∧ Hid (LsV w.heap.size wr O vF vE fU eU (ls.take I)) ∧ Hid (Below w.heap.size w wr)) (fun i _ => ls.length - (intOf i).toNat)
  case atStart => exact ⟨0, Nat.zero_le _, rfl, _, _, _, _, rfl, L0, B0⟩
  case round =>
    clear L0 B0
    obtain ⟨I, hI, rfl, vF, vE, fU, eU, hfl, HL1, HB1⟩ := hrel
    by_cases hlt : I < ls.length
    · obtain ⟨b, off, rfl, hh⟩ := HC.out (by omega)
      obtain ⟨u, hcu, hu⟩ := hh I hlt
      have hblt := World.block_lt_of_cell? w _ hcu
      obtain ⟨x, HX⟩ : ∃ x, Hid (ls.getD I [] = x) := ⟨_, rfl⟩
      rw [HX.out] at hu
      have hxl : x.length ≤ 1048576 := by rw [← HX.out]; exact HBd.out I
      obtain ⟨pu, cu, eu, _, hmu⟩ := hu.open
      unfold maxLen at hmu
      have HU := hid (hu.below HB1.out)
      have BY := hid hu.2
      subst eu
      have hcr : wr.cell? ⟨b, off + I, none⟩ = some (.slice pu x.length cu) := (HB1.out.cell (p := ⟨b, off + I, none⟩) hblt).trans hcu
      clear hh hu
      go_wp2_with fail
      refine (lent_any wr _ x HU.out (by omega)).mono ?_
      rintro e w1 ⟨v1, rfl, ho1, hB1⟩
      obtain ⟨p1, c1, e1⟩ := own_slice ho1
      rw [lent_length] at e1
      subst e1
      have F1 := HB.of_own ho1 (lent_byt BY.out)
      have hc1 : x.length ≤ c1 := by
        obtain ⟨p, c, e, h1, _⟩ := F1.open
        rw [lent_length] at e h1
        cases e
        omega
      have L1 := hid (HL1.out.below hB1)
      have O1 := hid ho1
      have B1 := hid (HB1.out.trans (hB1.mono HB1.out.size))
      have hs1 := hB1.size
      have hs0 := HB1.out.size
      have hd1 : Hid (∀ j, j < eU.length → (Value.slice p1 (x.length + 70) c1).ownBlock = none ∨ (Value.slice p1 (x.length + 70) c1).ownBlock ≠ (eU.getD j undef).ownBlock) := by
        intro j hj
        have h1 := (HL1.out.2.2.2.2.2.1.2.1 j hj).lt
        cases hu1 : (Value.slice p1 (x.length + 70) c1).ownBlock with
        | none => exact .inl rfl
        | some k =>
          right
          intro e
          have h3 := h1 k e.symm
          have h4 := ho1.lt k hu1
          omega
      obtain ⟨pF, cF, eF⟩ := own_slice HL1.out.2.2.1
      obtain ⟨pE, cE, eE⟩ := own_slice HL1.out.2.2.2.1
      have htl : (ls.take I).length = I := by rw [List.length_take]; omega
      rw [hfl] at eF
      rw [htl] at eE
      subst eF eE
      obtain ⟨_, k1, k2, _, f1, f2⟩ := three_cells L1.out.2.1
      have hown0 : (w1).ownsRow w.heap.size 23 1 (.slice pE I cE) I eU := by have := L1.out.2.2.2.1; rw [htl] at this; exact this
      have OE := hid hown0
      clear ho1 hB1 HL1 HB1 HU hown0 F1
      go_wp2_with (at_builtin; refine wpList_append_slice rfl _ _ rfl w.heap.size _ I eU rfl (OE.out.alloc _) ⟨w1.heap.size, 0, none⟩ 1 (.slice p1 (x.length + 70) c1) rfl ?q0 rfl ?q1 ?q2 ?_)
      case q0 => exact cell_one_new _ _ _ 0 _ rfl
      case q1 => omega
      case q2 => simp; omega
      intro vE' w2 hown2 hg2 hloc2
      obtain ⟨pE2, cE2, eE2⟩ := own_slice hown2
      subst eE2
      have hlt2 : (ls.take I).length + 1 = I + 1 := by omega
      obtain ⟨hb2, hL2⟩ := L1.out.each (x := x) hg2 (own_mono O1.out (by omega)) hd1.out (by omega) (by rw [hlt2]; exact hown2) hloc2
      obtain ⟨_, _, k22, _, _, f22⟩ := three_cells hb2
      have htk : ls.take I ++ [x] = ls.take (I + 1) := by
        rw [List.take_succ_eq_append_getElem hlt, ← HX.out]; simp [List.getD, List.getElem?_eq_getElem hlt]
      rw [htk] at hL2
      have B2 := hid ((B1.out.alloc B1.out.size (.cells #[.slice p1 (x.length + 70) c1] 23)).grown hg2 (Nat.le_trans B1.out.size (by simp)) (fun k e => (OE.out.lt k e).1))
      have hB2 : Below w.heap.size w (w2.setCell ⟨O, 2, none⟩ (.slice pE2 (I + 1) cE2)) := B2.out.grown (grown_set w2 O 2 _) B2.out.size (fun k e => by cases e; omega)
      obtain ⟨_, k31, _, _, f31, _⟩ := three_cells hL2.2.1
      obtain ⟨W2, hW2⟩ : ∃ W2, w2.setCell ⟨O, 2, none⟩ (.slice pE2 (I + 1) cE2) = W2 := ⟨_, rfl⟩
      rw [hW2] at hL2 hB2 k31 f31
      have L2 := hid hL2
      have B3 := hid hB2
      have hc2 : W2.cell? ⟨b, off + I, none⟩ = some (.slice pu x.length cu) := (hB2.cell (p := ⟨b, off + I, none⟩) hblt).trans hcu
      have hs2 := hB2.size
      have z0 : (0 : Int) ≤ (x.length : Int) := Int.natCast_nonneg _
      have z1 : (x.length : Int) ≤ (c1 : Int) := by omega
      have z2 : (0 : Int) ≤ (I : Int) := Int.natCast_nonneg _
      have z3 : (I : Int) < (ls.length : Int) := by omega
      have OF := hid hL2.2.2.1
      rw [hfl] at OF
      clear hown2 hg2 hloc2 hb2 hL2 hB2 B2 L1 O1 hd1 OE k1 k2 f1 f2 B1
      obtain ⟨i0, hi0, hz0, hz1, hz2⟩ := info_parts info_bytes
      have ag : (Value.slice pF I cF).ownBlock ≠ some O := own_block_ne OF.out L2.out.2.1 (by decide)
      have ab : (Value.slice pF I cF).ownBlock ≠ some b := fun e => by have := (OF.out.lt b e).1; omega
      have lO : O < W2.heap.size := (Array.getElem?_eq_some_iff.1 L2.out.2.1).1
      have lb : b < W2.heap.size := by omega
      have hb24 : (I + 1) * 24 ≤ 140737488355328 := by omega
      have hm24 : I + 1 ≤ Go.maxLen := by unfold Go.maxLen; omega
      have HL0 := hid hm24
      clear hm24
      have fz0 : ((W2.alloc (.cells #[.slice p1 x.length c1] 23)).drew).frozen? ⟨O, 1, none⟩ = false := by
        rw [show ((W2.alloc (.cells #[.slice p1 x.length c1] 23)).drew).frozen? ⟨O, 1, none⟩ = (W2.alloc (.cells #[.slice p1 x.length c1] 23)).frozen? ⟨O, 1, none⟩ from rfl, World.frozen?_of_block (w := W2) ((World.grownBy_alloc W2 _ none).block O lO (by simp))]
        exact f31
      have FZ0 := hid fz0
      clear fz0
      have nO := World.new_ne W2 _ k31
      have FIN : Hid (∀ gF cF3 w3, w3.ownsRow w.heap.size 23 1 (.slice (some ⟨gF, 0, none⟩) (I + 1) cF3) (I + 1) (fU ++ [.slice p1 x.length c1]) → ((W2.alloc (.cells #[.slice p1 x.length c1] 23)).drew).grownBy w3 (Value.slice pF I cF).ownBlock → ((Value.slice pF I cF).ownBlock = some gF ∨ gF = W2.heap.size + 1) →
          Hid (LsV w.heap.size (w3.setCell ⟨O, 1, none⟩ (.slice (some ⟨gF, 0, none⟩) (I + 1) cF3)) O (.slice (some ⟨gF, 0, none⟩) (I + 1) cF3) (.slice pE2 (I + 1) cE2) (fU ++ [.slice p1 x.length c1]) (eU ++ [.slice p1 (x.length + 70) c1]) (ls.take (I + 1))) ∧ Hid (Below w.heap.size w (w3.setCell ⟨O, 1, none⟩ (.slice (some ⟨gF, 0, none⟩) (I + 1) cF3)))) := by
        intro gF cF3 w3 ho hgr hat
        have gg : (W2.alloc (.cells #[.slice p1 x.length c1] 23)).grownBy w3 (Value.slice pF I cF).ownBlock := ⟨hgr.os, hgr.tape, hgr.output, hgr.size, hgr.block⟩
        have hel : eU.length = I := by
          have := L2.out.2.2.2.2.2.1.1
          simp at this
          omega
        refine ⟨(L2.out.full gg (u := .slice p1 x.length c1) (fun _ => ⟨p1, c1, ?_, ?_⟩) (by rw [hfl]; exact ho) ?_).2, ?_⟩
        · rw [hfl, ← htk, getD_app, getD_app, if_neg (by omega), if_neg (by omega), htl, hel, Nat.sub_self]
          rfl
        · rw [hfl, ← htk, getD_app, if_neg (by omega), htl, Nat.sub_self]
          rfl
        · rcases hat with h | h
          · left; rw [h]; rfl
          · right; rw [← h]; rfl
        · have b1 := (B3.out.alloc B3.out.size (.cells #[.slice p1 x.length c1] 23)).grown gg (Nat.le_trans B3.out.size (by simp)) (fun k e => (OF.out.lt k e).1)
          exact b1.grown (grown_set w3 O 1 _) b1.size (fun k e => by cases e; omega)
      have CZ0 : Hid (((W2.alloc (.cells #[.slice p1 x.length c1] 23)).drew).cell? ⟨O, 1, none⟩ = some (.slice pF I cF)) := by
        rw [show ((W2.alloc (.cells #[.slice p1 x.length c1] 23)).drew).cell? ⟨O, 1, none⟩ = (W2.alloc (.cells #[.slice p1 x.length c1] 23)).cell? ⟨O, 1, none⟩ from rfl, World.cell?_of_block (w := W2) ((World.grownBy_alloc W2 _ none).block O lO (by simp))]
        exact hid k31
      go_wp2_with fail
      go_region_law
        ((refine step_append_lies _ (by rfl) _ _ _ (by rfl) w.heap.size 23 i0 _ 1 24 Try.underlying22 hi0 hz0 hz1 hz2 rfl (by omega) (.slice pF I cF) I fU (by rfl) ((OF.out.alloc _).drew)
            ⟨W2.heap.size, 0, none⟩ 1 1 [.slice p1 x.length c1] (by rfl) (by rfl) (World.news_of_block (cs := #[.slice p1 x.length c1]) (t := 23) (fr := (0, 0)) (heap_alloc_new W2 _)) (by simp [Value.oneCell'])
            (by omega) HL0.out hb24 (by simp; omega) (W2.heap.size + 1) (by simp) ?_; intro gF cF3 w3 hown3 hgrow hat hlt3; have hfz3 : w3.frozen? ⟨O, 1, none⟩ = false := (hgrow.frozen_far _ (by simp; omega) (Ne.symm ag)).trans FZ0.out; have hc3 : w3.cell? ⟨O, 1, none⟩ = some (.slice pF I cF) := (hgrow.cell_far _ (by simp; omega) (Ne.symm ag)).trans CZ0.out))
      all_goals go_wp2
      all_goals exact ⟨⟨I + 1, by omega, by go_num, _, _, _, _, by simp [hfl], (FIN.out gF cF3 w3 hown3 hgrow hat).1, (FIN.out gF cF3 w3 hown3 hgrow hat).2⟩, by simp [intOf]; omega⟩
    · have hIe : I = ls.length := by omega
      subst hIe
      rw [List.take_of_length_le (Nat.le_refl _)] at HL1
      have M1 : Hid (MkV w.heap.size wr fU ls.length 0) := fun j hj => by omega
      go_wp2_with fail
      go_loopw [6] (fun i wq => ∃ J : Nat, J ≤ 70 ∧ i = .int .i64 J ∧ ∃ vF fU, fU.length = ls.length + J ∧ Hid (LsV w.heap.size wq O vF vE fU eU ls) ∧ Hid (MkV w.heap.size wq fU ls.length J) ∧ Hid (Below w.heap.size w wq)) (fun i _ => 70 - (intOf i).toNat)
      case atStart => exact ⟨0, Nat.zero_le _, rfl, _, _, by omega, HL1, M1, HB1⟩
      case round =>
        clear HL1 HB1 M1 hfl
        obtain ⟨J, hJ, rfl, vF, fU, hfl, HL1, HM1, HB1⟩ := hrel
        by_cases hlt : J < 70
        · obtain ⟨pF, cF, eF⟩ := own_slice HL1.out.2.2.1
          rw [hfl] at eF
          subst eF
          have hO1 : wr.ownsRow w.heap.size 23 1 (.slice pF (ls.length + J) cF) (ls.length + J) fU := by have := HL1.out.2.2.1; rw [hfl] at this; exact this
          obtain ⟨_, k1, _, _, f1, _⟩ := three_cells HL1.out.2.1
          have hs0 := HB1.out.size
          have hJw : IntKind.u8.wrap (J : Int) = J := by
            have e1 : IntKind.u8.bits = 8 := rfl
            have e2 : IntKind.u8.signed = false := rfl
            simp [IntKind.wrap, e1, e2]
            omega
          have lO : O < wr.heap.size := (Array.getElem?_eq_some_iff.1 HL1.out.2.1).1
          have OF := hid hO1
          have nO := World.new_ne wr _ k1
          clear hO1
          go_wp2_with (at_builtin; refine wpList_append_slice rfl _ _ rfl w.heap.size _ (ls.length + J) fU rfl ((OF.out.alloc _).alloc _) ⟨wr.heap.size + 1, 0, none⟩ 1 (.slice (some ⟨wr.heap.size, 0, none⟩) 2 2) rfl ?q0 rfl ?q1 ?q2 ?_)
          case q1 => omega
          case q2 => first | omega | (simp; omega)
          intro vF' w2 hown2 hg2 hloc2
          obtain ⟨pF2, cF2, eF2⟩ := own_slice hown2
          subst eF2
          have ga := World.grownBy_alloc wr (.cells #[.int .u8 J, .int .u8 99] 5) none
          have hL1 : LsV w.heap.size (wr.alloc (.cells #[.int .u8 J, .int .u8 99] 5)) O _ vE fU eU ls := HL1.out.away ga (fun k e => by cases e)
          have hM1 := HM1.out.away ga (fun k e => by cases e)
          have hu1 : (wr.alloc (.cells #[.int .u8 J, .int .u8 99] 5)).ownsRow w.heap.size 5 1 (.slice (some ⟨wr.heap.size, 0, none⟩) 2 2) 2 [.int .u8 J, .int .u8 99] := World.ownsRow_lit (base := w.heap.size) (e := 5) (size := 1) wr #[.int .u8 J, .int .u8 99] 2 hs0 (by decide) rfl
          obtain ⟨hb2, hL2⟩ := hL1.full hg2 (u := .slice (some ⟨wr.heap.size, 0, none⟩) 2 2) (fun h => by omega) (by rw [hfl]; exact hown2) (by simpa using hloc2)
          obtain ⟨_, k2, _, _, f2, _⟩ := three_cells hb2
          have bO : BT w2 O 25 := ⟨_, _, hb2⟩
          have oa := OF.out.alloc (.cells #[.int .u8 J, .int .u8 99] 5)
          have keepM : ∀ {v n xs}, (wr.alloc (.cells #[.int .u8 J, .int .u8 99] 5)).ownsRow w.heap.size 5 1 v n xs → (w2.setCell ⟨O, 1, none⟩ (.slice pF2 (ls.length + J + 1) cF2)).ownsRow w.heap.size 5 1 v n xs := fun {v n xs} h => by
            have h1 := h.alloc (.cells #[.slice (some ⟨wr.heap.size, 0, none⟩) 2 2] 23)
            have h2 := own_away h1 hg2 (fun k e => by obtain ⟨cur, fz, hb⟩ := own_BT (oa.alloc (.cells #[.slice (some ⟨wr.heap.size, 0, none⟩) 2 2] 23)) k e; exact own_block_ne h1 hb (by decide))
            exact own_away h2 (grown_set w2 O 1 _) (fun k e => by cases e; exact own_block_ne h2 hb2 (by decide))
          have hM2 : MkV w.heap.size (w2.setCell ⟨O, 1, none⟩ (.slice pF2 (ls.length + J + 1) cF2)) (fU ++ [.slice (some ⟨wr.heap.size, 0, none⟩) 2 2]) ls.length (J + 1) := by
            intro j hj
            rw [getD_app]
            by_cases hj2 : j < J
            · rw [if_pos (by omega)]
              exact keepM (hM1 j hj2)
            · have : j = J := by omega
              subst this
              rw [if_neg (by omega), hfl, Nat.sub_self]
              exact keepM hu1
          have hB2 : Below w.heap.size w (w2.setCell ⟨O, 1, none⟩ (.slice pF2 (ls.length + J + 1) cF2)) := by
            have b1 := ((HB1.out.alloc hs0 (.cells #[.int .u8 J, .int .u8 99] 5)).alloc (by simp; omega) (.cells #[.slice (some ⟨wr.heap.size, 0, none⟩) 2 2] 23)).grown hg2 (by simp; omega) (fun k e => (OF.out.lt k e).1)
            exact b1.grown (grown_set w2 O 1 _) b1.size (fun k e => by cases e; omega)
          have L2 := hid hL2
          have M2 := hid hM2
          have B2 := hid hB2
          clear hL2 hM2 hB2 keepM oa hu1 hM1 hL1 ga hown2 hg2 hloc2 hb2 k1 f1
          go_wp2
          exact ⟨⟨J + 1, by omega, by go_num, _, _, by simp [hfl]; omega, L2, M2, B2⟩, by simp [intOf]; omega⟩
        · have hJ70 : J = 70 := by omega
          subst hJ70
          obtain ⟨pF, cF, eF⟩ := own_slice HL1.out.2.2.1
          rw [hfl] at eF
          subst eF
          obtain ⟨k0, k1, k2, f0, f1, f2⟩ := three_cells HL1.out.2.1
          have hs0 := HB1.out.size
          have hO1 := HL1.out.2.2.1
          rw [hfl] at hO1
          have hcF : ls.length ≤ cF ∧ cF ≤ 2 ^ 63 - 1 := by
            rcases hO1.2 with ⟨e, h0⟩ | ⟨g, cap, cur, e, _, _, h3, h4, _⟩
            · omega
            · simp only [Value.slice.injEq, true_and] at e
              obtain ⟨_, rfl⟩ := e
              unfold maxLen at h4
              omega
          obtain ⟨hcF, hcF2⟩ := hcF
          have HX : Hid (XL w.heap.size wr (.slice pF ls.length cF) (.slice pF (ls.length + 70) cF) vE fU eU ls) := ⟨hO1, HL1.out.2.2.2.1, HL1.out.2.2.2.2.1, HL1.out.2.2.2.2.2.1, fun j hj => HL1.out.2.2.2.2.2.2 j (by omega) hj, HM1.out, _, _, rfl, rfl⟩
          have BO := hid HL1.out.block
          have sz2 := size_bytes
          obtain ⟨r0, r1, r2, g0, g1, g2⟩ := three_cells HL1.out.1.2
          have HR := hid HL1.out.1.2
          have hBO : w.heap.size ≠ O := by omega
          obtain ⟨pE, cE, eE⟩ := own_slice HL1.out.2.2.2.1
          subst eE
          have FIN : Hid (∀ a b c d : Value, XL w.heap.size ((((wr.setCell ⟨O, 0, none⟩ a).setCell ⟨w.heap.size, 0, none⟩ b).setCell ⟨w.heap.size, 1, none⟩ c).setCell ⟨w.heap.size, 2, none⟩ d) (.slice pF ls.length cF) (.slice pF (ls.length + 70) cF) (.slice pE ls.length cE) fU eU ls ∧ Below w.heap.size w ((((wr.setCell ⟨O, 0, none⟩ a).setCell ⟨w.heap.size, 0, none⟩ b).setCell ⟨w.heap.size, 1, none⟩ c).setCell ⟨w.heap.size, 2, none⟩ d) ∧ ((((wr.setCell ⟨O, 0, none⟩ a).setCell ⟨w.heap.size, 0, none⟩ b).setCell ⟨w.heap.size, 1, none⟩ c).setCell ⟨w.heap.size, 2, none⟩ d).heap[w.heap.size]? = some (.cells #[b, c, d] 25 (0, 0))) := by
            intro a b c d
            have x1 := HX.out.away (grown_set wr O 0 a) (fun k e => by cases e; exact ⟨_, BO.out, by decide, by decide⟩)
            have y1 := HB1.out.grown (grown_set wr O 0 a) hs0 (fun k e => by cases e; omega)
            have t1 : (wr.setCell ⟨O, 0, none⟩ a).heap[w.heap.size]? = some (.cells #[.slice none 0 0, .slice none 0 0, .slice none 0 0] 25 (0, 0)) := by rw [(grown_set wr O 0 a).block w.heap.size (Array.getElem?_eq_some_iff.1 HR.out).1 (by simp; omega)]; exact HR.out
            have t2 : ((wr.setCell ⟨O, 0, none⟩ a).setCell ⟨w.heap.size, 0, none⟩ b).heap[w.heap.size]? = some (.cells #[b, .slice none 0 0, .slice none 0 0] 25 (0, 0)) := by rw [heap_setCell_same _ w.heap.size 0 _ _ b t1]; rfl
            have t3 : (((wr.setCell ⟨O, 0, none⟩ a).setCell ⟨w.heap.size, 0, none⟩ b).setCell ⟨w.heap.size, 1, none⟩ c).heap[w.heap.size]? = some (.cells #[b, c, .slice none 0 0] 25 (0, 0)) := by rw [heap_setCell_same _ w.heap.size 1 _ _ c t2]; rfl
            have t4 : ((((wr.setCell ⟨O, 0, none⟩ a).setCell ⟨w.heap.size, 0, none⟩ b).setCell ⟨w.heap.size, 1, none⟩ c).setCell ⟨w.heap.size, 2, none⟩ d).heap[w.heap.size]? = some (.cells #[b, c, d] 25 (0, 0)) := by rw [heap_setCell_same _ w.heap.size 2 _ _ d t3]; rfl
            have x2 := x1.away (grown_set _ w.heap.size 0 b) (fun k e => by cases e; exact ⟨_, ⟨_, _, t1⟩, by decide, by decide⟩)
            have y2 := y1.grown (grown_set _ w.heap.size 0 b) y1.size (fun k e => by cases e; omega)
            have x3 := x2.away (grown_set _ w.heap.size 1 c) (fun k e => by cases e; exact ⟨_, ⟨_, _, t2⟩, by decide, by decide⟩)
            have y3 := y2.grown (grown_set _ w.heap.size 1 c) y2.size (fun k e => by cases e; omega)
            exact ⟨x3.away (grown_set _ w.heap.size 2 d) (fun k e => by cases e; exact ⟨_, ⟨_, _, t3⟩, by decide, by decide⟩), y3.grown (grown_set _ w.heap.size 2 d) y3.size (fun k e => by cases e; omega), t4⟩
          clear HL1 HM1 hO1
          go_wp2
          refine bodyPost_ret (v := .agg #[.slice pF ls.length cF, .slice pF (ls.length + 70) cF, .slice pE ls.length cE]) (results_cell_row (p := 2) (ty := 25) rfl _ _ w.heap.size 25 #[.slice pF ls.length cF, .slice pF (ls.length + 70) cF, .slice pE ls.length cE] (0, 0) _ rfl (FIN.out _ _ _ _).2.2 Try.underlying25 rfl size_lists) rfl ?_
          exact ⟨_, _, _, _, _, rfl, (FIN.out _ _ _ _).1, (FIN.out _ _ _ _).2.1⟩
theorem own_cells {w : World} {B n : Nat} {v : Value} {xs : List Value} {e : TypeId} (h : w.ownsRow B e 1 v n xs) (h0 : 0 < n) : ∃ g c, v = .slice (some ⟨g, 0, none⟩) n c ∧ B ≤ g ∧ n ≤ c ∧ c ≤ maxLen ∧ ∀ j, j < n → w.cell? ⟨g, j, none⟩ = some (xs.getD j undef) := by
  have hl := h.1
  rcases h.2 with ⟨_, e0⟩ | ⟨g, cap, cur, rfl, hbg, hg, hnc, hcm, hcs, htake⟩
  · omega
  · refine ⟨g, cap, rfl, hbg, hnc, hcm, fun j hj => ?_⟩
    have hjx : j < xs.length := by omega
    have := h.cells (g := g) rfl j (xs.getD j undef) (by rw [List.getElem?_eq_getElem hjx]; simp [List.getD, List.getElem?_eq_getElem hjx])
    rw [Addr.add_mid, Nat.zero_add] at this
    exact this
theorem getD_map_lent (ls : List (List Int)) (j : Nat) (hj : j < ls.length) : (ls.map lent).getD j [] = lent (ls.getD j []) := by
  simp [List.getD, List.getElem?_map, List.getElem?_eq_getElem hj]
theorem XL.elem {B : Nat} {w : World} {vL vF vE : Value} {fU eU : List Value} {ls : List (List Int)} (h : XL B w vL vF vE fU eU ls) (hb : ∀ j, ∀ x ∈ ls.getD j [], 0 ≤ x ∧ x < 256) (j : Nat) (hj : j < ls.length) : HB w (eU.getD j undef) (lent (ls.getD j [])) ∧ HB w (fU.getD j undef) (ls.getD j []) := by
  obtain ⟨h1, h2, h3, h4, h5, h6, h7⟩ := h
  have hl : eU.length = ls.length := by have := h4.1; simpa using this
  have ho := h4.2.1 j (by omega)
  rw [getD_map_lent ls j hj] at ho
  have hf := HB.of_own ho (lent_byt (hb j))
  refine ⟨hf, ?_⟩
  obtain ⟨p, c, e1, e2⟩ := h5 j hj
  rw [e1] at hf
  rw [e2]
  refine lent_pre hf ?_
  obtain ⟨p', c', e, h8, _⟩ := hf.open
  rw [lent_length] at e h8
  cases e
  omega
theorem XL.hl {B : Nat} {w : World} {vL vF vE : Value} {fU eU : List Value} {ls : List (List Int)} (h : XL B w vL vF vE fU eU ls) (hb : ∀ j, ∀ x ∈ ls.getD j [], 0 ≤ x ∧ x < 256) : HL w vL ls := by
  have he := h.elem hb
  obtain ⟨h1, h2, h3, h4, h5, h6, p, c, e1, e2⟩ := h
  obtain ⟨g, c', e, hbg, hnc, hcm, hcell⟩ := own_cells h1 (by omega)
  rw [e1] at e
  simp only [Value.slice.injEq, true_and] at e
  obtain ⟨rfl, rfl⟩ := e
  refine ⟨_, c, e2, by omega, hcm, (fun e => by cases e), fun hne => ⟨g, 0, rfl, fun j hj => ⟨_, by rw [Nat.zero_add]; exact hcell j (by omega), (he j hj).2⟩⟩⟩
set_option maxRecDepth 100000 in
set_option maxHeartbeats 2000000 in
theorem keptLists_any (B : Nat) (w : World) (vL vF vE v : Value) (fU eU : List Value) (ls : List (List Int)) (x : XL B w vL vF vE fU eU ls) (h : HL w v ls) (hn : ls.length ≤ 1048576) (hb : ∀ j, (ls.getD j []).length ≤ 1048576 ∧ ∀ x ∈ ls.getD j [], 0 ≤ x ∧ x < 256) :
    Calls Try.prog 10 #[.agg #[vL, vF, vE], v] w fun e w' => e = .returned (.bool true) ∧ Below w.heap.size w w' := by
  have HXL := hid x
  have HHL := hid h
  obtain ⟨p, c, rfl, hlc, hm, hpc, hcl⟩ := h
  unfold maxLen at hm
  have HBd := hid hb
  obtain ⟨g, cF, eF, _, hcF, hmF, hFc⟩ := own_cells x.1 (by omega)
  obtain ⟨pE, cE, eE⟩ := own_slice x.2.1
  obtain ⟨pL, cL, eL1, eL2⟩ := x.2.2.2.2.2.2
  rw [eF] at eL1
  simp only [Value.slice.injEq, true_and] at eL1
  obtain ⟨rfl, rfl⟩ := eL1
  subst eF eE eL2
  unfold maxLen at hmF
  have sz2 := size_bytes
  clear hcl hb x
  go_enter Try.func10, Try.ntmps10
  go_wp2_with fail
  obtain ⟨W0, hW0⟩ : ∃ W0, Hid (w.alloc (.cells #[.slice (some ⟨g, 0, none⟩) ls.length cF, .slice (some ⟨g, 0, none⟩) (ls.length + 70) cF, .slice pE ls.length cE] 25) = W0) := ⟨_, rfl⟩
  have B0 : Hid (Below w.heap.size w W0) := by rw [← hW0.out]; exact (Below.refl _ w).alloc (Nat.le_refl _) _
  have X0 : Hid (W0.heap[w.heap.size]? = some (.cells #[.slice (some ⟨g, 0, none⟩) ls.length cF, .slice (some ⟨g, 0, none⟩) (ls.length + 70) cF, .slice pE ls.length cE] 25 (0, 0))) := by rw [← hW0.out]; exact heap_alloc_new w _
  rw [hW0.out]
  clear hW0
  have HX0 := hid (HXL.out.away (grown_below (r := none) B0.out) (fun k e => by cases e))
  have HL0 := hid (HHL.out.below B0.out)
  refine (sameLists_any W0 _ _ ls ls (HX0.out.hl (fun j => (HBd.out j).2)) HL0.out).mono ?_
  rintro e w1 ⟨rfl, hd⟩
  rw [decide_eq_true rfl]
  have B1 := hid (B0.out.trans ((hd.below _).mono B0.out.size))
  have X1 : Hid (w1.heap[w.heap.size]? = _) := (congrArg (·[w.heap.size]?) hd.heap).trans X0.out
  have HX1 := hid (HX0.out.away hd.grownBy (fun k e => by cases e))
  have HL1 := hid (HL0.out.dr hd)
  clear hd HX0 HL0 X0 B0
  go_wp2_with fail
  go_loopw [5] (fun i wr => ∃ I : Nat, I ≤ ls.length ∧ i = .int .i64 I ∧ Hid (Below w1.heap.size w1 wr)) (fun i _ => ls.length - (intOf i).toNat)
  case atStart => exact ⟨0, Nat.zero_le _, rfl, Below.refl _ _⟩
  case round =>
    obtain ⟨I, hI, rfl, HBr⟩ := hrel
    have hXr : wr.heap[w.heap.size]? = _ := (HBr.out.block _ (Array.getElem?_eq_some_iff.1 X1.out).1).trans X1.out
    obtain ⟨_, y1, y2, _, _, _⟩ := three_cells hXr
    have HXr := hid (HX1.out.away (grown_below (r := none) HBr.out) (fun k e => by cases e))
    have HLr := hid (HL1.out.below HBr.out)
    by_cases hlt : I < ls.length
    · obtain ⟨gE, cE', eE, _, _, hmE, hcE⟩ := own_cells HXr.out.2.1 (by omega)
      simp only [Value.slice.injEq, true_and] at eE
      obtain ⟨rfl, rfl⟩ := eE
      obtain ⟨b, off, c', e2, _, _, hcl⟩ := HLr.out.ne (by omega)
      simp only [Value.slice.injEq, true_and] at e2
      obtain ⟨rfl, rfl⟩ := e2
      obtain ⟨u, hcu, hu⟩ := hcl I hlt
      have hE := hcE I hlt
      obtain ⟨hEe, _⟩ := HXr.out.elem (fun j => (HBd.out j).2) I hlt
      obtain ⟨t, HT⟩ : ∃ t, Hid (eU.getD I undef = t) := ⟨_, rfl⟩
      obtain ⟨y, HY⟩ : ∃ y, Hid (ls.getD I [] = y) := ⟨_, rfl⟩
      rw [HT.out] at hE hEe
      rw [HY.out] at hEe hu
      have hyl : y.length ≤ 140737488351232 := by rw [← HY.out]; have := (HBd.out I).1; omega
      have HE := hid hEe
      have HU := hid hu
      obtain ⟨pt, ct, et, _, _⟩ := hEe.open
      obtain ⟨pu, cu, eu, _, _⟩ := hu.open
      subst et eu
      have z0 : (0 : Int) ≤ (I : Int) := Int.natCast_nonneg _
      have z1 : (I : Int) < (ls.length : Int) := by omega
      have KC : Hid (∀ q, Calls Try.prog 11 #[.slice pt (lent y).length ct, .slice pu y.length cu] (wr.drewN q) fun e w' => e = .returned (.bool true) ∧ Hid (Below wr.heap.size wr w')) := by
        intro q
        refine (kept_any (wr.drewN q) _ _ (lent y) y (HE.out.dr ⟨q, rfl⟩) (HU.out.dr ⟨q, rfl⟩) hyl).mono ?_
        rintro e w' ⟨rfl, hb⟩
        rw [decide_eq_true rfl]
        exact ⟨rfl, ((Dr.below ⟨q, rfl⟩ _).trans hb)⟩
      have lX := World.block_lt_of_cell? wr _ y2
      have lE := World.block_lt_of_cell? wr _ hE
      have lu := World.block_lt_of_cell? wr _ hcu
      clear hcl hcE hEe hu y1 hFc
      go_wp2_with fail
      go_region_held3 (fun w' => w'.cell? ⟨w.heap.size, 2, none⟩ = some (.slice (some ⟨gE, 0, none⟩) ls.length cE) ∧ w'.cell? ⟨gE, I, none⟩ = some (.slice pt (lent y).length ct) ∧ w'.cell? ⟨b, off + I, none⟩ = some (.slice pu y.length cu))
        (first
          | go_keep
          | (refine ⟨(hBk.out.cell (p := ⟨w.heap.size, 2, none⟩) lX).trans y2, (hBk.out.cell (p := ⟨gE, I, none⟩) lE).trans hE, (hBk.out.cell (p := ⟨b, off + I, none⟩) lu).trans hcu⟩))
        ((go_at_call 11; refine (KC.out 1).mono ?_; rintro e wz ⟨rfl, hBk⟩))
      have HBr2 := hid (HBr.out.trans (hBk.out.mono HBr.out.size))
      go_wp2
      exact ⟨⟨I + 1, by omega, by go_num, HBr2⟩, by simp [intOf]; omega⟩
    · go_wp2_with fail
      go_loopw [6] (fun i wq => ∃ J : Nat, J ≤ 70 ∧ i = .int .i64 J ∧ Hid (Below w1.heap.size w1 wq)) (fun i _ => 70 - (intOf i).toNat)
      case atStart => exact ⟨0, Nat.zero_le _, rfl, HBr⟩
      case round =>
        clear HBr hXr y1 y2 HXr HLr
        obtain ⟨J, hJ, rfl, HBr⟩ := hrel
        by_cases hlt : J < 70
        · have hXr : wr.heap[w.heap.size]? = _ := (HBr.out.block _ (Array.getElem?_eq_some_iff.1 X1.out).1).trans X1.out
          obtain ⟨_, y1, y2, _, _, _⟩ := three_cells hXr
          have HXr := hid (HX1.out.away (grown_below (r := none) HBr.out) (fun k e => by cases e))
          obtain ⟨gF, cF', eF, _, _, _, hcF3⟩ := own_cells HXr.out.1 (by omega)
          simp only [Value.slice.injEq, true_and] at eF
          obtain ⟨eF, rfl⟩ := eF
          simp only [Option.some.injEq, Addr.mk.injEq, and_true] at eF
          subst eF
          have hm1 := hcF3 (ls.length + J) (by omega)
          have hm2 := HXr.out.2.2.2.2.2.1 J hlt
          obtain ⟨gm, cm, em, _, _, hmm, hcm⟩ := own_cells hm2 (by omega)
          rw [em] at hm1
          have c0 := hcm 0 (by omega)
          have c1 := hcm 1 (by omega)
          simp only [List.getD, List.getElem?_cons_zero, List.getElem?_cons_succ, Option.getD_some] at c0 c1
          have hJw : IntKind.u8.wrap (J : Int) = J := by
            have e1 : IntKind.u8.bits = 8 := rfl
            have e2 : IntKind.u8.signed = false := rfl
            simp [IntKind.wrap, e1, e2]
            omega
          have hww : IntKind.i64.wrap ((ls.length : Int) + (J : Int)) = ((ls.length + J : Nat) : Int) := by
            rw [IntKind.wrap_i64]; omega
          clear hcF3 hm2 hcm hFc
          go_wp2
          exact ⟨⟨J + 1, by omega, by go_num, HBr⟩, by simp [intOf]; omega⟩
        · go_wp2
          go_ret
          exact ⟨rfl, B1.out.trans (HBr.out.mono B1.out.size)⟩
def XO (B : Nat) (w : World) (vF vE : Value) (fU eU : List Value) (ls : List (List Int)) : Prop :=
  w.ownsRow B 23 1 vF (ls.length + 70) fU ∧ w.ownsRow B 23 1 vE ls.length eU ∧ ∀ j, j < ls.length → ∃ ys, w.ownsRow B 5 1 (eU.getD j undef) ((ls.getD j []).length + 70) ys
theorem XO.away {B : Nat} {w w' : World} {vF vE : Value} {fU eU : List Value} {ls : List (List Int)} (h : XO B w vF vE fU eU ls) (hg : w.grownBy w' none) : XO B w' vF vE fU eU ls :=
  ⟨own_away h.1 hg (fun k e => by cases e), own_away h.2.1 hg (fun k e => by cases e), fun j hj => by obtain ⟨ys, hy⟩ := h.2.2 j hj; exact ⟨ys, own_away hy hg (fun k e => by cases e)⟩⟩
theorem XL.xo {B : Nat} {w : World} {vL vF vE : Value} {fU eU : List Value} {ls : List (List Int)} (h : XL B w vL vF vE fU eU ls) : XO B w vF vE fU eU ls := by
  obtain ⟨h1, h2, h3, h4, h5, h6, h7⟩ := h
  refine ⟨h1, h2, fun j hj => ?_⟩
  have hl : eU.length = ls.length := by have := h4.1; simpa using this
  have ho := h4.2.1 j (by omega)
  rw [getD_map_lent ls j hj, lent_length] at ho
  exact ⟨_, ho⟩
set_option maxRecDepth 100000 in
set_option maxHeartbeats 2000000 in
theorem overLists_any3 (B N1 : Nat) (w : World) (vL vF vE : Value) (fU eU : List Value) (ls : List (List Int)) (x : XL B w vL vF vE fU eU ls) (hN : N1 ≤ w.heap.size) (hF : ∀ k, vF.ownBlock = some k → k < N1) (hE : ∀ j, j < ls.length → ∀ k, (eU.getD j undef).ownBlock = some k → k < N1) (hn : ls.length ≤ 1048576) (hb : ∀ j, (ls.getD j []).length ≤ 1048576) :
    Calls Try.prog 12 #[.agg #[vL, vF, vE]] w fun e w' => e = .returned (.tuple #[]) ∧ Fr (fun k => B ≤ k ∧ k < N1) w w' ∧ HL w' vL (List.replicate ls.length [1, 2, 3]) := by
  have HXO := hid x.xo
  have hel : eU.length = ls.length := by have := x.2.2.2.1.1; simpa using this
  have HAP := hid x.2.2.2.1.2.2
  have HBd := hid hb
  have HEn := hid hE
  obtain ⟨gF, cF, eF, hBF, hcF, hmF, _⟩ := own_cells x.1 (by omega)
  obtain ⟨pE, cE, eE⟩ := own_slice x.2.1
  obtain ⟨pL, cL, eL1, eL2⟩ := x.2.2.2.2.2.2
  rw [eF] at eL1
  simp only [Value.slice.injEq, true_and] at eL1
  obtain ⟨rfl, rfl⟩ := eL1
  subst eF eE eL2
  have hFN := hF gF rfl
  have HCM := hid hmF
  unfold maxLen at hmF
  obtain ⟨W0, hW0⟩ : ∃ W0, Hid (w.alloc (.cells #[.slice (some ⟨gF, 0, none⟩) ls.length cF, .slice (some ⟨gF, 0, none⟩) (ls.length + 70) cF, .slice pE ls.length cE] 25) = W0) := ⟨_, rfl⟩
  have F0 : Hid (Fr (fun k => B ≤ k ∧ k < N1) w W0) := by rw [← hW0.out]; exact (Fr.refl _ w).step (World.grownBy_alloc w _ none) (fun k e => by cases e)
  have X0 : Hid (W0.heap[w.heap.size]? = some (.cells #[.slice (some ⟨gF, 0, none⟩) ls.length cF, .slice (some ⟨gF, 0, none⟩) (ls.length + 70) cF, .slice pE ls.length cE] 25 (0, 0))) := by rw [← hW0.out]; exact heap_alloc_new w _
  have O0 : Hid (XO B W0 (.slice (some ⟨gF, 0, none⟩) (ls.length + 70) cF) (.slice pE ls.length cE) fU eU ls) := by rw [← hW0.out]; exact HXO.out.away (World.grownBy_alloc w _ none)
  clear hb hE hF x
  go_enter Try.func12, Try.ntmps12
  go_wp2_with fail
  rw [hW0.out]
  clear hW0
  go_loopw [2] (fun i wr => ∃ I : Nat, I ≤ ls.length ∧ i = .int .i64 I ∧ Hid (Fr (fun k => B ≤ k ∧ k < N1) w wr) ∧ Hid (wr.heap[w.heap.size]? = some (.cells #[.slice (some ⟨gF, 0, none⟩) ls.length cF, .slice (some ⟨gF, 0, none⟩) (ls.length + 70) cF, .slice pE ls.length cE] 25 (0, 0))) ∧ Hid (XO B wr (.slice (some ⟨gF, 0, none⟩) (ls.length + 70) cF) (.slice pE ls.length cE) fU eU ls)) (fun i _ => ls.length - (intOf i).toNat)
  case atStart => exact ⟨0, Nat.zero_le _, rfl, F0, X0, O0⟩
  case round =>
    clear F0 X0 O0
    obtain ⟨I, hI, rfl, HF, HXr, HO⟩ := hrel
    obtain ⟨_, y1, y2, _, _, _⟩ := three_cells HXr.out
    by_cases hlt : I < ls.length
    · obtain ⟨gE, cE', eE, _, _, hmE, hcE⟩ := own_cells HO.out.2.1 (by omega)
      simp only [Value.slice.injEq, true_and] at eE
      obtain ⟨rfl, rfl⟩ := eE
      unfold maxLen at hmE
      have hcell := hcE I hlt
      obtain ⟨ys, hy⟩ := HO.out.2.2 I hlt
      obtain ⟨t, HT⟩ : ∃ t, Hid (eU.getD I undef = t) := ⟨_, rfl⟩
      obtain ⟨m, HM⟩ : ∃ m, Hid ((ls.getD I []).length = m) := ⟨_, rfl⟩
      rw [HT.out] at hcell hy
      rw [HM.out] at hy
      have HY := hid hy
      obtain ⟨pt, ct, et⟩ := own_slice hy
      subst et
      have hln := HBd.out I
      rw [HM.out] at hln
      clear hcE hy
      go_wp2_with fail
      refine (over_any wr B _ (m + 70) ys HY.out (by omega)).mono ?_
      rintro e w2 ⟨rfl, ⟨ys2, hy2⟩, hg2⟩
      have bk := own_BT HY.out
      have F2 : Hid (Fr (fun k => B ≤ k ∧ k < N1) w w2) := HF.out.step hg2 (fun k e => .inl ⟨(HY.out.lt k e).1, HEn.out I hlt k (by rw [HT.out]; exact e)⟩)
      have X2 : Hid (w2.heap[w.heap.size]? = some (.cells #[.slice (some ⟨gF, 0, none⟩) ls.length cF, .slice (some ⟨gF, 0, none⟩) (ls.length + 70) cF, .slice (some ⟨gE, 0, none⟩) ls.length cE] 25 (0, 0))) := by
        show _ = _
        rw [hg2.block w.heap.size (Array.getElem?_eq_some_iff.1 HXr.out).1 (fun e => own_block_ne HY.out HXr.out (by decide) e.symm)]
        exact HXr.out
      have O2 : Hid (XO B w2 (.slice (some ⟨gF, 0, none⟩) (ls.length + 70) cF) (.slice (some ⟨gE, 0, none⟩) ls.length cE) fU eU ls) := by
        refine ⟨own_away HO.out.1 hg2 (fun k e => by obtain ⟨cur, fz, hb⟩ := bk k e; exact own_block_ne HO.out.1 hb (by decide)), own_away HO.out.2.1 hg2 (fun k e => by obtain ⟨cur, fz, hb⟩ := bk k e; exact own_block_ne HO.out.2.1 hb (by decide)), fun j hj => ?_⟩
        by_cases hji : j = I
        · subst hji
          rw [HT.out, HM.out]
          exact ⟨ys2, hy2⟩
        · obtain ⟨zs, hz⟩ := HO.out.2.2 j hj
          refine ⟨zs, hz.kept hg2 ?_⟩
          have := HAP.out j I (by omega) (by omega) hji
          rw [HT.out] at this
          exact this
      clear hg2 hy2 bk
      go_wp2
      exact ⟨⟨I + 1, by omega, by go_num, F2, X2, O2⟩, by simp [intOf]; omega⟩
    · have hcur : ∃ cur, wr.heap[gF]? = some (.cells cur 23 (0, 0)) ∧ ls.length + 70 ≤ cur.size := by
        rcases HO.out.1.2 with ⟨e, h0⟩ | ⟨g, cap, cur, e, _, hh, h3, _, h5, _⟩
        · omega
        · simp only [Value.slice.injEq, Option.some.injEq, Addr.mk.injEq, and_true, true_and] at e
          obtain ⟨rfl, rfl⟩ := e
          exact ⟨cur, hh, by omega⟩
      have HCu := hid hcur
      clear hcur HO
      go_wp2_with fail
      clear y1 y2
      go_loopw [3] (fun i wq => ∃ J : Nat, J ≤ ls.length + 70 ∧ i = .int .i64 J ∧ Hid (Fr (fun k => B ≤ k ∧ k < N1) w wq) ∧ Hid (wq.heap[w.heap.size]? = some (.cells #[.slice (some ⟨gF, 0, none⟩) ls.length cF, .slice (some ⟨gF, 0, none⟩) (ls.length + 70) cF, .slice pE ls.length cE] 25 (0, 0))) ∧ Hid (∃ cur, wq.heap[gF]? = some (.cells cur 23 (0, 0)) ∧ ls.length + 70 ≤ cur.size ∧ ∀ q, q < J → ∃ g3, cur[q]? = some (.slice (some ⟨g3, 0, none⟩) 3 3) ∧ wq.heap[g3]? = some (.cells #[.int .u8 1, .int .u8 2, .int .u8 3] 5 (0, 0)))) (fun i _ => ls.length + 70 - (intOf i).toNat)
      case atStart =>
        obtain ⟨cur, hq1, hq2⟩ := HCu.out
        exact ⟨0, Nat.zero_le _, rfl, HF, HXr, cur, hq1, hq2, fun q hq => by omega⟩
      case round =>
        clear HF HXr HCu
        obtain ⟨J, hJ, rfl, HF, HXr, HCu⟩ := hrel
        obtain ⟨_, y1, y2, _, _, _⟩ := three_cells HXr.out
        by_cases hlt : J < ls.length + 70
        · obtain ⟨cur, hcu, hsz, hq3⟩ := HCu.out
          have HQ3 := hid hq3
          have HCU := hid hcu
          clear hq3
          have lF : gF < wr.heap.size := (Array.getElem?_eq_some_iff.1 hcu).1
          have lX : w.heap.size < wr.heap.size := (Array.getElem?_eq_some_iff.1 HXr.out).1
          obtain ⟨W1, hW1⟩ : ∃ W1, wr.alloc (.cells #[.int .u8 1, .int .u8 2, .int .u8 3] 5) = W1 := ⟨_, rfl⟩
          have ga := World.grownBy_alloc wr (.cells #[.int .u8 1, .int .u8 2, .int .u8 3] 5) none
          rw [hW1] at ga
          have hcu1 : W1.heap[gF]? = some (.cells cur 23 (0, 0)) := (ga.block gF lF (by simp)).trans hcu
          have hx1 : W1.heap[w.heap.size]? = _ := (ga.block w.heap.size lX (by simp)).trans HXr.out
          obtain ⟨z, hz⟩ : ∃ z, W1.cell? ⟨gF, J, none⟩ = some z := ⟨cur[J]'(by omega), by simp [World.cell?, hcu1, Array.getElem?_eq_getElem (show J < cur.size by omega)]⟩
          have hfz : W1.frozen? ⟨gF, J, none⟩ = false := by simp [World.frozen?, hcu1]
          have FIN : Hid (Hid (Fr (fun k => B ≤ k ∧ k < N1) w (W1.setCell ⟨gF, J, none⟩ (.slice (some ⟨wr.heap.size, 0, none⟩) 3 3))) ∧ Hid ((W1.setCell ⟨gF, J, none⟩ (.slice (some ⟨wr.heap.size, 0, none⟩) 3 3)).heap[w.heap.size]? = some (.cells #[.slice (some ⟨gF, 0, none⟩) ls.length cF, .slice (some ⟨gF, 0, none⟩) (ls.length + 70) cF, .slice pE ls.length cE] 25 (0, 0))) ∧ Hid (∃ cur, (W1.setCell ⟨gF, J, none⟩ (.slice (some ⟨wr.heap.size, 0, none⟩) 3 3)).heap[gF]? = some (.cells cur 23 (0, 0)) ∧ ls.length + 70 ≤ cur.size ∧ ∀ q, q < J + 1 → ∃ g3, cur[q]? = some (.slice (some ⟨g3, 0, none⟩) 3 3) ∧ (W1.setCell ⟨gF, J, none⟩ (.slice (some ⟨wr.heap.size, 0, none⟩) 3 3)).heap[g3]? = some (.cells #[.int .u8 1, .int .u8 2, .int .u8 3] 5 (0, 0)))) := by
            have gs := grown_set W1 gF J (.slice (some ⟨wr.heap.size, 0, none⟩) 3 3)
            have hnew : W1.heap[wr.heap.size]? = some (.cells #[.int .u8 1, .int .u8 2, .int .u8 3] 5 (0, 0)) := by rw [← hW1]; exact heap_alloc_new wr _
            refine ⟨(HF.out.step ga (fun k e => by cases e)).step gs (fun k e => by cases e; exact .inl ⟨hBF, hFN⟩), (gs.block w.heap.size (Array.getElem?_eq_some_iff.1 hx1).1 (by simp; omega)).trans hx1, _, heap_setCell_same W1 gF J _ _ (.slice (some ⟨wr.heap.size, 0, none⟩) 3 3) hcu1, by simp; exact hsz, fun q hq => ?_⟩
            by_cases hqJ : q = J
            · subst hqJ
              refine ⟨wr.heap.size, Array.getElem?_setIfInBounds_self_of_lt (by omega), ?_⟩
              rw [heap_setCell_other _ _ _ _ (show wr.heap.size ≠ gF by omega)]
              exact hnew
            · obtain ⟨g3, e1, e2⟩ := HQ3.out q (by omega)
              have hg3 : g3 < wr.heap.size := (Array.getElem?_eq_some_iff.1 e2).1
              have hne : g3 ≠ gF := fun e => by rw [e, HCU.out] at e2; simp only [Option.some.injEq, Obj.cells.injEq] at e2; exact absurd e2.2.1 (by decide)
              refine ⟨g3, by rw [Array.getElem?_setIfInBounds_ne (by omega)]; exact e1, ?_⟩
              rw [heap_setCell_other _ _ _ _ hne, ga.block g3 hg3 (by simp)]
              exact e2
          have z0 : (0 : Int) ≤ (J : Int) := Int.natCast_nonneg _
          have z1 : (J : Int) < (ls.length : Int) + 70 := by omega
          clear hcu1 hx1 hcu ga
          go_wp2
          exact ⟨⟨J + 1, by omega, by go_num, FIN.out.1, FIN.out.2.1, FIN.out.2.2⟩, by simp [intOf]; omega⟩
        · have HLf : Hid (HL wr (.slice (some ⟨gF, 0, none⟩) ls.length cF) (List.replicate ls.length [1, 2, 3])) := by
            obtain ⟨cur, hcu, hsz, hq3⟩ := HCu.out
            refine ⟨_, cF, by simp, by simp; omega, HCM.out, (fun e => by cases e), fun hne => ⟨gF, 0, rfl, fun j hj => ?_⟩⟩
            simp only [List.length_replicate] at hj
            obtain ⟨g3, e1, e2⟩ := hq3 j (by omega)
            refine ⟨.slice (some ⟨g3, 0, none⟩) 3 3, by rw [cell_of_row _ _ _ _ _ _ hcu, Nat.zero_add]; exact e1, ?_⟩
            have eg : (List.replicate ls.length [(1 : Int), 2, 3]).getD j [] = [1, 2, 3] := by simp [List.getD, hj]
            rw [eg]
            refine ⟨⟨_, 3, rfl, by decide, by decide, (fun e => by cases e), fun _ => ⟨g3, 0, rfl, fun i hi => ?_⟩⟩, by simp⟩
            rw [cell_of_row _ _ _ _ _ _ e2]
            match i, hi with
            | 0, _ => rfl
            | 1, _ => rfl
            | 2, _ => rfl
          go_wp2
          first | go_ret | go_end0
          exact ⟨rfl, HF.out, HLf.out⟩
theorem HVL.at {w : World} {v : Value} {us : List Value} (h : HVL w v us) {b off n c : Nat} (e : v = .slice (some ⟨b, off, none⟩) n c) {k : Nat} (hk : k < us.length) : w.cell? ⟨b, off + k, none⟩ = some (us.getD k undef) := by
  obtain ⟨p, c', e', _, _, h4⟩ := h
  obtain ⟨b', off', e2, _, hc⟩ := h4 (by intro x; subst x; simp at hk)
  rw [e] at e'
  simp only [Value.slice.injEq] at e'
  rw [← e'.1] at e2
  simp only [Option.some.injEq, Addr.mk.injEq, and_true] at e2
  obtain ⟨rfl, rfl⟩ := e2
  exact hc k hk
theorem HVL.keep {w w' : World} {v : Value} {us : List Value} (h : HVL w v us) (hk : ∀ (b : Nat) (cs : Array Value), w.heap[b]? = some (.cells cs 22 (0, 0)) → w'.heap[b]? = w.heap[b]?) : HVL w' v us := by
  obtain ⟨p, c, e, h1, h2, h4⟩ := h
  refine ⟨p, c, e, h1, h2, fun hne => ?_⟩
  obtain ⟨b, off, e2, ⟨cs, hb⟩, hc⟩ := h4 hne
  have e3 := hk b cs hb
  refine ⟨b, off, e2, ⟨cs, e3.trans hb⟩, fun k hk' => ?_⟩
  rw [← hc k hk']
  exact World.cell?_of_block e3
theorem HVL.below {w w' : World} {v : Value} {us : List Value} (h : HVL w v us) (hb : Below w.heap.size w w') : HVL w' v us := h.keep fun b cs q => hb.block b (Array.getElem?_eq_some_iff.1 q).1
def cntL (ns : List Nat) (k i k' : Nat) : Nat := if k' < k then ns.getD k' 0 else if k' = k then i else 0
structure P3 (B : Nat) (w0 w : World) (v : Value) (us : List Value) (ns : List Nat) (k i : Nat) : Prop where
  hv : HVL w v us
  row : ∀ k', k' < us.length → RowI B w (us.getD k' undef) (ns.getD k' 0) k' (cntL ns k i k')
  bel : Below B w0 w
def DisU (us : List Value) : Prop := ∀ i j, i < us.length → j < us.length → i ≠ j → (us.getD i undef).ownBlock = none ∨ (us.getD i undef).ownBlock ≠ (us.getD j undef).ownBlock
theorem u8w (k : Int) : IntKind.u8.wrap k = k % 256 := by rw [IntKind.wrap_u8]
theorem quo256 (i : Nat) : Int.tdiv (i : Int) 256 = (i : Int) / 256 := by
  rw [Int.tdiv_eq_ediv_of_nonneg (by omega)]
theorem P3.step {B : Nat} {w0 w : World} {v : Value} {us : List Value} {ns : List Nat} {k i g c : Nat} (h : P3 B w0 w v us ns k i) (hd : DisU us) (hk : k < us.length) (hi : i < ns.getD k 0) (hu : us.getD k undef = .slice (some ⟨g, 0, none⟩) (ns.getD k 0) c) (hB : B ≤ w.heap.size) :
    P3 B w0 ((w.alloc (.cells (mkA k i) 5)).setCell ⟨g, i, none⟩ (.slice (some ⟨w.heap.size, 0, none⟩) 3 3)) v us ns k (i + 1) := by
  obtain ⟨W1, HW1⟩ : ∃ W : World, w.alloc (.cells (mkA k i) 5) = W := ⟨_, rfl⟩
  have b1 : Below w.heap.size w W1 := by rw [← HW1]; exact (Below.refl _ w).alloc (Nat.le_refl _) _
  have hmk : Mkd W1 (.slice (some ⟨w.heap.size, 0, none⟩) 3 3) k i := ⟨_, rfl, by rw [← HW1]; exact heap_alloc_new w _⟩
  rw [HW1]
  have r1 : ∀ k', k' < us.length → RowI B W1 (us.getD k' undef) (ns.getD k' 0) k' (cntL ns k i k') := fun k' hk' => by
    obtain ⟨xs, q1, q2⟩ := h.row k' hk'
    exact RowI.keep ⟨xs, q1, q2⟩ (KT.below b1) (fun b hb => b1.block b (own_atL q1 hb).1)
  obtain ⟨xs, q1, q2⟩ := r1 k hk
  rw [hu] at q1
  obtain ⟨_, hgB, cs, hg⟩ := own_atL q1 (b := g) rfl
  obtain ⟨s1, s2⟩ := q1.stored i (.slice (some ⟨w.heap.size, 0, none⟩) 3 3)
  have kt : KT W1 (W1.setCell ⟨g, i, none⟩ (.slice (some ⟨w.heap.size, 0, none⟩) 3 3)) := KT.grown s2 (fun b e => by cases e; exact ⟨cs, _, hg, by decide⟩)
  refine ⟨(h.hv.below b1).keep (fun b cs' q => s2.block b (Array.getElem?_eq_some_iff.1 q).1 (fun e => by
      cases e
      rw [hg] at q
      simp only [Option.some.injEq, Obj.cells.injEq] at q
      exact absurd q.2.1 (by decide))), fun k' hk' => ?_, (h.bel.trans (b1.mono hB)).setCell hgB _⟩
  by_cases e : k' = k
  · subst e
    rw [hu]
    refine ⟨_, s1, fun j hj hn => ?_⟩
    have hc : cntL ns k' (i + 1) k' = i + 1 := by simp [cntL]
    rw [hc] at hj
    have hxl : xs.length = ns.getD k' 0 := by have := q1.1; omega
    by_cases ej : j = i
    · subst ej
      have : (xs.set j (.slice (some ⟨w.heap.size, 0, none⟩) 3 3)).getD j undef = .slice (some ⟨w.heap.size, 0, none⟩) 3 3 := by simp [List.getD, show j < xs.length by omega]
      rw [this]
      exact hmk.keep kt
    · have : (xs.set i (.slice (some ⟨w.heap.size, 0, none⟩) 3 3)).getD j undef = xs.getD j undef := by simp [List.getD, List.getElem?_set, show i ≠ j from fun x => ej x.symm]
      rw [this]
      exact (q2 j (by simp [cntL]; omega) hn).keep kt
  · have ec : cntL ns k (i + 1) k' = cntL ns k i k' := by simp [cntL, e]
    rw [ec]
    refine (r1 k' hk').keep kt (fun b hb => ?_)
    obtain ⟨ys, y1, _⟩ := r1 k' hk'
    refine s2.block b (own_atL y1 hb).1 (fun x => ?_)
    rcases hd k' k hk' hk e with z | z
    · rw [z] at hb; cases hb
    · rw [hb, hu] at z
      exact z x
theorem P3.next {B : Nat} {w0 w : World} {v : Value} {us : List Value} {ns : List Nat} {k i : Nat} (h : P3 B w0 w v us ns k i) (hi : ns.getD k 0 ≤ i) : P3 B w0 w v us ns (k + 1) 0 := by
  refine ⟨h.hv, fun k' hk' => ?_, h.bel⟩
  have hr0 := h.row k' hk'
  by_cases e : k' < k + 1
  · have e1 : cntL ns (k + 1) 0 k' = ns.getD k' 0 := by simp [cntL, e]
    rw [e1]
    by_cases e2 : k' < k
    · have e3 : cntL ns k i k' = ns.getD k' 0 := by simp [cntL, e2]
      rw [e3] at hr0
      exact hr0
    · obtain rfl : k' = k := by omega
      have e3 : cntL ns k' i k' = i := by simp [cntL]
      rw [e3] at hr0
      exact hr0.less hi
  · have e1 : cntL ns (k + 1) 0 k' = 0 := by simp [cntL]; omega
    rw [e1]
    exact hr0.less (Nat.zero_le _)
structure P4 (B : Nat) (w0 w : World) (v : Value) (us : List Value) (ns : List Nat) (k : Nat) (gl : List Value) : Prop where
  hv : HVL w v us
  len : gl.length = k
  row : ∀ k', k' < us.length → RowI B w (us.getD k' undef) (ns.getD k' 0) k' (ns.getD k' 0)
  big : ∀ k', k' < k → RowI B w (gl.getD k' undef) (ns.getD k' 0 + 70) k' (ns.getD k' 0 + 70)
  dis : ∀ k' j, k' < k → k ≤ j → j < us.length → (gl.getD k' undef).ownBlock = none ∨ (gl.getD k' undef).ownBlock ≠ (us.getD j undef).ownBlock
  bel : Below B w0 w
structure P5 (B : Nat) (w0 w : World) (v : Value) (us : List Value) (ns : List Nat) (k : Nat) (gl : List Value) (x : Value) (m : Nat) : Prop where
  hv : HVL w v us
  len : gl.length = k
  oth : ∀ k', k' < us.length → k' ≠ k → RowI B w (us.getD k' undef) (ns.getD k' 0) k' (ns.getD k' 0)
  big : ∀ k', k' < k → RowI B w (gl.getD k' undef) (ns.getD k' 0 + 70) k' (ns.getD k' 0 + 70)
  dis : ∀ k' j, k' < k → k ≤ j → j < us.length → (gl.getD k' undef).ownBlock = none ∨ (gl.getD k' undef).ownBlock ≠ (us.getD j undef).ownBlock
  bel : Below B w0 w
  cur : RowI B w x (ns.getD k 0 + m) k (ns.getD k 0 + m)
  own : (∃ g c, us.getD k undef = .slice (some ⟨g, 0, none⟩) (ns.getD k 0) c ∧ x = .slice (some ⟨g, 0, none⟩) (ns.getD k 0 + m) c) ∨ ((x.ownBlock = none ∨ x.ownBlock ≠ (us.getD k undef).ownBlock) ∧ RowI B w (us.getD k undef) (ns.getD k 0) k (ns.getD k 0))
  apu : ∀ j, j < us.length → j ≠ k → x.ownBlock = none ∨ x.ownBlock ≠ (us.getD j undef).ownBlock
  apg : ∀ k', k' < k → x.ownBlock = none ∨ x.ownBlock ≠ (gl.getD k' undef).ownBlock
theorem P4.start {B : Nat} {w0 w : World} {v : Value} {us : List Value} {ns : List Nat} (h : P3 B w0 w v us ns us.length 0) : P4 B w0 w v us ns 0 [] :=
  ⟨h.hv, rfl, fun k' hk' => by have := h.row k' hk'; simpa [cntL, hk'] using this, fun k' hk' => by omega, fun k' j hk' => by omega, h.bel⟩
theorem P5.start {B : Nat} {w0 w : World} {v : Value} {us : List Value} {ns : List Nat} {k : Nat} {gl : List Value} (h : P4 B w0 w v us ns k gl) (hd : DisU us) (hk : k < us.length) : P5 B w0 w v us ns k gl (us.getD k undef) 0 := by
  have hr := h.row k hk
  refine ⟨h.hv, h.len, fun k' q _ => h.row k' q, h.big, h.dis, h.bel, hr, ?_, fun j hj hne => hd k j hk hj (Ne.symm hne), fun k' hk' => ?_⟩
  · obtain ⟨xs, q1, _⟩ := hr
    rcases q1.2 with ⟨e, _⟩ | ⟨g, cap, cur, e, _⟩
    · exact .inr ⟨.inl (by rw [e]; rfl), h.row k hk⟩
    · exact .inl ⟨g, cap, e, e⟩
  · rcases h.dis k' k hk' (Nat.le_refl _) hk with q | q
    · cases q2 : (us.getD k undef).ownBlock with
      | none => exact .inl rfl
      | some b => exact .inr (by rw [q]; intro e; cases e)
    · exact .inr fun e => q e.symm
theorem P5.below {B : Nat} {w0 w w' : World} {v : Value} {us : List Value} {ns : List Nat} {k : Nat} {gl : List Value} {x : Value} {m : Nat} (h : P5 B w0 w v us ns k gl x m) (hb : Below w.heap.size w w') (hB : B ≤ w.heap.size) : P5 B w0 w' v us ns k gl x m := by
  have kp : ∀ {v : Value} {n k i : Nat}, RowI B w v n k i → RowI B w' v n k i := fun {v n k i} q => by
    obtain ⟨xs, q1, q2⟩ := q
    exact RowI.keep ⟨xs, q1, q2⟩ (KT.below hb) (fun b e => hb.block b (own_atL q1 e).1)
  exact ⟨h.hv.below hb, h.len, fun k' a b => kp (h.oth k' a b), fun k' a => kp (h.big k' a), h.dis, h.bel.trans (hb.mono hB), kp h.cur, h.own.imp id (fun ⟨a, b⟩ => ⟨a, kp b⟩), h.apu, h.apg⟩
theorem P5.step {B : Nat} {w0 w w' : World} {v : Value} {us : List Value} {ns : List Nat} {k : Nat} {gl : List Value} {x x' u : Value} {m : Nat} {xs : List Value} (h : P5 B w0 w v us ns k gl x m) (hk : k < us.length) (hxs : w.ownsRow B TE 1 x (ns.getD k 0 + m) xs) (hm : ∀ j, j < ns.getD k 0 + m → Mkd w (xs.getD j undef) k j) (hu : Mkd w u k (ns.getD k 0 + m)) (ho : w'.ownsRow B TE 1 x' (ns.getD k 0 + m + 1) (xs ++ [u])) (hg : w.grownBy w' x.ownBlock)
    (hw : (∃ g cap, x = .slice (some ⟨g, 0, none⟩) (ns.getD k 0 + m) cap ∧ x' = .slice (some ⟨g, 0, none⟩) (ns.getD k 0 + m + 1) cap) ∨ (x'.ownBlock = some w.heap.size ∧ w.grownBy w' none)) (hB : B ≤ w.heap.size) : P5 B w0 w' v us ns k gl x' (m + 1) := by
  have kt : KT w w' := KT.grown hg (fun b e => by obtain ⟨_, _, cs, q⟩ := own_atL hxs e; exact ⟨cs, _, q, by decide⟩)
  have hxl : xs.length = ns.getD k 0 + m := by have := hxs.1; omega
  have kp : ∀ {z : Value} {n k i : Nat}, (x.ownBlock = none ∨ x.ownBlock ≠ z.ownBlock) → RowI B w z n k i → RowI B w' z n k i := fun {z n k i} hd q => by
    obtain ⟨ys, q1, q2⟩ := q
    refine RowI.keep ⟨ys, q1, q2⟩ kt (fun b e => hg.block b (own_atL q1 e).1 (fun e2 => ?_))
    rcases hd with d | d
    · rw [d] at e2; cases e2
    · exact d (e2.symm.trans e.symm)
  have new : ∀ z : Value, (x.ownBlock = none ∨ x.ownBlock ≠ z.ownBlock) → (∀ b, z.ownBlock = some b → b < w.heap.size) → (x'.ownBlock = none ∨ x'.ownBlock ≠ z.ownBlock) := fun z hd hz => by
    rcases hw with ⟨g, cap, rfl, rfl⟩ | ⟨e, _⟩
    · exact hd
    · refine .inr fun q => ?_
      rw [e] at q
      have := hz _ q.symm
      omega
  have cur : RowI B w' x' (ns.getD k 0 + (m + 1)) k (ns.getD k 0 + (m + 1)) := by
    refine ⟨xs ++ [u], ho, fun j hj _ => ?_⟩
    by_cases e : j < ns.getD k 0 + m
    · have : (xs ++ [u]).getD j undef = xs.getD j undef := by rw [getD_app, if_pos (by omega)]
      rw [this]
      exact (hm j e).keep kt
    · obtain rfl : j = ns.getD k 0 + m := by omega
      have : (xs ++ [u]).getD (ns.getD k 0 + m) undef = u := by rw [getD_app, if_neg (by omega), hxl, Nat.sub_self]; rfl
      rw [this]
      exact hu.keep kt
  refine ⟨h.hv.keep (fun b cs q => hg.block b (Array.getElem?_eq_some_iff.1 q).1 (fun e => by
      obtain ⟨_, _, cs', q2⟩ := own_atL hxs e.symm
      rw [q] at q2
      simp only [Option.some.injEq, Obj.cells.injEq] at q2
      exact absurd q2.2.1 (by decide))), h.len, fun k' a b => kp (h.apu k' a b) (h.oth k' a b), fun k' a => kp (h.apg k' a) (h.big k' a), h.dis, h.bel.grown hg (Nat.le_trans hB (Nat.le_refl _)) (fun b e => (own_atL hxs e).2.1), cur, ?_, fun j hj hne => new _ (h.apu j hj hne) (fun b e => by obtain ⟨ys, q1, _⟩ := h.oth j hj hne; exact (own_atL q1 e).1), fun k' hk' => new _ (h.apg k' hk') (fun b e => by obtain ⟨ys, q1, _⟩ := h.big k' hk'; exact (own_atL q1 e).1)⟩
  rcases h.own with ⟨g, c, e1, e2⟩ | ⟨e1, e2⟩
  · rcases hw with ⟨g', cap, e3, e4⟩ | ⟨e3, e4⟩
    · rw [e2] at e3
      simp only [Value.slice.injEq, Option.some.injEq, Addr.mk.injEq, and_true, true_and] at e3
      obtain ⟨rfl, rfl⟩ := e3
      exact .inl ⟨g, c, e1, e4⟩
    · refine .inr ⟨.inr fun q => ?_, ?_⟩
      · rw [e3, e1] at q
        have := (own_atL hxs (b := g) (by rw [e2]; rfl)).1
        simp only [Value.ownBlock, Option.some.injEq] at q
        omega
      · have hc := h.cur
        rw [e2] at hc
        rw [e1]
        have hp := hc.pre (n' := ns.getD k 0) (by omega)
        obtain ⟨ys, q1, q2⟩ := hp
        exact RowI.keep ⟨ys, q1, q2⟩ kt (fun b e => e4.block b (own_atL q1 e).1 (fun x => by cases x))
  · refine .inr ⟨new _ e1 (fun b e => by obtain ⟨ys, q1, _⟩ := e2; exact (own_atL q1 e).1), kp e1 e2⟩
theorem P5.finish {B : Nat} {w0 w : World} {v : Value} {us : List Value} {ns : List Nat} {k : Nat} {gl : List Value} {x : Value} (h : P5 B w0 w v us ns k gl x 70) (hk : k < us.length) : P4 B w0 w v us ns (k + 1) (gl ++ [x]) := by
  refine ⟨h.hv, by simp [h.len], fun k' hk' => ?_, fun k' hk' => ?_, fun k' j hk' hj hju => ?_, h.bel⟩
  · by_cases e : k' = k
    · subst e
      rcases h.own with ⟨g, c, e1, e2⟩ | ⟨_, e2⟩
      · have hc := h.cur
        rw [e2] at hc
        rw [e1]
        exact hc.pre (by omega)
      · exact e2
    · exact h.oth k' hk' e
  · rw [getD_app, h.len]
    split
    · rename_i q; exact h.big k' q
    · obtain rfl : k' = k := by omega
      rw [Nat.sub_self]
      exact h.cur
  · rw [getD_app, h.len]
    split
    · rename_i q; exact h.dis k' j q (by omega) hju
    · obtain rfl : k' = k := by omega
      rw [Nat.sub_self]
      exact h.apu j hju (by omega)
theorem P4.below {B : Nat} {w0 w w' : World} {v : Value} {us : List Value} {ns : List Nat} {k : Nat} {gl : List Value} (h : P4 B w0 w v us ns k gl) (hb : Below w.heap.size w w') (hB : B ≤ w.heap.size) : P4 B w0 w' v us ns k gl := by
  have kp : ∀ {v : Value} {n k i : Nat}, RowI B w v n k i → RowI B w' v n k i := fun {v n k i} q => by
    obtain ⟨xs, q1, q2⟩ := q
    exact RowI.keep ⟨xs, q1, q2⟩ (KT.below hb) (fun b e => hb.block b (own_atL q1 e).1)
  exact ⟨h.hv.below hb, h.len, fun k' a => kp (h.row k' a), fun k' a => kp (h.big k' a), h.dis, h.bel.trans (hb.mono hB)⟩
theorem P4.grown {B N : Nat} {w0 w w' : World} {v : Value} {us : List Value} {ns : List Nat} {k : Nat} {gl : List Value} (h : P4 B w0 w v us ns k gl) {r : Option Nat} (hg : w.grownBy w' r) (hr : ∀ b, r = some b → N ≤ b ∧ ∃ cs, w.heap[b]? = some (.cells cs 22 (0, 0))) (hB : B ≤ N) (hBw : B ≤ w.heap.size) (hv : ∀ b off n c, v = .slice (some ⟨b, off, none⟩) n c → 0 < us.length → b < N) : P4 B w0 w' v us ns k gl := by
  have kt : KT w w' := KT.grown hg (fun b e => by obtain ⟨_, cs, q⟩ := hr b e; exact ⟨cs, _, q, by decide⟩)
  have kp : ∀ {z : Value} {n k i : Nat}, RowI B w z n k i → RowI B w' z n k i := fun {z n k i} q => by
    obtain ⟨xs, q1, q2⟩ := q
    refine RowI.keep ⟨xs, q1, q2⟩ kt (fun b e => hg.block b (own_atL q1 e).1 (fun e2 => ?_))
    obtain ⟨_, cs, q3⟩ := hr b e2.symm
    obtain ⟨_, _, cs', q4⟩ := own_atL q1 e
    rw [q3] at q4
    simp only [Option.some.injEq, Obj.cells.injEq] at q4
    exact absurd q4.2.1 (by decide)
  refine ⟨?_, h.len, fun k' a => kp (h.row k' a), fun k' a => kp (h.big k' a), h.dis, h.bel.grown hg hBw (fun b e => Nat.le_trans hB (hr b e).1)⟩
  obtain ⟨p, c, e, h1, h2, h4⟩ := h.hv
  refine ⟨p, c, e, h1, h2, fun hne => ?_⟩
  obtain ⟨b, off, e2, ⟨cs, hb⟩, hc⟩ := h4 hne
  have hbN := hv b off us.length c (by rw [e, e2]) (List.length_pos_iff.2 hne)
  have e3 : w'.heap[b]? = w.heap[b]? := hg.block b (Array.getElem?_eq_some_iff.1 hb).1 (fun x => by have := (hr b x.symm).1; omega)
  refine ⟨b, off, e2, ⟨cs, e3.trans hb⟩, fun k hk' => ?_⟩
  rw [← hc k hk']
  exact World.cell?_of_block e3
theorem wanted_litL {P : Program} {ops : Array Oper} {o : Oper} {a : Act} {w w' : World} {K : Act → World → Prop} {Q : Exit → Act → World → Prop} {X : Prop} (hw : Region.wanted o (yielded ops a.tmps) = true) (t : TypeId) (len : Nat) (parts : Array (Nat × Operand)) (ho : o.op = .buildSlice t len parts) (ps : Array (Nat × Value)) (hps : (parts.map fun (i, x) => (i, a.eval x)) = ps) (v : Value)
    (hr : (Instr.buildSlice t len ps).run P w = .ok v w') (h : K (a.put o.dst v) w') : if Region.wanted o (yielded ops a.tmps) = true then Oper.wp P o a w K Q else X := by
  rw [if_pos hw]
  unfold Oper.wp execOp
  simp only [ho, Sem.run_bind, hps, hr, Result.andThen_ok]
  exact h
theorem run_lit3 (w : World) (a b c : Int) : (Instr.buildSlice 23 3 #[(0, .int .u8 a), (1, .int .u8 b), (2, .int .u8 c)]).run Try.prog w = .ok (.slice (some ⟨w.heap.size, 0, none⟩) 3 3) (w.alloc (.cells #[.int .u8 a, .int .u8 b, .int .u8 c] 5)) := by kernel_rfl
theorem run_lit1 (w : World) (p : Option Addr) (n c : Nat) : (Instr.buildSlice 22 1 #[(0, .slice p n c)]).run Try.prog w = .ok (.slice (some ⟨w.heap.size, 0, none⟩) 1 1) (w.alloc (.cells #[.slice p n c] TE)) := by kernel_rfl
theorem flat_takeL {α : Type} (l : List (List α)) (k : Nat) (h : k < l.length) : (l.take (k + 1)).flatten = (l.take k).flatten ++ l.getD k [] := by
  rw [List.take_succ_eq_append_getElem h, List.flatten_append]
  simp [List.getD, List.getElem?_eq_getElem h]
end Go.Proofs.Ytjmihehihjbgpaa
