/- The law GfAgain, walked. -/
import Derived.Test.YtmglpcenipnmbaaGfThroughWalk
import Derived.Deep.DeepCutAuto
import Derived.Deep.CutBlock
set_option linter.unusedSimpArgs false
set_option linter.unusedVariables false
namespace Go.Proofs.Ytmglpcenipnmbaa
open Go Go.RowKit

/-- The places, one behind the other. -/
def plF (a i : Nat) : Nat := (i + a) % 256
theorem plF_lt (a i : Nat) : plF a i < 256 := Nat.mod_lt _ (by decide)
theorem plF_dist (a : Nat) {n : Nat} (hn : n ≤ 256) : Dist (plF a) n := fun i j hij hj => by unfold plF; omega
/-- How many of the first places are noughts. -/
def czF (l : List Int) (a i : Nat) : Nat := ((List.range i).filter fun j => horn (plF a j) l == 0).length
theorem czF_zero (l : List Int) (a : Nat) : czF l a 0 = 0 := rfl
theorem czF_yes {l : List Int} {a i : Nat} (h : horn (plF a i) l = 0) : czF l a (i + 1) = czF l a i + 1 := by
  unfold czF
  rw [List.range_succ, List.filter_append, List.length_append]
  simp [h]
theorem czF_no {l : List Int} {a i : Nat} (h : ¬ horn (plF a i) l = 0) : czF l a (i + 1) = czF l a i := by
  unfold czF
  rw [List.range_succ, List.filter_append, List.length_append]
  simp [h]
theorem evS_cut {l : List Int} (hl : ∀ c ∈ l, 0 ≤ c ∧ c < 256) {x : Nat} (hx : x < 256) {n : Nat} (hn : cutN l l.length ≤ n) : evS (gN l) x n = horn x l := by
  have hz : ∀ i, cutN l l.length ≤ i → gN l i = 0 := fun i hi => by
    by_cases h : i < l.length
    · exact cutN_stop l l.length i hi h
    · exact gN_out l i (by omega)
  rw [horn_evS l x hx hl]
  have e1 := evS_more x (cutN l l.length) (l.length - cutN l l.length) hz
  have e2 := evS_more x (cutN l l.length) (n - cutN l l.length) hz
  rw [show cutN l l.length + (l.length - cutN l l.length) = l.length by have := cutN_le l l.length; omega] at e1
  rw [show cutN l l.length + (n - cutN l l.length) = n by omega] at e2
  rw [e1, e2]
/-- A polynomial has fewer noughts than coefficients. -/
theorem czF_few {l : List Int} (hl : ∀ c ∈ l, 0 ≤ c ∧ c < 256) (a : Nat) (h0 : 0 < cutN l l.length) : czF l a 256 < cutN l l.length := by
  apply Classical.byContradiction
  intro hge
  have hge : cutN l l.length ≤ czF l a 256 := Nat.le_of_not_lt hge
  have hnd : (((List.range 256).filter fun j => horn (plF a j) l == 0).map (plF a)).Nodup := by
    have := (plF_dist a (Nat.le_refl 256)).nodup
    exact List.Nodup.sublist (List.Sublist.map _ List.filter_sublist) this
  have hr := evS_roots (cutN l l.length) (gN l) ((((List.range 256).filter fun j => horn (plF a j) l == 0).map (plF a)).take (cutN l l.length)) (gN_lt hl)
    (by rw [List.length_take, List.length_map]; exact Nat.min_eq_left hge) (List.Nodup.sublist (List.take_sublist _ _) hnd)
    (fun x hx => by obtain ⟨j, _, rfl⟩ := List.mem_map.1 (List.mem_of_mem_take hx); exact plF_lt a j)
    (fun x hx => by
      obtain ⟨j, hj, rfl⟩ := List.mem_map.1 (List.mem_of_mem_take hx)
      have := (List.mem_filter.1 hj).2
      rw [evS_cut hl (plF_lt a j) (Nat.le_refl _)]
      simpa using this)
    (cutN l l.length - 1) (by omega)
  exact cutN_last l l.length (by omega) hr
/-- What goes through the values of a polynomial is the polynomial. -/
theorem again_row {l : List Int} (hl : ∀ c ∈ l, 0 ≤ c ∧ c < 256) {a m : Nat} (hm : l.length ≤ m) (hm2 : m ≤ 256) {L : List Int} (h : ThrRow m (plF a) (fun i => horn (plF a i) l) L) : thrN m (plF a) = 0 ∧ L = l.take (cutN l l.length) := by
  have e : thrN m (plF a) = 0 := by unfold thrN; rw [if_neg (by omega), if_pos (plF_dist a hm2)]
  refine ⟨e, ?_⟩
  obtain ⟨_, hd, f, hf, rfl, hev⟩ := h.2 e
  rw [through_one (fun i => plF_lt a i) hd hf (gN_lt hl) fun i hi => (hev i hi).trans (evS_cut hl (plF_lt a i) (Nat.le_trans (cutN_le _ _) hm)).symm]
  have hz : ∀ i, cutN l l.length ≤ i → gN l i = 0 := fun i hi => by
    by_cases h : i < l.length
    · exact cutN_stop l l.length i hi h
    · exact gN_out l i (by omega)
  rw [cutL_of m (cutN l l.length) (gN l) (Nat.le_trans (cutN_le _ _) hm) hz (cutN_last l l.length)]
  have hle := cutN_le l l.length
  refine List.ext_getElem (by rw [tabL_length, List.length_take]; omega) fun j h1 h2 => ?_
  rw [tabL_length] at h1
  have hb := hl (l[j]'(by omega)) (List.getElem_mem _)
  simp only [tabL, List.getElem_map, List.getElem_range, List.getElem_take, gN, List.getD, List.getElem?_eq_getElem (show j < l.length by omega), Option.getD_some]
  omega
/-- The loop's invariant. -/
def AgInv (w : World) (l : List Int) (a m i : Nat) (v : Value) (wr : World) : Prop :=
  wr.ownsRow w.heap.size 54 2 v (min i m) (ptl (min i m) (plF a) (fun i => horn (plF a i) l)) ∧ Below w.heap.size w wr
theorem ptl_snoc (n : Nat) (X Y : Nat → Nat) : ptl n X Y ++ [.int .u8 (X n : Int), .int .u8 (Y n : Int)] = ptl (n + 1) X Y := by
  refine List.ext_getElem? fun j => ?_
  by_cases h : j < n * 2
  · rw [List.getElem?_append_left (by rw [ptl_length]; exact h)]
    unfold ptl
    rw [List.getElem?_map, List.getElem?_map, List.getElem?_range h, List.getElem?_range (by omega)]
  · rw [List.getElem?_append_right (by rw [ptl_length]; omega), ptl_length]
    by_cases e : j = n * 2
    · subst e
      rw [Nat.sub_self, ptl_fst X Y (by omega)]
      rfl
    · by_cases e2 : j = n * 2 + 1
      · subst e2
        rw [show n * 2 + 1 - n * 2 = 1 by omega, ptl_snd X Y (by omega)]
        rfl
      · rw [List.getElem?_eq_none (by simp; omega), List.getElem?_eq_none (by rw [ptl_length]; omega)]
theorem HPt.own {w : World} {B n : Nat} {v : Value} {X Y : Nat → Nat} (h : w.ownsRow B 54 2 v n (ptl n X Y)) (hX : ∀ i, X i < 256) (hY : ∀ i, Y i < 256) : HPt w v n X Y := by
  rcases h.2 with ⟨rfl, rfl⟩ | ⟨g, cap, cur, rfl, _⟩
  · exact ⟨none, 0, rfl, Nat.le_refl _, Nat.zero_le _, hX, hY, fun h => absurd h (by omega)⟩
  · exact HPt.of_own h hX hY (Nat.le_refl _) (fun _ _ h => h)

theorem HB.first {w : World} {p : Option Addr} {c : Nat} {l : List Int} (h : HB w (.slice p l.length c) l) (k : Nat) (hk : k ≤ l.length) : HB w (.slice p k c) (l.take k) := by
  obtain ⟨⟨q, c', e, h1, h2, h3, h4⟩, h5⟩ := h
  simp only [Value.slice.injEq, true_and] at e
  obtain ⟨rfl, rfl⟩ := e
  have hl : (l.take k).length = k := by rw [List.length_take]; omega
  refine ⟨⟨p, c, by rw [hl], by omega, h2, h3, fun hne => ?_⟩, fun x hx => h5 x (List.mem_of_mem_take hx)⟩
  obtain ⟨b, off, e, hc⟩ := h4 (fun e => hne (by rw [e, List.take_nil]))
  refine ⟨b, off, e, fun j hj => ?_⟩
  rw [hl] at hj
  rw [hc j (by omega)]
  simp [List.getD, List.getElem?_take, hj]

theorem HPt.lit1 (w : World) (x y : Nat) (hx : x < 256) (hy : y < 256) : HPt (w.alloc (.cells #[.int .u8 (x : Int), .int .u8 (y : Int)] 54)) (.slice (some ⟨w.heap.size, 0, none⟩) 1 1) 1 (fun _ => x) (fun _ => y) := by
  refine ⟨_, _, rfl, Nat.le_refl _, by decide, fun _ => hx, fun _ => hy, fun _ => ⟨w.heap.size, 0, rfl, fun i hi => ?_⟩⟩
  have : i = 0 := by omega
  subst this
  exact ⟨by rw [cell_of_row _ w.heap.size _ _ _ _ (heap_alloc_new w _)]; rfl, by rw [cell_of_row _ w.heap.size _ _ _ _ (heap_alloc_new w _)]; rfl⟩

set_option maxRecDepth 100000 in
set_option maxHeartbeats 16000000 in
theorem again_walk (w : World) (v : Value) (l0 : List Int) (a b : Nat) (h : HB w v l0) (ha : a < 256) (hb : b < 256) :
    Calls Try.prog 8 #[v, .int .u8 (a : Int), .int .u8 (b : Int)] w fun e w' => e = .returned (.bool true) ∧ Below w.heap.size w w' := by
  have HA := hid h
  obtain ⟨p, c, rfl, hlc, hcm⟩ := h.open
  unfold maxLen at hcm
  have sz := size_pt
  have su := size_u8
  clear h
  go_enter Try.func8, Try.ntmps8
  go_upto_if 17 with fail
  go_cut [0] (fun v0 wc => ∃ p' c' l, v0 = .slice p' l.length c' ∧ Hid (HB w v0 l) ∧ l.length ≤ 100 ∧ l.length ≤ c' ∧ c' ≤ 9223372036854775807 ∧ wc = w)
  case first =>
    by_cases h1 : 100 < l0.length
    · have hq : (100 : Int) < (l0.length : Int) := by omega
      have SL := hid (HA.out.first 100 (by omega))
      have hl : (l0.take 100).length = 100 := by rw [List.length_take]; omega
      have HL := hid hl
      clear hl
      go_wp2
      go_meet
      case rel => exact ⟨p, c, l0.take 100, by rw [HL.out], SL, by rw [HL.out]; omega, by rw [HL.out]; omega, hcm, rfl⟩
    · go_wp2
      go_meet
      case rel => exact ⟨p, c, l0, rfl, HA, by omega, hlc, hcm, rfl⟩
  case rest =>
    obtain ⟨p', c', l, rfl, HB0, hl100, hlc', hcm', rfl⟩ := hcut
    clear HA hlc hcm
    obtain ⟨m, Hm⟩ : ∃ m, m = l.length + b % 30 := ⟨_, rfl⟩
    have hm1 : l.length ≤ m := by omega
    have hm2 : m ≤ 129 := by omega
    have hmi : (l.length : Int) + (b : Int) % 30 = (m : Int) := by omega
    obtain ⟨N, HN⟩ : ∃ N, Hid (cutN l l.length = N) := ⟨_, rfl⟩
    have hNl : N ≤ l.length := by rw [← HN.out]; exact cutN_le _ _
    clear Hm
    go_upto_block 0 with fail
    go_cut [7] (fun v7 wx => v7 = .int .i64 (N : Int) ∧ wx = wc)
    case first =>
      go_wp2_with fail
      go_loopw [7] (fun vn wr => ∃ k : Nat, vn = .int .i64 (k : Int) ∧ k ≤ l.length ∧ Hid (cutN l k = N) ∧ wr = wc) (fun vn _ => (intOf vn).toNat)
      case atStart => exact ⟨l.length, rfl, Nat.le_refl _, HN, rfl⟩
      case round =>
        obtain ⟨k, rfl, hk, HK, hw⟩ := hrel
        subst hw
        cases k with
        | zero =>
          have HE : Hid (N = 0) := HK.out.symm
          clear HK
          go_wp2
          go_meet
          case rel => exact ⟨by rw [HE.out], rfl⟩
        | succ j =>
          obtain ⟨b1, o1, c1, e1, _, _, hc1⟩ := HB0.out.ne (by omega)
          simp only [Value.slice.injEq, true_and] at e1
          obtain ⟨rfl, rfl⟩ := e1
          have q1 := hc1 j (by omega)
          obtain ⟨g1, l1⟩ := HB0.out.gN j
          rw [g1] at q1
          have hj : ((j + 1 : Nat) : Int) - 1 = (j : Int) := by omega
          have hjl : j < l.length := by omega
          clear hc1 g1
          by_cases h0 : gN l j = 0
          · have HN2 : Hid (cutN l j = N) := by
              have := HK.out
              rw [cutN, if_pos h0] at this
              exact this
            rw [h0] at q1
            clear HK
            go_wp2
            exact ⟨⟨j, by go_num, by omega, HN2, by trivial⟩, by simp [intOf]⟩
          · have HN2 : Hid (N = j + 1) := by
              have := HK.out
              rw [cutN, if_neg h0] at this
              exact this.symm
            have h0' : (((gN l j : Nat) : Int) == 0) = false := by simpa using h0
            clear HK
            go_wp2
            go_meet
            case rel => exact ⟨by rw [HN2.out], rfl⟩
    case rest =>
      obtain ⟨rfl, rfl⟩ := hcut
      clear hNl
      go_wp2
      go_loopw [8, 9, 10] (fun vp vz vi wr => ∃ i z : Nat, i ≤ 256 ∧ vi = .int .i64 (i : Int) ∧ vz = .int .i64 (z : Int) ∧ z ≤ i ∧ Hid (czF l a i = z) ∧ Hid (AgInv wc l a m i vp wr)) (fun _ _ vi _ => 256 - (intOf vi).toNat)
      case atStart => exact ⟨0, 0, Nat.zero_le _, rfl, rfl, Nat.le_refl _, rfl, by rw [Nat.zero_min]; exact World.ownsRow_nil _ _ _ _, Below.refl _ _⟩
      case round =>
        obtain ⟨i, z, hi, rfl, rfl, hz, HZ, HI⟩ := hrel
        by_cases hlast : i = 256
        · subst hlast
          have hl1 : ¬ ((256 : Nat) : Int) < 256 := by decide
          have hmn : min 256 m = m := by omega
          have P0 := HI.out.1
          rw [hmn] at P0
          have PT := hid (HPt.own P0 (fun i => plF_lt a i) (fun i => horn_lt _ l HB0.out.2))
          have BR := hid HI.out.2
          have hzN : ¬ (0 < N ∧ N ≤ z) := fun h => by
            have := czF_few HB0.out.2 a (by rw [HN.out]; exact h.1)
            rw [HN.out, HZ.out] at this
            omega
          have C1 := hid ((gthrough_any wr _ m _ _ PT.out).mono fun _ _ h => ThrPost.tr h)
          clear HI P0 hmn
          have hN3 : N ≤ l.length := by rw [← HN.out]; exact cutN_le _ _
          have HT := hid (HB0.out.first N hN3)
          have hll : (l.take N).length = N := by rw [List.length_take]; omega
          have HLL := hid hll
          have AR : Hid (∀ L, ThrRow m (plF a) (fun i => horn (plF a i) l) L → thrN m (plF a) = 0 ∧ L = l.take N) := fun L hL => by
            have := again_row HB0.out.2 hm1 (by omega) hL
            rw [HN.out] at this
            exact this
          have HN3 := hid hN3
          clear hll
          by_cases hN0 : 0 < N
          case' pos =>
            have hN1 : (0 : Int) < (N : Int) := by omega
            have hN2 : ¬ (N : Int) ≤ (z : Int) := by omega
          case' neg =>
            have hN1 : ¬ (0 : Int) < (N : Int) := by omega
          all_goals
            clear hzN hN0
            go_wp2_with fail
            refine C1.out.mono ?_
            rintro e w2 ⟨p2, c2, L, rfl, hL, ho2, hB2⟩
            obtain ⟨e0, rfl⟩ := AR.out L hL
            have OL := hid (HB.of_own ho2 hL.byt.1)
            have hs2 := hB2.size
            have B2 := hid (BR.out.trans (hB2.mono BR.out.size))
            rw [HLL.out] at OL
            rw [e0, HLL.out]
            clear hL ho2 hB2 C1 e0 BR
            go_wp2_with fail
            refine (sameBytes_any w2 _ _ (l.take N) (l.take N) OL.out (HT.out.below B2.out)).mono ?_
            rintro e w3 ⟨rfl, hD3⟩
            rw [decide_eq_true rfl]
            have B3 := hid (B2.out.trans ((hD3.below w2.heap.size).mono B2.out.size))
            clear hD3
            go_wp2_with fail
            refine (awake_any w3).mono ?_
            rintro e w4 ⟨rfl, hB4⟩
            have B4 := hid (B3.out.trans (hB4.mono B3.out.size))
            clear hB4
            go_wp2
            go_ret
            exact ⟨rfl, B4.out⟩
        · have hl1 : (i : Int) < 256 := by omega
          obtain ⟨x, Hx⟩ : ∃ x, Hid (plF a i = x) := ⟨_, rfl⟩
          have hxl : x < 256 := by rw [← Hx.out]; exact plF_lt a i
          obtain ⟨y, Hy⟩ : ∃ y, Hid (horn x l = y) := ⟨_, rfl⟩
          have hyl : y < 256 := by rw [← Hy.out]; exact horn_lt x l HB0.out.2
          have hxi : ((i : Int) + (a : Int)) % 256 = (x : Int) := by rw [← Hx.out]; unfold plF; omega
          have ce := eval_any wr _ l x (HB0.out.below HI.out.2) hxl
          rw [Hy.out] at ce
          have CE := hid ce
          have HYX : Hid (horn (plF a i) l = y) := by rw [Hx.out]; exact Hy
          have HO := hid HI.out.1
          have HBr := hid HI.out.2
          clear ce HI
          go_wp2_with fail
          refine CE.out.mono ?_
          rintro e w1 ⟨rfl, hB1⟩
          simp only [hxi]
          have O1 := hid (own2_below HO.out hB1)
          have B1 := hid (HBr.out.trans (hB1.mono HBr.out.size))
          have hs1 := B1.out.size
          clear HO HBr hB1 CE hxi
          by_cases him : i < m
          · have hmn : min i m = i := by omega
            have hmn2 : min (i + 1) m = i + 1 := by omega
            have him' : (i : Int) < (m : Int) := by omega
            rw [hmn] at O1
            have AP : Hid (∀ v' w', w'.ownsRow wc.heap.size 54 2 v' (i + 1) (ptl i (plF a) (fun i => horn (plF a i) l) ++ ptl 1 (fun _ => x) (fun _ => y)) → (w1.alloc (.cells #[.int .u8 (x : Int), .int .u8 (y : Int)] 54)).grownBy w' (u8.ownBlock) → AgInv wc l a m (i + 1) v' w') := fun v' w' h1 h2 => by
              have e : ptl i (plF a) (fun i => horn (plF a i) l) ++ ptl 1 (fun _ => x) (fun _ => y) = ptl (i + 1) (plF a) (fun i => horn (plF a i) l) := by
                rw [← ptl_snoc i]
                show _ = ptl i (plF a) (fun i => horn (plF a i) l) ++ [.int .u8 (plF a i : Int), .int .u8 (horn (plF a i) l : Int)]
                rw [HYX.out, Hx.out]
                rfl
              rw [e] at h1
              refine ⟨by rw [hmn2]; exact h1, (B1.out.alloc hs1 _).grown h2 (by rw [World.size_alloc]; omega) (fun k e => (O1.out.lt k e).1)⟩
            clear hmn hmn2
            by_cases hy0 : y = 0
            · have ZN := hid (show czF l a (i + 1) = z + 1 by rw [czF_yes (by rw [HYX.out]; exact hy0), HZ.out])
              have hy' : ((y : Int) == 0) = true := by rw [hy0]; rfl
              clear hy0
              go_wp2_with (at_builtin; refine wpList_append_pts rfl _ _ rfl wc.heap.size _ i (ptl i (plF a) (fun i => horn (plF a i) l)) rfl (O1.out.alloc _) _ 1 (fun _ => x) (fun _ => y) rfl (HPt.lit1 w1 x y hxl hyl) ?q1 (by omega) ?q2 ?_)
              case q1 => intro c e; cases e
              case q2 => rw [World.size_alloc]; omega
              intro v2 w2 ho2 hg2
              have AG := hid (AP.out v2 w2 ho2 hg2)
              clear ho2 hg2 AP
              go_wp2
              exact ⟨⟨i + 1, z + 1, by omega, by go_num, by go_num, by omega, ZN, AG⟩, by simp [intOf]; omega⟩
            · have ZN := hid (show czF l a (i + 1) = z by rw [czF_no (by rw [HYX.out]; exact hy0), HZ.out])
              have hy' : ((y : Int) == 0) = false := by simp; exact hy0
              clear hy0
              go_wp2_with (at_builtin; refine wpList_append_pts rfl _ _ rfl wc.heap.size _ i (ptl i (plF a) (fun i => horn (plF a i) l)) rfl (O1.out.alloc _) _ 1 (fun _ => x) (fun _ => y) rfl (HPt.lit1 w1 x y hxl hyl) ?q1 (by omega) ?q2 ?_)
              case q1 => intro c e; cases e
              case q2 => rw [World.size_alloc]; omega
              intro v2 w2 ho2 hg2
              have AG := hid (AP.out v2 w2 ho2 hg2)
              clear ho2 hg2 AP
              go_wp2
              exact ⟨⟨i + 1, z, by omega, by go_num, rfl, by omega, ZN, AG⟩, by simp [intOf]; omega⟩
          · have him' : ¬ (i : Int) < (m : Int) := by omega
            have AG : Hid (AgInv wc l a m (i + 1) u8 w1) := by
              refine ⟨?_, B1.out⟩
              have := O1.out
              rw [show min i m = m by omega] at this
              rw [show min (i + 1) m = m by omega]
              exact this
            by_cases hy0 : y = 0
            · have ZN := hid (show czF l a (i + 1) = z + 1 by rw [czF_yes (by rw [HYX.out]; exact hy0), HZ.out])
              have hy' : ((y : Int) == 0) = true := by rw [hy0]; rfl
              clear hy0
              go_wp2
              exact ⟨⟨i + 1, z + 1, by omega, by go_num, by go_num, by omega, ZN, AG⟩, by simp [intOf]; omega⟩
            · have ZN := hid (show czF l a (i + 1) = z by rw [czF_no (by rw [HYX.out]; exact hy0), HZ.out])
              have hy' : ((y : Int) == 0) = false := by simp; exact hy0
              clear hy0
              go_wp2
              exact ⟨⟨i + 1, z, by omega, by go_num, rfl, by omega, ZN, AG⟩, by simp [intOf]; omega⟩
end Go.Proofs.Ytmglpcenipnmbaa
