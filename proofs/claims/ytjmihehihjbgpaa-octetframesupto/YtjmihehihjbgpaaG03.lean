/- Of the road to octetFramesUpto_holds: AptL2, ApartG, Range, PwKit. -/
import Derived.Test.YtjmihehihjbgpaaG02
import Derived.Test.YtjmihehihjbgpaaG01
import Derived.Test.YtjmihehihjbgpaaG00
import Derived.Deep.RegionHeld3
import Derived.RangeFuncNested
import Derived.RangeFuncBound
import Derived.RangeFuncCalls
import Derived.RangeFuncBox
import Derived.RangeFuncLeaves
import Derived.Shelf.Abstract
import Derived.Shelf.RegionOpen
import Derived.WalkKit
import Derived.OwnWalkIn
import Derived.TacticsInMore
import Derived.LoopNIn
import Derived.LoopIn
set_option linter.unusedVariables false
set_option linter.unusedSimpArgs false
namespace Go.Proofs.Ytjmihehihjbgpaa
open Go.RowKit
set_option maxRecDepth 100000 in
set_option maxHeartbeats 64000000 in
theorem apartLists_any (B : Nat) (w : World) (v : Value) (us : List Value) (xss : List (List Value)) (ls : List (List Int)) (hv : HVL w v us) (hl : us.length = xss.length) (hr : ∀ k, k < us.length → w.ownsRow B TE 1 (us.getD k undef) (xss.getD k []).length (xss.getD k [])) (hd : DisU us) (ha : Apt B w xss.flatten ls) (hB : B ≤ w.heap.size) (hn : us.length ≤ 1000000) (hx : ∀ k, (xss.getD k []).length ≤ 1000000000) (hf : xss.flatten.length ≤ 1000000000000) (hls : ∀ k, (ls.getD k []).length ≤ 140737488351232) :
    Calls Try.prog 20 #[v] w fun e w' => e = .returned (.bool true) ∧ Below B w w' := by
  obtain ⟨p, c, e, hlc, hm, hcell⟩ := id hv
  unfold maxLen at hm
  subst e
  have A : Hid (0 < us.length → ∃ b off, p = some ⟨b, off, none⟩ ∧ b < w.heap.size) := hid (fun h0 => by
    obtain ⟨b, off, e, ⟨cs, hb⟩, _⟩ := hcell (by intro e; subst e; simp at h0)
    exact ⟨b, off, e, (Array.getElem?_eq_some_iff.1 hb).1⟩)
  have HV0 := hid hv
  have HR := hid hr
  have HA := hid ha
  have HD := hid hd
  have HX := hid hx
  have HLS := hid hls
  have HLX := hid hl
  obtain ⟨ns, HNS⟩ : ∃ ns : List Nat, Hid (∀ k, ns.getD k 0 = (xss.getD k []).length) := ⟨xss.map List.length, hid (fun k => by simp only [List.getD, List.getElem?_map]; cases xss[k]? <;> rfl)⟩
  clear hv hr ha hd hx hls hcell hl
  go_enter Try.func20, Try.ntmps20
  go_wp2
  go_loopw [3, 4] (fun va k wr => ∃ K : Nat, K ≤ us.length ∧ k = .int .i64 (K : Int) ∧ Hid (wr.ownsRow w.heap.size TE 1 va ((xss.take K).flatten).length ((xss.take K).flatten)) ∧ Hid (Below w.heap.size w wr)) (fun _ k _ => us.length - (intOf k).toNat)
  case atStart => exact ⟨0, Nat.zero_le _, rfl, hid (World.ownsRow_nil _ _ _ _), hid (Below.refl _ _)⟩
  case round =>
    obtain ⟨K, hK, rfl, HO, HBr⟩ := hrel
    by_cases hlt : K < us.length
    · obtain ⟨b, off, rfl, _⟩ := A.out (by omega)
      have hfl : Hid (((xss.take (K + 1)).flatten).length ≤ 1000000000000) := hid (by
        have e : xss.flatten = (xss.take (K + 1)).flatten ++ (xss.drop (K + 1)).flatten := by rw [← List.flatten_append, List.take_append_drop]
        rw [e, List.length_append] at hf
        omega)
      have hrow := HR.out K hlt
      obtain ⟨pk, ck, eu⟩ := own_slcL hrow
      obtain ⟨xs, HXS⟩ : ∃ xs, Hid (xss.getD K [] = xs) := ⟨_, hid rfl⟩
      have hflat := flat_takeL xss K (by have := HLX.out; omega)
      rw [HXS.out] at eu hrow hflat
      have EU : Hid (∀ W, Below w.heap.size w W → W.cell? ⟨b, off + K, none⟩ = some (.slice pk xs.length ck)) := hid (fun W hW => by
        have := (HV0.out.below hW).at rfl hlt
        rw [eu] at this
        exact this)
      rw [eu] at hrow
      have HROW := hid hrow
      obtain ⟨pre, HPRE⟩ : ∃ x, Hid ((xss.take K).flatten = x) := ⟨_, hid rfl⟩
      rw [HPRE.out] at HO hflat
      rw [hflat] at hfl
      rw [List.length_append] at hfl
      have hk1 : (K : Int) < (us.length : Int) := by omega
      have hmem : Hid (∀ j, j < xs.length → ∃ px cx nx, xs.getD j undef = .slice px nx cx) := hid (fun j hj => by
        have hidx : ∃ q, q < xss.flatten.length ∧ xss.flatten.getD q undef = xs.getD j undef := by
          have e : xss.flatten = (pre ++ xs) ++ (xss.drop (K + 1)).flatten := by rw [← hflat, ← List.flatten_append, List.take_append_drop]
          refine ⟨pre.length + j, by rw [e]; simp; omega, ?_⟩
          rw [e, getD_app, if_pos (by simp; omega), getD_app, if_neg (by omega), Nat.add_sub_cancel_left]
        obtain ⟨q, hq, eq⟩ := hidx
        obtain ⟨p', c', e'⟩ := own_slcL (HA.out.2.1 q hq)
        rw [eq] at e'
        exact ⟨p', c', _, e'⟩)
      clear hrow eu
      go_wp2
      go_loopw [3, 5] (fun va i wz => ∃ I : Nat, I ≤ xs.length ∧ i = .int .i64 (I : Int) ∧ Hid (wz.ownsRow w.heap.size TE 1 va ((pre ++ xs.take I).length) (pre ++ xs.take I)) ∧ Hid (Below w.heap.size w wz)) (fun _ i _ => xs.length - (intOf i).toNat)
      case atStart => exact ⟨0, Nat.zero_le _, rfl, hid (by rw [List.take_zero, List.append_nil]; exact HO.out), HBr⟩
      case round =>
        clear HO HBr
        obtain ⟨I, hI, rfl, HO, HBr⟩ := hrel
        have hc1 := EU.out wr HBr.out
        by_cases hli : I < xs.length
        · obtain ⟨px, cx, nx, ex⟩ := hmem.out I hli
          have hrw := own_ofL HROW.out (w' := wr) (fun b' e => HBr.out.block b' (own_atL HROW.out e).1)
          obtain ⟨g, cap, e2, _, hnc, hcm, hcc⟩ := ownsRow_cells hrw (by omega)
          simp only [Value.slice.injEq, true_and] at e2
          obtain ⟨rfl, rfl⟩ := e2
          have hc2 : wr.cell? ⟨g, I, none⟩ = some (.slice px nx cx) := by
            have := hcc I (xs.getD I undef) (by simp [List.getD, List.getElem?_eq_getElem hli])
            rw [Nat.zero_add, ex] at this
            exact this
          obtain ⟨WL, HWL⟩ : ∃ W : World, Hid (wr.alloc (.cells #[.slice px nx cx] TE) = W) := ⟨_, hid rfl⟩
          have BL : Below wr.heap.size wr WL := by rw [← HWL.out]; exact (Below.refl _ _).alloc (Nat.le_refl _) _
          have OL := hid (own_ofL HO.out (w' := WL) (fun b' e => BL.block b' (own_atL HO.out e).1))
          have CL : Hid (WL.cell? ⟨wr.heap.size, 0, none⟩ = some (.slice px nx cx)) := hid (by rw [cell_of_row _ _ _ _ _ _ (show WL.heap[wr.heap.size]? = some (.cells #[.slice px nx cx] TE (0, 0)) by rw [← HWL.out]; exact heap_alloc_new _ _)]; rfl)
          obtain ⟨pa, ca, ea⟩ := own_slcL OL.out
          obtain ⟨na, HNA⟩ : ∃ x, Hid ((pre ++ xs.take I).length = x) := ⟨_, hid rfl⟩
          have hna : na + 1 ≤ 5000000000000 := by rw [← HNA.out]; have := hfl.out; simp; omega
          rw [HNA.out] at OL ea
          subst ea
          have hi1 : (I : Int) < (xs.length : Int) := by omega
          have hlow : Hid (w.heap.size ≤ WL.heap.size) := hid (Nat.le_trans HBr.out.size BL.size)
          clear hcc hrw ex
          go_wp2_with (first | rw [HWL.out] | (at_builtin; refine wpList_appL rfl _ _ rfl w.heap.size (.slice pa na ca) na _ rfl OL.out ⟨wr.heap.size, 0, none⟩ 1 _ rfl rfl CL.out hna hlow.out ?_) | fail)
          intro v1 w1 ho hg hw
          have HO2 : Hid (w1.ownsRow w.heap.size TE 1 v1 ((pre ++ xs.take (I + 1)).length) (pre ++ xs.take (I + 1))) := hid (by
            have e1 : pre ++ xs.take (I + 1) = (pre ++ xs.take I) ++ [.slice px nx cx] := by
              rw [List.append_assoc, List.take_succ_eq_append_getElem hli]
              have : xs[I] = .slice px nx cx := by
                obtain ⟨px', cx', nx', ex'⟩ := hmem.out I hli
                have h1 := ownsRow_cells (own_ofL HROW.out (w' := wr) (fun b' e => HBr.out.block b' (own_atL HROW.out e).1)) (by omega)
                obtain ⟨g', cap', e2, _, _, _, hcc⟩ := h1
                simp only [Value.slice.injEq, true_and, Option.some.injEq, Addr.mk.injEq, and_true] at e2
                have h2 := hcc I xs[I] (by rw [List.getElem?_eq_getElem hli])
                rw [Nat.zero_add, ← e2.1, hc2] at h2
                exact (Option.some.inj h2).symm
              rw [this]
            rw [e1, List.length_append, HNA.out, List.length_singleton]
            rw [← List.append_assoc] at ho
            exact ho)
          have HB2 : Hid (Below w.heap.size w w1) := hid ((HBr.out.trans (BL.mono HBr.out.size)).grown hg hlow.out (fun b' e => (own_atL OL.out e).2.1))
          have w9 : IntKind.i64.wrap ((I : Int) + 1) = ((I + 1 : Nat) : Int) := by rw [IntKind.wrap_i64]; have := HX.out K; rw [HXS.out] at this; omega
          clear ho hg hw hc1 hc2 BL
          go_wp2
          exact ⟨⟨I + 1, hli, by go_num, HO2, HB2⟩, by simp [intOf]; omega⟩
        · have hi1 : ¬ ((I : Int) < (xs.length : Int)) := by omega
          have w9 : IntKind.i64.wrap ((K : Int) + 1) = ((K + 1 : Nat) : Int) := by rw [IntKind.wrap_i64]; omega
          have HO2 : Hid (wr.ownsRow w.heap.size TE 1 u3 ((xss.take (K + 1)).flatten).length ((xss.take (K + 1)).flatten)) := hid (by rw [hflat]; have := HO.out; rwa [List.take_of_length_le (by omega)] at this)
          clear HO
          go_wp2
          exact ⟨⟨K + 1, hlt, by go_num, HO2, HBr⟩, by simp [intOf]; omega⟩
    · obtain rfl : K = us.length := by omega
      have hall : xss.take us.length = xss := List.take_of_length_le (by have := HLX.out; omega)
      rw [hall] at HO
      have Apt1 : Hid (Apt B wr xss.flatten ls) := hid ⟨HA.out.1, fun k hk => own_ofL (HA.out.2.1 k hk) (fun b' e => HBr.out.block b' (own_atL (HA.out.2.1 k hk) e).1), HA.out.2.2⟩
      have HVa : HV wr u3 xss.flatten := by
        by_cases h0 : 0 < xss.flatten.length
        · obtain ⟨g, cap, rfl, _, hnc, hcm, hcc⟩ := ownsRow_cells HO.out h0
          obtain ⟨_, _, cs, hh⟩ := own_atL HO.out (b := g) rfl
          exact ⟨_, cap, rfl, hnc, hcm, fun _ => ⟨g, 0, rfl, ⟨cs, (0, 0), hh⟩, fun k hk => hcc k _ (by simp [List.getD, List.getElem?_eq_getElem hk])⟩⟩
        · have e0 : xss.flatten = [] := List.length_eq_zero_iff.1 (by omega)
          rw [e0] at HO ⊢
          rcases HO.out.2 with ⟨e, _⟩ | ⟨g, cap, cur, e, _, _, hnc, hcm, _⟩
          · exact ⟨none, 0, e, Nat.le_refl _, Nat.zero_le _, fun h => absurd rfl h⟩
          · exact ⟨_, cap, e, hnc, hcm, fun h => absurd rfl h⟩
      have AF := hid (apart_anyF B wr u3 xss.flatten ls HVa Apt1.out (Nat.le_trans hB HBr.out.size) (by omega) HLS.out)
      have hk1 : ¬ ((us.length : Int) < (us.length : Int)) := by omega
      clear HVa Apt1 hlt hK
      go_wp2_with fail
      refine AF.out.mono ?_
      rintro e W2 ⟨rfl, hbf⟩
      have PS : Hid (P3 B w W2 (.slice p us.length c) us ns 0 0) := hid (by
        refine ⟨(HV0.out.below HBr.out).keep (fun b cs q => hbf.typ b cs _ _ q (by decide)), fun k hk => ?_, (HBr.out.mono hB).trans hbf.bel⟩
        have q1 := HR.out k hk
        have q2 := own_ofL q1 (w' := wr) (fun b' e => HBr.out.block b' (own_atL q1 e).1)
        have q3 := own_ofL q2 (w' := W2) (fun b' e => by obtain ⟨_, _, cs, q⟩ := own_atL q2 e; exact hbf.typ b' cs _ _ q (by decide))
        rw [HNS.out k]
        exact ⟨_, q3, fun j hj _ => by simp [cntL] at hj⟩)
      have sB : Hid (B ≤ W2.heap.size) := hid (Nat.le_trans hB (Nat.le_trans HBr.out.size hbf.size))
      have sW : Hid (w.heap.size ≤ W2.heap.size) := hid (Nat.le_trans HBr.out.size hbf.size)
      clear AF hbf HO HBr
      go_wp2
      go_loopw [6] (fun k wr => ∃ K : Nat, K ≤ us.length ∧ k = .int .i64 (K : Int) ∧ Hid (P3 B w wr (.slice p us.length c) us ns K 0) ∧ Hid (W2.heap.size ≤ wr.heap.size)) (fun k _ => us.length - (intOf k).toNat)
      case atStart => exact ⟨0, Nat.zero_le _, rfl, PS, hid (Nat.le_refl _)⟩
      case round =>
        clear PS
        obtain ⟨K, hK, rfl, HP, HZ⟩ := hrel
        by_cases hlt : K < us.length
        · obtain ⟨b, off, rfl, hbw⟩ := A.out (by omega)
          obtain ⟨nk, HNK⟩ : ∃ x, Hid (ns.getD K 0 = x) := ⟨_, hid rfl⟩
          have hnk : nk ≤ 1000000000 := by rw [← HNK.out, HNS.out K]; exact HX.out K
          obtain ⟨pk, ck, EU⟩ : ∃ pk ck, Hid (us.getD K undef = .slice pk nk ck) := by
            obtain ⟨xs, q1, _⟩ := HP.out.row K hlt
            obtain ⟨pk, ck, e⟩ := own_slcL q1
            rw [HNK.out] at e
            exact ⟨pk, ck, hid e⟩
          have hk2 : (K : Int) < (us.length : Int) := by omega
          have hc1 := HP.out.hv.at rfl hlt
          rw [EU.out] at hc1
          go_wp2
          go_loopw [7] (fun i wz => ∃ I : Nat, I ≤ nk ∧ i = .int .i64 (I : Int) ∧ Hid (P3 B w wz (.slice (some ⟨b, off, none⟩) us.length c) us ns K I) ∧ Hid (W2.heap.size ≤ wz.heap.size)) (fun i _ => nk - (intOf i).toNat)
          case atStart => exact ⟨0, Nat.zero_le _, rfl, HP, HZ⟩
          case round =>
            clear HP HZ hc1
            obtain ⟨I, hI, rfl, HP, HZ⟩ := hrel
            have hc1 := HP.out.hv.at rfl hlt
            rw [EU.out] at hc1
            by_cases hli : I < nk
            · obtain ⟨xs, q1, _⟩ := HP.out.row K hlt
              rw [HNK.out, EU.out] at q1
              obtain ⟨g, cap, e2, _, hnc, hcm, hcc⟩ := ownsRow_cells q1 (by omega)
              simp only [Value.slice.injEq, true_and] at e2
              obtain ⟨rfl, rfl⟩ := e2
              have hlx : xs.length = nk := by have := q1.1; omega
              obtain ⟨WL, HWL⟩ : ∃ W : World, Hid (wr.alloc (.cells #[.int .u8 ((K : Int) % 256), .int .u8 ((I : Int) % 256), .int .u8 ((I : Int) / 256 % 256)] 5) = W) := ⟨_, hid rfl⟩
              have BL : Below wr.heap.size wr WL := by rw [← HWL.out]; exact (Below.refl _ _).alloc (Nat.le_refl _) _
              have q3 := own_ofL q1 (w' := WL) (fun b' e => BL.block b' (own_atL q1 e).1)
              have cg : WL.cell? ⟨g, I, none⟩ = some (xs.getD I undef) := by
                rw [q3.cellAt I (by omega)]
                simp [List.getD, List.getElem?_eq_getElem (show I < xs.length by omega)]
              have fg := q3.frozenAt I
              have ST : Hid (P3 B w (WL.setCell ⟨g, I, none⟩ (.slice (some ⟨wr.heap.size, 0, none⟩) 3 3)) (.slice (some ⟨b, off, none⟩) us.length c) us ns K (I + 1)) := by
                rw [← HWL.out]
                exact hid (HP.out.step HD.out hlt (by rw [HNK.out]; exact hli) (by rw [EU.out, HNK.out]) (Nat.le_trans sB.out HZ.out))
              have HZ2 : Hid (W2.heap.size ≤ (WL.setCell ⟨g, I, none⟩ (.slice (some ⟨wr.heap.size, 0, none⟩) 3 3)).heap.size) := hid (by have := BL.size; have := HZ.out; simp [World.setCell]; omega)
              have wk := u8w K
              have wi := u8w I
              have wq := u8w ((I : Int) / 256)
              have qq := quo256 I
              have w9 : IntKind.i64.wrap ((I : Int) + 1) = ((I + 1 : Nat) : Int) := by rw [IntKind.wrap_i64]; omega
              have w8 : IntKind.i64.wrap ((I : Int) / 256) = (I : Int) / 256 := by rw [IntKind.wrap_i64]; omega
              have hi1 : (I : Int) < (nk : Int) := by omega
              clear q1 q3 hcc BL HP HZ
              go_wp2_with (first | rw [HWL.out] | fail)
              exact ⟨⟨I + 1, hli, by go_num, ST, HZ2⟩, by simp [intOf]; omega⟩
            · have hi1 : ¬ ((I : Int) < (nk : Int)) := by omega
              have w9 : IntKind.i64.wrap ((K : Int) + 1) = ((K + 1 : Nat) : Int) := by rw [IntKind.wrap_i64]; omega
              have HN2 := hid (HP.out.next (by rw [HNK.out]; omega))
              clear HP
              go_wp2
              exact ⟨⟨K + 1, hlt, by go_num, HN2, HZ⟩, by simp [intOf]; omega⟩
        · obtain rfl : K = us.length := by omega
          obtain ⟨N4, HN4⟩ : ∃ x, Hid (wr.heap.size = x) := ⟨_, hid rfl⟩
          have P40 := hid (P4.start HP.out)
          have hBN : Hid (B ≤ N4) := hid (by rw [← HN4.out]; exact Nat.le_trans sB.out HZ.out)
          have HNv : Hid (∀ b off n c', Value.slice p us.length c = .slice (some ⟨b, off, none⟩) n c' → 0 < us.length → b < N4) := hid (fun b off n c' e h0 => by
            obtain ⟨b', off', e', hb'⟩ := A.out h0
            rw [e'] at e
            simp only [Value.slice.injEq, Option.some.injEq, Addr.mk.injEq, and_true] at e
            have q1 := HZ.out
            have q2 := sW.out
            have q3 := HN4.out
            omega)
          have Z40 : Hid (N4 ≤ wr.heap.size) := hid (by rw [HN4.out]; exact Nat.le_refl _)
          have hk3 : ¬ ((us.length : Int) < (us.length : Int)) := by omega
          clear HP HZ hlt hK HN4
          go_wp2
          go_loopw [8, 9] (fun gs k wz => ∃ (K : Nat) (gl : List Value), K ≤ us.length ∧ k = .int .i64 (K : Int) ∧ Hid (P4 B w wz (.slice p us.length c) us ns K gl) ∧ Hid (wz.ownsRow N4 22 1 gs K gl) ∧ Hid (N4 ≤ wz.heap.size)) (fun _ k _ => us.length - (intOf k).toNat)
          case atStart => exact ⟨0, [], Nat.zero_le _, rfl, P40, hid (World.ownsRow_nil _ _ _ _), Z40⟩
          case round =>
            clear P40 Z40
            obtain ⟨K, gl, hK, rfl, HP, HG, HZ⟩ := hrel
            by_cases hlt : K < us.length
            · obtain ⟨b, off, rfl, hbw⟩ := A.out (by omega)
              obtain ⟨nk, HNK⟩ : ∃ x, Hid (ns.getD K 0 = x) := ⟨_, hid rfl⟩
              have hnk : nk ≤ 1000000000 := by rw [← HNK.out, HNS.out K]; exact HX.out K
              obtain ⟨pk, ck, EU⟩ : ∃ pk ck, Hid (us.getD K undef = .slice pk nk ck) := by
                obtain ⟨xs, q1, _⟩ := HP.out.row K hlt
                obtain ⟨pk, ck, e⟩ := own_slcL q1
                rw [HNK.out] at e
                exact ⟨pk, ck, hid e⟩
              have hk2 : (K : Int) < (us.length : Int) := by omega
              have hc1 := HP.out.hv.at rfl hlt
              rw [EU.out] at hc1
              obtain ⟨gs0, HGS⟩ : ∃ x, Hid (u8 = x) := ⟨_, hid rfl⟩
              rw [HGS.out] at HG ⊢
              have P50 := hid (P5.start HP.out HD.out hlt)
              rw [EU.out] at P50
              go_wp2
              go_loopw [10, 11] (fun x i wz => ∃ m : Nat, m ≤ 70 ∧ i = .int .i64 (m : Int) ∧ Hid (P5 B w wz (.slice (some ⟨b, off, none⟩) us.length c) us ns K gl x m) ∧ Hid (wz.ownsRow N4 22 1 gs0 K gl) ∧ Hid (N4 ≤ wz.heap.size)) (fun _ i _ => 70 - (intOf i).toNat)
              case atStart => exact ⟨0, by omega, rfl, P50, HG, HZ⟩
              case round =>
                clear P50 HG HZ hc1 HP
                obtain ⟨m, hm70, rfl, HP, HG, HZ⟩ := hrel
                have hc1 := HP.out.hv.at rfl hlt
                rw [EU.out] at hc1
                by_cases hlm : m < 70
                · have hlm2 : (m : Int) < 70 := by omega
                  obtain ⟨xs, x1, x2⟩ := HP.out.cur
                  rw [HNK.out] at x1 x2
                  have LR : Hid (B ≤ wr.heap.size) := hid (Nat.le_trans hBN.out HZ.out)
                  obtain ⟨WA, HWA⟩ : ∃ W : World, Hid (wr.drew.alloc (.cells #[.int .u8 ((K : Int) % 256), .int .u8 (((nk : Int) + (m : Int)) % 256), .int .u8 (((nk : Int) + (m : Int)) / 256 % 256)] 5) = W) := ⟨_, hid rfl⟩
                  obtain ⟨WB, HWB⟩ : ∃ W : World, Hid (WA.alloc (.cells #[.slice (some ⟨wr.drew.heap.size, 0, none⟩) 3 3] TE) = W) := ⟨_, hid rfl⟩
                  have bA : Below wr.heap.size wr WA := by rw [← HWA.out]; exact ((Below.refl _ wr).drew).alloc (Nat.le_refl _) _
                  have bB' : Below WA.heap.size WA WB := by rw [← HWB.out]; exact (Below.refl _ _).alloc (Nat.le_refl _) _
                  have bB : Below wr.heap.size wr WB := bA.trans (bB'.mono bA.size)
                  have PB := hid (HP.out.below bB LR.out)
                  have OB : Hid (WB.ownsRow B TE 1 u10 (nk + m) xs) := hid (own_ofL x1 (fun b' e => bB.block b' (own_atL x1 e).1))
                  have MB : Hid (∀ j, j < nk + m → Mkd WB (xs.getD j undef) K j) := hid (fun j hj => (x2 j hj hj).keep (KT.below bB))
                  have UB : Hid (Mkd WB (.slice (some ⟨wr.drew.heap.size, 0, none⟩) 3 3) K (nk + m)) := hid (Mkd.keep (w := WA) ⟨_, rfl, by
                    have e : mkA K (nk + m) = #[.int .u8 ((K : Int) % 256), .int .u8 (((nk : Int) + (m : Int)) % 256), .int .u8 (((nk : Int) + (m : Int)) / 256 % 256)] := by simp [mkA]
                    rw [e, ← HWA.out]
                    exact heap_alloc_new _ _⟩ (KT.below bB'))
                  have CB : Hid (WB.cell? ⟨WA.heap.size, 0, none⟩ = some (.slice (some ⟨wr.drew.heap.size, 0, none⟩) 3 3)) := hid (by rw [cell_of_row _ _ _ _ _ _ (show WB.heap[WA.heap.size]? = some (.cells #[.slice (some ⟨wr.drew.heap.size, 0, none⟩) 3 3] TE (0, 0)) by rw [← HWB.out]; exact heap_alloc_new _ _)]; rfl)
                  have GB : Hid (WB.ownsRow N4 22 1 gs0 K gl) := hid (own_ofL HG.out (fun b' e => bB.block b' (own_atL HG.out e).1))
                  have SA : Hid (WA.cell? ⟨b, off + K, none⟩ = some (.slice pk nk ck)) := hid ((bA.cell (World.block_lt_of_cell? wr _ hc1)).trans hc1)
                  have SB : Hid (WB.cell? ⟨b, off + K, none⟩ = some (.slice pk nk ck)) := hid ((bB.cell (World.block_lt_of_cell? wr _ hc1)).trans hc1)
                  have LB : Hid (B ≤ WB.heap.size) := hid (Nat.le_trans LR.out bB.size)
                  have ZB : Hid (N4 ≤ WB.heap.size) := hid (Nat.le_trans HZ.out bB.size)
                  have wk := u8w (K : Int)
                  have wn := u8w ((nk : Int) + (m : Int))
                  have wq := u8w (((nk : Int) + (m : Int)) / 256)
                  have qq : Int.tdiv ((nk : Int) + (m : Int)) 256 = ((nk : Int) + (m : Int)) / 256 := Int.tdiv_eq_ediv_of_nonneg (by omega)
                  have w7 : IntKind.i64.wrap ((nk : Int) + (m : Int)) = (nk : Int) + (m : Int) := by rw [IntKind.wrap_i64]; omega
                  have w8 : IntKind.i64.wrap (((nk : Int) + (m : Int)) / 256) = ((nk : Int) + (m : Int)) / 256 := by rw [IntKind.wrap_i64]; omega
                  have w9 : IntKind.i64.wrap ((m : Int) + 1) = ((m + 1 : Nat) : Int) := by rw [IntKind.wrap_i64]; omega
                  clear x1 x2 bA bB bB' HP HG HZ
                  go_wp2_with fail
                  refine wp_region_held_drew (S := (fun W : World => W.cell? ⟨b, off + K, none⟩ = some (.slice pk nk ck))) (by kernel_rfl) hc1 (fun hHeld => ?_)
                  have HS := hid hHeld
                  clear hHeld
                  change wpAnyH _ _ _ _ _ _ _ _ (World.drew _)
                  refine wpAnyH_take (i := 0) (v := ?_) rfl (by kernel_rfl) (by kernel_rfl) (by kernel_rfl) (fun _ _ _ h => h) (Or.inl ⟨by rfl, ?q0⟩) HS.out ?_
                  case q0 => intro w hSw; go_simp; rfl
                  simp only [Act.put, List.getElem_toArray, List.getElem_cons_zero, List.getElem_cons_succ, List.setIfInBounds_toArray, List.set_cons_zero, List.set_cons_succ]
                  refine wpAnyH_take (i := 1) (v := ?_) rfl (by kernel_rfl) (by kernel_rfl) (by kernel_rfl) (fun _ _ _ h => h) (Or.inl ⟨by rfl, ?q1⟩) HS.out ?_
                  case q1 => intro w hSw; go_simp; rfl
                  simp only [Act.put, List.getElem_toArray, List.getElem_cons_zero, List.getElem_cons_succ, List.setIfInBounds_toArray, List.set_cons_zero, List.set_cons_succ]
                  refine wpAnyH_take (i := 2) (v := ?_) rfl (by kernel_rfl) (by kernel_rfl) (by kernel_rfl) (fun _ _ _ h => h) (Or.inl ⟨by rfl, ?q2⟩) HS.out ?_
                  case q2 => intro w hSw; go_simp; rfl
                  simp only [Act.put, List.getElem_toArray, List.getElem_cons_zero, List.getElem_cons_succ, List.setIfInBounds_toArray, List.set_cons_zero, List.set_cons_succ]
                  refine wpAnyH_take (i := 3) (v := ?_) rfl (by kernel_rfl) (by kernel_rfl) (by kernel_rfl) (fun _ _ _ h => h) (Or.inl ⟨by rfl, ?q3⟩) HS.out ?_
                  case q3 => intro w hSw; go_simp; rfl
                  simp only [Act.put, List.getElem_toArray, List.getElem_cons_zero, List.getElem_cons_succ, List.setIfInBounds_toArray, List.set_cons_zero, List.set_cons_succ]
                  refine wpAnyH_take (i := 4) (v := ?_) rfl (by kernel_rfl) (by kernel_rfl) (by kernel_rfl) (fun _ _ _ h => h) (Or.inl ⟨by rfl, ?q4⟩) HS.out ?_
                  case q4 => intro w hSw; go_simp; rfl
                  simp only [Act.put, List.getElem_toArray, List.getElem_cons_zero, List.getElem_cons_succ, List.setIfInBounds_toArray, List.set_cons_zero, List.set_cons_succ]
                  refine wpAnyH_take (i := 5) (v := ?_) rfl (by kernel_rfl) (by kernel_rfl) (by kernel_rfl) (fun _ _ _ h => h) (Or.inl ⟨by rfl, ?q5⟩) HS.out ?_
                  case q5 => intro w hSw; go_simp; rfl
                  simp only [Act.put, List.getElem_toArray, List.getElem_cons_zero, List.getElem_cons_succ, List.setIfInBounds_toArray, List.set_cons_zero, List.set_cons_succ]
                  refine wpAnyH_take (i := 6) (v := ?_) rfl (by kernel_rfl) (by kernel_rfl) (by kernel_rfl) (fun _ _ _ h => h) (Or.inl ⟨by rfl, ?q6⟩) HS.out ?_
                  case q6 => intro w hSw; go_simp; rfl
                  simp only [Act.put, List.getElem_toArray, List.getElem_cons_zero, List.getElem_cons_succ, List.setIfInBounds_toArray, List.set_cons_zero, List.set_cons_succ]
                  refine wpAnyH_take (i := 7) (v := ?_) rfl (by kernel_rfl) (by kernel_rfl) (by kernel_rfl) (fun _ _ _ h => h) (Or.inl ⟨by rfl, ?q7⟩) HS.out ?_
                  case q7 => intro w hSw; go_simp; rfl
                  simp only [Act.put, List.getElem_toArray, List.getElem_cons_zero, List.getElem_cons_succ, List.setIfInBounds_toArray, List.set_cons_zero, List.set_cons_succ]
                  refine wpAnyH_take (i := 8) (v := ?_) rfl (by kernel_rfl) (by kernel_rfl) (by kernel_rfl) (fun _ _ _ h => h) (Or.inl ⟨by rfl, ?q8⟩) HS.out ?_
                  case q8 => intro w hSw; go_simp; rfl
                  simp only [Act.put, List.getElem_toArray, List.getElem_cons_zero, List.getElem_cons_succ, List.setIfInBounds_toArray, List.set_cons_zero, List.set_cons_succ]
                  refine wpAnyH_take (i := 9) (v := ?_) rfl (by kernel_rfl) (by kernel_rfl) (by kernel_rfl) (fun _ _ _ h => h) (Or.inl ⟨by rfl, ?q9⟩) HS.out ?_
                  case q9 => intro w hSw; go_simp; rfl
                  simp only [Act.put, List.getElem_toArray, List.getElem_cons_zero, List.getElem_cons_succ, List.setIfInBounds_toArray, List.set_cons_zero, List.set_cons_succ]
                  refine wpAnyH_take (i := 10) (v := ?_) rfl (by kernel_rfl) (by kernel_rfl) (by kernel_rfl) (fun _ _ _ h => h) (Or.inl ⟨by rfl, ?q10⟩) HS.out ?_
                  case q10 => intro w hSw; go_simp; rfl
                  simp only [Act.put, List.getElem_toArray, List.getElem_cons_zero, List.getElem_cons_succ, List.setIfInBounds_toArray, List.set_cons_zero, List.set_cons_succ]
                  refine wpAnyH_take (i := 11) (v := ?_) rfl (by kernel_rfl) (by kernel_rfl) (by kernel_rfl) (fun _ _ _ h => h) (Or.inl ⟨by rfl, ?q11⟩) HS.out ?_
                  case q11 => intro w hSw; go_simp; rfl
                  simp only [Act.put, List.getElem_toArray, List.getElem_cons_zero, List.getElem_cons_succ, List.setIfInBounds_toArray, List.set_cons_zero, List.set_cons_succ]
                  refine wpAnyH_take (i := 12) (v := ?_) rfl (by kernel_rfl) (by kernel_rfl) (by kernel_rfl) (fun _ _ _ h => h) (Or.inl ⟨by rfl, ?q12⟩) HS.out ?_
                  case q12 => intro w hSw; go_simp; rfl
                  simp only [Act.put, List.getElem_toArray, List.getElem_cons_zero, List.getElem_cons_succ, List.setIfInBounds_toArray, List.set_cons_zero, List.set_cons_succ]
                  refine wpAnyH_take (i := 13) (v := ?_) rfl (by kernel_rfl) (by kernel_rfl) (by kernel_rfl) (fun _ _ _ h => h) (Or.inl ⟨by rfl, ?q13⟩) HS.out ?_
                  case q13 => intro w hSw; go_simp; rfl
                  simp only [Act.put, List.getElem_toArray, List.getElem_cons_zero, List.getElem_cons_succ, List.setIfInBounds_toArray, List.set_cons_zero, List.set_cons_succ]
                  refine wpAnyH_take (i := 14) (v := ?_) rfl (by kernel_rfl) (by kernel_rfl) (by kernel_rfl) (fun _ _ _ h => h) (Or.inl ⟨by rfl, ?q14⟩) HS.out ?_
                  case q14 => intro w hSw; go_simp; rfl
                  simp only [Act.put, List.getElem_toArray, List.getElem_cons_zero, List.getElem_cons_succ, List.setIfInBounds_toArray, List.set_cons_zero, List.set_cons_succ]
                  refine wpAnyH_take (i := 15) (v := ?_) rfl (by kernel_rfl) (by kernel_rfl) (by kernel_rfl) (fun _ _ _ h => h) (Or.inl ⟨by rfl, ?q15⟩) HS.out ?_
                  case q15 => intro w hSw; go_simp; rfl
                  simp only [Act.put, List.getElem_toArray, List.getElem_cons_zero, List.getElem_cons_succ, List.setIfInBounds_toArray, List.set_cons_zero, List.set_cons_succ]
                  refine wpAnyH_take (i := 16) (v := ?_) rfl (by kernel_rfl) (by kernel_rfl) (by kernel_rfl) (fun _ _ _ h => h) (Or.inl ⟨by rfl, ?q16⟩) HS.out ?_
                  case q16 => intro w hSw; go_simp; rfl
                  simp only [Act.put, List.getElem_toArray, List.getElem_cons_zero, List.getElem_cons_succ, List.setIfInBounds_toArray, List.set_cons_zero, List.set_cons_succ]
                  refine wpAnyH_take (i := 17) (v := ?_) rfl (by kernel_rfl) (by kernel_rfl) (by kernel_rfl) (fun _ _ _ h => h) (Or.inl ⟨by rfl, ?q17⟩) HS.out ?_
                  case q17 => intro w hSw; go_simp; rfl
                  simp only [Act.put, List.getElem_toArray, List.getElem_cons_zero, List.getElem_cons_succ, List.setIfInBounds_toArray, List.set_cons_zero, List.set_cons_succ]
                  refine wpAnyH_take (i := 18) (v := ?_) rfl (by kernel_rfl) (by kernel_rfl) (by kernel_rfl) (fun _ _ _ h => h) (Or.inl ⟨by rfl, ?q18⟩) HS.out ?_
                  case q18 => intro w hSw; go_simp; rfl
                  simp only [Act.put, List.getElem_toArray, List.getElem_cons_zero, List.getElem_cons_succ, List.setIfInBounds_toArray, List.set_cons_zero, List.set_cons_succ]
                  refine wpAnyH_take (i := 19) (v := ?_) rfl (by kernel_rfl) (by kernel_rfl) (by kernel_rfl) (fun _ _ _ h => h) (Or.inl ⟨by rfl, ?q19⟩) HS.out ?_
                  case q19 => intro w hSw; go_simp; rfl
                  simp only [Act.put, List.getElem_toArray, List.getElem_cons_zero, List.getElem_cons_succ, List.setIfInBounds_toArray, List.set_cons_zero, List.set_cons_succ]
                  clear HS
                  refine wpAnyH_ready (rs := [20]) (by kernel_rfl) (by simp) ?_
                  refine AllReadyH.cons rfl (fun K1 hK => ?_) AllReadyH.nil
                  replace hK := hid hK
                  refine wanted_litL (by rfl) 23 3 _ rfl #[(0, .int .u8 ((K : Int) % 256)), (1, .int .u8 (((nk : Int) + (m : Int)) % 256)), (2, .int .u8 (((nk : Int) + (m : Int)) / 256 % 256))] (by go_simp) _ (run_lit3 _ _ _ _) ?_
                  rw [HWA.out]
                  try simp only [Act.put, List.getElem_toArray, List.getElem_cons_zero, List.getElem_cons_succ, List.setIfInBounds_toArray, List.set_cons_zero, List.set_cons_succ]
                  refine hK.out _ _ SA.out (fun _ => ?_)
                  clear hK K1
                  refine wpAnyH_ready (rs := [21]) (by kernel_rfl) (by simp) ?_
                  refine AllReadyH.cons rfl (fun K1 hK => ?_) AllReadyH.nil
                  replace hK := hid hK
                  refine wanted_litL (by rfl) 22 1 _ rfl #[(0, .slice (some ⟨wr.drew.heap.size, 0, none⟩) 3 3)] (by go_simp) _ (run_lit1 _ _ _ _) ?_
                  rw [HWB.out]
                  try simp only [Act.put, List.getElem_toArray, List.getElem_cons_zero, List.getElem_cons_succ, List.setIfInBounds_toArray, List.set_cons_zero, List.set_cons_succ]
                  refine hK.out _ _ SB.out (fun _ => ?_)
                  clear hK K1
                  refine wpAnyH_ready (rs := [22]) (by kernel_rfl) (by simp) ?_
                  refine AllReadyH.cons rfl (fun K1 hK => ?_) AllReadyH.nil
                  replace hK := hid hK
                  rw [if_pos (by rfl)]
                  refine wp_appL _ _ rfl B u10 (nk + m) xs rfl OB.out ⟨WA.heap.size, 0, none⟩ 1 (.slice (some ⟨wr.drew.heap.size, 0, none⟩) 3 3) rfl rfl CB.out (by omega) LB.out (fun v1 w1 ho hg hw => ?_)
                  have P6 : Hid (P5 B w w1 (.slice (some ⟨b, off, none⟩) us.length c) us ns K gl v1 (m + 1)) := hid (PB.out.step hlt (by rw [HNK.out]; exact OB.out) (by rw [HNK.out]; exact MB.out) (by rw [HNK.out]; exact UB.out) (by rw [HNK.out]; exact ho) hg (by rw [HNK.out]; exact hw) LB.out)
                  have S1 : Hid (w1.cell? ⟨b, off + K, none⟩ = some (.slice pk nk ck)) := hid (by have := P6.out.hv.at rfl hlt; rw [EU.out] at this; exact this)
                  have G1 : Hid (w1.ownsRow N4 22 1 gs0 K gl) := hid (own_ofL GB.out (fun b' e => hg.block b' (own_atL GB.out e).1 (fun e2 => by
                    obtain ⟨_, _, cs1, q1⟩ := own_atL GB.out e
                    obtain ⟨_, _, cs2, q2⟩ := own_atL OB.out e2.symm
                    rw [q1] at q2
                    simp only [Option.some.injEq, Obj.cells.injEq] at q2
                    exact absurd q2.2.1 (by decide))))
                  have Z1 : Hid (N4 ≤ w1.heap.size) := hid (Nat.le_trans ZB.out hg.size)
                  clear ho hg hw
                  try simp only [Act.put, List.getElem_toArray, List.getElem_cons_zero, List.getElem_cons_succ, List.setIfInBounds_toArray, List.set_cons_zero, List.set_cons_succ]
                  refine hK.out _ _ S1.out (fun _ => ?_)
                  clear hK K1
                  have HS := S1
                  refine wpAnyH_take (i := 23) (v := ?_) rfl (by kernel_rfl) (by kernel_rfl) (by kernel_rfl) (fun _ _ _ h => h) (Or.inl ⟨by rfl, ?q23⟩) HS.out ?_
                  case q23 => intro w hSw; go_simp; rfl
                  simp only [Act.put, List.getElem_toArray, List.getElem_cons_zero, List.getElem_cons_succ, List.setIfInBounds_toArray, List.set_cons_zero, List.set_cons_succ]
                  refine wpAnyH_done (by kernel_rfl) ?_ _
                  go_wp2
                  exact ⟨⟨m + 1, hlm, by go_num, P6, G1, Z1⟩, by simp [intOf]; omega⟩
                · obtain rfl : m = 70 := by omega
                  have PF := hid (HP.out.finish hlt)
                  obtain ⟨xs, x1, _⟩ := HP.out.cur
                  obtain ⟨px, cx, ex⟩ := own_slcL x1
                  obtain ⟨nx, HNX⟩ : ∃ x, Hid (ns.getD K 0 + 70 = x) := ⟨_, hid rfl⟩
                  rw [HNX.out] at ex
                  rw [ex] at PF ⊢
                  have LR : Hid (B ≤ wr.heap.size) := hid (Nat.le_trans hBN.out HZ.out)
                  obtain ⟨WA, HWA⟩ : ∃ W : World, Hid (wr.alloc (.cells #[.slice px nx cx] 22) = W) := ⟨_, hid rfl⟩
                  have bA : Below wr.heap.size wr WA := by rw [← HWA.out]; exact (Below.refl _ wr).alloc (Nat.le_refl _) _
                  have PA := hid (PF.out.below bA LR.out)
                  have GA : Hid (WA.ownsRow N4 22 1 gs0 K gl) := hid (own_ofL HG.out (fun b' e => bA.block b' (own_atL HG.out e).1))
                  have CA : Hid (∀ j u, [Value.slice px nx cx][j]? = some u → WA.cell? ((⟨wr.heap.size, 0, none⟩ : Addr).add j) = some u) := hid (fun j u hj => by
                    match j, hj with
                    | 0, hj =>
                      simp at hj
                      subst hj
                      rw [Go.WideShapes.add_plain, cell_of_row _ _ _ _ _ _ (show WA.heap[wr.heap.size]? = some (.cells #[.slice px nx cx] 22 (0, 0)) by rw [← HWA.out]; exact heap_alloc_new _ _)]
                      rfl)
                  have ZA : Hid (N4 ≤ WA.heap.size) := hid (Nat.le_trans HZ.out bA.size)
                  have hlm2 : ¬ ((70 : Int) < 70) := by omega
                  have w9 : IntKind.i64.wrap ((K : Int) + 1) = ((K + 1 : Nat) : Int) := by rw [IntKind.wrap_i64]; omega
                  obtain ⟨i0, hi, hz0, hz1, hz2⟩ := info_parts info_ellL
                  clear x1 bA HP HG HZ ex
                  go_wp2_with (first | rw [HWA.out] | (at_builtin; refine wpList_append_own _ rfl _ _ 40 rfl N4 22 i0 (.slice none 0 0) 1 24 Try.underlying40 hi hz0 hz1 hz2 rfl (by decide) gs0 K gl rfl GA.out ⟨wr.heap.size, 0, none⟩ 1 1 [.slice px nx cx] rfl rfl CA.out (fun u hu => by simp at hu; subst hu; rfl) (by unfold maxLen; omega) (by omega) ZA.out ?_) | fail)
                  intro v1 w1 ho hg _
                  have PN : Hid (P4 B w w1 (.slice (some ⟨b, off, none⟩) us.length c) us ns (K + 1) (gl ++ [.slice px nx cx])) := hid (PA.out.grown hg (fun b' e => by obtain ⟨_, q2, cs, q3⟩ := own_atL GA.out e; exact ⟨q2, cs, q3⟩) hBN.out (Nat.le_trans hBN.out ZA.out) HNv.out)
                  have GN : Hid (w1.ownsRow N4 22 1 v1 (K + 1) (gl ++ [.slice px nx cx])) := hid ho
                  have ZN : Hid (N4 ≤ w1.heap.size) := hid (Nat.le_trans ZA.out hg.size)
                  clear ho hg
                  go_wp2
                  exact ⟨⟨K + 1, _, hlt, by go_num, PN, GN, ZN⟩, by simp [intOf]; omega⟩
            · obtain rfl : K = us.length := by omega
              obtain ⟨pq, cq, eq⟩ := own_slcL HG.out
              rw [eq] at HG ⊢
              have hk4 : ¬ ((us.length : Int) < (us.length : Int)) := by omega
              obtain ⟨Wf, HWf⟩ : ∃ W : World, Hid (wr = W) := ⟨_, hid rfl⟩
              rw [HWf.out] at HP HG HZ ⊢
              have LF : Hid (B ≤ Wf.heap.size) := hid (Nat.le_trans hBN.out HZ.out)
              clear eq HWf hlt hK HZ
              go_wp2
              go_loopw [12] (fun k wz => ∃ K : Nat, K ≤ us.length ∧ k = .int .i64 (K : Int) ∧ Hid (Below Wf.heap.size Wf wz)) (fun k _ => us.length - (intOf k).toNat)
              case atStart => exact ⟨0, Nat.zero_le _, rfl, hid (Below.refl _ _)⟩
              case round =>
                obtain ⟨K, hK, rfl, HB⟩ := hrel
                by_cases hlt : K < us.length
                · obtain ⟨b, off, rfl, hbw⟩ := A.out (by omega)
                  obtain ⟨nk, HNK⟩ : ∃ x, Hid (ns.getD K 0 = x) := ⟨_, hid rfl⟩
                  have hnk : nk ≤ 1000000000 := by rw [← HNK.out, HNS.out K]; exact HX.out K
                  obtain ⟨ys, y1, y2⟩ := HP.out.row K hlt
                  obtain ⟨zs, z1, z2⟩ := HP.out.big K hlt
                  rw [HNK.out] at y1 y2 z1 z2
                  obtain ⟨pk, ck, eu⟩ := own_slcL y1
                  obtain ⟨g1, cap1, eg, _, hn1, hm1, hcc1⟩ := ownsRow_cells z1 (by omega)
                  have hlz : zs.length = nk + 70 := by have := z1.1; omega
                  have hly : ys.length = nk := by have := y1.1; omega
                  obtain ⟨gg, capg, egg, _, hng, hmg, hccg⟩ := ownsRow_cells HG.out (by omega)
                  simp only [Value.slice.injEq, true_and] at egg
                  obtain ⟨rfl, rfl⟩ := egg
                  have c1 := HP.out.hv.at rfl hlt
                  rw [eu] at c1
                  have c2 := hccg K (gl.getD K undef) (by have := HP.out.len; simp [List.getD, List.getElem?_eq_getElem (show K < gl.length by omega)])
                  rw [eg, Nat.zero_add] at c2
                  have CI : Hid (∀ W, Below Wf.heap.size Wf W → W.cell? ⟨b, off + K, none⟩ = some (.slice pk nk ck) ∧ W.cell? ⟨gg, K, none⟩ = some (.slice (some ⟨g1, 0, none⟩) (nk + 70) cap1)) := hid (fun W hW => ⟨(hW.cell (World.block_lt_of_cell? Wf _ c1)).trans c1, (hW.cell (World.block_lt_of_cell? Wf _ c2)).trans c2⟩)
                  have CG : Hid (∀ j, j < nk + 70 → ∃ b1, Mkd Wf (.slice (some ⟨b1, 0, none⟩) 3 3) K j ∧ Wf.cell? ⟨g1, j, none⟩ = some (.slice (some ⟨b1, 0, none⟩) 3 3)) := hid (fun j hj => by
                    obtain ⟨b1, e1, e2⟩ := z2 j hj hj
                    have := hcc1 j (zs.getD j undef) (by simp [List.getD, List.getElem?_eq_getElem (show j < zs.length by omega)])
                    rw [Nat.zero_add, e1] at this
                    exact ⟨b1, ⟨b1, rfl, e2⟩, this⟩)
                  have CU : Hid (∀ j, j < nk → ∃ g2 b2, pk = some ⟨g2, 0, none⟩ ∧ nk ≤ ck ∧ Mkd Wf (.slice (some ⟨b2, 0, none⟩) 3 3) K j ∧ Wf.cell? ⟨g2, j, none⟩ = some (.slice (some ⟨b2, 0, none⟩) 3 3)) := hid (fun j hj => by
                    rw [eu] at y1
                    obtain ⟨g2, cap2, e3, _, hn2, hm2, hcc2⟩ := ownsRow_cells y1 (by omega)
                    simp only [Value.slice.injEq, true_and] at e3
                    obtain ⟨b1, e1, e2⟩ := y2 j hj hj
                    have := hcc2 j (ys.getD j undef) (by simp [List.getD, List.getElem?_eq_getElem (show j < ys.length by omega)])
                    rw [Nat.zero_add, e1] at this
                    exact ⟨g2, b1, e3.1, by omega, ⟨b1, rfl, e2⟩, this⟩)
                  obtain ⟨d1, d2⟩ := CI.out wr HB.out
                  have hk5 : (K : Int) < (us.length : Int) := by omega
                  clear c1 c2 y1 y2 z1 z2 hcc1 hccg eu eg
                  go_wp2
                  go_loopw [13] (fun i wz => ∃ I : Nat, I ≤ nk + 70 ∧ i = .int .i64 (I : Int) ∧ Hid (Below Wf.heap.size Wf wz)) (fun i _ => nk + 70 - (intOf i).toNat)
                  case atStart => exact ⟨0, Nat.zero_le _, rfl, HB⟩
                  case round =>
                    clear HB d1 d2
                    obtain ⟨I, hI, rfl, HB⟩ := hrel
                    obtain ⟨d1, d2⟩ := CI.out wr HB.out
                    by_cases hli : I < nk + 70
                    · obtain ⟨b1, mk1, e1⟩ := CG.out I hli
                      obtain ⟨WL, HWL⟩ : ∃ W : World, Hid (wr.alloc (.cells #[.int .u8 ((K : Int) % 256), .int .u8 ((I : Int) % 256), .int .u8 ((I : Int) / 256 % 256)] 5) = W) := ⟨_, hid rfl⟩
                      have bL : Below wr.heap.size wr WL := by rw [← HWL.out]; exact (Below.refl _ _).alloc (Nat.le_refl _) _
                      have bF : Below Wf.heap.size Wf WL := HB.out.trans (bL.mono HB.out.size)
                      have HBF := hid bF
                      have mkL : Mkd WL (.slice (some ⟨wr.heap.size, 0, none⟩) 3 3) K I := ⟨_, rfl, by rw [← HWL.out]; exact heap_alloc_new _ _⟩
                      have CS1 : Hid (Calls Try.prog 18 #[.slice (some ⟨b1, 0, none⟩) 3 3, .slice (some ⟨wr.heap.size, 0, none⟩) 3 3] WL fun e w' => e = .returned (.bool true) ∧ Dr WL w') := hid ((sameBytes_any WL _ _ (mkLs K I) (mkLs K I) (mk1.keep (KT.below bF)).hb mkL.hb).mono fun e w' ⟨q1, q2⟩ => ⟨by rw [q1, decide_eq_true rfl], q2⟩)
                      obtain ⟨f1, f2⟩ := CI.out WL bF
                      have f3 := (bF.cell (World.block_lt_of_cell? Wf _ e1)).trans e1
                      have wk := u8w (K : Int)
                      have wi := u8w (I : Int)
                      have wq := u8w ((I : Int) / 256)
                      have qq := quo256 I
                      have w8 : IntKind.i64.wrap ((I : Int) / 256) = (I : Int) / 256 := by rw [IntKind.wrap_i64]; omega
                      have w9 : IntKind.i64.wrap ((I : Int) + 1) = ((I + 1 : Nat) : Int) := by rw [IntKind.wrap_i64]; omega
                      have hi1 : (I : Int) < (nk : Int) + 70 := by omega
                      by_cases hin : I < nk
                      · obtain ⟨g2, b2, rfl, hck, mk2, e2⟩ := CU.out I hin
                        have hi2 : (I : Int) < (nk : Int) := by omega
                        have CS2 : Hid (∀ w', Dr WL w' → Calls Try.prog 18 #[.slice (some ⟨b2, 0, none⟩) 3 3, .slice (some ⟨wr.heap.size, 0, none⟩) 3 3] w' fun e w2 => e = .returned (.bool true) ∧ Dr w' w2) := hid (fun w' hd => (sameBytes_any w' _ _ (mkLs K I) (mkLs K I) ((mk2.keep (KT.below bF)).hb.dr hd) (mkL.hb.dr hd)).mono fun e w' ⟨q1, q2⟩ => ⟨by rw [q1, decide_eq_true rfl], q2⟩)
                        have f4 := (bF.cell (World.block_lt_of_cell? Wf _ e2)).trans e2
                        clear mk1 mk2 mkL e1 e2 bL bF
                        go_wp2_with (first | rw [HWL.out] | fail)
                        refine CS1.out.mono ?_
                        rintro e U1 ⟨rfl, hd1⟩
                        have h1 := (hd1.cell ⟨b, off + K, none⟩).trans f1
                        have h2 := (hd1.cell ⟨g2, I, none⟩).trans f4
                        go_wp2_with fail
                        refine (CS2.out _ hd1).mono ?_
                        rintro e U2 ⟨rfl, hd2⟩
                        have HB2 : Hid (Below Wf.heap.size Wf U2) := hid (HBF.out.trans ((hd1.below _).trans (hd2.below _)))
                        clear h1 h2 hd1 hd2
                        go_wp2
                        exact ⟨⟨I + 1, hli, by go_num, HB2⟩, by simp [intOf]; omega⟩
                      · have hi2 : ¬ ((I : Int) < (nk : Int)) := by omega
                        clear mk1 mkL e1 bL bF
                        go_wp2_with (first | rw [HWL.out] | fail)
                        refine CS1.out.mono ?_
                        rintro e U1 ⟨rfl, hd1⟩
                        have h1 := (hd1.cell ⟨b, off + K, none⟩).trans f1
                        have HB2 : Hid (Below Wf.heap.size Wf U1) := hid (HBF.out.trans (hd1.below _))
                        clear hd1
                        go_wp2
                        exact ⟨⟨I + 1, hli, by go_num, HB2⟩, by simp [intOf]; omega⟩
                    · have hi1 : ¬ ((I : Int) < (nk : Int) + 70) := by omega
                      have w9 : IntKind.i64.wrap ((K : Int) + 1) = ((K + 1 : Nat) : Int) := by rw [IntKind.wrap_i64]; omega
                      go_wp2
                      exact ⟨⟨K + 1, hlt, by go_num, HB⟩, by simp [intOf]; omega⟩
                · obtain rfl : K = us.length := by omega
                  have FIN : Below B w wr := HP.out.bel.trans (HB.out.mono LF.out)
                  have hk5 : ¬ ((us.length : Int) < (us.length : Int)) := by omega
                  go_wp2
                  go_ret
                  exact ⟨rfl, FIN⟩
def InU (us : List Value) (b : Nat) : Prop := ∃ j, j < us.length ∧ (us.getD j undef).ownBlock = some b
structure BG (us : List Value) (B : Nat) (w w' : World) : Prop where
  bel : Below B w w'
  loc : ∀ b, b < w.heap.size → ¬ InU us b → w'.heap[b]? = w.heap[b]?
theorem BG.refl (us : List Value) (B : Nat) (w : World) : BG us B w w := ⟨Below.refl _ _, fun _ _ _ => rfl⟩
theorem BG.size {us : List Value} {B : Nat} {w w' : World} (h : BG us B w w') : w.heap.size ≤ w'.heap.size := h.bel.size
theorem BG.drew {us : List Value} {B : Nat} {w w' : World} (h : BG us B w w') : BG us B w w'.drew := ⟨h.bel.drew, h.loc⟩
theorem BG.alloc {us : List Value} {B : Nat} {w w' : World} (h : BG us B w w') (hB : B ≤ w'.heap.size) (o : Obj) : BG us B w (w'.alloc o) :=
  ⟨h.bel.alloc hB o, fun b q n => (heap_alloc_old w' o (Nat.lt_of_lt_of_le q h.size)).trans (h.loc b q n)⟩
theorem BG.setCell {us : List Value} {B : Nat} {w w' : World} (h : BG us B w w') {g i : Nat} (hp : B ≤ g) (u : Value) (hT : InU us g) : BG us B w (w'.setCell ⟨g, i, none⟩ u) :=
  ⟨h.bel.setCell hp u, fun b q n => by
    have e := h.loc b q n
    rw [← e]
    have : g ≠ b := fun x => n (x ▸ hT)
    simp [World.setCell, Array.getElem?_modify, this]⟩
theorem BG.grown {us : List Value} {B : Nat} {w w' w2 : World} {row : Option Nat} (h : BG us B w w') (hg : w'.grownBy w2 row) (hB : B ≤ w'.heap.size) (hr : ∀ k, row = some k → B ≤ k) (hT : ∀ k, row = some k → InU us k ∨ w.heap.size ≤ k) : BG us B w w2 :=
  ⟨h.bel.grown hg hB hr, fun b q n => by
    have e := h.loc b q n
    rw [← e]
    refine hg.block b (Nat.lt_of_lt_of_le q h.size) (fun x => ?_)
    rcases hT b x.symm with h2 | h2
    · exact n h2
    · omega⟩
set_option maxHeartbeats 4000000 in
theorem apart_anyG (B : Nat) (w : World) (v : Value) (us : List Value) (ls : List (List Int)) (hv : HV w v us) (ha : Apt B w us ls) (hB : B ≤ w.heap.size) (hn : us.length ≤ 5864062014634) (hls : ∀ k, (ls.getD k []).length ≤ 140737488351232) :
    Calls Try.prog 19 #[v] w fun e w' => e = .returned (.bool true) ∧ BG us B w w' := by
  obtain ⟨p, c, e, hlc, hm, hcell⟩ := id hv
  unfold maxLen at hm
  subst e
  have A : Hid (0 < us.length → ∃ b off, p = some ⟨b, off, none⟩) := fun h0 => by
    obtain ⟨b, off, e, _⟩ := hcell (by intro e; subst e; simp at h0)
    exact ⟨b, off, e⟩
  have HV0 := hid hv
  have HA0 := hid (Ph1.start ha)
  have HLS := hid hls
  clear hcell hv ha hls
  go_enter Try.func19, Try.ntmps19
  go_wp2
  go_loopw [3] (fun k wr => ∃ K : Nat, K ≤ us.length ∧ k = .int .i64 K ∧ Hid (Ph1 B wr us ls K 0) ∧ Hid (HV wr (.slice p us.length c) us) ∧ Hid (BG us B w wr)) (fun k _ => us.length - (intOf k).toNat)
  case atStart => exact ⟨0, Nat.zero_le _, rfl, HA0, HV0, BG.refl _ _ _⟩
  case round =>
    clear HA0 HV0
    obtain ⟨K, hK, rfl, HP, HVr, HBr⟩ := hrel
    by_cases hlt : K < us.length
    · obtain ⟨b, off, rfl⟩ := A.out (by omega)
      have hcells : Hid (∀ wz, HV wz (.slice (some ⟨b, off, none⟩) us.length c) us → wz.cell? ⟨b, off + K, none⟩ = some (us.getD K undef)) := by
        intro wz hz
        obtain ⟨p', c', e', _, _, h4⟩ := hz
        obtain ⟨b', off', e2, _, hc⟩ := h4 (by intro e; subst e; simp at hlt)
        simp only [Value.slice.injEq, true_and] at e'
        rw [← e'.1] at e2
        simp only [Option.some.injEq, Addr.mk.injEq, and_true] at e2
        obtain ⟨rfl, rfl⟩ := e2
        exact hc K hlt
      obtain ⟨n, HN⟩ : ∃ n, Hid ((ls.getD K []).length = n) := ⟨_, rfl⟩
      have hn2 : n ≤ 140737488351232 := by rw [← HN.out]; exact HLS.out K
      obtain ⟨pk, ck, HU⟩ : ∃ pk ck, Hid (us.getD K undef = .slice pk n ck) := by
        obtain ⟨pk, ck, e⟩ := HP.out.slice K hlt
        rw [HN.out] at e
        exact ⟨pk, ck, e⟩
      go_wp2
      go_loopw [4] (fun i wz => ∃ I : Nat, I ≤ n ∧ i = .int .i64 I ∧ Hid (Ph1 B wz us ls K I) ∧ Hid (HV wz (.slice (some ⟨b, off, none⟩) us.length c) us) ∧ Hid (BG us B w wz)) (fun i _ => n - (intOf i).toNat)
      case atStart => exact ⟨0, Nat.zero_le _, rfl, HP, HVr, HBr⟩
      case round =>
        clear HP HVr HBr
        obtain ⟨I, hI, rfl, HP, HVr, HBr⟩ := hrel
        have hc1 := hcells.out wr HVr.out
        rw [HU.out] at hc1
        by_cases hli : I < n
        · obtain ⟨g, ck', e, hck, hck2, hgB, hBT, hcc⟩ := HP.out.some K hlt (by rw [HN.out]; omega)
          rw [HU.out, HN.out] at e
          simp only [Value.slice.injEq, true_and] at e
          obtain ⟨rfl, rfl⟩ := e
          obtain ⟨⟨z, hz⟩, hfz⟩ := hcc I (by rw [HN.out]; exact hli)
          rw [HN.out] at hck2
          unfold maxLen at hck
          have HBT := hid hBT
          have hgb : b ≠ g := (HVr.out.block (by omega)).ne hBT (by decide)
          have hbg : g ≠ b := Ne.symm hgb
          clear hcc hBT
          go_wp2
          go_region_held3 (fun w' => w'.cell? ⟨b, off + K, none⟩ = some (.slice (some ⟨g, 0, none⟩) n ck)) (go_keep) ((go_at_call 24; refine (mark_eq _ (K + 1) I _ _ (wrap_succ K (by omega)) rfl (by omega) (by omega)).mono ?_; rintro e wz ⟨rfl, hw⟩; have hw' := hw.symm; subst hw'; clear hw))
          have hst := HP.out.step hlt (by rw [HN.out]; exact hli) HU.out
          have HP2 := hid hst.1.drew
          have HV2 := hid (HVr.out.grown hst.2 (fun g' e => by cases e; exact HBT.out)).drew
          have HB2 := hid (HBr.out.setCell (g := g) (i := I) hgB (.int .u8 (mkB (K + 1) I)) ⟨K, hlt, by rw [HU.out]; rfl⟩).drew
          clear hst
          go_wp2
          exact ⟨⟨I + 1, by omega, by go_num, HP2, HV2, HB2⟩, by simp [intOf]; omega⟩
        · have HP2 := hid (HP.out.next (by rw [HN.out]; omega))
          go_wp2
          exact ⟨⟨K + 1, by omega, by go_num, HP2, HVr, HBr⟩, by simp [intOf]; omega⟩
    · have hKn : K = us.length := by omega
      have HPl : Hid (Pool B wr us ls 0 0 []) := by
        have := HP.out
        rw [hKn] at this
        exact this.pool
      obtain ⟨N, HN⟩ : ∃ N, Hid (wr.heap.size = N) := ⟨_, rfl⟩
      have HNu : Hid (∀ j b, j < us.length → (us.getD j undef).ownBlock = some b → b < N) := fun j b hj hb => by rw [← HN.out]; exact (HPl.out.2.1.2.1 j b hj hb).1
      have HNv : Hid (∀ b off n c', Value.slice p us.length c = .slice (some ⟨b, off, none⟩) n c' → 0 < us.length → b < N) := fun b off n c' e h0 => by
        rw [← HN.out]
        have h1 := HVr.out
        rw [e] at h1
        obtain ⟨cur, fz, hh⟩ := h1.block h0
        exact (Array.getElem?_eq_some_iff.1 hh).1
      have HNW : Hid (w.heap.size ≤ N) := by rw [← HN.out]; exact HBr.out.size
      have HNB : Hid (B ≤ N) := by rw [← HN.out]; exact Nat.le_trans hB HBr.out.size
      have HNs : Hid (N ≤ wr.heap.size) := by rw [HN.out]; exact Nat.le_refl N
      clear HP hKn HN
      go_wp2
      go_loopw [5, 6] (fun gs k wz => ∃ (K : Nat) (gl : List Value), K ≤ us.length ∧ k = .int .i64 K ∧ Hid (Pool B wz us ls K K gl) ∧ Hid (wz.ownsRow N 23 1 gs K gl) ∧ Hid (HV wz (.slice p us.length c) us) ∧ Hid (BG us B w wz) ∧ Hid (N ≤ wz.heap.size)) (fun _ k _ => us.length - (intOf k).toNat)
      case atStart => exact ⟨0, [], Nat.zero_le _, rfl, HPl, World.ownsRow_nil _ _ _ _, HVr, HBr, HNs⟩
      case round =>
        clear HPl HVr HBr HNs hlt hK
        obtain ⟨K, gl, hK, rfl, HP, HG, HVr, HBr, HNs⟩ := hrel
        by_cases hlt : K < us.length
        · obtain ⟨b, off, rfl⟩ := A.out (by omega)
          obtain ⟨n, HNn⟩ : ∃ n, Hid ((ls.getD K []).length = n) := ⟨_, rfl⟩
          have hn2 : n ≤ 140737488351232 := by rw [← HNn.out]; exact HLS.out K
          obtain ⟨pk, ck, HU⟩ : ∃ pk ck, Hid (us.getD K undef = .slice pk n ck) := by
            obtain ⟨pk, ck, e⟩ := HP.out.2.1.2.2 K hlt
            rw [HNn.out] at e
            exact ⟨pk, ck, e⟩
          have hc1 := HVr.out.cellAt K hlt
          rw [HU.out] at hc1
          have HC := hid (Cur.start HP.out hlt)
          rw [HU.out] at HC
          go_wp2
          go_loopw [7, 8] (fun g i wz => ∃ m : Nat, m ≤ 70 ∧ i = .int .i64 m ∧ Hid (Cur B wz us ls K gl g m) ∧ Hid (∀ k, g.ownBlock = some k → InU us k ∨ N ≤ k) ∧ Hid (wz.ownsRow N 23 1 u5 K gl) ∧ Hid (HV wz (.slice (some ⟨b, off, none⟩) us.length c) us) ∧ Hid (BG us B w wz) ∧ Hid (N ≤ wz.heap.size)) (fun _ i _ => 70 - (intOf i).toNat)
          case atStart => exact ⟨0, Nat.zero_le _, rfl, HC, (fun k e => .inl ⟨K, hlt, by rw [HU.out]; exact e⟩), HG, HVr, HBr, HNs⟩
          case round =>
            clear HC HG HVr HBr HNs hc1
            obtain ⟨m, hm70, rfl, HC, HIN, HG, HVr, HBr, HNs⟩ := hrel
            have hc1 := HVr.out.cellAt K hlt
            rw [HU.out] at hc1
            by_cases hlm : m < 70
            · have hlm2 : (m : Int) < 70 := by omega
              go_wp2_with fail
              refine (mark_eq wr (K + 1) (n + m) _ _ (by omega) (by omega) (by omega) (by omega)).mono ?_
              rintro e wz ⟨rfl, hw⟩
              have hw' := hw.symm
              subst hw'
              clear hw
              have HCa := hid (HC.out.alloc hlt (.cells #[.int .u8 (mkB (K + 1) (n + m))] 5))
              have HO := HCa.out.2.1
              rw [HNn.out] at HO
              have HOh := hid HO
              clear HO
              go_wp2_with (at_builtin; refine wpList_append_byte rfl _ _ rfl B _ (n + m) _ rfl HOh.out ⟨wr.heap.size, 0, none⟩ 1 (mkB (K + 1) (n + m)) rfl (by simp) ?q1 ?q2 ?_)
              case q1 => omega
              case q2 => have := HBr.out.size; simp; omega
              intro g' w2 hown2 hgr2 hd2
              have hBT := own_BT HOh.out
              have hal := World.grownBy_alloc wr (.cells #[.int .u8 (mkB (K + 1) (n + m))] 5) none
              have HC2 := hid (HCa.out.step hlt (by rw [HNn.out]; exact hown2) hgr2 (by rw [World.size_alloc]; exact hd2))
              have HG2 : Hid (w2.ownsRow N 23 1 u5 K gl) := by
                have h1 := HG.out.alloc (.cells #[.int .u8 (mkB (K + 1) (n + m))] 5)
                refine h1.kept hgr2 ?_
                cases hx : u7.ownBlock with
                | none => cases hy : u5.ownBlock <;> simp
                | some q =>
                  obtain ⟨cur, fz, hh⟩ := hBT q hx
                  exact .inr (own_block_ne h1 hh (by decide))
              have HV2 := hid ((HVr.out.grown hal (fun g e => by cases e)).grown hgr2 hBT)
              have HB2 := hid ((HBr.out.alloc (Nat.le_trans hB HBr.out.size) (.cells #[.int .u8 (mkB (K + 1) (n + m))] 5)).grown hgr2 (by have := HBr.out.size; simp; omega) (fun k e => (HOh.out.lt k e).1) (fun k e => (HIN.out k e).imp id (fun q => Nat.le_trans HNW.out q)))
              have HIN2 : Hid (∀ k, g'.ownBlock = some k → InU us k ∨ N ≤ k) := fun k e => by
                rcases hd2 with hd | hd
                · exact HIN.out k (hd ▸ e)
                · right
                  have h2 := HNs.out
                  have h3 := hd.1.symm.trans e
                  simp only [Option.some.injEq] at h3
                  omega
              have HN2 : Hid (N ≤ w2.heap.size) := by have h1 := hgr2.size; have h2 := HNs.out; simp at h1; exact Nat.le_trans h2 (by omega)
              clear hown2 hgr2 hd2 hBT hal
              go_wp2
              exact ⟨⟨m + 1, by omega, by go_num, HC2, HIN2, HG2, HV2, HB2, HN2⟩, by simp [intOf]; omega⟩
            · have e70 : m = 70 := by omega
              subst e70
              have HPn := hid (HC.out.finish hlt)
              have HOg := HC.out.2.1
              rw [HNn.out] at HOg
              obtain ⟨pg, cg, eg, _, _⟩ : ∃ pg cg, u7 = .slice pg (n + 70) cg ∧ True ∧ True := by
                rcases HOg.2 with ⟨_, e⟩ | ⟨g', cap, cur, e, _⟩
                · omega
                · exact ⟨_, _, e, trivial, trivial⟩
              subst eg
              obtain ⟨i0, hi, hz0, hz1, hz2⟩ := info_parts info_bytes
              have HGa := hid (HG.out.alloc (.cells #[.slice pg (n + 70) cg] 23))
              have hal := World.grownBy_alloc wr (.cells #[.slice pg (n + 70) cg] 23) none
              have tr : ∀ x : Option Nat, x = none ∨ x ≠ none := fun x => by cases x <;> simp
              have HPa := hid (HPn.out.grown hal (fun i _ => tr _) (fun j _ _ => tr _) (by omega))
              have HVa := hid (HVr.out.grown hal (fun g e => by cases e))
              have HBa := hid (HBr.out.alloc (Nat.le_trans hB HBr.out.size) (.cells #[.slice pg (n + 70) cg] 23))
              clear HOg tr hal
              go_wp2_with (at_builtin; refine wpList_append_own _ rfl _ _ 22 rfl N 23 i0 (.slice none 0 0) 1 24 Try.underlying22 hi hz0 hz1 hz2 rfl (by decide) _ K gl rfl HGa.out ⟨wr.heap.size, 0, none⟩ 1 1 [_] rfl rfl (cell_one_new _ _ _) ?q1 ?q2 ?q3 ?q4 ?_)
              case q1 => intro u hu; simp only [List.mem_singleton] at hu; subst hu; rfl
              case q2 => unfold maxLen; omega
              case q3 => omega
              case q4 => have := HNs.out; simp; omega
              intro gs' w2 hown2 hgr2 _
              have hlo : ∀ g, u5.ownBlock = some g → N ≤ g := fun g e => (HGa.out.lt g e).1
              have HP2 : Hid (Pool B w2 us ls (K + 1) (K + 1) (gl ++ [.slice pg (n + 70) cg])) := by
                refine HPa.out.grown hgr2 (fun i hi => ?_) (fun j hj _ => ?_) (by omega)
                · cases hx : u5.ownBlock with
                  | none => cases hy : ((gl ++ [Value.slice pg (n + 70) cg]).getD i undef).ownBlock <;> simp
                  | some q =>
                    obtain ⟨cur, fz, hh⟩ := own_BT HGa.out q hx
                    exact .inr (own_block_ne (HPa.out.2.2.1 i hi).1 hh (by decide))
                · cases hx : (us.getD j undef).ownBlock with
                  | none => exact .inl rfl
                  | some q =>
                    right
                    intro e
                    have h1 := HNu.out j q hj hx
                    have h2 := hlo q e.symm
                    omega
              have HV2 := hid (HVa.out.apart hgr2 hlo HNv.out)
              have HB2 := hid (HBa.out.grown hgr2 (by have := HBr.out.size; simp; omega) (fun k e => Nat.le_trans HNB.out (hlo k e)) (fun k e => .inr (Nat.le_trans HNW.out (hlo k e))))
              have HG2 : Hid (w2.ownsRow N 23 1 gs' (K + 1) (gl ++ [.slice pg (n + 70) cg])) := hown2
              have HN2 : Hid (N ≤ w2.heap.size) := by have h1 := hgr2.size; have h2 := HNs.out; simp at h1; exact Nat.le_trans h2 (by omega)
              clear hown2 hgr2 hlo
              go_wp2
              exact ⟨⟨K + 1, _, by omega, by go_num, HP2, HG2, HV2, HB2, HN2⟩, by simp [intOf]; omega⟩
        · have hKn : K = us.length := by omega
          subst hKn
          obtain ⟨pg, cg, eg⟩ : ∃ pg cg, u5 = .slice pg us.length cg := by
            rcases HG.out.2 with ⟨e, e2⟩ | ⟨g', cap, cur, e, _⟩
            · exact ⟨none, 0, by rw [e, e2]⟩
            · exact ⟨_, _, e⟩
          subst eg
          go_wp2
          go_loop [9] (fun k => ∃ Q : Nat, Q ≤ us.length ∧ k = .int .i64 Q) (fun k => us.length - (intOf k).toNat)
          case atStart => exact ⟨0, Nat.zero_le _, rfl⟩
          case round =>
            obtain ⟨Q, hQ, rfl⟩ := hrel
            by_cases hlq : Q < us.length
            · obtain ⟨b, off, rfl⟩ := A.out (by omega)
              obtain ⟨n, HNn⟩ : ∃ n, Hid ((ls.getD Q []).length = n) := ⟨_, rfl⟩
              have hn2 : n ≤ 140737488351232 := by rw [← HNn.out]; exact HLS.out Q
              have hc1 := HVr.out.cellAt Q hlq
              obtain ⟨hrow, hu⟩ := HP.out.2.2.1 Q hlq
              rw [HNn.out] at hrow hu
              obtain ⟨pk, ck, HU⟩ : ∃ pk ck, Hid (us.getD Q undef = .slice pk n ck) := by
                obtain ⟨pk, ck, e⟩ := HP.out.2.1.2.2 Q hlq
                rw [HNn.out] at e
                exact ⟨pk, ck, e⟩
              rw [HU.out] at hc1 hu
              obtain ⟨gg, capg, eg, _, hcg1, hcg2, hgc⟩ := ownsRow_cells HG.out (by omega)
              simp only [Value.slice.injEq, true_and] at eg
              obtain ⟨rfl, rfl⟩ := eg
              have hgl : gl.length = us.length := HP.out.1
              have hc2 := hgc Q (gl.getD Q undef) (by simp [List.getD, List.getElem?_eq_getElem (show Q < gl.length by omega)])
              rw [Nat.zero_add] at hc2
              obtain ⟨gq, capq, eq, _, hq1, hq2, hqc⟩ := ownsRow_cells hrow (by omega)
              rw [eq] at hc2
              have HQ : Hid (∀ I, I < n + 70 → wr.cell? ⟨gq, I, none⟩ = some (.int .u8 (mkB (Q + 1) I))) := fun I hI => by
                have hjl : I < (marksL (Q + 1) (n + 70)).length := by rw [marksL_length]; exact hI
                have := hqc I (.int .u8 (mkB (Q + 1) I)) (by rw [List.getElem?_map, List.getElem?_eq_getElem hjl, ← getD_of_lt hjl, marksL_getD _ _ _ hI]; rfl)
                rwa [Nat.zero_add] at this
              have HUc : Hid (∀ I, I < n → ∃ b' off', pk = some ⟨b', off', none⟩ ∧ wr.cell? ⟨b', off' + I, none⟩ = some (.int .u8 (mkB (Q + 1) I)) ∧ n ≤ ck) := fun I hI => by
                obtain ⟨b', off', c', e, h1, h2, hh⟩ := hu.ne (by rw [marksL_length]; omega)
                rw [marksL_length] at e hh h1
                simp only [Value.slice.injEq, true_and] at e
                obtain ⟨rfl, rfl⟩ := e
                have := hh I hI
                rw [marksL_getD _ _ _ hI] at this
                exact ⟨b', off', rfl, this, h1⟩
              unfold maxLen at hcg2 hq2
              clear hrow hu hgc hqc eq hgl
              go_wp2
              go_loop [10] (fun i => ∃ I : Nat, I ≤ n + 70 ∧ i = .int .i64 I) (fun i => n + 70 - (intOf i).toNat)
              case atStart => exact ⟨0, Nat.zero_le _, rfl⟩
              case round =>
                obtain ⟨I, hI, rfl⟩ := hrel
                by_cases hli : I < n + 70
                · have hx1 := HQ.out I hli
                  have hli2 : (I : Int) < (n : Int) + 70 := by omega
                  go_wp2_with fail
                  refine (mark_eq wr (Q + 1) I _ _ (by omega) rfl (by omega) (by omega)).mono ?_
                  rintro e wz ⟨rfl, hw⟩
                  have hw' := hw.symm
                  subst hw'
                  clear hw
                  obtain ⟨x, HX⟩ : ∃ x, Hid (mkB (Q + 1) I = x) := ⟨_, rfl⟩
                  rw [HX.out] at hx1 ⊢
                  have hxx : (x != x) = false := by simp
                  by_cases hln : I < n
                  · have hdn : decide ((I : Int) < (n : Int)) = true := by simp; omega
                    have hln2 : (I : Int) < (n : Int) := by omega
                    obtain ⟨b', off', rfl, hx2, _⟩ := HUc.out I hln
                    rw [HX.out] at hx2
                    go_wp2
                    exact ⟨⟨I + 1, by omega, by go_num⟩, by simp [intOf]; omega⟩
                  · have hdn : decide ((I : Int) < (n : Int)) = false := by simp; omega
                    go_wp2
                    exact ⟨⟨I + 1, by omega, by go_num⟩, by simp [intOf]; omega⟩
                · have hli2 : ¬ ((I : Int) < (n : Int) + 70) := by omega
                  go_wp2
                  exact ⟨⟨Q + 1, by omega, by go_num⟩, by simp [intOf]; omega⟩
            · go_wp2
              go_ret
              exact ⟨rfl, HBr.out⟩
end Go.Proofs.Ytjmihehihjbgpaa
namespace Go.Proofs.Ytjmihehihjbgpaa
open Go.RowKit Go.Shelf
def KD (D : Nat → Prop) (A C : World) : Prop := A.heap.size ≤ C.heap.size ∧ ∀ i, D i → C.heap[i]? = A.heap[i]?
theorem KD.refl (D : Nat → Prop) (A : World) : KD D A A := ⟨Nat.le_refl _, fun _ _ => rfl⟩
theorem KD.trans {D : Nat → Prop} {A B C : World} (h : KD D A B) (k : KD D B C) : KD D A C := ⟨Nat.le_trans h.1 k.1, fun i hi => (k.2 i hi).trans (h.2 i hi)⟩
theorem KD.put {D : Nat → Prop} {A : World} {l : Nat} (hl : ¬ D l) (o : Obj) : KD D A (A.putObj l o) := ⟨by simp, fun _ hi => World.putObj_heap_other (fun e => hl (e ▸ hi))⟩
def IterF (F : Fence) (n : Nat) (P : Program) (g : Nat) (lb : Array Value) (enc : Nat → Value → Array Value) (Fit : Nat → Value → World → Prop) (D : Nat → Prop) (N : Nat) (w0 : World) : Prop :=
  ∀ (l : Nat) (J : Nat → World → Prop) (Jx : World → Prop) (W : World), KD D w0 W → (∀ k A C, J k A → A.grownBy C none → J k C) →
    (∀ k v W1, J k W1 → Fit k v W1 → k < N → YieldAt F (n - 1) P l (enc k v) W1 fun e W' => (e = .returned (.bool true) ∧ J (k + 1) W' ∧ KD D W1 W') ∨ (e = .returned (.bool false) ∧ Jx W')) →
    J 0 W → CallsIn F n P g (#[.func (.yield l) #[] #[]] ++ lb) W fun e W' => (∃ v, e = .returned v) ∧ (J N W' ∨ Jx W')
def OutF (B : Nat) (D : Nat → Prop) (I : Nat → World → Prop) (Ix : Code → World → Prop) (k : Nat) (W : World) : Exit → Act → World → Prop
  | .normal, _, W' => KeepsFrom B W W' ∧ KD D W W' ∧ I (k + 1) W'
  | .ret, _, W' => KeepsFrom B W W' ∧ Ix .ret W'
  | .exit id, _, W' => KeepsFrom B W W' ∧ Ix (.exit id) W'
  | _, _, _ => False
theorem range_fit {F : Fence} {n : Nat} {P : Program} {g : Operand} {ps : Array Tmp} {assign body : Code} {Q : Exit → Act → World → Prop} {a : Act} {w : World}
    (hro : F.round = none) (h1 : 1 ≤ n) {gf : Nat} {lb : Array Value} (hg : a.eval g = .func (.func gf) #[] lb) (hFg : F.fn gf) (eg : ∀ args w, (callFunc gf args).run P w = .ok (.enter gf args) w)
    {enc : Nat → Value → Array Value} {Fit : Nat → Value → World → Prop} {D : Nat → Prop} {N : Nat} {w0 : World} (hit : IterF F (n - 1) P gf lb enc Fit D N w0) (hw0 : KD D w0 w) (hD : ∀ i, D i → i < w.heap.size) (hps : ∀ k v, (enc k v).size = ps.size)
    (I : Nat → World → Prop) (Ix : Code → World → Prop) (hI : OwnFrom w.heap.size I) (hIx : OwnFrom w.heap.size Ix) (hFit : ∀ k v, OwnFrom w.heap.size (fun (_ : Unit) W => Fit k v W)) (h0 : I 0 w) (a₁ : Nat → Value → Act)
    (hassign : ∀ (l k : Nat) (v : Value) (W : World) (K : Act → World → Prop), K (a₁ k v) W →
      assign.wpIn (F.inRound l) (n - 1 - 1) P (Exit.then K (fun _ _ _ => False)) { tmps := (ps.zip (enc k v)).foldl (fun t (p, v) => t.setIfInBounds p v) a.tmps, defers := [] } W)
    (hbody : ∀ (l k : Nat) (v : Value) (W : World), w.heap.size ≤ l → (∃ r, W.heap[l]? = some (.loop r)) → I k W → Fit k v W → k < N → body.wpIn (F.inRound l) (n - 1 - 1) P (OutF w.heap.size D I Ix k W) (a₁ k v) W)
    (hdone : ∀ (d : Nat) (W : World), w.heap.size ≤ d → I N W → W.heap[d]? = some (.deferred (some [])) → Q .normal { a with defers := { target := .collected d, args := #[] } :: a.defers } W)
    (hstop : ∀ (d : Nat) (c : Code) (W : World), w.heap.size ≤ d → Ix c W → W.heap[d]? = some (.deferred (some [])) → c.wpIn F n P Q { a with defers := { target := .collected d, args := #[] } :: a.defers } W) :
    (Code.rangeFunc g ps assign body).wpIn F n P Q a w := by
  refine wpIn_rangeFunc fun fn hfn => ?_
  rw [hro]
  let R : LoopState → Option Code → Loop := fun st pe => { state := st, pending := pe, fn, tmps := a.tmps, params := ps, assign, body, defers := w.heap.size }
  have hds : ∀ i, D i → i ≠ w.heap.size ∧ i ≠ w.heap.size + 1 := fun i hi => by have := hD i hi; omega
  have hnd : ¬ D (w.heap.size + 1) := fun h => (hds _ h).2 rfl
  -- what of the two blocks of book-keeping: the record at st, pe, and the block for deferred calls
  let BK : LoopState → Option Code → World → Prop := fun st pe W => W.heap[w.heap.size + 1]? = some (.loop (R st pe)) ∧ W.heap[w.heap.size]? = some (.deferred (some []))
  have bk_put : ∀ {st pe W} (st' pe'), BK st pe W → BK st' pe' (W.putObj (w.heap.size + 1) (.loop (R st' pe'))) := fun st' pe' h =>
    ⟨World.putObj_heap_same (Array.getElem?_eq_some_iff.1 h.1).1, (World.putObj_heap_other (by omega)).trans h.2⟩
  have bk_kept : ∀ {st pe A C}, BK st pe A → KeepsFrom w.heap.size A C → BK st pe C := fun h k => ⟨k.same _ _ (by omega) h.1 rfl, k.same _ _ (Nat.le_refl _) h.2 rfl⟩
  have bk_grown : ∀ {st pe A C}, BK st pe A → A.grownBy C none → BK st pe C := fun h k =>
    ⟨(k.block _ (Array.getElem?_eq_some_iff.1 h.1).1 (by simp)).trans h.1, (k.block _ (Array.getElem?_eq_some_iff.1 h.2).1 (by simp)).trans h.2⟩
  obtain ⟨W1, hW1⟩ : ∃ W1, (w.alloc (.deferred (some []))).alloc (.loop (R .ready none)) = W1 := ⟨_, rfl⟩
  have hg1 : w.grownBy W1 none := by
    rw [← hW1]
    exact ⟨rfl, rfl, rfl, by simp; omega, fun i hi _ => (Below.heap_alloc _ _ _ (by simp; omega)).trans (Below.heap_alloc _ _ _ hi)⟩
  have hBK1 : BK .ready none W1 := by
    rw [← hW1]
    refine ⟨?_, (Below.heap_alloc _ _ _ (by simp)).trans (World.alloc_heap_new w _)⟩
    have := World.alloc_heap_new (w.alloc (.deferred (some []))) (.loop (R .ready none))
    rwa [World.size_alloc] at this
  refine ⟨w.heap.size + 1, [{ target := .collected w.heap.size, args := #[] }], W1, { target := .fn (.func gf) lb, args := #[.func (.yield (w.heap.size + 1)) #[] #[]] }, W1, gf, #[.func (.yield (w.heap.size + 1)) #[] #[]] ++ lb, W1, ?_, ?_, ?_, ?_, fun _ => h1, ?_⟩
  · rw [← hW1]; exact run_enterLoop_outer _ _ _ _ _
  · simp only [resolve, hg]; simp [go_sem]
  · intro f' hf'; simp [Target.leads] at hf'; subst hf'; exact hFg
  · simp [invoke, go_sem, eg]
  · refine (hit (w.heap.size + 1) (fun k W => I k W ∧ BK .ready none W) (fun W => ∃ c, Ix c W ∧ BK .done (some c) W) W1 (hw0.trans ⟨hg1.size, fun i hi => hg1.block i (hD i hi) (by simp)⟩)
      (fun k A C h hg' => ⟨hI k A C none h.1 hg' (fun r e => by cases e), bk_grown h.2 hg'⟩) ?_ ⟨hI 0 w W1 none h0 hg1 (fun r e => by cases e), hBK1⟩).mono ?_
    · rintro k v W ⟨hi, hb⟩ hf hk
      refine ⟨fn, _, assign, body, run_yield (P := P) (r := R .ready none) (args := enc k v) hb.1 (hps k v), roundIn_of_wpIn hfn (hassign _ k v W _ ⟨_, run_beginRound hb.1 rfl, ?_⟩)⟩
      have hb2 : BK .busy none (W.putObj (w.heap.size + 1) (.loop (R .busy none))) := bk_put _ _ hb
      refine wpIn_mono (hbody _ k v _ (by omega) ⟨_, hb2.1⟩ (hI.putObj _ hi (by omega) hb.1 rfl) ((hFit k v).putObj (s := ()) _ hf (by omega) hb.1 rfl) hk) ?_
      rintro e a3 W3 hp
      cases e with
      | normal =>
        obtain ⟨k1, k2, k3⟩ := hp
        have hb3 := bk_kept hb2 k1
        exact ⟨_, _, run_endRound (P := P) none hb3.1, .inl ⟨rfl, ⟨hI.putObj _ k3 (by omega) hb3.1 rfl, bk_put .ready none hb3⟩, ((KD.put hnd _).trans k2).trans (KD.put hnd _)⟩⟩
      | ret =>
        have hb3 := bk_kept hb2 hp.1
        exact ⟨_, _, run_endRound (P := P) (some .ret) hb3.1, .inr ⟨rfl, .ret, hIx.putObj _ hp.2 (by omega) hb3.1 rfl, bk_put .done (some .ret) hb3⟩⟩
      | exit id =>
        have hb3 := bk_kept hb2 hp.1
        exact ⟨_, _, run_endRound (P := P) (some (.exit id)) hb3.1, .inr ⟨rfl, .exit id, hIx.putObj _ hp.2 (by omega) hb3.1 rfl, bk_put .done (some (.exit id)) hb3⟩⟩
      | goto t => exact hp.elim
      | panic ch => exact hp.elim
      | outgrown => exact hp.elim
    · rintro e W2 ⟨⟨v, rfl⟩, ⟨hi, hb⟩ | ⟨c, hc, hb⟩⟩
      · exact ⟨none, _, run_endLoop (P := P) hb.1 (by simp [R]), hdone _ _ (Nat.le_refl _) (hI.putObj _ hi (by omega) hb.1 rfl) ((World.putObj_heap_other (by omega)).trans hb.2)⟩
      · exact ⟨some c, _, run_endLoop (P := P) hb.1 (by simp [R]), hstop _ c _ (Nat.le_refl _) (hIx.putObj _ hc (by omega) hb.1 rfl) ((World.putObj_heap_other (by omega)).trans hb.2)⟩
def noDefer (o : Oper) : Bool := match o.op with | .defer _ => false | _ => true
theorem noDefer_spec {ops : Array Oper} (h : ops.all noDefer = true) (i : Nat) (o : Oper) (ho : ops[i]? = some o) : ∀ c, o.op ≠ .defer c := fun c e => by
  obtain ⟨hi, rfl⟩ := Array.getElem?_eq_some_iff.1 ho
  have := (Array.all_eq_true.1 h) i hi
  simp [noDefer, e] at this
theorem any_round {F : Fence} {n : Nat} {P : Program} {ops : Array Oper} {Q : Exit → Act → World → Prop} {md : Region.Mode} {l : Nat} (hro : F.round = none) (hd : ops.all noDefer = true) :
    ∀ (fuel : Nat) (listed : Array Bool) (a : Act) (w : World), wpAnyIn F n P md ops Q fuel listed a w → wpAnyIn (F.inRound l) n P md ops Q fuel listed a w
  | 0, _, _, _, h => h
  | fuel + 1, listed, a, w, h => by
    refine ⟨h.1, fun i hi => ?_⟩
    have h1 := wpOpIn_mono (fun a' w' h' => any_round (l := l) hro hd fuel (listed.setIfInBounds i true) a' w' h') (h.2 i hi)
    unfold wpOpIn at h1 ⊢
    cases ho : ops[i]? with
    | none => simpa only [ho] using h1
    | some o =>
      simp only [ho] at h1 ⊢
      by_cases hw : Region.wanted o (yielded ops a.tmps) = true
      · simp only [hw, if_true] at h1 ⊢
        unfold Oper.wpIn at h1 ⊢
        refine ⟨h1.1, ?_⟩
        have h2 := h1.2
        rw [Oper.semAt_eq _ _ _ (noDefer_spec hd i o ho)] at h2 ⊢
        exact h2
      · simp only [hw] at h1 ⊢
        exact h1
theorem box_from {A C : World} {row : Option Nat} {B n : Nat} {t : TypeId} {v : Value} (h : Boxed A B t v) (hg : A.grownBy C row) (hr : ∀ r, row = some r → n ≤ r ∧ ∃ o : Obj, A.heap[r]? = some o ∧ o.isCells = false) : Boxed C B t v :=
  h.kept hg fun e => by
    obtain ⟨_, o, ho, hc⟩ := hr B e.symm
    rw [show A.heap[B]? = _ from h] at ho
    cases ho
    cases hc
theorem row_from {A C : World} {row : Option Nat} {B n k size : Nat} {e : TypeId} {v : Value} {xs : List Value} (h : A.ownsRow B e size v k xs) (hg : A.grownBy C row) (hr : ∀ r, row = some r → n ≤ r ∧ ∃ o : Obj, A.heap[r]? = some o ∧ o.isCells = false) : C.ownsRow B e size v k xs := by
  refine h.kept hg ?_
  rcases h.2 with ⟨rfl, _⟩ | ⟨g, cap, cur, rfl, _, hgb, _⟩
  · exact .inl rfl
  · refine .inr fun e' => ?_
    obtain ⟨_, o, ho, hc⟩ := hr g (by simpa [Value.ownBlock] using e'.symm)
    rw [hgb] at ho
    cases ho
    cases hc
theorem below_from {w A C : World} {row : Option Nat} {B n : Nat} (h : Below B w A) (hB : B ≤ w.heap.size) (hg : A.grownBy C row) (hr : ∀ r, row = some r → n ≤ r ∧ ∃ o : Obj, A.heap[r]? = some o ∧ o.isCells = false) (hn : B ≤ n) : Below B w C :=
  h.grown hg (Nat.le_trans hB h.size) (fun k e => by have := (hr k e).1; omega)
theorem own_slc1 {w : World} {B n : Nat} {e : TypeId} {v : Value} {xs : List Value} (h : w.ownsRow B e 1 v n xs) : ∃ p c, v = .slice p n c := by
  rcases h.2 with ⟨rfl, rfl⟩ | ⟨g, cap, cur, rfl, _⟩
  · exact ⟨_, _, rfl⟩
  · exact ⟨_, _, rfl⟩
def PW (B : Nat) (w : World) (v : Value) (ls : List (List Int)) : Prop :=
  ∃ xs, w.ownsRow B 23 1 v ls.length xs ∧ ∀ j, j < ls.length → w.ownsRow B 5 1 (xs.getD j undef) (ls.getD j []).length ((ls.getD j []).map (Value.int .u8)) ∧ BytI (ls.getD j [])
theorem PW.nil (B : Nat) (w : World) : PW B w (.slice none 0 0) [] := ⟨[], World.ownsRow_nil _ _ _ _, fun j hj => by simp at hj⟩
theorem PW.hl {B : Nat} {w : World} {v : Value} {ls : List (List Int)} (h : PW B w v ls) : HL w v ls := by
  obtain ⟨xs, h1, h2⟩ := h
  by_cases h0 : 0 < ls.length
  · obtain ⟨g, cap, rfl, _, hn, hm, hc⟩ := ownsRow_cells h1 h0
    refine ⟨_, cap, rfl, hn, hm, (fun e => by cases e), fun _ => ⟨g, 0, rfl, fun j hj => ⟨xs.getD j undef, ?_, HB.of_own (h2 j hj).1 (h2 j hj).2⟩⟩⟩
    have hx : xs.length = ls.length := by have := h1.1; omega
    exact hc j _ (by simp [List.getD, List.getElem?_eq_getElem (show j < xs.length by omega)])
  · have e : ls = [] := List.length_eq_zero_iff.1 (by omega)
    subst e
    rcases h1.2 with ⟨rfl, _⟩ | ⟨g, cap, cur, rfl, _, _, hn, hm, _⟩
    · exact HL.nil _
    · exact ⟨_, cap, rfl, hn, hm, (fun e => by cases e), fun h => absurd rfl h⟩
theorem PW.from {B n : Nat} {A C : World} {v : Value} {ls : List (List Int)} {row : Option Nat} (h : PW B A v ls) (hg : A.grownBy C row) (hr : ∀ r, row = some r → n ≤ r ∧ ∃ o : Obj, A.heap[r]? = some o ∧ o.isCells = false) : PW B C v ls := by
  obtain ⟨xs, h1, h2⟩ := h
  exact ⟨xs, row_from h1 hg hr, fun j hj => ⟨row_from (h2 j hj).1 hg hr, (h2 j hj).2⟩⟩
theorem PW.push {B0 Bx : Nat} {W w1 : World} {vp v' u : Value} {ls : List (List Int)} {l : List Int} {xs : List Value} {o : Obj} (hrow : W.ownsRow B0 23 1 vp ls.length xs)
    (hel : ∀ j, j < ls.length → W.ownsRow B0 5 1 (xs.getD j undef) (ls.getD j []).length ((ls.getD j []).map (Value.int .u8)) ∧ BytI (ls.getD j [])) (hu : W.ownsRow B0 5 1 u l.length (l.map (Value.int .u8))) (hby : BytI l)
    (x1 : Boxed W Bx 22 vp) (hown : w1.ownsRow B0 23 1 v' (ls.length + 1) (xs ++ [u])) (hg : (W.alloc o).grownBy w1 vp.ownBlock) :
    PW B0 (w1.setCell ⟨Bx, 0, none⟩ v') v' (ls ++ [l]) ∧ Boxed w1 Bx 22 vp ∧ Boxed (w1.setCell ⟨Bx, 0, none⟩ v') Bx 22 v' := by
  have hv1 : Boxed w1 Bx 22 vp := (x1.alloc o).kept hg (x1.not_row (by decide) hrow)
  have gs := grownBy_setCell' w1 Bx v'
  have key : ∀ {q : Value} {m : Nat} {ys : List Value}, W.ownsRow B0 5 1 q m ys → (w1.setCell ⟨Bx, 0, none⟩ v').ownsRow B0 5 1 q m ys := fun {q m ys} h => by
    have h1 := h.alloc o
    have h2 : w1.ownsRow B0 5 1 q m ys := by
      refine h1.kept hg ?_
      cases hvp : vp.ownBlock with
      | none => cases q.ownBlock <;> simp
      | some g =>
        rcases (hrow.alloc o).2 with ⟨rfl, _⟩ | ⟨g', cap, cur, rfl, _, hh, _⟩
        · simp [Value.ownBlock] at hvp
        · simp only [Value.ownBlock, Option.some.injEq] at hvp
          subst hvp
          exact .inr (own_block_ne h1 hh (by decide))
    exact h2.kept gs (.inr (own_block_ne h2 (show w1.heap[Bx]? = _ from hv1) (by decide)))
  refine ⟨⟨xs ++ [u], ?_, fun j hj => ?_⟩, hv1, hv1.set v'⟩
  · rw [List.length_append, List.length_singleton]
    exact hown.kept gs (.inr (hv1.not_row (by decide) hown).symm)
  · have hxl : xs.length = ls.length := by have := hrow.1; omega
    rw [List.length_append, List.length_singleton] at hj
    rw [getD_app, getD_app, hxl]
    split
    · rename_i h
      exact ⟨key (hel j h).1, (hel j h).2⟩
    · have : j - ls.length = 0 := by omega
      rw [this]
      exact ⟨key hu, hby⟩
end Go.Proofs.Ytjmihehihjbgpaa
