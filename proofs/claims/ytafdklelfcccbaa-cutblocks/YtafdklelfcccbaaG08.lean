/- Of the road to cutBlocks_holds: AptL2, CutBlocksWalk. -/
import Derived.Test.YtafdklelfcccbaaG07
import Derived.Test.YtafdklelfcccbaaG04
set_option linter.unusedVariables false
set_option linter.unusedSimpArgs false
namespace Go.Proofs.Ytafdklelfcccbaa
open Go.RowKit
set_option maxRecDepth 100000 in
set_option maxHeartbeats 64000000 in
theorem apartLists_any (B : Nat) (w : World) (v : Value) (us : List Value) (xss : List (List Value)) (ls : List (List Int)) (hv : HVL w v us) (hl : us.length = xss.length) (hr : ∀ k, k < us.length → w.ownsRow B TE 1 (us.getD k undef) (xss.getD k []).length (xss.getD k [])) (hd : DisU us) (ha : Apt B w xss.flatten ls) (hB : B ≤ w.heap.size) (hn : us.length ≤ 1000000) (hx : ∀ k, (xss.getD k []).length ≤ 1000000000) (hf : xss.flatten.length ≤ 1000000000000) (hls : ∀ k, (ls.getD k []).length ≤ 140737488351232) :
    Calls Try.prog 37 #[v] w fun e w' => e = .returned (.bool true) ∧ Below B w w' := by
  obtain ⟨p, c, e, hlc, hm, hcell⟩ := id hv
  unfold maxLen at hm
  subst e
  have A : Hid (0 < us.length → ∃ b off, p = some ⟨b, off, none⟩ ∧ b < w.heap.size) := hid (fun h0 => by
    obtain ⟨b, off, e, ⟨cs, hb⟩, _⟩ := hcell (by intro e; subst e; simp at h0)
    exact ⟨b, off, e, (Array.getElem?_eq_some_iff.1 hb).1⟩)
  have HV0 := hid hv
  have HR := hid hr
  have HA := hid ha
  have HD := hid hd
  have HX := hid hx
  have HLS := hid hls
  have HLX := hid hl
  obtain ⟨ns, HNS⟩ : ∃ ns : List Nat, Hid (∀ k, ns.getD k 0 = (xss.getD k []).length) := ⟨xss.map List.length, hid (fun k => by simp only [List.getD, List.getElem?_map]; cases xss[k]? <;> rfl)⟩
  clear hv hr ha hd hx hls hcell hl
  go_enter Try.func37, Try.ntmps37
  go_wp2
  go_loopw [3, 4] (fun va k wr => ∃ K : Nat, K ≤ us.length ∧ k = .int .i64 (K : Int) ∧ Hid (wr.ownsRow w.heap.size TE 1 va ((xss.take K).flatten).length ((xss.take K).flatten)) ∧ Hid (Below w.heap.size w wr)) (fun _ k _ => us.length - (intOf k).toNat)
  case atStart => exact ⟨0, Nat.zero_le _, rfl, hid (World.ownsRow_nil _ _ _ _), hid (Below.refl _ _)⟩
  case round =>
    obtain ⟨K, hK, rfl, HO, HBr⟩ := hrel
    by_cases hlt : K < us.length
    · obtain ⟨b, off, rfl, _⟩ := A.out (by omega)
      have hfl : Hid (((xss.take (K + 1)).flatten).length ≤ 1000000000000) := hid (by
        have e : xss.flatten = (xss.take (K + 1)).flatten ++ (xss.drop (K + 1)).flatten := by rw [← List.flatten_append, List.take_append_drop]
        rw [e, List.length_append] at hf
        omega)
      have hrow := HR.out K hlt
      obtain ⟨pk, ck, eu⟩ := own_slcL hrow
      obtain ⟨xs, HXS⟩ : ∃ xs, Hid (xss.getD K [] = xs) := ⟨_, hid rfl⟩
      have hflat := flat_takeL xss K (by have := HLX.out; omega)
      rw [HXS.out] at eu hrow hflat
      have EU : Hid (∀ W, Below w.heap.size w W → W.cell? ⟨b, off + K, none⟩ = some (.slice pk xs.length ck)) := hid (fun W hW => by
        have := (HV0.out.below hW).at rfl hlt
        rw [eu] at this
        exact this)
      rw [eu] at hrow
      have HROW := hid hrow
      obtain ⟨pre, HPRE⟩ : ∃ x, Hid ((xss.take K).flatten = x) := ⟨_, hid rfl⟩
      rw [HPRE.out] at HO hflat
      rw [hflat] at hfl
      rw [List.length_append] at hfl
      have hk1 : (K : Int) < (us.length : Int) := by omega
      have hmem : Hid (∀ j, j < xs.length → ∃ px cx nx, xs.getD j undef = .slice px nx cx) := hid (fun j hj => by
        have hidx : ∃ q, q < xss.flatten.length ∧ xss.flatten.getD q undef = xs.getD j undef := by
          have e : xss.flatten = (pre ++ xs) ++ (xss.drop (K + 1)).flatten := by rw [← hflat, ← List.flatten_append, List.take_append_drop]
          refine ⟨pre.length + j, by rw [e]; simp; omega, ?_⟩
          rw [e, getD_app, if_pos (by simp; omega), getD_app, if_neg (by omega), Nat.add_sub_cancel_left]
        obtain ⟨q, hq, eq⟩ := hidx
        obtain ⟨p', c', e'⟩ := own_slcL (HA.out.2.1 q hq)
        rw [eq] at e'
        exact ⟨p', c', _, e'⟩)
      clear hrow eu
      go_wp2
      go_loopw [3, 5] (fun va i wz => ∃ I : Nat, I ≤ xs.length ∧ i = .int .i64 (I : Int) ∧ Hid (wz.ownsRow w.heap.size TE 1 va ((pre ++ xs.take I).length) (pre ++ xs.take I)) ∧ Hid (Below w.heap.size w wz)) (fun _ i _ => xs.length - (intOf i).toNat)
      case atStart => exact ⟨0, Nat.zero_le _, rfl, hid (by rw [List.take_zero, List.append_nil]; exact HO.out), HBr⟩
      case round =>
        clear HO HBr
        obtain ⟨I, hI, rfl, HO, HBr⟩ := hrel
        have hc1 := EU.out wr HBr.out
        by_cases hli : I < xs.length
        · obtain ⟨px, cx, nx, ex⟩ := hmem.out I hli
          have hrw := own_ofL HROW.out (w' := wr) (fun b' e => HBr.out.block b' (own_atL HROW.out e).1)
          obtain ⟨g, cap, e2, _, hnc, hcm, hcc⟩ := ownsRow_cells hrw (by omega)
          simp only [Value.slice.injEq, true_and] at e2
          obtain ⟨rfl, rfl⟩ := e2
          have hc2 : wr.cell? ⟨g, I, none⟩ = some (.slice px nx cx) := by
            have := hcc I (xs.getD I undef) (by simp [List.getD, List.getElem?_eq_getElem hli])
            rw [Nat.zero_add, ex] at this
            exact this
          obtain ⟨WL, HWL⟩ : ∃ W : World, Hid (wr.alloc (.cells #[.slice px nx cx] TE) = W) := ⟨_, hid rfl⟩
          have BL : Below wr.heap.size wr WL := by rw [← HWL.out]; exact (Below.refl _ _).alloc (Nat.le_refl _) _
          have OL := hid (own_ofL HO.out (w' := WL) (fun b' e => BL.block b' (own_atL HO.out e).1))
          have CL : Hid (WL.cell? ⟨wr.heap.size, 0, none⟩ = some (.slice px nx cx)) := hid (by rw [cell_of_row _ _ _ _ _ _ (show WL.heap[wr.heap.size]? = some (.cells #[.slice px nx cx] TE (0, 0)) by rw [← HWL.out]; exact heap_alloc_new _ _)]; rfl)
          obtain ⟨pa, ca, ea⟩ := own_slcL OL.out
          obtain ⟨na, HNA⟩ : ∃ x, Hid ((pre ++ xs.take I).length = x) := ⟨_, hid rfl⟩
          have hna : na + 1 ≤ 5000000000000 := by rw [← HNA.out]; have := hfl.out; simp; omega
          rw [HNA.out] at OL ea
          subst ea
          have hi1 : (I : Int) < (xs.length : Int) := by omega
          have hlow : Hid (w.heap.size ≤ WL.heap.size) := hid (Nat.le_trans HBr.out.size BL.size)
          clear hcc hrw ex
          go_wp2_with (first | rw [HWL.out] | (at_builtin; refine wpList_appL rfl _ _ rfl w.heap.size (.slice pa na ca) na _ rfl OL.out ⟨wr.heap.size, 0, none⟩ 1 _ rfl rfl CL.out hna hlow.out ?_) | fail)
          intro v1 w1 ho hg hw
          have HO2 : Hid (w1.ownsRow w.heap.size TE 1 v1 ((pre ++ xs.take (I + 1)).length) (pre ++ xs.take (I + 1))) := hid (by
            have e1 : pre ++ xs.take (I + 1) = (pre ++ xs.take I) ++ [.slice px nx cx] := by
              rw [List.append_assoc, List.take_succ_eq_append_getElem hli]
              have : xs[I] = .slice px nx cx := by
                obtain ⟨px', cx', nx', ex'⟩ := hmem.out I hli
                have h1 := ownsRow_cells (own_ofL HROW.out (w' := wr) (fun b' e => HBr.out.block b' (own_atL HROW.out e).1)) (by omega)
                obtain ⟨g', cap', e2, _, _, _, hcc⟩ := h1
                simp only [Value.slice.injEq, true_and, Option.some.injEq, Addr.mk.injEq, and_true] at e2
                have h2 := hcc I xs[I] (by rw [List.getElem?_eq_getElem hli])
                rw [Nat.zero_add, ← e2.1, hc2] at h2
                exact (Option.some.inj h2).symm
              rw [this]
            rw [e1, List.length_append, HNA.out, List.length_singleton]
            rw [← List.append_assoc] at ho
            exact ho)
          have HB2 : Hid (Below w.heap.size w w1) := hid ((HBr.out.trans (BL.mono HBr.out.size)).grown hg hlow.out (fun b' e => (own_atL OL.out e).2.1))
          have w9 : IntKind.i64.wrap ((I : Int) + 1) = ((I + 1 : Nat) : Int) := by rw [IntKind.wrap_i64]; have := HX.out K; rw [HXS.out] at this; omega
          clear ho hg hw hc1 hc2 BL
          go_wp2
          exact ⟨⟨I + 1, hli, by go_num, HO2, HB2⟩, by simp [intOf]; omega⟩
        · have hi1 : ¬ ((I : Int) < (xs.length : Int)) := by omega
          have w9 : IntKind.i64.wrap ((K : Int) + 1) = ((K + 1 : Nat) : Int) := by rw [IntKind.wrap_i64]; omega
          have HO2 : Hid (wr.ownsRow w.heap.size TE 1 u3 ((xss.take (K + 1)).flatten).length ((xss.take (K + 1)).flatten)) := hid (by rw [hflat]; have := HO.out; rwa [List.take_of_length_le (by omega)] at this)
          clear HO
          go_wp2
          exact ⟨⟨K + 1, hlt, by go_num, HO2, HBr⟩, by simp [intOf]; omega⟩
    · obtain rfl : K = us.length := by omega
      have hall : xss.take us.length = xss := List.take_of_length_le (by have := HLX.out; omega)
      rw [hall] at HO
      have Apt1 : Hid (Apt B wr xss.flatten ls) := hid ⟨HA.out.1, fun k hk => own_ofL (HA.out.2.1 k hk) (fun b' e => HBr.out.block b' (own_atL (HA.out.2.1 k hk) e).1), HA.out.2.2⟩
      have HVa : HV wr u3 xss.flatten := by
        by_cases h0 : 0 < xss.flatten.length
        · obtain ⟨g, cap, rfl, _, hnc, hcm, hcc⟩ := ownsRow_cells HO.out h0
          obtain ⟨_, _, cs, hh⟩ := own_atL HO.out (b := g) rfl
          exact ⟨_, cap, rfl, hnc, hcm, fun _ => ⟨g, 0, rfl, ⟨cs, (0, 0), hh⟩, fun k hk => hcc k _ (by simp [List.getD, List.getElem?_eq_getElem hk])⟩⟩
        · have e0 : xss.flatten = [] := List.length_eq_zero_iff.1 (by omega)
          rw [e0] at HO ⊢
          rcases HO.out.2 with ⟨e, _⟩ | ⟨g, cap, cur, e, _, _, hnc, hcm, _⟩
          · exact ⟨none, 0, e, Nat.le_refl _, Nat.zero_le _, fun h => absurd rfl h⟩
          · exact ⟨_, cap, e, hnc, hcm, fun h => absurd rfl h⟩
      have AF := hid (apart_anyF B wr u3 xss.flatten ls HVa Apt1.out (Nat.le_trans hB HBr.out.size) (by omega) HLS.out)
      have hk1 : ¬ ((us.length : Int) < (us.length : Int)) := by omega
      clear HVa Apt1 hlt hK
      go_wp2_with fail
      refine AF.out.mono ?_
      rintro e W2 ⟨rfl, hbf⟩
      have PS : Hid (P3 B w W2 (.slice p us.length c) us ns 0 0) := hid (by
        refine ⟨(HV0.out.below HBr.out).keep (fun b cs q => hbf.typ b cs _ _ q (by decide)), fun k hk => ?_, (HBr.out.mono hB).trans hbf.bel⟩
        have q1 := HR.out k hk
        have q2 := own_ofL q1 (w' := wr) (fun b' e => HBr.out.block b' (own_atL q1 e).1)
        have q3 := own_ofL q2 (w' := W2) (fun b' e => by obtain ⟨_, _, cs, q⟩ := own_atL q2 e; exact hbf.typ b' cs _ _ q (by decide))
        rw [HNS.out k]
        exact ⟨_, q3, fun j hj _ => by simp [cntL] at hj⟩)
      have sB : Hid (B ≤ W2.heap.size) := hid (Nat.le_trans hB (Nat.le_trans HBr.out.size hbf.size))
      have sW : Hid (w.heap.size ≤ W2.heap.size) := hid (Nat.le_trans HBr.out.size hbf.size)
      clear AF hbf HO HBr
      go_wp2
      go_loopw [6] (fun k wr => ∃ K : Nat, K ≤ us.length ∧ k = .int .i64 (K : Int) ∧ Hid (P3 B w wr (.slice p us.length c) us ns K 0) ∧ Hid (W2.heap.size ≤ wr.heap.size)) (fun k _ => us.length - (intOf k).toNat)
      case atStart => exact ⟨0, Nat.zero_le _, rfl, PS, hid (Nat.le_refl _)⟩
      case round =>
        clear PS
        obtain ⟨K, hK, rfl, HP, HZ⟩ := hrel
        by_cases hlt : K < us.length
        · obtain ⟨b, off, rfl, hbw⟩ := A.out (by omega)
          obtain ⟨nk, HNK⟩ : ∃ x, Hid (ns.getD K 0 = x) := ⟨_, hid rfl⟩
          have hnk : nk ≤ 1000000000 := by rw [← HNK.out, HNS.out K]; exact HX.out K
          obtain ⟨pk, ck, EU⟩ : ∃ pk ck, Hid (us.getD K undef = .slice pk nk ck) := by
            obtain ⟨xs, q1, _⟩ := HP.out.row K hlt
            obtain ⟨pk, ck, e⟩ := own_slcL q1
            rw [HNK.out] at e
            exact ⟨pk, ck, hid e⟩
          have hk2 : (K : Int) < (us.length : Int) := by omega
          have hc1 := HP.out.hv.at rfl hlt
          rw [EU.out] at hc1
          go_wp2
          go_loopw [7] (fun i wz => ∃ I : Nat, I ≤ nk ∧ i = .int .i64 (I : Int) ∧ Hid (P3 B w wz (.slice (some ⟨b, off, none⟩) us.length c) us ns K I) ∧ Hid (W2.heap.size ≤ wz.heap.size)) (fun i _ => nk - (intOf i).toNat)
          case atStart => exact ⟨0, Nat.zero_le _, rfl, HP, HZ⟩
          case round =>
            clear HP HZ hc1
            obtain ⟨I, hI, rfl, HP, HZ⟩ := hrel
            have hc1 := HP.out.hv.at rfl hlt
            rw [EU.out] at hc1
            by_cases hli : I < nk
            · obtain ⟨xs, q1, _⟩ := HP.out.row K hlt
              rw [HNK.out, EU.out] at q1
              obtain ⟨g, cap, e2, _, hnc, hcm, hcc⟩ := ownsRow_cells q1 (by omega)
              simp only [Value.slice.injEq, true_and] at e2
              obtain ⟨rfl, rfl⟩ := e2
              have hlx : xs.length = nk := by have := q1.1; omega
              obtain ⟨WL, HWL⟩ : ∃ W : World, Hid (wr.alloc (.cells #[.int .u8 ((K : Int) % 256), .int .u8 ((I : Int) % 256), .int .u8 ((I : Int) / 256 % 256)] 5) = W) := ⟨_, hid rfl⟩
              have BL : Below wr.heap.size wr WL := by rw [← HWL.out]; exact (Below.refl _ _).alloc (Nat.le_refl _) _
              have q3 := own_ofL q1 (w' := WL) (fun b' e => BL.block b' (own_atL q1 e).1)
              have cg : WL.cell? ⟨g, I, none⟩ = some (xs.getD I undef) := by
                rw [q3.cellAt I (by omega)]
                simp [List.getD, List.getElem?_eq_getElem (show I < xs.length by omega)]
              have fg := q3.frozenAt I
              have ST : Hid (P3 B w (WL.setCell ⟨g, I, none⟩ (.slice (some ⟨wr.heap.size, 0, none⟩) 3 3)) (.slice (some ⟨b, off, none⟩) us.length c) us ns K (I + 1)) := by
                rw [← HWL.out]
                exact hid (HP.out.step HD.out hlt (by rw [HNK.out]; exact hli) (by rw [EU.out, HNK.out]) (Nat.le_trans sB.out HZ.out))
              have HZ2 : Hid (W2.heap.size ≤ (WL.setCell ⟨g, I, none⟩ (.slice (some ⟨wr.heap.size, 0, none⟩) 3 3)).heap.size) := hid (by have := BL.size; have := HZ.out; simp [World.setCell]; omega)
              have wk := u8w K
              have wi := u8w I
              have wq := u8w ((I : Int) / 256)
              have qq := quo256 I
              have w9 : IntKind.i64.wrap ((I : Int) + 1) = ((I + 1 : Nat) : Int) := by rw [IntKind.wrap_i64]; omega
              have w8 : IntKind.i64.wrap ((I : Int) / 256) = (I : Int) / 256 := by rw [IntKind.wrap_i64]; omega
              have hi1 : (I : Int) < (nk : Int) := by omega
              clear q1 q3 hcc BL HP HZ
              go_wp2_with (first | rw [HWL.out] | fail)
              exact ⟨⟨I + 1, hli, by go_num, ST, HZ2⟩, by simp [intOf]; omega⟩
            · have hi1 : ¬ ((I : Int) < (nk : Int)) := by omega
              have w9 : IntKind.i64.wrap ((K : Int) + 1) = ((K + 1 : Nat) : Int) := by rw [IntKind.wrap_i64]; omega
              have HN2 := hid (HP.out.next (by rw [HNK.out]; omega))
              clear HP
              go_wp2
              exact ⟨⟨K + 1, hlt, by go_num, HN2, HZ⟩, by simp [intOf]; omega⟩
        · obtain rfl : K = us.length := by omega
          obtain ⟨N4, HN4⟩ : ∃ x, Hid (wr.heap.size = x) := ⟨_, hid rfl⟩
          have P40 := hid (P4.start HP.out)
          have hBN : Hid (B ≤ N4) := hid (by rw [← HN4.out]; exact Nat.le_trans sB.out HZ.out)
          have HNv : Hid (∀ b off n c', Value.slice p us.length c = .slice (some ⟨b, off, none⟩) n c' → 0 < us.length → b < N4) := hid (fun b off n c' e h0 => by
            obtain ⟨b', off', e', hb'⟩ := A.out h0
            rw [e'] at e
            simp only [Value.slice.injEq, Option.some.injEq, Addr.mk.injEq, and_true] at e
            have q1 := HZ.out
            have q2 := sW.out
            have q3 := HN4.out
            omega)
          have Z40 : Hid (N4 ≤ wr.heap.size) := hid (by rw [HN4.out]; exact Nat.le_refl _)
          have hk3 : ¬ ((us.length : Int) < (us.length : Int)) := by omega
          clear HP HZ hlt hK HN4
          go_wp2
          go_loopw [8, 9] (fun gs k wz => ∃ (K : Nat) (gl : List Value), K ≤ us.length ∧ k = .int .i64 (K : Int) ∧ Hid (P4 B w wz (.slice p us.length c) us ns K gl) ∧ Hid (wz.ownsRow N4 48 1 gs K gl) ∧ Hid (N4 ≤ wz.heap.size)) (fun _ k _ => us.length - (intOf k).toNat)
          case atStart => exact ⟨0, [], Nat.zero_le _, rfl, P40, hid (World.ownsRow_nil _ _ _ _), Z40⟩
          case round =>
            clear P40 Z40
            obtain ⟨K, gl, hK, rfl, HP, HG, HZ⟩ := hrel
            by_cases hlt : K < us.length
            · obtain ⟨b, off, rfl, hbw⟩ := A.out (by omega)
              obtain ⟨nk, HNK⟩ : ∃ x, Hid (ns.getD K 0 = x) := ⟨_, hid rfl⟩
              have hnk : nk ≤ 1000000000 := by rw [← HNK.out, HNS.out K]; exact HX.out K
              obtain ⟨pk, ck, EU⟩ : ∃ pk ck, Hid (us.getD K undef = .slice pk nk ck) := by
                obtain ⟨xs, q1, _⟩ := HP.out.row K hlt
                obtain ⟨pk, ck, e⟩ := own_slcL q1
                rw [HNK.out] at e
                exact ⟨pk, ck, hid e⟩
              have hk2 : (K : Int) < (us.length : Int) := by omega
              have hc1 := HP.out.hv.at rfl hlt
              rw [EU.out] at hc1
              obtain ⟨gs0, HGS⟩ : ∃ x, Hid (u8 = x) := ⟨_, hid rfl⟩
              rw [HGS.out] at HG ⊢
              have P50 := hid (P5.start HP.out HD.out hlt)
              rw [EU.out] at P50
              go_wp2
              go_loopw [10, 11] (fun x i wz => ∃ m : Nat, m ≤ 70 ∧ i = .int .i64 (m : Int) ∧ Hid (P5 B w wz (.slice (some ⟨b, off, none⟩) us.length c) us ns K gl x m) ∧ Hid (wz.ownsRow N4 48 1 gs0 K gl) ∧ Hid (N4 ≤ wz.heap.size)) (fun _ i _ => 70 - (intOf i).toNat)
              case atStart => exact ⟨0, by omega, rfl, P50, HG, HZ⟩
              case round =>
                clear P50 HG HZ hc1 HP
                obtain ⟨m, hm70, rfl, HP, HG, HZ⟩ := hrel
                have hc1 := HP.out.hv.at rfl hlt
                rw [EU.out] at hc1
                by_cases hlm : m < 70
                · have hlm2 : (m : Int) < 70 := by omega
                  obtain ⟨xs, x1, x2⟩ := HP.out.cur
                  rw [HNK.out] at x1 x2
                  have LR : Hid (B ≤ wr.heap.size) := hid (Nat.le_trans hBN.out HZ.out)
                  obtain ⟨WA, HWA⟩ : ∃ W : World, Hid (wr.drew.alloc (.cells #[.int .u8 ((K : Int) % 256), .int .u8 (((nk : Int) + (m : Int)) % 256), .int .u8 (((nk : Int) + (m : Int)) / 256 % 256)] 5) = W) := ⟨_, hid rfl⟩
                  obtain ⟨WB, HWB⟩ : ∃ W : World, Hid (WA.alloc (.cells #[.slice (some ⟨wr.drew.heap.size, 0, none⟩) 3 3] TE) = W) := ⟨_, hid rfl⟩
                  have bA : Below wr.heap.size wr WA := by rw [← HWA.out]; exact ((Below.refl _ wr).drew).alloc (Nat.le_refl _) _
                  have bB' : Below WA.heap.size WA WB := by rw [← HWB.out]; exact (Below.refl _ _).alloc (Nat.le_refl _) _
                  have bB : Below wr.heap.size wr WB := bA.trans (bB'.mono bA.size)
                  have PB := hid (HP.out.below bB LR.out)
                  have OB : Hid (WB.ownsRow B TE 1 u10 (nk + m) xs) := hid (own_ofL x1 (fun b' e => bB.block b' (own_atL x1 e).1))
                  have MB : Hid (∀ j, j < nk + m → Mkd WB (xs.getD j undef) K j) := hid (fun j hj => (x2 j hj hj).keep (KT.below bB))
                  have UB : Hid (Mkd WB (.slice (some ⟨wr.drew.heap.size, 0, none⟩) 3 3) K (nk + m)) := hid (Mkd.keep (w := WA) ⟨_, rfl, by
                    have e : mkA K (nk + m) = #[.int .u8 ((K : Int) % 256), .int .u8 (((nk : Int) + (m : Int)) % 256), .int .u8 (((nk : Int) + (m : Int)) / 256 % 256)] := by simp [mkA]
                    rw [e, ← HWA.out]
                    exact heap_alloc_new _ _⟩ (KT.below bB'))
                  have CB : Hid (WB.cell? ⟨WA.heap.size, 0, none⟩ = some (.slice (some ⟨wr.drew.heap.size, 0, none⟩) 3 3)) := hid (by rw [cell_of_row _ _ _ _ _ _ (show WB.heap[WA.heap.size]? = some (.cells #[.slice (some ⟨wr.drew.heap.size, 0, none⟩) 3 3] TE (0, 0)) by rw [← HWB.out]; exact heap_alloc_new _ _)]; rfl)
                  have GB : Hid (WB.ownsRow N4 48 1 gs0 K gl) := hid (own_ofL HG.out (fun b' e => bB.block b' (own_atL HG.out e).1))
                  have SA : Hid (WA.cell? ⟨b, off + K, none⟩ = some (.slice pk nk ck)) := hid ((bA.cell (World.block_lt_of_cell? wr _ hc1)).trans hc1)
                  have SB : Hid (WB.cell? ⟨b, off + K, none⟩ = some (.slice pk nk ck)) := hid ((bB.cell (World.block_lt_of_cell? wr _ hc1)).trans hc1)
                  have LB : Hid (B ≤ WB.heap.size) := hid (Nat.le_trans LR.out bB.size)
                  have ZB : Hid (N4 ≤ WB.heap.size) := hid (Nat.le_trans HZ.out bB.size)
                  have wk := u8w (K : Int)
                  have wn := u8w ((nk : Int) + (m : Int))
                  have wq := u8w (((nk : Int) + (m : Int)) / 256)
                  have qq : Int.tdiv ((nk : Int) + (m : Int)) 256 = ((nk : Int) + (m : Int)) / 256 := Int.tdiv_eq_ediv_of_nonneg (by omega)
                  have w7 : IntKind.i64.wrap ((nk : Int) + (m : Int)) = (nk : Int) + (m : Int) := by rw [IntKind.wrap_i64]; omega
                  have w8 : IntKind.i64.wrap (((nk : Int) + (m : Int)) / 256) = ((nk : Int) + (m : Int)) / 256 := by rw [IntKind.wrap_i64]; omega
                  have w9 : IntKind.i64.wrap ((m : Int) + 1) = ((m + 1 : Nat) : Int) := by rw [IntKind.wrap_i64]; omega
                  clear x1 x2 bA bB bB' HP HG HZ
                  go_wp2_with fail
                  refine wp_region_held_drew (S := (fun W : World => W.cell? ⟨b, off + K, none⟩ = some (.slice pk nk ck))) (by kernel_rfl) hc1 (fun hHeld => ?_)
                  have HS := hid hHeld
                  clear hHeld
                  change wpAnyH _ _ _ _ _ _ _ _ (World.drew _)
                  refine wpAnyH_take (i := 0) (v := ?_) rfl (by kernel_rfl) (by kernel_rfl) (by kernel_rfl) (fun _ _ _ h => h) (Or.inl ⟨by rfl, ?q0⟩) HS.out ?_
                  case q0 => intro w hSw; go_simp; rfl
                  simp only [Act.put, List.getElem_toArray, List.getElem_cons_zero, List.getElem_cons_succ, List.setIfInBounds_toArray, List.set_cons_zero, List.set_cons_succ]
                  refine wpAnyH_take (i := 1) (v := ?_) rfl (by kernel_rfl) (by kernel_rfl) (by kernel_rfl) (fun _ _ _ h => h) (Or.inl ⟨by rfl, ?q1⟩) HS.out ?_
                  case q1 => intro w hSw; go_simp; rfl
                  simp only [Act.put, List.getElem_toArray, List.getElem_cons_zero, List.getElem_cons_succ, List.setIfInBounds_toArray, List.set_cons_zero, List.set_cons_succ]
                  refine wpAnyH_take (i := 2) (v := ?_) rfl (by kernel_rfl) (by kernel_rfl) (by kernel_rfl) (fun _ _ _ h => h) (Or.inl ⟨by rfl, ?q2⟩) HS.out ?_
                  case q2 => intro w hSw; go_simp; rfl
                  simp only [Act.put, List.getElem_toArray, List.getElem_cons_zero, List.getElem_cons_succ, List.setIfInBounds_toArray, List.set_cons_zero, List.set_cons_succ]
                  refine wpAnyH_take (i := 3) (v := ?_) rfl (by kernel_rfl) (by kernel_rfl) (by kernel_rfl) (fun _ _ _ h => h) (Or.inl ⟨by rfl, ?q3⟩) HS.out ?_
                  case q3 => intro w hSw; go_simp; rfl
                  simp only [Act.put, List.getElem_toArray, List.getElem_cons_zero, List.getElem_cons_succ, List.setIfInBounds_toArray, List.set_cons_zero, List.set_cons_succ]
                  refine wpAnyH_take (i := 4) (v := ?_) rfl (by kernel_rfl) (by kernel_rfl) (by kernel_rfl) (fun _ _ _ h => h) (Or.inl ⟨by rfl, ?q4⟩) HS.out ?_
                  case q4 => intro w hSw; go_simp; rfl
                  simp only [Act.put, List.getElem_toArray, List.getElem_cons_zero, List.getElem_cons_succ, List.setIfInBounds_toArray, List.set_cons_zero, List.set_cons_succ]
                  refine wpAnyH_take (i := 5) (v := ?_) rfl (by kernel_rfl) (by kernel_rfl) (by kernel_rfl) (fun _ _ _ h => h) (Or.inl ⟨by rfl, ?q5⟩) HS.out ?_
                  case q5 => intro w hSw; go_simp; rfl
                  simp only [Act.put, List.getElem_toArray, List.getElem_cons_zero, List.getElem_cons_succ, List.setIfInBounds_toArray, List.set_cons_zero, List.set_cons_succ]
                  refine wpAnyH_take (i := 6) (v := ?_) rfl (by kernel_rfl) (by kernel_rfl) (by kernel_rfl) (fun _ _ _ h => h) (Or.inl ⟨by rfl, ?q6⟩) HS.out ?_
                  case q6 => intro w hSw; go_simp; rfl
                  simp only [Act.put, List.getElem_toArray, List.getElem_cons_zero, List.getElem_cons_succ, List.setIfInBounds_toArray, List.set_cons_zero, List.set_cons_succ]
                  refine wpAnyH_take (i := 7) (v := ?_) rfl (by kernel_rfl) (by kernel_rfl) (by kernel_rfl) (fun _ _ _ h => h) (Or.inl ⟨by rfl, ?q7⟩) HS.out ?_
                  case q7 => intro w hSw; go_simp; rfl
                  simp only [Act.put, List.getElem_toArray, List.getElem_cons_zero, List.getElem_cons_succ, List.setIfInBounds_toArray, List.set_cons_zero, List.set_cons_succ]
                  refine wpAnyH_take (i := 8) (v := ?_) rfl (by kernel_rfl) (by kernel_rfl) (by kernel_rfl) (fun _ _ _ h => h) (Or.inl ⟨by rfl, ?q8⟩) HS.out ?_
                  case q8 => intro w hSw; go_simp; rfl
                  simp only [Act.put, List.getElem_toArray, List.getElem_cons_zero, List.getElem_cons_succ, List.setIfInBounds_toArray, List.set_cons_zero, List.set_cons_succ]
                  refine wpAnyH_take (i := 9) (v := ?_) rfl (by kernel_rfl) (by kernel_rfl) (by kernel_rfl) (fun _ _ _ h => h) (Or.inl ⟨by rfl, ?q9⟩) HS.out ?_
                  case q9 => intro w hSw; go_simp; rfl
                  simp only [Act.put, List.getElem_toArray, List.getElem_cons_zero, List.getElem_cons_succ, List.setIfInBounds_toArray, List.set_cons_zero, List.set_cons_succ]
                  refine wpAnyH_take (i := 10) (v := ?_) rfl (by kernel_rfl) (by kernel_rfl) (by kernel_rfl) (fun _ _ _ h => h) (Or.inl ⟨by rfl, ?q10⟩) HS.out ?_
                  case q10 => intro w hSw; go_simp; rfl
                  simp only [Act.put, List.getElem_toArray, List.getElem_cons_zero, List.getElem_cons_succ, List.setIfInBounds_toArray, List.set_cons_zero, List.set_cons_succ]
                  refine wpAnyH_take (i := 11) (v := ?_) rfl (by kernel_rfl) (by kernel_rfl) (by kernel_rfl) (fun _ _ _ h => h) (Or.inl ⟨by rfl, ?q11⟩) HS.out ?_
                  case q11 => intro w hSw; go_simp; rfl
                  simp only [Act.put, List.getElem_toArray, List.getElem_cons_zero, List.getElem_cons_succ, List.setIfInBounds_toArray, List.set_cons_zero, List.set_cons_succ]
                  refine wpAnyH_take (i := 12) (v := ?_) rfl (by kernel_rfl) (by kernel_rfl) (by kernel_rfl) (fun _ _ _ h => h) (Or.inl ⟨by rfl, ?q12⟩) HS.out ?_
                  case q12 => intro w hSw; go_simp; rfl
                  simp only [Act.put, List.getElem_toArray, List.getElem_cons_zero, List.getElem_cons_succ, List.setIfInBounds_toArray, List.set_cons_zero, List.set_cons_succ]
                  refine wpAnyH_take (i := 13) (v := ?_) rfl (by kernel_rfl) (by kernel_rfl) (by kernel_rfl) (fun _ _ _ h => h) (Or.inl ⟨by rfl, ?q13⟩) HS.out ?_
                  case q13 => intro w hSw; go_simp; rfl
                  simp only [Act.put, List.getElem_toArray, List.getElem_cons_zero, List.getElem_cons_succ, List.setIfInBounds_toArray, List.set_cons_zero, List.set_cons_succ]
                  refine wpAnyH_take (i := 14) (v := ?_) rfl (by kernel_rfl) (by kernel_rfl) (by kernel_rfl) (fun _ _ _ h => h) (Or.inl ⟨by rfl, ?q14⟩) HS.out ?_
                  case q14 => intro w hSw; go_simp; rfl
                  simp only [Act.put, List.getElem_toArray, List.getElem_cons_zero, List.getElem_cons_succ, List.setIfInBounds_toArray, List.set_cons_zero, List.set_cons_succ]
                  refine wpAnyH_take (i := 15) (v := ?_) rfl (by kernel_rfl) (by kernel_rfl) (by kernel_rfl) (fun _ _ _ h => h) (Or.inl ⟨by rfl, ?q15⟩) HS.out ?_
                  case q15 => intro w hSw; go_simp; rfl
                  simp only [Act.put, List.getElem_toArray, List.getElem_cons_zero, List.getElem_cons_succ, List.setIfInBounds_toArray, List.set_cons_zero, List.set_cons_succ]
                  refine wpAnyH_take (i := 16) (v := ?_) rfl (by kernel_rfl) (by kernel_rfl) (by kernel_rfl) (fun _ _ _ h => h) (Or.inl ⟨by rfl, ?q16⟩) HS.out ?_
                  case q16 => intro w hSw; go_simp; rfl
                  simp only [Act.put, List.getElem_toArray, List.getElem_cons_zero, List.getElem_cons_succ, List.setIfInBounds_toArray, List.set_cons_zero, List.set_cons_succ]
                  refine wpAnyH_take (i := 17) (v := ?_) rfl (by kernel_rfl) (by kernel_rfl) (by kernel_rfl) (fun _ _ _ h => h) (Or.inl ⟨by rfl, ?q17⟩) HS.out ?_
                  case q17 => intro w hSw; go_simp; rfl
                  simp only [Act.put, List.getElem_toArray, List.getElem_cons_zero, List.getElem_cons_succ, List.setIfInBounds_toArray, List.set_cons_zero, List.set_cons_succ]
                  refine wpAnyH_take (i := 18) (v := ?_) rfl (by kernel_rfl) (by kernel_rfl) (by kernel_rfl) (fun _ _ _ h => h) (Or.inl ⟨by rfl, ?q18⟩) HS.out ?_
                  case q18 => intro w hSw; go_simp; rfl
                  simp only [Act.put, List.getElem_toArray, List.getElem_cons_zero, List.getElem_cons_succ, List.setIfInBounds_toArray, List.set_cons_zero, List.set_cons_succ]
                  refine wpAnyH_take (i := 19) (v := ?_) rfl (by kernel_rfl) (by kernel_rfl) (by kernel_rfl) (fun _ _ _ h => h) (Or.inl ⟨by rfl, ?q19⟩) HS.out ?_
                  case q19 => intro w hSw; go_simp; rfl
                  simp only [Act.put, List.getElem_toArray, List.getElem_cons_zero, List.getElem_cons_succ, List.setIfInBounds_toArray, List.set_cons_zero, List.set_cons_succ]
                  clear HS
                  refine wpAnyH_ready (rs := [20]) (by kernel_rfl) (by simp) ?_
                  refine AllReadyH.cons rfl (fun K1 hK => ?_) AllReadyH.nil
                  replace hK := hid hK
                  refine wanted_litL (by rfl) 22 3 _ rfl #[(0, .int .u8 ((K : Int) % 256)), (1, .int .u8 (((nk : Int) + (m : Int)) % 256)), (2, .int .u8 (((nk : Int) + (m : Int)) / 256 % 256))] (by go_simp) _ (run_lit3 _ _ _ _) ?_
                  rw [HWA.out]
                  try simp only [Act.put, List.getElem_toArray, List.getElem_cons_zero, List.getElem_cons_succ, List.setIfInBounds_toArray, List.set_cons_zero, List.set_cons_succ]
                  refine hK.out _ _ SA.out (fun _ => ?_)
                  clear hK K1
                  refine wpAnyH_ready (rs := [21]) (by kernel_rfl) (by simp) ?_
                  refine AllReadyH.cons rfl (fun K1 hK => ?_) AllReadyH.nil
                  replace hK := hid hK
                  refine wanted_litL (by rfl) 48 1 _ rfl #[(0, .slice (some ⟨wr.drew.heap.size, 0, none⟩) 3 3)] (by go_simp) _ (run_lit1 _ _ _ _) ?_
                  rw [HWB.out]
                  try simp only [Act.put, List.getElem_toArray, List.getElem_cons_zero, List.getElem_cons_succ, List.setIfInBounds_toArray, List.set_cons_zero, List.set_cons_succ]
                  refine hK.out _ _ SB.out (fun _ => ?_)
                  clear hK K1
                  refine wpAnyH_ready (rs := [22]) (by kernel_rfl) (by simp) ?_
                  refine AllReadyH.cons rfl (fun K1 hK => ?_) AllReadyH.nil
                  replace hK := hid hK
                  rw [if_pos (by rfl)]
                  refine wp_appL _ _ rfl B u10 (nk + m) xs rfl OB.out ⟨WA.heap.size, 0, none⟩ 1 (.slice (some ⟨wr.drew.heap.size, 0, none⟩) 3 3) rfl rfl CB.out (by omega) LB.out (fun v1 w1 ho hg hw => ?_)
                  have P6 : Hid (P5 B w w1 (.slice (some ⟨b, off, none⟩) us.length c) us ns K gl v1 (m + 1)) := hid (PB.out.step hlt (by rw [HNK.out]; exact OB.out) (by rw [HNK.out]; exact MB.out) (by rw [HNK.out]; exact UB.out) (by rw [HNK.out]; exact ho) hg (by rw [HNK.out]; exact hw) LB.out)
                  have S1 : Hid (w1.cell? ⟨b, off + K, none⟩ = some (.slice pk nk ck)) := hid (by have := P6.out.hv.at rfl hlt; rw [EU.out] at this; exact this)
                  have G1 : Hid (w1.ownsRow N4 48 1 gs0 K gl) := hid (own_ofL GB.out (fun b' e => hg.block b' (own_atL GB.out e).1 (fun e2 => by
                    obtain ⟨_, _, cs1, q1⟩ := own_atL GB.out e
                    obtain ⟨_, _, cs2, q2⟩ := own_atL OB.out e2.symm
                    rw [q1] at q2
                    simp only [Option.some.injEq, Obj.cells.injEq] at q2
                    exact absurd q2.2.1 (by decide))))
                  have Z1 : Hid (N4 ≤ w1.heap.size) := hid (Nat.le_trans ZB.out hg.size)
                  clear ho hg hw
                  try simp only [Act.put, List.getElem_toArray, List.getElem_cons_zero, List.getElem_cons_succ, List.setIfInBounds_toArray, List.set_cons_zero, List.set_cons_succ]
                  refine hK.out _ _ S1.out (fun _ => ?_)
                  clear hK K1
                  have HS := S1
                  refine wpAnyH_take (i := 23) (v := ?_) rfl (by kernel_rfl) (by kernel_rfl) (by kernel_rfl) (fun _ _ _ h => h) (Or.inl ⟨by rfl, ?q23⟩) HS.out ?_
                  case q23 => intro w hSw; go_simp; rfl
                  simp only [Act.put, List.getElem_toArray, List.getElem_cons_zero, List.getElem_cons_succ, List.setIfInBounds_toArray, List.set_cons_zero, List.set_cons_succ]
                  refine wpAnyH_done (by kernel_rfl) ?_ _
                  go_wp2
                  exact ⟨⟨m + 1, hlm, by go_num, P6, G1, Z1⟩, by simp [intOf]; omega⟩
                · obtain rfl : m = 70 := by omega
                  have PF := hid (HP.out.finish hlt)
                  obtain ⟨xs, x1, _⟩ := HP.out.cur
                  obtain ⟨px, cx, ex⟩ := own_slcL x1
                  obtain ⟨nx, HNX⟩ : ∃ x, Hid (ns.getD K 0 + 70 = x) := ⟨_, hid rfl⟩
                  rw [HNX.out] at ex
                  rw [ex] at PF ⊢
                  have LR : Hid (B ≤ wr.heap.size) := hid (Nat.le_trans hBN.out HZ.out)
                  obtain ⟨WA, HWA⟩ : ∃ W : World, Hid (wr.alloc (.cells #[.slice px nx cx] 48) = W) := ⟨_, hid rfl⟩
                  have bA : Below wr.heap.size wr WA := by rw [← HWA.out]; exact (Below.refl _ wr).alloc (Nat.le_refl _) _
                  have PA := hid (PF.out.below bA LR.out)
                  have GA : Hid (WA.ownsRow N4 48 1 gs0 K gl) := hid (own_ofL HG.out (fun b' e => bA.block b' (own_atL HG.out e).1))
                  have CA : Hid (∀ j u, [Value.slice px nx cx][j]? = some u → WA.cell? ((⟨wr.heap.size, 0, none⟩ : Addr).add j) = some u) := hid (fun j u hj => by
                    match j, hj with
                    | 0, hj =>
                      simp at hj
                      subst hj
                      rw [Go.WideShapes.add_plain, cell_of_row _ _ _ _ _ _ (show WA.heap[wr.heap.size]? = some (.cells #[.slice px nx cx] 48 (0, 0)) by rw [← HWA.out]; exact heap_alloc_new _ _)]
                      rfl)
                  have ZA : Hid (N4 ≤ WA.heap.size) := hid (Nat.le_trans HZ.out bA.size)
                  have hlm2 : ¬ ((70 : Int) < 70) := by omega
                  have w9 : IntKind.i64.wrap ((K : Int) + 1) = ((K + 1 : Nat) : Int) := by rw [IntKind.wrap_i64]; omega
                  obtain ⟨i0, hi, hz0, hz1, hz2⟩ := info_parts info_ellL
                  clear x1 bA HP HG HZ ex
                  go_wp2_with (first | rw [HWA.out] | (at_builtin; refine wpList_append_own _ rfl _ _ 61 rfl N4 48 i0 (.slice none 0 0) 1 24 Try.underlying61 hi hz0 hz1 hz2 rfl (by decide) gs0 K gl rfl GA.out ⟨wr.heap.size, 0, none⟩ 1 1 [.slice px nx cx] rfl rfl CA.out (fun u hu => by simp at hu; subst hu; rfl) (by unfold maxLen; omega) (by omega) ZA.out ?_) | fail)
                  intro v1 w1 ho hg _
                  have PN : Hid (P4 B w w1 (.slice (some ⟨b, off, none⟩) us.length c) us ns (K + 1) (gl ++ [.slice px nx cx])) := hid (PA.out.grown hg (fun b' e => by obtain ⟨_, q2, cs, q3⟩ := own_atL GA.out e; exact ⟨q2, cs, q3⟩) hBN.out (Nat.le_trans hBN.out ZA.out) HNv.out)
                  have GN : Hid (w1.ownsRow N4 48 1 v1 (K + 1) (gl ++ [.slice px nx cx])) := hid ho
                  have ZN : Hid (N4 ≤ w1.heap.size) := hid (Nat.le_trans ZA.out hg.size)
                  clear ho hg
                  go_wp2
                  exact ⟨⟨K + 1, _, hlt, by go_num, PN, GN, ZN⟩, by simp [intOf]; omega⟩
            · obtain rfl : K = us.length := by omega
              obtain ⟨pq, cq, eq⟩ := own_slcL HG.out
              rw [eq] at HG ⊢
              have hk4 : ¬ ((us.length : Int) < (us.length : Int)) := by omega
              obtain ⟨Wf, HWf⟩ : ∃ W : World, Hid (wr = W) := ⟨_, hid rfl⟩
              rw [HWf.out] at HP HG HZ ⊢
              have LF : Hid (B ≤ Wf.heap.size) := hid (Nat.le_trans hBN.out HZ.out)
              clear eq HWf hlt hK HZ
              go_wp2
              go_loopw [12] (fun k wz => ∃ K : Nat, K ≤ us.length ∧ k = .int .i64 (K : Int) ∧ Hid (Below Wf.heap.size Wf wz)) (fun k _ => us.length - (intOf k).toNat)
              case atStart => exact ⟨0, Nat.zero_le _, rfl, hid (Below.refl _ _)⟩
              case round =>
                obtain ⟨K, hK, rfl, HB⟩ := hrel
                by_cases hlt : K < us.length
                · obtain ⟨b, off, rfl, hbw⟩ := A.out (by omega)
                  obtain ⟨nk, HNK⟩ : ∃ x, Hid (ns.getD K 0 = x) := ⟨_, hid rfl⟩
                  have hnk : nk ≤ 1000000000 := by rw [← HNK.out, HNS.out K]; exact HX.out K
                  obtain ⟨ys, y1, y2⟩ := HP.out.row K hlt
                  obtain ⟨zs, z1, z2⟩ := HP.out.big K hlt
                  rw [HNK.out] at y1 y2 z1 z2
                  obtain ⟨pk, ck, eu⟩ := own_slcL y1
                  obtain ⟨g1, cap1, eg, _, hn1, hm1, hcc1⟩ := ownsRow_cells z1 (by omega)
                  have hlz : zs.length = nk + 70 := by have := z1.1; omega
                  have hly : ys.length = nk := by have := y1.1; omega
                  obtain ⟨gg, capg, egg, _, hng, hmg, hccg⟩ := ownsRow_cells HG.out (by omega)
                  simp only [Value.slice.injEq, true_and] at egg
                  obtain ⟨rfl, rfl⟩ := egg
                  have c1 := HP.out.hv.at rfl hlt
                  rw [eu] at c1
                  have c2 := hccg K (gl.getD K undef) (by have := HP.out.len; simp [List.getD, List.getElem?_eq_getElem (show K < gl.length by omega)])
                  rw [eg, Nat.zero_add] at c2
                  have CI : Hid (∀ W, Below Wf.heap.size Wf W → W.cell? ⟨b, off + K, none⟩ = some (.slice pk nk ck) ∧ W.cell? ⟨gg, K, none⟩ = some (.slice (some ⟨g1, 0, none⟩) (nk + 70) cap1)) := hid (fun W hW => ⟨(hW.cell (World.block_lt_of_cell? Wf _ c1)).trans c1, (hW.cell (World.block_lt_of_cell? Wf _ c2)).trans c2⟩)
                  have CG : Hid (∀ j, j < nk + 70 → ∃ b1, Mkd Wf (.slice (some ⟨b1, 0, none⟩) 3 3) K j ∧ Wf.cell? ⟨g1, j, none⟩ = some (.slice (some ⟨b1, 0, none⟩) 3 3)) := hid (fun j hj => by
                    obtain ⟨b1, e1, e2⟩ := z2 j hj hj
                    have := hcc1 j (zs.getD j undef) (by simp [List.getD, List.getElem?_eq_getElem (show j < zs.length by omega)])
                    rw [Nat.zero_add, e1] at this
                    exact ⟨b1, ⟨b1, rfl, e2⟩, this⟩)
                  have CU : Hid (∀ j, j < nk → ∃ g2 b2, pk = some ⟨g2, 0, none⟩ ∧ nk ≤ ck ∧ Mkd Wf (.slice (some ⟨b2, 0, none⟩) 3 3) K j ∧ Wf.cell? ⟨g2, j, none⟩ = some (.slice (some ⟨b2, 0, none⟩) 3 3)) := hid (fun j hj => by
                    rw [eu] at y1
                    obtain ⟨g2, cap2, e3, _, hn2, hm2, hcc2⟩ := ownsRow_cells y1 (by omega)
                    simp only [Value.slice.injEq, true_and] at e3
                    obtain ⟨b1, e1, e2⟩ := y2 j hj hj
                    have := hcc2 j (ys.getD j undef) (by simp [List.getD, List.getElem?_eq_getElem (show j < ys.length by omega)])
                    rw [Nat.zero_add, e1] at this
                    exact ⟨g2, b1, e3.1, by omega, ⟨b1, rfl, e2⟩, this⟩)
                  obtain ⟨d1, d2⟩ := CI.out wr HB.out
                  have hk5 : (K : Int) < (us.length : Int) := by omega
                  clear c1 c2 y1 y2 z1 z2 hcc1 hccg eu eg
                  go_wp2
                  go_loopw [13] (fun i wz => ∃ I : Nat, I ≤ nk + 70 ∧ i = .int .i64 (I : Int) ∧ Hid (Below Wf.heap.size Wf wz)) (fun i _ => nk + 70 - (intOf i).toNat)
                  case atStart => exact ⟨0, Nat.zero_le _, rfl, HB⟩
                  case round =>
                    clear HB d1 d2
                    obtain ⟨I, hI, rfl, HB⟩ := hrel
                    obtain ⟨d1, d2⟩ := CI.out wr HB.out
                    by_cases hli : I < nk + 70
                    · obtain ⟨b1, mk1, e1⟩ := CG.out I hli
                      obtain ⟨WL, HWL⟩ : ∃ W : World, Hid (wr.alloc (.cells #[.int .u8 ((K : Int) % 256), .int .u8 ((I : Int) % 256), .int .u8 ((I : Int) / 256 % 256)] 5) = W) := ⟨_, hid rfl⟩
                      have bL : Below wr.heap.size wr WL := by rw [← HWL.out]; exact (Below.refl _ _).alloc (Nat.le_refl _) _
                      have bF : Below Wf.heap.size Wf WL := HB.out.trans (bL.mono HB.out.size)
                      have HBF := hid bF
                      have mkL : Mkd WL (.slice (some ⟨wr.heap.size, 0, none⟩) 3 3) K I := ⟨_, rfl, by rw [← HWL.out]; exact heap_alloc_new _ _⟩
                      have CS1 : Hid (Calls Try.prog 29 #[.slice (some ⟨b1, 0, none⟩) 3 3, .slice (some ⟨wr.heap.size, 0, none⟩) 3 3] WL fun e w' => e = .returned (.bool true) ∧ Dr WL w') := hid ((sameBytes_any WL _ _ (mkLs K I) (mkLs K I) (mk1.keep (KT.below bF)).hb mkL.hb).mono fun e w' ⟨q1, q2⟩ => ⟨by rw [q1, decide_eq_true rfl], q2⟩)
                      obtain ⟨f1, f2⟩ := CI.out WL bF
                      have f3 := (bF.cell (World.block_lt_of_cell? Wf _ e1)).trans e1
                      have wk := u8w (K : Int)
                      have wi := u8w (I : Int)
                      have wq := u8w ((I : Int) / 256)
                      have qq := quo256 I
                      have w8 : IntKind.i64.wrap ((I : Int) / 256) = (I : Int) / 256 := by rw [IntKind.wrap_i64]; omega
                      have w9 : IntKind.i64.wrap ((I : Int) + 1) = ((I + 1 : Nat) : Int) := by rw [IntKind.wrap_i64]; omega
                      have hi1 : (I : Int) < (nk : Int) + 70 := by omega
                      by_cases hin : I < nk
                      · obtain ⟨g2, b2, rfl, hck, mk2, e2⟩ := CU.out I hin
                        have hi2 : (I : Int) < (nk : Int) := by omega
                        have CS2 : Hid (∀ w', Dr WL w' → Calls Try.prog 29 #[.slice (some ⟨b2, 0, none⟩) 3 3, .slice (some ⟨wr.heap.size, 0, none⟩) 3 3] w' fun e w2 => e = .returned (.bool true) ∧ Dr w' w2) := hid (fun w' hd => (sameBytes_any w' _ _ (mkLs K I) (mkLs K I) ((mk2.keep (KT.below bF)).hb.dr hd) (mkL.hb.dr hd)).mono fun e w' ⟨q1, q2⟩ => ⟨by rw [q1, decide_eq_true rfl], q2⟩)
                        have f4 := (bF.cell (World.block_lt_of_cell? Wf _ e2)).trans e2
                        clear mk1 mk2 mkL e1 e2 bL bF
                        go_wp2_with (first | rw [HWL.out] | fail)
                        refine CS1.out.mono ?_
                        rintro e U1 ⟨rfl, hd1⟩
                        have h1 := (hd1.cell ⟨b, off + K, none⟩).trans f1
                        have h2 := (hd1.cell ⟨g2, I, none⟩).trans f4
                        go_wp2_with fail
                        refine (CS2.out _ hd1).mono ?_
                        rintro e U2 ⟨rfl, hd2⟩
                        have HB2 : Hid (Below Wf.heap.size Wf U2) := hid (HBF.out.trans ((hd1.below _).trans (hd2.below _)))
                        clear h1 h2 hd1 hd2
                        go_wp2
                        exact ⟨⟨I + 1, hli, by go_num, HB2⟩, by simp [intOf]; omega⟩
                      · have hi2 : ¬ ((I : Int) < (nk : Int)) := by omega
                        clear mk1 mkL e1 bL bF
                        go_wp2_with (first | rw [HWL.out] | fail)
                        refine CS1.out.mono ?_
                        rintro e U1 ⟨rfl, hd1⟩
                        have h1 := (hd1.cell ⟨b, off + K, none⟩).trans f1
                        have HB2 : Hid (Below Wf.heap.size Wf U1) := hid (HBF.out.trans (hd1.below _))
                        clear hd1
                        go_wp2
                        exact ⟨⟨I + 1, hli, by go_num, HB2⟩, by simp [intOf]; omega⟩
                    · have hi1 : ¬ ((I : Int) < (nk : Int) + 70) := by omega
                      have w9 : IntKind.i64.wrap ((K : Int) + 1) = ((K + 1 : Nat) : Int) := by rw [IntKind.wrap_i64]; omega
                      go_wp2
                      exact ⟨⟨K + 1, hlt, by go_num, HB⟩, by simp [intOf]; omega⟩
                · obtain rfl : K = us.length := by omega
                  have FIN : Below B w wr := HP.out.bel.trans (HB.out.mono LF.out)
                  have hk5 : ¬ ((us.length : Int) < (us.length : Int)) := by omega
                  go_wp2
                  go_ret
                  exact ⟨rfl, FIN⟩
end Go.Proofs.Ytafdklelfcccbaa
namespace Go.Proofs.Ytafdklelfcccbaa
open Go Go.RowKit
theorem PWD.hl {B : Nat} {w : World} {v : Value} {ls : List (List Int)} (h : PWD B w v ls) : HL w v ls := by
  obtain ⟨xs, h1, h2, h3⟩ := h
  have h4 : PW B w v ls := ⟨xs, h1, fun j hj => ⟨h2.2.1 j (by rw [h2.1]; exact hj), h3 j hj⟩⟩
  exact h4.hl
theorem own_lowL {W : World} {B B' : Nat} {t : TypeId} {v : Value} {n : Nat} {xs : List Value} (ho : W.ownsRow B t 1 v n xs) (hB : B' ≤ B) : W.ownsRow B' t 1 v n xs := ⟨ho.1, ho.2.elim .inl fun ⟨gg, cap, cur, z1, z2, z3⟩ => .inr ⟨gg, cap, cur, z1, Nat.le_trans hB z2, z3⟩⟩
structure PX (B : Nat) (w : World) (v : Value) (xs : List Value) (ls : List (List Int)) : Prop where
  row : w.ownsRow B TE 1 v ls.length xs
  apt : Apt B w xs ls
  byt : ∀ j, j < ls.length → BytI (ls.getD j [])
theorem PX.hl {B : Nat} {w : World} {v : Value} {xs : List Value} {ls : List (List Int)} (h : PX B w v xs ls) : HL w v ls := PWD.hl ⟨xs, h.row, h.apt, h.byt⟩
theorem PX.keep {B : Nat} {w w' : World} {v : Value} {xs : List Value} {ls : List (List Int)} (h : PX B w v xs ls) (hk : ∀ b, B ≤ b → b < w.heap.size → w'.heap[b]? = w.heap[b]?) : PX B w' v xs ls :=
  ⟨own_ofL h.row (fun b e => hk b (own_atL h.row e).2.1 (own_atL h.row e).1), ⟨h.apt.1, fun j hj => own_ofL (h.apt.2.1 j hj) (fun b e => hk b (own_atL (h.apt.2.1 j hj) e).2.1 (own_atL (h.apt.2.1 j hj) e).1), h.apt.2.2⟩, h.byt⟩
theorem PX.below {B : Nat} {w w' : World} {v : Value} {xs : List Value} {ls : List (List Int)} (h : PX B w v xs ls) (hb : Below w.heap.size w w') : PX B w' v xs ls := h.keep fun b _ q => hb.block b q
theorem PX.low {B B' : Nat} {w : World} {v : Value} {xs : List Value} {ls : List (List Int)} (h : PX B w v xs ls) (hB : B' ≤ B) : PX B' w v xs ls :=
  ⟨own_lowL h.row hB, ⟨h.apt.1, fun j hj => own_lowL (h.apt.2.1 j hj) hB, h.apt.2.2⟩, h.byt⟩
theorem PX.lies {B : Nat} {w : World} {v : Value} {xs : List Value} {ls : List (List Int)} (h : PX B w v xs ls) : (∀ b, v.ownBlock = some b → B ≤ b ∧ b < w.heap.size) ∧ ∀ j, j < xs.length → ∀ b, (xs.getD j undef).ownBlock = some b → B ≤ b ∧ b < w.heap.size :=
  ⟨fun b e => ⟨(own_atL h.row e).2.1, (own_atL h.row e).1⟩, fun j hj b e => ⟨(own_atL (h.apt.2.1 j hj) e).2.1, (own_atL (h.apt.2.1 j hj) e).1⟩⟩
theorem apt_app {B : Nat} {w : World} {us vs : List Value} {ls ms : List (List Int)} (h : Apt B w us ls) (g : Apt B w vs ms) (hd : ∀ i j b, i < us.length → j < vs.length → (us.getD i undef).ownBlock = some b → (vs.getD j undef).ownBlock ≠ some b) : Apt B w (us ++ vs) (ls ++ ms) := by
  refine ⟨by simp [h.1, g.1], fun k hk => ?_, fun i j hi hj hne => ?_⟩
  · rw [getD_app, getD_app, ← h.1]
    split
    · rename_i q; exact h.2.1 k q
    · refine g.2.1 _ ?_
      rw [List.length_append] at hk
      omega
  · rw [List.length_append] at hi hj
    rw [getD_app, getD_app]
    split <;> split
    · rename_i q1 q2; exact h.2.2 i j q1 q2 hne
    · rename_i q1 q2
      cases e : (us.getD i undef).ownBlock with
      | none => exact .inl rfl
      | some b => exact .inr fun x => hd i _ b q1 (by omega) e x.symm
    · rename_i q1 q2
      cases e : (vs.getD (i - us.length) undef).ownBlock with
      | none => exact .inl rfl
      | some b => exact .inr fun x => hd j (i - us.length) b q2 (by omega) x.symm e
    · exact g.2.2 _ _ (by omega) (by omega) (by omega)
theorem bkL_len (l : List Int) (k : Int) : (bkL l k).length ≤ 255 := by
  unfold bkL
  split
  · rw [blL_length]; omega
  · simp
theorem bkL_el (l : List Int) (k : Int) (j : Nat) : ((bkL l k).getD j []).length ≤ l.length := by
  unfold bkL
  split
  · rename_i h
    unfold blL
    by_cases hj : j < k.toNat
    · have e : ((List.range k.toNat).map (pcP (padL l (k.toNat * blU l k.toNat)) (blU l k.toNat))).getD j [] = pcP (padL l (k.toNat * blU l k.toNat)) (blU l k.toNat) j := by simp [List.getD, hj]
      rw [e]
      have h1 : (pcP (padL l (k.toNat * blU l k.toNat)) (blU l k.toNat) j).length ≤ blU l k.toNat := by unfold pcP; simp; omega
      have h2 : blU l k.toNat ≤ l.length := by
        unfold blU pcN
        have := h.2.1
        have : (l.length - 1) / k.toNat ≤ l.length - 1 := Nat.div_le_self _ _
        omega
      omega
    · simp [List.getD, hj]
  · simp
theorem slice_hC (W : World) (b n c hi : Nat) (h1 : hi ≤ c) (h2 : 0 < c) : (Instr.slice 22 (.slice (some ⟨b, 0, none⟩) n c) none (some (.int .i64 (hi : Int))) none).run Try.prog W = .ok (.slice (some ⟨b, 0, none⟩) hi c) W := by
  have elm : Try.prog.elem 22 = 5 := by kernel_rfl
  have h := run_slice_h (P := Try.prog) W 22 (some ⟨b, 0, none⟩) n c (by rw [elm]; exact Try.underlying22) .i64 (hi : Int) (by omega) (by omega)
  rw [h, elm, size_u8, Result.andThen_ok, Int.toNat_natCast]
  unfold sliced
  rw [if_neg (by omega)]
  simp [Go.WideShapes.add_plain]
theorem wpList_litW {P : Program} {ops : Array Oper} {rest : List Oper} {o : Oper} {a : Act} {w w' : World} {Q : Exit → Act → World → Prop} (hw : Region.wanted o (yielded ops a.tmps) = true) (t : TypeId) (len : Nat) (parts : Array (Nat × Operand)) (ho : o.op = .buildSlice t len parts) (ps : Array (Nat × Value)) (hps : (parts.map fun (i, x) => (i, a.eval x)) = ps) (v : Value)
    (hr : (Instr.buildSlice t len ps).run P w = .ok v w') (h : wpList P ops Q rest (a.put o.dst v) w') : wpList P ops Q (o :: rest) a w := by
  refine wpList_step fun K hK => ?_
  simp only [hw, if_true]
  unfold Oper.wp execOp
  simp only [ho, Sem.run_bind, hps, hr, Result.andThen_ok]
  exact hK _ _ h
set_option maxRecDepth 100000 in
theorem run_lit33 (w : World) (a b c : Option Addr) (n m k i j l : Nat) : (Instr.buildSlice 61 3 #[(0, .slice a n i), (1, .slice b m j), (2, .slice c k l)]).run Try.prog w = .ok (.slice (some ⟨w.heap.size, 0, none⟩) 3 3) (w.alloc (.cells #[.slice a n i, .slice b m j, .slice c k l] 48)) := by kernel_rfl
set_option maxRecDepth 100000 in
set_option maxHeartbeats 32000000 in
theorem cblocks_walk (w : World) (v : Value) (l : List Int) (k : Int) (hv : HB w v l) (hl : l.length ≤ 140737488351232) :
    Calls Try.prog 8 #[v, .int .i64 k] w fun r w' => r = .returned (.bool true) ∧ Below w.heap.size w w' := by
  have HA := hid hv
  obtain ⟨p, cc, ea, _, hcm⟩ := hv.open
  clear hv
  subst ea
  unfold maxLen at hcm
  obtain ⟨L, HLL⟩ : ∃ L, Hid (bkL l k = L) := ⟨_, hid rfl⟩
  obtain ⟨E, HE⟩ : ∃ E, Hid (bkE l k = E) := ⟨_, hid rfl⟩
  have HLn : Hid (L.length ≤ 255) := by rw [← HLL.out]; exact hid (bkL_len l k)
  have HLe : Hid (∀ j, (L.getD j []).length ≤ l.length) := by rw [← HLL.out]; exact hid (bkL_el l k)
  have CB : Hid (∀ W u, HB W u l → Calls Try.prog 34 #[u, .int .i64 k] W fun e w' => ∃ v' xs, e = .returned (.tuple #[v', .int .i64 E]) ∧ PX W.heap.size w' v' xs L ∧ Below W.heap.size W w') := hid (fun W u hu => (blocks_any W u l k hu).mono fun e w' ⟨v', q1, ⟨xs, q2, q3, q4⟩, q5⟩ => by
    rw [HLL.out] at q2 q3 q4
    rw [HE.out] at q1
    exact ⟨v', xs, q1, ⟨q2, q3, q4⟩, q5⟩)
  have CL := hid (lent_any w _ l HA.out hl)
  go_enter Try.func8, Try.ntmps8
  go_wp2_with fail
  refine CL.out.mono ?_
  rintro e w1 ⟨vx, rfl, hox, hB1⟩
  obtain ⟨gx, cx, ex, hgx, hgx1, hcx, hcx2, hx0, hfx⟩ := lent_part hox HA.out.2
  subst ex
  have OX := hid hox
  have B1 := hid hB1
  have hsl := fun W => slice_hC W gx (l.length + 70) cx l.length (by omega) (by omega)
  have C2 := hid (CB.out w1 _ hx0)
  clear hox hB1 CL
  go_wp2_with fail
  refine C2.out.mono ?_
  rintro e w2 ⟨x, xs, rfl, px, hb2⟩
  obtain ⟨ax, bx, ex⟩ := own_slcL px.row
  subst ex
  have C3 := hid (CB.out w2 _ (hx0.below hb2))
  have PX2 := hid px
  go_wp2_with fail
  refine C3.out.mono ?_
  rintro e w3 ⟨y, ys, rfl, py, hb3⟩
  obtain ⟨ay, by', ey⟩ := own_slcL py.row
  subst ey
  have b13 : Below w1.heap.size w1 w3 := hb2.trans (hb3.mono hb2.size)
  have C4 := hid (kept_any w3 _ _ (lent l) l (hfx.below b13) (HA.out.below (B1.out.trans (b13.mono B1.out.size))) hl)
  rw [decide_eq_true rfl] at C4
  have PX3 := hid (px.below hb3)
  have PY3 := hid py
  clear C2 C3
  go_wp2_with fail
  refine C4.out.mono ?_
  rintro e w4 ⟨rfl, hb4⟩
  have b14 : Below w1.heap.size w1 w4 := b13.trans (hb4.mono b13.size)
  have OX4 := own_ofL OX.out (w' := w4) (fun b e => b14.block b (own_atL OX.out e).1)
  have C5 := hid (over_byt w4 _ _ (lent l) OX4 (lent_byt HA.out.2) (by rw [lent_length]; omega))
  have PX4 := hid (PX3.out.below hb4)
  have PY4 := hid (PY3.out.below hb4)
  go_wp2_with fail
  refine C5.out.mono ?_
  rintro e w5 ⟨rfl, ⟨l', hl', hby', ho5⟩, hg5⟩
  have hg5' : w4.grownBy w5 (some gx) := hg5
  have Bw4 : Below w.heap.size w w4 := B1.out.trans (b14.mono B1.out.size)
  have Bw5 : Below w.heap.size w w5 := Bw4.grown hg5' Bw4.size (fun b e => by cases e; exact hgx)
  have keep5 : ∀ b, w1.heap.size ≤ b → b < w4.heap.size → w5.heap[b]? = w4.heap[b]? := fun b q1 q2 => hg5'.block b q2 (fun e => by cases e; omega)
  have px5 := PX4.out.keep keep5
  have py5 := PY4.out.keep (fun b q1 q2 => keep5 b (by have := hb2.size; omega) q2)
  have h5 : HB w5 (.slice (some ⟨gx, 0, none⟩) l.length cx) (l'.take l.length) := own_pre (by rw [hl']; exact ho5) hby' l.length (by rw [hl', lent_length]; omega) (by omega)
  obtain ⟨l2, HL2⟩ : ∃ x, Hid (l'.take l.length = x) := ⟨_, hid rfl⟩
  rw [HL2.out] at h5
  have hl2 : l2.length = l.length := by rw [← HL2.out]; simp; rw [hl', lent_length]; omega
  have CR : Hid (∀ W, Below w.heap.size w W → Calls Try.prog 35 #[.slice p l.length cc, .int .i64 k] W fun e w' => ∃ v', e = .returned (.tuple #[v', .int .i64 E]) ∧ HL w' v' L ∧ Below W.heap.size W w') := hid (fun W hW => by
    have := rblocks_any W _ l k (HA.out.below hW)
    rw [HLL.out, HE.out] at this
    exact this)
  have PX5 := hid px5
  have PY5 := hid py5
  have H5 := hid h5
  have BW5 := hid Bw5
  have HSZ := hid (⟨hb2.size, hb3.size, hb4.size, hg5'.size⟩ : w1.heap.size ≤ w2.heap.size ∧ w2.heap.size ≤ w3.heap.size ∧ w3.heap.size ≤ w4.heap.size ∧ w4.heap.size ≤ w5.heap.size)
  have LX := hid (PX2.out.lies)
  have LY := hid (PY3.out.lies)
  have G1 : Hid (w.heap.size ≤ w1.heap.size) := hid B1.out.size
  clear C4 C5 px5 py5 h5 Bw4 Bw5 keep5 hg5 hg5' ho5 hby' b13 b14 OX4 OX px py hb2 hb3 hb4 hx0 hfx PX2 PX3 PX4 PY3 PY4
  go_wp2_with fail
  refine (CR.out _ BW5.out).mono ?_
  rintro e w6 ⟨vw, rfl, hw6, hb6⟩
  obtain ⟨aw, bw, ew, _, _⟩ := hw6.open
  subst ew
  have C7 : Hid (Calls Try.prog 36 #[.slice ax L.length bx, .slice aw L.length bw] w6 fun e w' => e = .returned (.bool true) ∧ Dr w6 w') := hid ((sameLists_any w6 _ _ L L (PX5.out.below hb6).hl hw6).mono fun e w' ⟨q1, q2⟩ => ⟨by rw [q1, decide_eq_true rfl], q2⟩)
  have C8 : Hid (∀ W, Below w6.heap.size w6 W → Calls Try.prog 36 #[.slice ay L.length by', .slice aw L.length bw] W fun e w' => e = .returned (.bool true) ∧ Dr W w') := hid (fun W hW => (sameLists_any W _ _ L L ((PY5.out.below hb6).below hW).hl (hw6.below hW)).mono fun e w' ⟨q1, q2⟩ => ⟨by rw [q1, decide_eq_true rfl], q2⟩)
  have CX : Hid (∀ W, Below w6.heap.size w6 W → Calls Try.prog 36 #[.slice ax L.length bx, .slice aw L.length bw] W fun e w' => e = .returned (.bool true) ∧ Dr W w') := hid (fun W hW => (sameLists_any W _ _ L L ((PX5.out.below hb6).below hW).hl (hw6.below hW)).mono fun e w' ⟨q1, q2⟩ => ⟨by rw [q1, decide_eq_true rfl], q2⟩)
  have B56 := hid hb6
  clear hw6 hb6
  go_wp2_with fail
  refine C7.out.mono ?_
  rintro e w7 ⟨rfl, hd7⟩
  have b7 : Below w6.heap.size w6 w7 := hd7.below _
  go_wp2_with fail
  refine (C8.out _ b7).mono ?_
  rintro e w8 ⟨rfl, hd8⟩
  have b8 : Below w6.heap.size w6 w8 := b7.trans (hd8.below _)
  have b58 : Below w5.heap.size w5 w8 := B56.out.trans (b8.mono B56.out.size)
  have C9 : Hid (Calls Try.prog 34 #[.slice (some ⟨gx, 0, none⟩) l.length cx, .int .i64 k] w8 fun e w' => ∃ v' zs, e = .returned (.tuple #[v', .int .i64 (bkE l2 k)]) ∧ PX w8.heap.size w' v' zs (bkL l2 k) ∧ Below w8.heap.size w8 w') := hid ((blocks_any w8 _ l2 k (H5.out.below b58)).mono fun e w' ⟨v', q1, ⟨zs, q2, q3, q4⟩, q5⟩ => ⟨v', zs, q1, ⟨q2, q3, q4⟩, q5⟩)
  have C10 : Hid (∀ W, Below w5.heap.size w5 W → Calls Try.prog 35 #[.slice (some ⟨gx, 0, none⟩) l.length cx, .int .i64 k] W fun e w' => ∃ v', e = .returned (.tuple #[v', .int .i64 (bkE l2 k)]) ∧ HL w' v' (bkL l2 k) ∧ Below W.heap.size W w') := hid (fun W hW => rblocks_any W _ l2 k (H5.out.below hW))
  have L2n := hid (bkL_len l2 k)
  have L2e : Hid (∀ j, ((bkL l2 k).getD j []).length ≤ l.length) := hid (fun j => by rw [← hl2]; exact bkL_el l2 k j)
  generalize bkL l2 k = L2 at C9 C10 L2n L2e
  generalize bkE l2 k = E2 at C9 C10
  have B8 := hid b8
  have B58 := hid b58
  clear hl2 hd7 hd8 b7 b8 b58 C7 C8
  go_wp2_with fail
  refine C9.out.mono ?_
  rintro e w9 ⟨z, zs, rfl, pz, hb9⟩
  obtain ⟨az, bz, ez⟩ := own_slcL pz.row
  subst ez
  have b59 : Below w5.heap.size w5 w9 := B58.out.trans (hb9.mono B58.out.size)
  go_wp2_with fail
  refine (C10.out _ b59).mono ?_
  rintro e w10 ⟨vo, rfl, ho10, hb10⟩
  obtain ⟨ao, bo, eo, _, _⟩ := ho10.open
  subst eo
  have C11 : Hid (Calls Try.prog 36 #[.slice az L2.length bz, .slice ao L2.length bo] w10 fun e w' => e = .returned (.bool true) ∧ Dr w10 w') := hid ((sameLists_any w10 _ _ L2 L2 (pz.below hb10).hl ho10).mono fun e w' ⟨q1, q2⟩ => ⟨by rw [q1, decide_eq_true rfl], q2⟩)
  go_wp2_with fail
  refine C11.out.mono ?_
  rintro e w11 ⟨rfl, hd11⟩
  have b6b : Below w6.heap.size w6 w11 := B8.out.trans ((hb9.trans ((hb10.trans (hd11.below _)).mono hb9.size)).mono B8.out.size)
  go_wp2_with fail
  refine (CX.out _ b6b).mono ?_
  rintro e w12 ⟨rfl, hd12⟩
  obtain ⟨WA, HWA⟩ : ∃ W : World, Hid (w12.alloc (.cells #[.slice ax L.length bx, .slice ay L.length by', .slice az L2.length bz] 48) = W) := ⟨_, hid rfl⟩
  have bA : Below w12.heap.size w12 WA := by rw [← HWA.out]; exact (Below.refl _ _).alloc (Nat.le_refl _) _
  have b912 : Below w9.heap.size w9 WA := hb10.trans (((hd11.below _).trans ((hd12.below _).trans (bA.mono (by have q1 := (hd11.below w10.heap.size).size; have q2 := (hd12.below w11.heap.size).size; omega)))).mono (Nat.le_refl _) |>.mono hb10.size)
  have b89 : Below w8.heap.size w8 WA := hb9.trans (b912.mono hb9.size)
  have b6A : Below w6.heap.size w6 WA := B8.out.trans (b89.mono B8.out.size)
  have b5A : Below w5.heap.size w5 WA := B56.out.trans (b6A.mono B56.out.size)
  have pxA := (PX5.out.below b5A)
  have pyA := (PY5.out.below b5A)
  have pzA := pz.below b912
  have sz := HSZ.out
  have s58 := B58.out.size
  have s89 := hb9.size
  have s9A := b912.size
  have lx := LX.out
  have ly := LY.out
  have lz := pz.lies
  have HVA : HVL WA (.slice (some ⟨w12.heap.size, 0, none⟩) 3 3) [.slice ax L.length bx, .slice ay L.length by', .slice az L2.length bz] := by
    have hblk : WA.heap[w12.heap.size]? = some (.cells #[.slice ax L.length bx, .slice ay L.length by', .slice az L2.length bz] 48 (0, 0)) := by rw [← HWA.out]; exact heap_alloc_new _ _
    refine ⟨_, 3, rfl, Nat.le_refl _, by unfold maxLen; omega, fun _ => ⟨w12.heap.size, 0, rfl, ⟨_, hblk⟩, fun j hj => ?_⟩⟩
    rw [cell_of_row _ _ _ _ _ _ hblk]
    match j, hj with
    | 0, _ => rfl
    | 1, _ => rfl
    | 2, _ => rfl
  have far : ∀ {a b : Nat} {u v : Value}, (∀ q, u.ownBlock = some q → q < a) → (∀ q, v.ownBlock = some q → a ≤ q) → (u.ownBlock = none ∨ u.ownBlock ≠ v.ownBlock) ∧ (v.ownBlock = none ∨ v.ownBlock ≠ u.ownBlock) := fun {a b u v} h1 h2 => by
    cases e1 : u.ownBlock with
    | none => cases e2 : v.ownBlock <;> simp
    | some q1 =>
      cases e2 : v.ownBlock with
      | none => simp
      | some q2 =>
        have := h1 q1 e1
        have := h2 q2 e2
        exact ⟨.inr (by simp; omega), .inr (by simp; omega)⟩
  have dxy := far (a := w2.heap.size) (b := 0) (fun q e => (lx.1 q e).2) (fun q e => (ly.1 q e).1)
  have dxz := far (a := w8.heap.size) (b := 0) (fun q e => Nat.lt_of_lt_of_le (lx.1 q e).2 (by omega)) (fun q e => (lz.1 q e).1)
  have dyz := far (a := w8.heap.size) (b := 0) (fun q e => Nat.lt_of_lt_of_le (ly.1 q e).2 (by omega)) (fun q e => (lz.1 q e).1)
  have hD : DisU [Value.slice ax L.length bx, .slice ay L.length by', .slice az L2.length bz] := fun i j hi hj hne => by
    match i, j, hi, hj with
    | 0, 0, _, _ => exact absurd rfl hne
    | 0, 1, _, _ => exact dxy.1
    | 0, 2, _, _ => exact dxz.1
    | 1, 0, _, _ => exact dxy.2
    | 1, 1, _, _ => exact absurd rfl hne
    | 1, 2, _, _ => exact dyz.1
    | 2, 0, _, _ => exact dxz.2
    | 2, 1, _, _ => exact dyz.2
    | 2, 2, _, _ => exact absurd rfl hne
  have pyB := pyA.low sz.1
  have pzB := pzA.low (B' := w1.heap.size) (by omega)
  have hApt : Apt w1.heap.size WA [xs, ys, zs].flatten (L ++ (L ++ L2)) := by
    have e : [xs, ys, zs].flatten = xs ++ (ys ++ zs) := by simp
    rw [e]
    refine apt_app pxA.apt (apt_app pyB.apt pzB.apt fun i j b hi hj e1 e2 => ?_) fun i j b hi hj e1 e2 => ?_
    · have q1 := (ly.2 i hi b e1).2
      have q2 := (lz.2 j hj b e2).1
      omega
    · have q1 := (lx.2 i hi b e1).2
      rw [getD_app] at e2
      split at e2
      · rename_i h
        have q2 := (ly.2 j h b e2).1
        omega
      · rw [List.length_append] at hj
        have q2 := (lz.2 _ (by omega) b e2).1
        omega
  have n1 : xs.length = L.length := pxA.apt.1
  have n2 : ys.length = L.length := pyA.apt.1
  have n3 : zs.length = L2.length := pzA.apt.1
  have l1 := HLn.out
  have l2' := L2n.out
  have CA := hid (apartLists_any w1.heap.size WA (.slice (some ⟨w12.heap.size, 0, none⟩) 3 3) [.slice ax L.length bx, .slice ay L.length by', .slice az L2.length bz] [xs, ys, zs] (L ++ (L ++ L2)) HVA rfl (fun j hj => by
      match j, hj with
      | 0, _ => show WA.ownsRow _ _ _ (.slice ax L.length bx) xs.length xs; rw [n1]; exact pxA.row
      | 1, _ => show WA.ownsRow _ _ _ (.slice ay L.length by') ys.length ys; rw [n2]; exact pyB.row
      | 2, _ => show WA.ownsRow _ _ _ (.slice az L2.length bz) zs.length zs; rw [n3]; exact pzB.row) hD hApt (by omega) (by simp) (fun j => by
      match j with
      | 0 => show xs.length ≤ _; omega
      | 1 => show ys.length ≤ _; omega
      | 2 => show zs.length ≤ _; omega
      | j + 3 => simp) (by simp; omega) (fun j => by
      rw [getD_app]
      split
      · have := HLe.out j; omega
      · rw [getD_app]
        split
        · have := HLe.out (j - L.length); omega
        · have := L2e.out (j - L.length - L.length); omega))
  have BWA : Hid (Below w.heap.size w WA) := hid (BW5.out.trans (b5A.mono BW5.out.size))
  clear HVA hD hApt far dxy dxz dyz pxA pyA pzA pyB pzB lx ly lz n1 n2 n3 l1 l2' sz s58 s89 s9A bA b912 b89 b6A b5A hd11 hd12 b6b hb9 hb10 pz ho10 b59
  go_wp2_with (first | (refine wpList_litW (by rfl) 61 3 _ rfl #[(0, .slice ax L.length bx), (1, .slice ay L.length by'), (2, .slice az L2.length bz)] (by go_simp) _ (run_lit33 _ _ _ _ _ _ _ _ _ _) ?_) | rw [HWA.out] | fail)
  refine CA.out.mono ?_
  rintro e w13 ⟨rfl, hb13⟩
  have B13 : Hid (Below w.heap.size w w13) := hid (BWA.out.trans (hb13.mono G1.out))
  go_wp2_with fail
  refine (awake_any w13).mono ?_
  rintro e w14 ⟨rfl, hb14⟩
  have FIN := B13.out.trans (hb14.mono B13.out.size)
  go_wp2_with fail
  go_ret
  exact ⟨rfl, FIN⟩
end Go.Proofs.Ytafdklelfcccbaa
