/- Of the road to tagCallsUptoCard_holds: AptL2, TcBk, TcAsk. -/
import Derived.Test.YtcpchhigiohlnaaDoorG13
import Derived.Test.YtcpchhigiohlnaaDoorG10
import Derived.Test.YtcpchhigiohlnaaDoorG12
set_option linter.unusedVariables false
set_option linter.unusedSimpArgs false
set_option maxRecDepth 100000
set_option maxHeartbeats 16000000
namespace Go.Proofs.YtcpchhigiohlnaaDoor
open Go.RowKit
theorem apartLists_any (B : Nat) (w : World) (v : Value) (us : List Value) (xss : List (List Value)) (ls : List (List Int)) (hv : HVL w v us) (hl : us.length = xss.length) (hr : ∀ k, k < us.length -> w.ownsRow B TE 1 (us.getD k undef) (xss.getD k []).length (xss.getD k [])) (hd : DisU us) (ha : Apt B w xss.flatten ls) (hB : B <= w.heap.size) (hn : us.length <= 1000000) (hx : ∀ k, (xss.getD k []).length <= 1000000000) (hf : xss.flatten.length <= 1000000000000) (hls : ∀ k, (ls.getD k []).length <= 140737488351232) :
  Calls Tryd.prog 8 #[v] w fun e w' => e = .returned (.bool true) /\ Below B w w' := by
 obtain ⟨p, c, e, hlc, hm, hcell⟩ := id hv
 unfold maxLen at hm
 subst e
 have A : Hid (0 < us.length -> ∃ b off, p = some ⟨b, off, none⟩ /\ b < w.heap.size) := hid (fun h0 => by
  obtain ⟨b, off, e, ⟨cs, hb⟩, _⟩ := hcell (by intro e; subst e; simp at h0)
  exact ⟨b, off, e, (Array.getElem?_eq_some_iff.1 hb).1⟩)
 have HV0 := hid hv
 have HR := hid hr
 have HA := hid ha
 have HD := hid hd
 have HX := hid hx
 have HLS := hid hls
 have HLX := hid hl
 obtain ⟨ns, HNS⟩ : ∃ ns : List Nat, Hid (∀ k, ns.getD k 0 = (xss.getD k []).length) := ⟨xss.map List.length, hid (fun k => by simp only [List.getD, List.getElem?_map]; cases xss[k]? <;> rfl)⟩
 clear hv hr ha hd hx hls hcell hl
 go_enter Tryd.func8, Tryd.ntmps8
 go_wp2
 go_loopw [3, 4] (fun va k wr => ∃ K : Nat, K <= us.length /\ k = .int .i64 (K : Int) /\ Hid (wr.ownsRow w.heap.size TE 1 va ((xss.take K).flatten).length ((xss.take K).flatten)) /\ Hid (Below w.heap.size w wr)) (fun _ k _ => us.length - (intOf k).toNat)
 case atStart => exact ⟨0, Nat.zero_le _, rfl, hid (World.ownsRow_nil _ _ _ _), hid (Below.refl _ _)⟩
 case round =>
  obtain ⟨K, hK, rfl, HO, HBr⟩ := hrel
  by_cases hlt : K < us.length
  ·obtain ⟨b, off, rfl, _⟩ := A.out (by omega)
   have hfl : Hid (((xss.take (K + 1)).flatten).length <= 1000000000000) := hid (by
    have e : xss.flatten = (xss.take (K + 1)).flatten ++ (xss.drop (K + 1)).flatten := by rw [<- List.flatten_append, List.take_append_drop]
    rw [e, List.length_append] at hf
    omega)
   have hrow := HR.out K hlt
   obtain ⟨pk, ck, eu⟩ := own_slcL hrow
   obtain ⟨xs, HXS⟩ : ∃ xs, Hid (xss.getD K [] = xs) := ⟨_, hid rfl⟩
   have hflat := flat_takeL xss K (by have := HLX.out; omega)
   rw [HXS.out] at eu hrow hflat
   have EU : Hid (∀ W, Below w.heap.size w W -> W.cell? ⟨b, off + K, none⟩ = some (.slice pk xs.length ck)) := hid (fun W hW => by
    have := (HV0.out.below hW).at rfl hlt
    rw [eu] at this
    exact this)
   rw [eu] at hrow
   have HROW := hid hrow
   obtain ⟨pre, HPRE⟩ : ∃ x, Hid ((xss.take K).flatten = x) := ⟨_, hid rfl⟩
   rw [HPRE.out] at HO hflat
   rw [hflat] at hfl
   rw [List.length_append] at hfl
   have hk1 : (K : Int) < (us.length : Int) := by omega
   have hmem : Hid (∀ j, j < xs.length -> ∃ px cx nx, xs.getD j undef = .slice px nx cx) := hid (fun j hj => by
    have hidx : ∃ q, q < xss.flatten.length /\ xss.flatten.getD q undef = xs.getD j undef := by
     have e : xss.flatten = (pre ++ xs) ++ (xss.drop (K + 1)).flatten := by rw [<- hflat, <- List.flatten_append, List.take_append_drop]
     refine ⟨pre.length + j, by rw [e]; simp; omega, ?_⟩
     rw [e, getD_app, if_pos (by simp; omega), getD_app, if_neg (by omega), Nat.add_sub_cancel_left]
    obtain ⟨q, hq, eq⟩ := hidx
    obtain ⟨p', c', e'⟩ := own_slcL (HA.out.2.1 q hq)
    rw [eq] at e'
    exact ⟨p', c', _, e'⟩)
   clear hrow eu
   go_wp2
   go_loopw [3, 5] (fun va i wz => ∃ I : Nat, I <= xs.length /\ i = .int .i64 (I : Int) /\ Hid (wz.ownsRow w.heap.size TE 1 va ((pre ++ xs.take I).length) (pre ++ xs.take I)) /\ Hid (Below w.heap.size w wz)) (fun _ i _ => xs.length - (intOf i).toNat)
   case atStart => exact ⟨0, Nat.zero_le _, rfl, hid (by rw [List.take_zero, List.append_nil]; exact HO.out), HBr⟩
   case round =>
    clear HO HBr
    obtain ⟨I, hI, rfl, HO, HBr⟩ := hrel
    have hc1 := EU.out wr HBr.out
    by_cases hli : I < xs.length
    ·obtain ⟨px, cx, nx, ex⟩ := hmem.out I hli
     have hrw := own_ofL HROW.out (w' := wr) (fun b' e => HBr.out.block b' (own_atL HROW.out e).1)
     obtain ⟨g, cap, e2, _, hnc, hcm, hcc⟩ := ownsRow_cells hrw (by omega)
     simp only [Value.slice.injEq, true_and] at e2
     obtain ⟨rfl, rfl⟩ := e2
     have hc2 : wr.cell? ⟨g, I, none⟩ = some (.slice px nx cx) := by
      have := hcc I (xs.getD I undef) (by simp [List.getD, List.getElem?_eq_getElem hli])
      rw [Nat.zero_add, ex] at this
      exact this
     obtain ⟨WL, HWL⟩ : ∃ W : World, Hid (wr.alloc (.cells #[.slice px nx cx] TE) = W) := ⟨_, hid rfl⟩
     have BL : Below wr.heap.size wr WL := by rw [<- HWL.out]; exact (Below.refl _ _).alloc (Nat.le_refl _) _
     have OL := hid (own_ofL HO.out (w' := WL) (fun b' e => BL.block b' (own_atL HO.out e).1))
     have CL : Hid (WL.cell? ⟨wr.heap.size, 0, none⟩ = some (.slice px nx cx)) := hid (by rw [cell_of_row _ _ _ _ _ _ (show WL.heap[wr.heap.size]? = some (.cells #[.slice px nx cx] TE (0, 0)) by rw [<- HWL.out]; exact heap_alloc_new _ _)]; rfl)
     obtain ⟨pa, ca, ea⟩ := own_slcL OL.out
     obtain ⟨na, HNA⟩ : ∃ x, Hid ((pre ++ xs.take I).length = x) := ⟨_, hid rfl⟩
     have hna : na + 1 <= 5000000000000 := by rw [<- HNA.out]; have := hfl.out; simp; omega
     rw [HNA.out] at OL ea
     subst ea
     have hi1 : (I : Int) < (xs.length : Int) := by omega
     have hlow : Hid (w.heap.size <= WL.heap.size) := hid (Nat.le_trans HBr.out.size BL.size)
     clear hcc hrw ex
     go_wp2_with (first | rw [HWL.out] | (at_builtin; refine wpList_appL rfl _ _ rfl w.heap.size (.slice pa na ca) na _ rfl OL.out ⟨wr.heap.size, 0, none⟩ 1 _ rfl rfl CL.out hna hlow.out ?_) | fail)
     intro v1 w1 ho hg hw
     have HO2 : Hid (w1.ownsRow w.heap.size TE 1 v1 ((pre ++ xs.take (I + 1)).length) (pre ++ xs.take (I + 1))) := hid (by
      have e1 : pre ++ xs.take (I + 1) = (pre ++ xs.take I) ++ [.slice px nx cx] := by
       rw [List.append_assoc, List.take_succ_eq_append_getElem hli]
       have : xs[I] = .slice px nx cx := by
        obtain ⟨px', cx', nx', ex'⟩ := hmem.out I hli
        have h1 := ownsRow_cells (own_ofL HROW.out (w' := wr) (fun b' e => HBr.out.block b' (own_atL HROW.out e).1)) (by omega)
        obtain ⟨g', cap', e2, _, _, _, hcc⟩ := h1
        simp only [Value.slice.injEq, true_and, Option.some.injEq, Addr.mk.injEq, and_true] at e2
        have h2 := hcc I xs[I] (by rw [List.getElem?_eq_getElem hli])
        rw [Nat.zero_add, <- e2.1, hc2] at h2
        exact (Option.some.inj h2).symm
       rw [this]
      rw [e1, List.length_append, HNA.out, List.length_singleton]
      rw [<- List.append_assoc] at ho
      exact ho)
     have HB2 : Hid (Below w.heap.size w w1) := hid ((HBr.out.trans (BL.mono HBr.out.size)).grown hg hlow.out (fun b' e => (own_atL OL.out e).2.1))
     have w9 : IntKind.i64.wrap ((I : Int) + 1) = ((I + 1 : Nat) : Int) := by rw [IntKind.wrap_i64]; have := HX.out K; rw [HXS.out] at this; omega
     clear ho hg hw hc1 hc2 BL
     go_wp2
     exact ⟨⟨I + 1, hli, by go_num, HO2, HB2⟩, by simp [intOf]; omega⟩
    ·have hi1 : ¬ ((I : Int) < (xs.length : Int)) := by omega
     have w9 : IntKind.i64.wrap ((K : Int) + 1) = ((K + 1 : Nat) : Int) := by rw [IntKind.wrap_i64]; omega
     have HO2 : Hid (wr.ownsRow w.heap.size TE 1 u3 ((xss.take (K + 1)).flatten).length ((xss.take (K + 1)).flatten)) := hid (by rw [hflat]; have := HO.out; rwa [List.take_of_length_le (by omega)] at this)
     clear HO
     go_wp2
     exact ⟨⟨K + 1, hlt, by go_num, HO2, HBr⟩, by simp [intOf]; omega⟩
  ·obtain rfl : K = us.length := by omega
   have hall : xss.take us.length = xss := List.take_of_length_le (by have := HLX.out; omega)
   rw [hall] at HO
   have Apt1 : Hid (Apt B wr xss.flatten ls) := hid ⟨HA.out.1, fun k hk => own_ofL (HA.out.2.1 k hk) (fun b' e => HBr.out.block b' (own_atL (HA.out.2.1 k hk) e).1), HA.out.2.2⟩
   have HVa : HV wr u3 xss.flatten := by
    by_cases h0 : 0 < xss.flatten.length
    ·obtain ⟨g, cap, rfl, _, hnc, hcm, hcc⟩ := ownsRow_cells HO.out h0
     obtain ⟨_, _, cs, hh⟩ := own_atL HO.out (b := g) rfl
     exact ⟨_, cap, rfl, hnc, hcm, fun _ => ⟨g, 0, rfl, ⟨cs, (0, 0), hh⟩, fun k hk => hcc k _ (by simp [List.getD, List.getElem?_eq_getElem hk])⟩⟩
    ·have e0 : xss.flatten = [] := List.length_eq_zero_iff.1 (by omega)
     rw [e0] at HO ⊢
     rcases HO.out.2 with ⟨e, _⟩ | ⟨g, cap, cur, e, _, _, hnc, hcm, _⟩
     ·exact ⟨none, 0, e, Nat.le_refl _, Nat.zero_le _, fun h => absurd rfl h⟩
     ·exact ⟨_, cap, e, hnc, hcm, fun h => absurd rfl h⟩
   have AF := hid (apart_anyF B wr u3 xss.flatten ls HVa Apt1.out (Nat.le_trans hB HBr.out.size) (by omega) HLS.out)
   have hk1 : ¬ ((us.length : Int) < (us.length : Int)) := by omega
   clear HVa Apt1 hlt hK
   go_wp2_with fail
   refine AF.out.mono ?_
   rintro e W2 ⟨rfl, hbf⟩
   have PS : Hid (P3 B w W2 (.slice p us.length c) us ns 0 0) := hid (by
    refine ⟨(HV0.out.below HBr.out).keep (fun b cs q => hbf.typ b cs _ _ q (by decide)), fun k hk => ?_, (HBr.out.mono hB).trans hbf.bel⟩
    have q1 := HR.out k hk
    have q2 := own_ofL q1 (w' := wr) (fun b' e => HBr.out.block b' (own_atL q1 e).1)
    have q3 := own_ofL q2 (w' := W2) (fun b' e => by obtain ⟨_, _, cs, q⟩ := own_atL q2 e; exact hbf.typ b' cs _ _ q (by decide))
    rw [HNS.out k]
    exact ⟨_, q3, fun j hj _ => by simp [cntL] at hj⟩)
   have sB : Hid (B <= W2.heap.size) := hid (Nat.le_trans hB (Nat.le_trans HBr.out.size hbf.size))
   have sW : Hid (w.heap.size <= W2.heap.size) := hid (Nat.le_trans HBr.out.size hbf.size)
   clear AF hbf HO HBr
   go_wp2
   go_loopw [6] (fun k wr => ∃ K : Nat, K <= us.length /\ k = .int .i64 (K : Int) /\ Hid (P3 B w wr (.slice p us.length c) us ns K 0) /\ Hid (W2.heap.size <= wr.heap.size)) (fun k _ => us.length - (intOf k).toNat)
   case atStart => exact ⟨0, Nat.zero_le _, rfl, PS, hid (Nat.le_refl _)⟩
   case round =>
    clear PS
    obtain ⟨K, hK, rfl, HP, HZ⟩ := hrel
    by_cases hlt : K < us.length
    ·obtain ⟨b, off, rfl, hbw⟩ := A.out (by omega)
     obtain ⟨nk, HNK⟩ : ∃ x, Hid (ns.getD K 0 = x) := ⟨_, hid rfl⟩
     have hnk : nk <= 1000000000 := by rw [<- HNK.out, HNS.out K]; exact HX.out K
     obtain ⟨pk, ck, EU⟩ : ∃ pk ck, Hid (us.getD K undef = .slice pk nk ck) := by
      obtain ⟨xs, q1, _⟩ := HP.out.row K hlt
      obtain ⟨pk, ck, e⟩ := own_slcL q1
      rw [HNK.out] at e
      exact ⟨pk, ck, hid e⟩
     have hk2 : (K : Int) < (us.length : Int) := by omega
     have hc1 := HP.out.hv.at rfl hlt
     rw [EU.out] at hc1
     go_wp2
     go_loopw [7] (fun i wz => ∃ I : Nat, I <= nk /\ i = .int .i64 (I : Int) /\ Hid (P3 B w wz (.slice (some ⟨b, off, none⟩) us.length c) us ns K I) /\ Hid (W2.heap.size <= wz.heap.size)) (fun i _ => nk - (intOf i).toNat)
     case atStart => exact ⟨0, Nat.zero_le _, rfl, HP, HZ⟩
     case round =>
      clear HP HZ hc1
      obtain ⟨I, hI, rfl, HP, HZ⟩ := hrel
      have hc1 := HP.out.hv.at rfl hlt
      rw [EU.out] at hc1
      by_cases hli : I < nk
      ·obtain ⟨xs, q1, _⟩ := HP.out.row K hlt
       rw [HNK.out, EU.out] at q1
       obtain ⟨g, cap, e2, _, hnc, hcm, hcc⟩ := ownsRow_cells q1 (by omega)
       simp only [Value.slice.injEq, true_and] at e2
       obtain ⟨rfl, rfl⟩ := e2
       have hlx : xs.length = nk := by have := q1.1; omega
       obtain ⟨WL, HWL⟩ : ∃ W : World, Hid (wr.alloc (.cells #[.int .u8 ((K : Int) % 256), .int .u8 ((I : Int) % 256), .int .u8 ((I : Int) / 256 % 256)] 5) = W) := ⟨_, hid rfl⟩
       have BL : Below wr.heap.size wr WL := by rw [<- HWL.out]; exact (Below.refl _ _).alloc (Nat.le_refl _) _
       have q3 := own_ofL q1 (w' := WL) (fun b' e => BL.block b' (own_atL q1 e).1)
       have cg : WL.cell? ⟨g, I, none⟩ = some (xs.getD I undef) := by
        rw [q3.cellAt I (by omega)]
        simp [List.getD, List.getElem?_eq_getElem (show I < xs.length by omega)]
       have fg := q3.frozenAt I
       have ST : Hid (P3 B w (WL.setCell ⟨g, I, none⟩ (.slice (some ⟨wr.heap.size, 0, none⟩) 3 3)) (.slice (some ⟨b, off, none⟩) us.length c) us ns K (I + 1)) := by
        rw [<- HWL.out]
        exact hid (HP.out.step HD.out hlt (by rw [HNK.out]; exact hli) (by rw [EU.out, HNK.out]) (Nat.le_trans sB.out HZ.out))
       have HZ2 : Hid (W2.heap.size <= (WL.setCell ⟨g, I, none⟩ (.slice (some ⟨wr.heap.size, 0, none⟩) 3 3)).heap.size) := hid (by have := BL.size; have := HZ.out; simp [World.setCell]; omega)
       have wk := u8w K
       have wi := u8w I
       have wq := u8w ((I : Int) / 256)
       have qq := quo256 I
       have w9 : IntKind.i64.wrap ((I : Int) + 1) = ((I + 1 : Nat) : Int) := by rw [IntKind.wrap_i64]; omega
       have w8 : IntKind.i64.wrap ((I : Int) / 256) = (I : Int) / 256 := by rw [IntKind.wrap_i64]; omega
       have hi1 : (I : Int) < (nk : Int) := by omega
       clear q1 q3 hcc BL HP HZ
       go_wp2_with (first | rw [HWL.out] | fail)
       exact ⟨⟨I + 1, hli, by go_num, ST, HZ2⟩, by simp [intOf]; omega⟩
      ·have hi1 : ¬ ((I : Int) < (nk : Int)) := by omega
       have w9 : IntKind.i64.wrap ((K : Int) + 1) = ((K + 1 : Nat) : Int) := by rw [IntKind.wrap_i64]; omega
       have HN2 := hid (HP.out.next (by rw [HNK.out]; omega))
       clear HP
       go_wp2
       exact ⟨⟨K + 1, hlt, by go_num, HN2, HZ⟩, by simp [intOf]; omega⟩
    ·obtain rfl : K = us.length := by omega
     obtain ⟨N4, HN4⟩ : ∃ x, Hid (wr.heap.size = x) := ⟨_, hid rfl⟩
     have P40 := hid (P4.start HP.out)
     have hBN : Hid (B <= N4) := hid (by rw [<- HN4.out]; exact Nat.le_trans sB.out HZ.out)
     have HNv : Hid (∀ b off n c', Value.slice p us.length c = .slice (some ⟨b, off, none⟩) n c' -> 0 < us.length -> b < N4) := hid (fun b off n c' e h0 => by
      obtain ⟨b', off', e', hb'⟩ := A.out h0
      rw [e'] at e
      simp only [Value.slice.injEq, Option.some.injEq, Addr.mk.injEq, and_true] at e
      have q1 := HZ.out
      have q2 := sW.out
      have q3 := HN4.out
      omega)
     have Z40 : Hid (N4 <= wr.heap.size) := hid (by rw [HN4.out]; exact Nat.le_refl _)
     have hk3 : ¬ ((us.length : Int) < (us.length : Int)) := by omega
     clear HP HZ hlt hK HN4
     go_wp2
     go_loopw [8, 9] (fun gs k wz => ∃ (K : Nat) (gl : List Value), K <= us.length /\ k = .int .i64 (K : Int) /\ Hid (P4 B w wz (.slice p us.length c) us ns K gl) /\ Hid (wz.ownsRow N4 24 1 gs K gl) /\ Hid (N4 <= wz.heap.size)) (fun _ k _ => us.length - (intOf k).toNat)
     case atStart => exact ⟨0, [], Nat.zero_le _, rfl, P40, hid (World.ownsRow_nil _ _ _ _), Z40⟩
     case round =>
      clear P40 Z40
      obtain ⟨K, gl, hK, rfl, HP, HG, HZ⟩ := hrel
      by_cases hlt : K < us.length
      ·obtain ⟨b, off, rfl, hbw⟩ := A.out (by omega)
       obtain ⟨nk, HNK⟩ : ∃ x, Hid (ns.getD K 0 = x) := ⟨_, hid rfl⟩
       have hnk : nk <= 1000000000 := by rw [<- HNK.out, HNS.out K]; exact HX.out K
       obtain ⟨pk, ck, EU⟩ : ∃ pk ck, Hid (us.getD K undef = .slice pk nk ck) := by
        obtain ⟨xs, q1, _⟩ := HP.out.row K hlt
        obtain ⟨pk, ck, e⟩ := own_slcL q1
        rw [HNK.out] at e
        exact ⟨pk, ck, hid e⟩
       have hk2 : (K : Int) < (us.length : Int) := by omega
       have hc1 := HP.out.hv.at rfl hlt
       rw [EU.out] at hc1
       obtain ⟨gs0, HGS⟩ : ∃ x, Hid (u8 = x) := ⟨_, hid rfl⟩
       rw [HGS.out] at HG ⊢
       have P50 := hid (P5.start HP.out HD.out hlt)
       rw [EU.out] at P50
       go_wp2
       go_loopw [10, 11] (fun x i wz => ∃ m : Nat, m <= 70 /\ i = .int .i64 (m : Int) /\ Hid (P5 B w wz (.slice (some ⟨b, off, none⟩) us.length c) us ns K gl x m) /\ Hid (wz.ownsRow N4 24 1 gs0 K gl) /\ Hid (N4 <= wz.heap.size)) (fun _ i _ => 70 - (intOf i).toNat)
       case atStart => exact ⟨0, by omega, rfl, P50, HG, HZ⟩
       case round =>
        clear P50 HG HZ hc1 HP
        obtain ⟨m, hm70, rfl, HP, HG, HZ⟩ := hrel
        have hc1 := HP.out.hv.at rfl hlt
        rw [EU.out] at hc1
        by_cases hlm : m < 70
        ·have hlm2 : (m : Int) < 70 := by omega
         obtain ⟨xs, x1, x2⟩ := HP.out.cur
         rw [HNK.out] at x1 x2
         have LR : Hid (B <= wr.heap.size) := hid (Nat.le_trans hBN.out HZ.out)
         obtain ⟨WA, HWA⟩ : ∃ W : World, Hid (wr.drew.alloc (.cells #[.int .u8 ((K : Int) % 256), .int .u8 (((nk : Int) + (m : Int)) % 256), .int .u8 (((nk : Int) + (m : Int)) / 256 % 256)] 5) = W) := ⟨_, hid rfl⟩
         obtain ⟨WB, HWB⟩ : ∃ W : World, Hid (WA.alloc (.cells #[.slice (some ⟨wr.drew.heap.size, 0, none⟩) 3 3] TE) = W) := ⟨_, hid rfl⟩
         have bA : Below wr.heap.size wr WA := by rw [<- HWA.out]; exact ((Below.refl _ wr).drew).alloc (Nat.le_refl _) _
         have bB' : Below WA.heap.size WA WB := by rw [<- HWB.out]; exact (Below.refl _ _).alloc (Nat.le_refl _) _
         have bB : Below wr.heap.size wr WB := bA.trans (bB'.mono bA.size)
         have PB := hid (HP.out.below bB LR.out)
         have OB : Hid (WB.ownsRow B TE 1 u10 (nk + m) xs) := hid (own_ofL x1 (fun b' e => bB.block b' (own_atL x1 e).1))
         have MB : Hid (∀ j, j < nk + m -> Mkd WB (xs.getD j undef) K j) := hid (fun j hj => (x2 j hj hj).keep (KT.below bB))
         have UB : Hid (Mkd WB (.slice (some ⟨wr.drew.heap.size, 0, none⟩) 3 3) K (nk + m)) := hid (Mkd.keep (w := WA) ⟨_, rfl, by
          have e : mkA K (nk + m) = #[.int .u8 ((K : Int) % 256), .int .u8 (((nk : Int) + (m : Int)) % 256), .int .u8 (((nk : Int) + (m : Int)) / 256 % 256)] := by simp [mkA]
          rw [e, <- HWA.out]
          exact heap_alloc_new _ _⟩ (KT.below bB'))
         have CB : Hid (WB.cell? ⟨WA.heap.size, 0, none⟩ = some (.slice (some ⟨wr.drew.heap.size, 0, none⟩) 3 3)) := hid (by rw [cell_of_row _ _ _ _ _ _ (show WB.heap[WA.heap.size]? = some (.cells #[.slice (some ⟨wr.drew.heap.size, 0, none⟩) 3 3] TE (0, 0)) by rw [<- HWB.out]; exact heap_alloc_new _ _)]; rfl)
         have GB : Hid (WB.ownsRow N4 24 1 gs0 K gl) := hid (own_ofL HG.out (fun b' e => bB.block b' (own_atL HG.out e).1))
         have SA : Hid (WA.cell? ⟨b, off + K, none⟩ = some (.slice pk nk ck)) := hid ((bA.cell (World.block_lt_of_cell? wr _ hc1)).trans hc1)
         have SB : Hid (WB.cell? ⟨b, off + K, none⟩ = some (.slice pk nk ck)) := hid ((bB.cell (World.block_lt_of_cell? wr _ hc1)).trans hc1)
         have LB : Hid (B <= WB.heap.size) := hid (Nat.le_trans LR.out bB.size)
         have ZB : Hid (N4 <= WB.heap.size) := hid (Nat.le_trans HZ.out bB.size)
         have wk := u8w (K : Int)
         have wn := u8w ((nk : Int) + (m : Int))
         have wq := u8w (((nk : Int) + (m : Int)) / 256)
         have qq : Int.tdiv ((nk : Int) + (m : Int)) 256 = ((nk : Int) + (m : Int)) / 256 := Int.tdiv_eq_ediv_of_nonneg (by omega)
         have w7 : IntKind.i64.wrap ((nk : Int) + (m : Int)) = (nk : Int) + (m : Int) := by rw [IntKind.wrap_i64]; omega
         have w8 : IntKind.i64.wrap (((nk : Int) + (m : Int)) / 256) = ((nk : Int) + (m : Int)) / 256 := by rw [IntKind.wrap_i64]; omega
         have w9 : IntKind.i64.wrap ((m : Int) + 1) = ((m + 1 : Nat) : Int) := by rw [IntKind.wrap_i64]; omega
         clear x1 x2 bA bB bB' HP HG HZ
         go_wp2_with fail
         refine wp_region_held_drew (S := (fun W : World => W.cell? ⟨b, off + K, none⟩ = some (.slice pk nk ck))) (by kernel_rfl) hc1 (fun hHeld => ?_)
         have HS := hid hHeld
         clear hHeld
         change wpAnyH _ _ _ _ _ _ _ _ (World.drew _)
         refine wpAnyH_take (i := 0) (v := ?_) rfl (by kernel_rfl) (by kernel_rfl) (by kernel_rfl) (fun _ _ _ h => h) (Or.inl ⟨by rfl, ?q0⟩) HS.out ?_
         case q0 => intro w hSw; go_simp; rfl
         simp only [Act.put, lay6]
         refine wpAnyH_take (i := 1) (v := ?_) rfl (by kernel_rfl) (by kernel_rfl) (by kernel_rfl) (fun _ _ _ h => h) (Or.inl ⟨by rfl, ?q1⟩) HS.out ?_
         case q1 => intro w hSw; go_simp; rfl
         simp only [Act.put, lay6]
         refine wpAnyH_take (i := 2) (v := ?_) rfl (by kernel_rfl) (by kernel_rfl) (by kernel_rfl) (fun _ _ _ h => h) (Or.inl ⟨by rfl, ?q2⟩) HS.out ?_
         case q2 => intro w hSw; go_simp; rfl
         simp only [Act.put, lay6]
         refine wpAnyH_take (i := 3) (v := ?_) rfl (by kernel_rfl) (by kernel_rfl) (by kernel_rfl) (fun _ _ _ h => h) (Or.inl ⟨by rfl, ?q3⟩) HS.out ?_
         case q3 => intro w hSw; go_simp; rfl
         simp only [Act.put, lay6]
         refine wpAnyH_take (i := 4) (v := ?_) rfl (by kernel_rfl) (by kernel_rfl) (by kernel_rfl) (fun _ _ _ h => h) (Or.inl ⟨by rfl, ?q4⟩) HS.out ?_
         case q4 => intro w hSw; go_simp; rfl
         simp only [Act.put, lay6]
         refine wpAnyH_take (i := 5) (v := ?_) rfl (by kernel_rfl) (by kernel_rfl) (by kernel_rfl) (fun _ _ _ h => h) (Or.inl ⟨by rfl, ?q5⟩) HS.out ?_
         case q5 => intro w hSw; go_simp; rfl
         simp only [Act.put, lay6]
         refine wpAnyH_take (i := 6) (v := ?_) rfl (by kernel_rfl) (by kernel_rfl) (by kernel_rfl) (fun _ _ _ h => h) (Or.inl ⟨by rfl, ?q6⟩) HS.out ?_
         case q6 => intro w hSw; go_simp; rfl
         simp only [Act.put, lay6]
         refine wpAnyH_take (i := 7) (v := ?_) rfl (by kernel_rfl) (by kernel_rfl) (by kernel_rfl) (fun _ _ _ h => h) (Or.inl ⟨by rfl, ?q7⟩) HS.out ?_
         case q7 => intro w hSw; go_simp; rfl
         simp only [Act.put, lay6]
         refine wpAnyH_take (i := 8) (v := ?_) rfl (by kernel_rfl) (by kernel_rfl) (by kernel_rfl) (fun _ _ _ h => h) (Or.inl ⟨by rfl, ?q8⟩) HS.out ?_
         case q8 => intro w hSw; go_simp; rfl
         simp only [Act.put, lay6]
         refine wpAnyH_take (i := 9) (v := ?_) rfl (by kernel_rfl) (by kernel_rfl) (by kernel_rfl) (fun _ _ _ h => h) (Or.inl ⟨by rfl, ?q9⟩) HS.out ?_
         case q9 => intro w hSw; go_simp; rfl
         simp only [Act.put, lay6]
         refine wpAnyH_take (i := 10) (v := ?_) rfl (by kernel_rfl) (by kernel_rfl) (by kernel_rfl) (fun _ _ _ h => h) (Or.inl ⟨by rfl, ?q10⟩) HS.out ?_
         case q10 => intro w hSw; go_simp; rfl
         simp only [Act.put, lay6]
         refine wpAnyH_take (i := 11) (v := ?_) rfl (by kernel_rfl) (by kernel_rfl) (by kernel_rfl) (fun _ _ _ h => h) (Or.inl ⟨by rfl, ?q11⟩) HS.out ?_
         case q11 => intro w hSw; go_simp; rfl
         simp only [Act.put, lay6]
         refine wpAnyH_take (i := 12) (v := ?_) rfl (by kernel_rfl) (by kernel_rfl) (by kernel_rfl) (fun _ _ _ h => h) (Or.inl ⟨by rfl, ?q12⟩) HS.out ?_
         case q12 => intro w hSw; go_simp; rfl
         simp only [Act.put, lay6]
         refine wpAnyH_take (i := 13) (v := ?_) rfl (by kernel_rfl) (by kernel_rfl) (by kernel_rfl) (fun _ _ _ h => h) (Or.inl ⟨by rfl, ?q13⟩) HS.out ?_
         case q13 => intro w hSw; go_simp; rfl
         simp only [Act.put, lay6]
         refine wpAnyH_take (i := 14) (v := ?_) rfl (by kernel_rfl) (by kernel_rfl) (by kernel_rfl) (fun _ _ _ h => h) (Or.inl ⟨by rfl, ?q14⟩) HS.out ?_
         case q14 => intro w hSw; go_simp; rfl
         simp only [Act.put, lay6]
         refine wpAnyH_take (i := 15) (v := ?_) rfl (by kernel_rfl) (by kernel_rfl) (by kernel_rfl) (fun _ _ _ h => h) (Or.inl ⟨by rfl, ?q15⟩) HS.out ?_
         case q15 => intro w hSw; go_simp; rfl
         simp only [Act.put, lay6]
         refine wpAnyH_take (i := 16) (v := ?_) rfl (by kernel_rfl) (by kernel_rfl) (by kernel_rfl) (fun _ _ _ h => h) (Or.inl ⟨by rfl, ?q16⟩) HS.out ?_
         case q16 => intro w hSw; go_simp; rfl
         simp only [Act.put, lay6]
         refine wpAnyH_take (i := 17) (v := ?_) rfl (by kernel_rfl) (by kernel_rfl) (by kernel_rfl) (fun _ _ _ h => h) (Or.inl ⟨by rfl, ?q17⟩) HS.out ?_
         case q17 => intro w hSw; go_simp; rfl
         simp only [Act.put, lay6]
         refine wpAnyH_take (i := 18) (v := ?_) rfl (by kernel_rfl) (by kernel_rfl) (by kernel_rfl) (fun _ _ _ h => h) (Or.inl ⟨by rfl, ?q18⟩) HS.out ?_
         case q18 => intro w hSw; go_simp; rfl
         simp only [Act.put, lay6]
         refine wpAnyH_take (i := 19) (v := ?_) rfl (by kernel_rfl) (by kernel_rfl) (by kernel_rfl) (fun _ _ _ h => h) (Or.inl ⟨by rfl, ?q19⟩) HS.out ?_
         case q19 => intro w hSw; go_simp; rfl
         simp only [Act.put, lay6]
         clear HS
         refine wpAnyH_ready (rs := [20]) (by kernel_rfl) (by simp) ?_
         refine AllReadyH.cons rfl (fun K1 hK => ?_) AllReadyH.nil
         replace hK := hid hK
         refine wanted_litL (by rfl) 30 3 _ rfl #[(0, .int .u8 ((K : Int) % 256)), (1, .int .u8 (((nk : Int) + (m : Int)) % 256)), (2, .int .u8 (((nk : Int) + (m : Int)) / 256 % 256))] (by go_simp) _ (run_lit3 _ _ _ _) ?_
         rw [HWA.out]
         try simp only [Act.put, lay6]
         refine hK.out _ _ SA.out (fun _ => ?_)
         clear hK K1
         refine wpAnyH_ready (rs := [21]) (by kernel_rfl) (by simp) ?_
         refine AllReadyH.cons rfl (fun K1 hK => ?_) AllReadyH.nil
         replace hK := hid hK
         refine wanted_litL (by rfl) 24 1 _ rfl #[(0, .slice (some ⟨wr.drew.heap.size, 0, none⟩) 3 3)] (by go_simp) _ (run_lit1 _ _ _ _) ?_
         rw [HWB.out]
         try simp only [Act.put, lay6]
         refine hK.out _ _ SB.out (fun _ => ?_)
         clear hK K1
         refine wpAnyH_ready (rs := [22]) (by kernel_rfl) (by simp) ?_
         refine AllReadyH.cons rfl (fun K1 hK => ?_) AllReadyH.nil
         replace hK := hid hK
         rw [if_pos (by rfl)]
         refine wp_appL _ _ rfl B u10 (nk + m) xs rfl OB.out ⟨WA.heap.size, 0, none⟩ 1 (.slice (some ⟨wr.drew.heap.size, 0, none⟩) 3 3) rfl rfl CB.out (by omega) LB.out (fun v1 w1 ho hg hw => ?_)
         have P6 : Hid (P5 B w w1 (.slice (some ⟨b, off, none⟩) us.length c) us ns K gl v1 (m + 1)) := hid (PB.out.step hlt (by rw [HNK.out]; exact OB.out) (by rw [HNK.out]; exact MB.out) (by rw [HNK.out]; exact UB.out) (by rw [HNK.out]; exact ho) hg (by rw [HNK.out]; exact hw) LB.out)
         have S1 : Hid (w1.cell? ⟨b, off + K, none⟩ = some (.slice pk nk ck)) := hid (by have := P6.out.hv.at rfl hlt; rw [EU.out] at this; exact this)
         have G1 : Hid (w1.ownsRow N4 24 1 gs0 K gl) := hid (own_ofL GB.out (fun b' e => hg.block b' (own_atL GB.out e).1 (fun e2 => by
          obtain ⟨_, _, cs1, q1⟩ := own_atL GB.out e
          obtain ⟨_, _, cs2, q2⟩ := own_atL OB.out e2.symm
          rw [q1] at q2
          simp only [Option.some.injEq, Obj.cells.injEq] at q2
          exact absurd q2.2.1 (by decide))))
         have Z1 : Hid (N4 <= w1.heap.size) := hid (Nat.le_trans ZB.out hg.size)
         clear ho hg hw
         try simp only [Act.put, lay6]
         refine hK.out _ _ S1.out (fun _ => ?_)
         clear hK K1
         have HS := S1
         refine wpAnyH_take (i := 23) (v := ?_) rfl (by kernel_rfl) (by kernel_rfl) (by kernel_rfl) (fun _ _ _ h => h) (Or.inl ⟨by rfl, ?q23⟩) HS.out ?_
         case q23 => intro w hSw; go_simp; rfl
         simp only [Act.put, lay6]
         refine wpAnyH_done (by kernel_rfl) ?_ _
         go_wp2
         exact ⟨⟨m + 1, hlm, by go_num, P6, G1, Z1⟩, by simp [intOf]; omega⟩
        ·obtain rfl : m = 70 := by omega
         have PF := hid (HP.out.finish hlt)
         obtain ⟨xs, x1, _⟩ := HP.out.cur
         obtain ⟨px, cx, ex⟩ := own_slcL x1
         obtain ⟨nx, HNX⟩ : ∃ x, Hid (ns.getD K 0 + 70 = x) := ⟨_, hid rfl⟩
         rw [HNX.out] at ex
         rw [ex] at PF ⊢
         have LR : Hid (B <= wr.heap.size) := hid (Nat.le_trans hBN.out HZ.out)
         obtain ⟨WA, HWA⟩ : ∃ W : World, Hid (wr.alloc (.cells #[.slice px nx cx] 24) = W) := ⟨_, hid rfl⟩
         have bA : Below wr.heap.size wr WA := by rw [<- HWA.out]; exact (Below.refl _ wr).alloc (Nat.le_refl _) _
         have PA := hid (PF.out.below bA LR.out)
         have GA : Hid (WA.ownsRow N4 24 1 gs0 K gl) := hid (own_ofL HG.out (fun b' e => bA.block b' (own_atL HG.out e).1))
         have CA : Hid (∀ j u, [Value.slice px nx cx][j]? = some u -> WA.cell? ((⟨wr.heap.size, 0, none⟩ : Addr).add j) = some u) := hid (fun j u hj => by
          match j, hj with
          | 0, hj =>
           simp at hj
           subst hj
           rw [Go.WideShapes.add_plain, cell_of_row _ _ _ _ _ _ (show WA.heap[wr.heap.size]? = some (.cells #[.slice px nx cx] 24 (0, 0)) by rw [<- HWA.out]; exact heap_alloc_new _ _)]
           rfl)
         have ZA : Hid (N4 <= WA.heap.size) := hid (Nat.le_trans HZ.out bA.size)
         have hlm2 : ¬ ((70 : Int) < 70) := by omega
         have w9 : IntKind.i64.wrap ((K : Int) + 1) = ((K + 1 : Nat) : Int) := by rw [IntKind.wrap_i64]; omega
         obtain ⟨i0, hi, hz0, hz1, hz2⟩ := info_parts info_ellL
         clear x1 bA HP HG HZ ex
         go_wp2_with (first | rw [HWA.out] | (at_builtin; refine wpList_append_own _ rfl _ _ 25 rfl N4 24 i0 (.slice none 0 0) 1 24 Tryd.underlying25 hi hz0 hz1 hz2 rfl (by decide) gs0 K gl rfl GA.out ⟨wr.heap.size, 0, none⟩ 1 1 [.slice px nx cx] rfl rfl CA.out (fun u hu => by simp at hu; subst hu; rfl) (by unfold maxLen; omega) (by omega) ZA.out ?_) | fail)
         intro v1 w1 ho hg _
         have PN : Hid (P4 B w w1 (.slice (some ⟨b, off, none⟩) us.length c) us ns (K + 1) (gl ++ [.slice px nx cx])) := hid (PA.out.grown hg (fun b' e => by obtain ⟨_, q2, cs, q3⟩ := own_atL GA.out e; exact ⟨q2, cs, q3⟩) hBN.out (Nat.le_trans hBN.out ZA.out) HNv.out)
         have GN : Hid (w1.ownsRow N4 24 1 v1 (K + 1) (gl ++ [.slice px nx cx])) := hid ho
         have ZN : Hid (N4 <= w1.heap.size) := hid (Nat.le_trans ZA.out hg.size)
         clear ho hg
         go_wp2
         exact ⟨⟨K + 1, _, hlt, by go_num, PN, GN, ZN⟩, by simp [intOf]; omega⟩
      ·obtain rfl : K = us.length := by omega
       obtain ⟨pq, cq, eq⟩ := own_slcL HG.out
       rw [eq] at HG ⊢
       have hk4 : ¬ ((us.length : Int) < (us.length : Int)) := by omega
       obtain ⟨Wf, HWf⟩ : ∃ W : World, Hid (wr = W) := ⟨_, hid rfl⟩
       rw [HWf.out] at HP HG HZ ⊢
       have LF : Hid (B <= Wf.heap.size) := hid (Nat.le_trans hBN.out HZ.out)
       clear eq HWf hlt hK HZ
       go_wp2
       go_loopw [12] (fun k wz => ∃ K : Nat, K <= us.length /\ k = .int .i64 (K : Int) /\ Hid (Below Wf.heap.size Wf wz)) (fun k _ => us.length - (intOf k).toNat)
       case atStart => exact ⟨0, Nat.zero_le _, rfl, hid (Below.refl _ _)⟩
       case round =>
        obtain ⟨K, hK, rfl, HB⟩ := hrel
        by_cases hlt : K < us.length
        ·obtain ⟨b, off, rfl, hbw⟩ := A.out (by omega)
         obtain ⟨nk, HNK⟩ : ∃ x, Hid (ns.getD K 0 = x) := ⟨_, hid rfl⟩
         have hnk : nk <= 1000000000 := by rw [<- HNK.out, HNS.out K]; exact HX.out K
         obtain ⟨ys, y1, y2⟩ := HP.out.row K hlt
         obtain ⟨zs, z1, z2⟩ := HP.out.big K hlt
         rw [HNK.out] at y1 y2 z1 z2
         obtain ⟨pk, ck, eu⟩ := own_slcL y1
         obtain ⟨g1, cap1, eg, _, hn1, hm1, hcc1⟩ := ownsRow_cells z1 (by omega)
         have hlz : zs.length = nk + 70 := by have := z1.1; omega
         have hly : ys.length = nk := by have := y1.1; omega
         obtain ⟨gg, capg, egg, _, hng, hmg, hccg⟩ := ownsRow_cells HG.out (by omega)
         simp only [Value.slice.injEq, true_and] at egg
         obtain ⟨rfl, rfl⟩ := egg
         have c1 := HP.out.hv.at rfl hlt
         rw [eu] at c1
         have c2 := hccg K (gl.getD K undef) (by have := HP.out.len; simp [List.getD, List.getElem?_eq_getElem (show K < gl.length by omega)])
         rw [eg, Nat.zero_add] at c2
         have CI : Hid (∀ W, Below Wf.heap.size Wf W -> W.cell? ⟨b, off + K, none⟩ = some (.slice pk nk ck) /\ W.cell? ⟨gg, K, none⟩ = some (.slice (some ⟨g1, 0, none⟩) (nk + 70) cap1)) := hid (fun W hW => ⟨(hW.cell (World.block_lt_of_cell? Wf _ c1)).trans c1, (hW.cell (World.block_lt_of_cell? Wf _ c2)).trans c2⟩)
         have CG : Hid (∀ j, j < nk + 70 -> ∃ b1, Mkd Wf (.slice (some ⟨b1, 0, none⟩) 3 3) K j /\ Wf.cell? ⟨g1, j, none⟩ = some (.slice (some ⟨b1, 0, none⟩) 3 3)) := hid (fun j hj => by
          obtain ⟨b1, e1, e2⟩ := z2 j hj hj
          have := hcc1 j (zs.getD j undef) (by simp [List.getD, List.getElem?_eq_getElem (show j < zs.length by omega)])
          rw [Nat.zero_add, e1] at this
          exact ⟨b1, ⟨b1, rfl, e2⟩, this⟩)
         have CU : Hid (∀ j, j < nk -> ∃ g2 b2, pk = some ⟨g2, 0, none⟩ /\ nk <= ck /\ Mkd Wf (.slice (some ⟨b2, 0, none⟩) 3 3) K j /\ Wf.cell? ⟨g2, j, none⟩ = some (.slice (some ⟨b2, 0, none⟩) 3 3)) := hid (fun j hj => by
          rw [eu] at y1
          obtain ⟨g2, cap2, e3, _, hn2, hm2, hcc2⟩ := ownsRow_cells y1 (by omega)
          simp only [Value.slice.injEq, true_and] at e3
          obtain ⟨b1, e1, e2⟩ := y2 j hj hj
          have := hcc2 j (ys.getD j undef) (by simp [List.getD, List.getElem?_eq_getElem (show j < ys.length by omega)])
          rw [Nat.zero_add, e1] at this
          exact ⟨g2, b1, e3.1, by omega, ⟨b1, rfl, e2⟩, this⟩)
         obtain ⟨d1, d2⟩ := CI.out wr HB.out
         have hk5 : (K : Int) < (us.length : Int) := by omega
         clear c1 c2 y1 y2 z1 z2 hcc1 hccg eu eg
         go_wp2
         go_loopw [13] (fun i wz => ∃ I : Nat, I <= nk + 70 /\ i = .int .i64 (I : Int) /\ Hid (Below Wf.heap.size Wf wz)) (fun i _ => nk + 70 - (intOf i).toNat)
         case atStart => exact ⟨0, Nat.zero_le _, rfl, HB⟩
         case round =>
          clear HB d1 d2
          obtain ⟨I, hI, rfl, HB⟩ := hrel
          obtain ⟨d1, d2⟩ := CI.out wr HB.out
          by_cases hli : I < nk + 70
          ·obtain ⟨b1, mk1, e1⟩ := CG.out I hli
           obtain ⟨WL, HWL⟩ : ∃ W : World, Hid (wr.alloc (.cells #[.int .u8 ((K : Int) % 256), .int .u8 ((I : Int) % 256), .int .u8 ((I : Int) / 256 % 256)] 5) = W) := ⟨_, hid rfl⟩
           have bL : Below wr.heap.size wr WL := by rw [<- HWL.out]; exact (Below.refl _ _).alloc (Nat.le_refl _) _
           have bF : Below Wf.heap.size Wf WL := HB.out.trans (bL.mono HB.out.size)
           have HBF := hid bF
           have mkL : Mkd WL (.slice (some ⟨wr.heap.size, 0, none⟩) 3 3) K I := ⟨_, rfl, by rw [<- HWL.out]; exact heap_alloc_new _ _⟩
           have CS1 : Hid (Calls Tryd.prog 26 #[.slice (some ⟨b1, 0, none⟩) 3 3, .slice (some ⟨wr.heap.size, 0, none⟩) 3 3] WL fun e w' => e = .returned (.bool true) /\ Dr WL w') := hid ((sameBytes_any WL _ _ (mkLs K I) (mkLs K I) (mk1.keep (KT.below bF)).hb mkL.hb).mono fun e w' ⟨q1, q2⟩ => ⟨by rw [q1, decide_eq_true rfl], q2⟩)
           obtain ⟨f1, f2⟩ := CI.out WL bF
           have f3 := (bF.cell (World.block_lt_of_cell? Wf _ e1)).trans e1
           have wk := u8w (K : Int)
           have wi := u8w (I : Int)
           have wq := u8w ((I : Int) / 256)
           have qq := quo256 I
           have w8 : IntKind.i64.wrap ((I : Int) / 256) = (I : Int) / 256 := by rw [IntKind.wrap_i64]; omega
           have w9 : IntKind.i64.wrap ((I : Int) + 1) = ((I + 1 : Nat) : Int) := by rw [IntKind.wrap_i64]; omega
           have hi1 : (I : Int) < (nk : Int) + 70 := by omega
           by_cases hin : I < nk
           ·obtain ⟨g2, b2, rfl, hck, mk2, e2⟩ := CU.out I hin
            have hi2 : (I : Int) < (nk : Int) := by omega
            have CS2 : Hid (∀ w', Dr WL w' -> Calls Tryd.prog 26 #[.slice (some ⟨b2, 0, none⟩) 3 3, .slice (some ⟨wr.heap.size, 0, none⟩) 3 3] w' fun e w2 => e = .returned (.bool true) /\ Dr w' w2) := hid (fun w' hd => (sameBytes_any w' _ _ (mkLs K I) (mkLs K I) ((mk2.keep (KT.below bF)).hb.dr hd) (mkL.hb.dr hd)).mono fun e w' ⟨q1, q2⟩ => ⟨by rw [q1, decide_eq_true rfl], q2⟩)
            have f4 := (bF.cell (World.block_lt_of_cell? Wf _ e2)).trans e2
            clear mk1 mk2 mkL e1 e2 bL bF
            go_wp2_with (first | rw [HWL.out] | fail)
            refine CS1.out.mono ?_
            rintro e U1 ⟨rfl, hd1⟩
            have h1 := (hd1.cell ⟨b, off + K, none⟩).trans f1
            have h2 := (hd1.cell ⟨g2, I, none⟩).trans f4
            go_wp2_with fail
            refine (CS2.out _ hd1).mono ?_
            rintro e U2 ⟨rfl, hd2⟩
            have HB2 : Hid (Below Wf.heap.size Wf U2) := hid (HBF.out.trans ((hd1.below _).trans (hd2.below _)))
            clear h1 h2 hd1 hd2
            go_wp2
            exact ⟨⟨I + 1, hli, by go_num, HB2⟩, by simp [intOf]; omega⟩
           ·have hi2 : ¬ ((I : Int) < (nk : Int)) := by omega
            clear mk1 mkL e1 bL bF
            go_wp2_with (first | rw [HWL.out] | fail)
            refine CS1.out.mono ?_
            rintro e U1 ⟨rfl, hd1⟩
            have h1 := (hd1.cell ⟨b, off + K, none⟩).trans f1
            have HB2 : Hid (Below Wf.heap.size Wf U1) := hid (HBF.out.trans (hd1.below _))
            clear hd1
            go_wp2
            exact ⟨⟨I + 1, hli, by go_num, HB2⟩, by simp [intOf]; omega⟩
          ·have hi1 : ¬ ((I : Int) < (nk : Int) + 70) := by omega
           have w9 : IntKind.i64.wrap ((K : Int) + 1) = ((K + 1 : Nat) : Int) := by rw [IntKind.wrap_i64]; omega
           go_wp2
           exact ⟨⟨K + 1, hlt, by go_num, HB⟩, by simp [intOf]; omega⟩
        ·obtain rfl : K = us.length := by omega
         have FIN : Below B w wr := HP.out.bel.trans (HB.out.mono LF.out)
         have hk5 : ¬ ((us.length : Int) < (us.length : Int)) := by omega
         go_wp2
         go_ret
         exact ⟨rfl, FIN⟩
end Go.Proofs.YtcpchhigiohlnaaDoor
namespace Go.Proofs.YtcpchhigiohlnaaDoor
open Go Go.RowKit
theorem info_elTb : (Tryd.prog.info? 30).map (fun i => (i.zero, i.size, i.bytes)) = some (some (.slice none 0 0), 1, 24) := by kernel_rfl
theorem run_appTb (w : World) (base : Nat) (ty : TypeId) (v : Value) (n : Nat) (xs : List Value) (hown : w.ownsRow base 30 1 v n xs) (a : Addr) (c : Nat) (x : Value) (h1x : x.oneCell' = true) (hx : w.cell? a = some x) (hn : n + 1 <= 4194304) (hbase : base <= w.heap.size) :
  ∃ v' w', (Builtin.append_ #[24, 24] ty #[v, .slice (some a) 1 c]).run Tryd.prog w = .ok v' w' /\ w'.ownsRow base 30 1 v' (n + 1) (xs ++ [x]) /\ w.grownBy w' v.ownBlock ∧
   (v'.ownBlock = v.ownBlock \/ (v'.ownBlock = some w.heap.size /\ w.heap.size < w'.heap.size)) := by
 obtain ⟨i0, hi, hz0, hz1, hz2⟩ := info_parts info_elTb
 have hnews : ∀ j u, [x][j]? = some u -> w.cell? (a.add j) = some u := by
  intro j u hj
  match j, hj with
  | 0, hj => simp at hj; subst hj; simpa [Addr.add] using hx
 have h1 : ∀ u ∈ [x], u.oneCell' = true := by intro u hu; simp at hu; subst hu; exact h1x
 obtain ⟨v', w', hr, h2, h3, _⟩ := run_append_own (P := Tryd.prog) w base 24 ty 30 i0 (.slice none 0 0) 1 24 Tryd.underlying24 hi hz0 hz1 hz2 rfl (by decide) v n xs hown a 1 c [x] rfl hnews h1 (by unfold maxLen; omega) (by omega) hbase
 refine ⟨v', w', hr, h2, h3, ?_⟩
 rcases hown.2 with ⟨rfl, rfl⟩ | ⟨g, cap, cur, rfl, hbg, hg, hnc, hcm, hcs, htake⟩
 ·have hr2 := run_append_nil (P := Tryd.prog) w 24 ty 30 i0 (.slice none 0 0) Tryd.underlying24 hi hz0 a 1 c [x] (by rw [hz1]; rfl) hnews (by omega) (by omega) (by rw [hz2]; omega)
  rw [hr] at hr2
  simp only [Result.ok.injEq] at hr2
  obtain ⟨rfl, rfl⟩ := hr2
  exact .inr ⟨rfl, by simp⟩
 ·by_cases hroom : n + 1 <= cap
  ·obtain ⟨w2, hr2, _⟩ := run_append_fits (P := Tryd.prog) w base 24 ty 30 i0 1 Tryd.underlying24 hi hz1 g n cap xs hown a 1 c [x] rfl hnews h1 hroom
   rw [hr] at hr2
   simp only [Result.ok.injEq] at hr2
   obtain ⟨rfl, rfl⟩ := hr2
   exact .inl rfl
  ·have hr2 := run_append_grow (P := Tryd.prog) w 24 ty 30 i0 (.slice none 0 0) Tryd.underlying24 hi hz0 ⟨g, 0, none⟩ n cap xs (by rw [hz1]; exact hown.1) (hown.cells (g := g) rfl) a 1 c [x] (by rw [hz1]; rfl) hnews (by omega) (by omega) (growslice_fits (by omega) (by rw [hz2]; omega))
   rw [hr] at hr2
   simp only [Result.ok.injEq] at hr2
   obtain ⟨rfl, rfl⟩ := hr2
   exact .inr ⟨rfl, by simp⟩
theorem wp_appTb {w : World} {o : Oper} {a : Act} {K : Act -> World -> Prop} {Q : Exit -> Act -> World -> Prop} (s x : Operand)
  (ho : o.op = .call { callee := .builtin .append, args := #[s, x], argTypes := #[24, 24] })
  (base : Nat) (v : Value) (n : Nat) (xs : List Value) (hs : a.eval s = v) (hown : w.ownsRow base 30 1 v n xs)
  (ad : Addr) (c : Nat) (y : Value) (hx : a.eval x = .slice (some ad) 1 c) (h1 : y.oneCell' = true) (hy : w.cell? ad = some y) (hn : n + 1 <= 4194304) (hbase : base <= w.heap.size)
  (h : ∀ v' w', w'.ownsRow base 30 1 v' (n + 1) (xs ++ [y]) -> w.grownBy w' v.ownBlock -> (v'.ownBlock = v.ownBlock \/ (v'.ownBlock = some w.heap.size /\ w.heap.size < w'.heap.size)) -> K (a.put o.dst v') w') : o.wp Tryd.prog a w K Q := by
 obtain ⟨v', w', hr, h2, h3, h4⟩ := run_appTb w base o.type v n xs hown ad c y h1 hy hn hbase
 unfold Oper.wp execOp
 simp only [ho, resolve, invoke, builtin, Sem.run_bind, Sem.run_pure, Result.andThen_ok, List.map_toArray, List.map_cons, List.map_nil, hs, hx, hr]
 exact h v' w' h2 h3 h4
theorem wpList_appTb {w : World} {ops : Array Oper} {rest : List Oper} {o : Oper} {a : Act} {Q : Exit -> Act -> World -> Prop} (hgd : o.guard = none) (s x : Operand)
  (ho : o.op = .call { callee := .builtin .append, args := #[s, x], argTypes := #[24, 24] })
  (base : Nat) (v : Value) (n : Nat) (xs : List Value) (hs : a.eval s = v) (hown : w.ownsRow base 30 1 v n xs)
  (ad : Addr) (c : Nat) (y : Value) (hx : a.eval x = .slice (some ad) 1 c) (h1 : y.oneCell' = true) (hy : w.cell? ad = some y) (hn : n + 1 <= 4194304) (hbase : base <= w.heap.size)
  (h : ∀ v' w', w'.ownsRow base 30 1 v' (n + 1) (xs ++ [y]) -> w.grownBy w' v.ownBlock -> (v'.ownBlock = v.ownBlock \/ (v'.ownBlock = some w.heap.size /\ w.heap.size < w'.heap.size)) -> wpList Tryd.prog ops Q rest (a.put o.dst v') w') : wpList Tryd.prog ops Q (o :: rest) a w :=
 wpList_plain hgd fun K hK => wp_appTb s x ho base v n xs hs hown ad c y hx h1 hy hn hbase fun v' w' q1 q2 q3 => hK _ _ (h v' w' q1 q2 q3)
theorem info_elTo : (Tryd.prog.info? 24).map (fun i => (i.zero, i.size, i.bytes)) = some (some (.slice none 0 0), 1, 24) := by kernel_rfl
theorem run_appTo (w : World) (base : Nat) (ty : TypeId) (v : Value) (n : Nat) (xs : List Value) (hown : w.ownsRow base 24 1 v n xs) (a : Addr) (c : Nat) (x : Value) (h1x : x.oneCell' = true) (hx : w.cell? a = some x) (hn : n + 1 <= 4194304) (hbase : base <= w.heap.size) :
  ∃ v' w', (Builtin.append_ #[25, 25] ty #[v, .slice (some a) 1 c]).run Tryd.prog w = .ok v' w' /\ w'.ownsRow base 24 1 v' (n + 1) (xs ++ [x]) /\ w.grownBy w' v.ownBlock ∧
   (v'.ownBlock = v.ownBlock \/ (v'.ownBlock = some w.heap.size /\ w.heap.size < w'.heap.size)) := by
 obtain ⟨i0, hi, hz0, hz1, hz2⟩ := info_parts info_elTo
 have hnews : ∀ j u, [x][j]? = some u -> w.cell? (a.add j) = some u := by
  intro j u hj
  match j, hj with
  | 0, hj => simp at hj; subst hj; simpa [Addr.add] using hx
 have h1 : ∀ u ∈ [x], u.oneCell' = true := by intro u hu; simp at hu; subst hu; exact h1x
 obtain ⟨v', w', hr, h2, h3, _⟩ := run_append_own (P := Tryd.prog) w base 25 ty 24 i0 (.slice none 0 0) 1 24 Tryd.underlying25 hi hz0 hz1 hz2 rfl (by decide) v n xs hown a 1 c [x] rfl hnews h1 (by unfold maxLen; omega) (by omega) hbase
 refine ⟨v', w', hr, h2, h3, ?_⟩
 rcases hown.2 with ⟨rfl, rfl⟩ | ⟨g, cap, cur, rfl, hbg, hg, hnc, hcm, hcs, htake⟩
 ·have hr2 := run_append_nil (P := Tryd.prog) w 25 ty 24 i0 (.slice none 0 0) Tryd.underlying25 hi hz0 a 1 c [x] (by rw [hz1]; rfl) hnews (by omega) (by omega) (by rw [hz2]; omega)
  rw [hr] at hr2
  simp only [Result.ok.injEq] at hr2
  obtain ⟨rfl, rfl⟩ := hr2
  exact .inr ⟨rfl, by simp⟩
 ·by_cases hroom : n + 1 <= cap
  ·obtain ⟨w2, hr2, _⟩ := run_append_fits (P := Tryd.prog) w base 25 ty 24 i0 1 Tryd.underlying25 hi hz1 g n cap xs hown a 1 c [x] rfl hnews h1 hroom
   rw [hr] at hr2
   simp only [Result.ok.injEq] at hr2
   obtain ⟨rfl, rfl⟩ := hr2
   exact .inl rfl
  ·have hr2 := run_append_grow (P := Tryd.prog) w 25 ty 24 i0 (.slice none 0 0) Tryd.underlying25 hi hz0 ⟨g, 0, none⟩ n cap xs (by rw [hz1]; exact hown.1) (hown.cells (g := g) rfl) a 1 c [x] (by rw [hz1]; rfl) hnews (by omega) (by omega) (growslice_fits (by omega) (by rw [hz2]; omega))
   rw [hr] at hr2
   simp only [Result.ok.injEq] at hr2
   obtain ⟨rfl, rfl⟩ := hr2
   exact .inr ⟨rfl, by simp⟩
theorem wp_appTo {w : World} {o : Oper} {a : Act} {K : Act -> World -> Prop} {Q : Exit -> Act -> World -> Prop} (s x : Operand)
  (ho : o.op = .call { callee := .builtin .append, args := #[s, x], argTypes := #[25, 25] })
  (base : Nat) (v : Value) (n : Nat) (xs : List Value) (hs : a.eval s = v) (hown : w.ownsRow base 24 1 v n xs)
  (ad : Addr) (c : Nat) (y : Value) (hx : a.eval x = .slice (some ad) 1 c) (h1 : y.oneCell' = true) (hy : w.cell? ad = some y) (hn : n + 1 <= 4194304) (hbase : base <= w.heap.size)
  (h : ∀ v' w', w'.ownsRow base 24 1 v' (n + 1) (xs ++ [y]) -> w.grownBy w' v.ownBlock -> (v'.ownBlock = v.ownBlock \/ (v'.ownBlock = some w.heap.size /\ w.heap.size < w'.heap.size)) -> K (a.put o.dst v') w') : o.wp Tryd.prog a w K Q := by
 obtain ⟨v', w', hr, h2, h3, h4⟩ := run_appTo w base o.type v n xs hown ad c y h1 hy hn hbase
 unfold Oper.wp execOp
 simp only [ho, resolve, invoke, builtin, Sem.run_bind, Sem.run_pure, Result.andThen_ok, List.map_toArray, List.map_cons, List.map_nil, hs, hx, hr]
 exact h v' w' h2 h3 h4
theorem wpList_appTo {w : World} {ops : Array Oper} {rest : List Oper} {o : Oper} {a : Act} {Q : Exit -> Act -> World -> Prop} (hgd : o.guard = none) (s x : Operand)
  (ho : o.op = .call { callee := .builtin .append, args := #[s, x], argTypes := #[25, 25] })
  (base : Nat) (v : Value) (n : Nat) (xs : List Value) (hs : a.eval s = v) (hown : w.ownsRow base 24 1 v n xs)
  (ad : Addr) (c : Nat) (y : Value) (hx : a.eval x = .slice (some ad) 1 c) (h1 : y.oneCell' = true) (hy : w.cell? ad = some y) (hn : n + 1 <= 4194304) (hbase : base <= w.heap.size)
  (h : ∀ v' w', w'.ownsRow base 24 1 v' (n + 1) (xs ++ [y]) -> w.grownBy w' v.ownBlock -> (v'.ownBlock = v.ownBlock \/ (v'.ownBlock = some w.heap.size /\ w.heap.size < w'.heap.size)) -> wpList Tryd.prog ops Q rest (a.put o.dst v') w') : wpList Tryd.prog ops Q (o :: rest) a w :=
 wpList_plain hgd fun K hK => wp_appTo s x ho base v n xs hs hown ad c y hx h1 hy hn hbase fun v' w' q1 q2 q3 => hK _ _ (h v' w' q1 q2 q3)
theorem ne_typ {w : World} {B B' n n' : Nat} {e e' : TypeId} {v v' : Value} {xs xs' : List Value} (h : w.ownsRow B e 1 v n xs) (h' : w.ownsRow B' e' 1 v' n' xs') (hne : e ≠ e') {b : Nat} (hb : v.ownBlock = some b) : v'.ownBlock ≠ some b := fun q => by
 obtain ⟨_, _, cs, h1⟩ := own_atL h hb
 obtain ⟨_, _, cs', h2⟩ := own_atL h' q
 rw [h1] at h2
 simp only [Option.some.injEq, Obj.cells.injEq] at h2
 exact hne h2.2.1
theorem ne_bk {w : World} {B n g : Nat} {e T : TypeId} {v : Value} {xs : List Value} {cs : Array Value} {fz : Nat × Nat} (h : w.ownsRow B e 1 v n xs) (hc : w.heap[g]? = some (.cells cs T fz)) (hne : e ≠ T) {b : Nat} (hb : v.ownBlock = some b) : b ≠ g := fun q => by
 obtain ⟨_, _, cs', h2⟩ := own_atL h hb
 rw [q, hc] at h2
 simp only [Option.some.injEq, Obj.cells.injEq] at h2
 exact hne h2.2.1.symm
theorem PX.of {B : Nat} {w w' : World} {v : Value} {xs : List Value} {ls : List (List Int)} (h : PX B w v xs ls) (h1 : ∀ b, v.ownBlock = some b -> w'.heap[b]? = w.heap[b]?) (h2 : ∀ j, j < xs.length -> ∀ b, (xs.getD j undef).ownBlock = some b -> w'.heap[b]? = w.heap[b]?) : PX B w' v xs ls :=
 ⟨own_ofL h.row h1, ⟨h.apt.1, fun j hj => own_ofL (h.apt.2.1 j hj) (h2 j hj), h.apt.2.2⟩, h.byt⟩
theorem apt_ofT {B : Nat} {w w' : World} {xs : List Value} {ls : List (List Int)} (h : Apt B w xs ls) (h2 : ∀ j, j < xs.length -> ∀ b, (xs.getD j undef).ownBlock = some b -> w'.heap[b]? = w.heap[b]?) : Apt B w' xs ls :=
 ⟨h.1, fun j hj => own_ofL (h.2.1 j hj) (h2 j hj), h.2.2⟩
structure BkX (B g : Nat) (P : Nat -> Prop) (w : World) (v1 v2 v3 v4 : Value) (x1 x2 : List Value) (l1 l2 : List (List Int)) (us ms : List Value) (xss : List (List Value)) (lss mss : List (List (List Int))) : Prop where
 cell : w.heap[g]? = some (.cells #[v1, v2, v3, v4] 27 (0, 0))
 pg : P g
 pl : ∀ b, P b -> B <= b /\ b < w.heap.size
 p1 : PX B w v1 x1 l1
 p2 : PX B w v2 x2 l2
 r3 : w.ownsRow B 24 1 v3 us.length us
 r4 : w.ownsRow B 24 1 v4 ms.length ms
 f1 : ∀ b, v1.ownBlock = some b -> P b
 f2 : ∀ b, v2.ownBlock = some b -> P b
 f3 : ∀ b, v3.ownBlock = some b -> P b
 f4 : ∀ b, v4.ownBlock = some b -> P b
 q1 : ∀ j, j < x1.length -> ∀ b, (x1.getD j undef).ownBlock = some b -> P b
 q2 : ∀ j, j < x2.length -> ∀ b, (x2.getD j undef).ownBlock = some b -> P b
 n12 : ∀ b, v1.ownBlock = some b -> v2.ownBlock ≠ some b
 n34 : ∀ b, v3.ownBlock = some b -> v4.ownBlock ≠ some b
 c1 : us.length = xss.length
 c2 : lss.length = xss.length
 c3 : ms.length = mss.length
 el : ∀ k, k < xss.length -> PX B w (us.getD k undef) (xss.getD k []) (lss.getD k [])
 pu : ∀ k, k < xss.length -> ∀ b, (us.getD k undef).ownBlock = some b -> P b /\ v1.ownBlock ≠ some b /\ v2.ownBlock ≠ some b
 ap : Apt B w xss.flatten lss.flatten
 qx : ∀ j, j < xss.flatten.length -> ∀ b, (xss.flatten.getD j undef).ownBlock = some b -> P b
 dis : DisU us
 me : ∀ k, k < mss.length -> ∃ S : Nat -> Prop, (∀ i, S i -> P i /\ i ≠ g /\ v1.ownBlock ≠ some i /\ v2.ownBlock ≠ some i /\ v3.ownBlock ≠ some i /\ v4.ownBlock ≠ some i) /\ ∀ w' : World, (∀ i, S i -> w'.heap[i]? = w.heap[i]?) -> HL w' (ms.getD k undef) (mss.getD k [])
 cr : ∀ i, i < x1.length -> ∀ j, j < xss.flatten.length -> ∀ b, (x1.getD i undef).ownBlock = some b -> (xss.flatten.getD j undef).ownBlock ≠ some b
section
variable {B g : Nat} {P : Nat -> Prop} {w : World} {v1 v2 v3 v4 : Value} {x1 x2 : List Value} {l1 l2 : List (List Int)} {us ms : List Value} {xss : List (List Value)} {lss mss : List (List (List Int))}
theorem memx {xss : List (List Value)} {k j : Nat} (hk : k < xss.length) (hj : j < (xss.getD k []).length) : ∃ q, q < xss.flatten.length /\ xss.flatten.getD q undef = (xss.getD k []).getD j undef := by
 have e : xss.flatten = (xss.take k).flatten ++ (xss.getD k [] ++ (xss.drop (k + 1)).flatten) := by
  have h1 := flat_takeL xss k hk
  rw [<- List.append_assoc, <- h1, <- List.flatten_append, List.take_append_drop]
 refine ⟨(xss.take k).flatten.length + j, by rw [e, List.length_append, List.length_append]; omega, ?_⟩
 rw [e, getD_app, if_neg (by omega), Nat.add_sub_cancel_left, getD_app, if_pos hj]
theorem BkX.keep (h : BkX B g P w v1 v2 v3 v4 x1 x2 l1 l2 us ms xss lss mss) {w' : World} (hs : w.heap.size <= w'.heap.size) (hk : ∀ b, P b -> w'.heap[b]? = w.heap[b]?) : BkX B g P w' v1 v2 v3 v4 x1 x2 l1 l2 us ms xss lss mss :=
 { h with
  cell := (hk g h.pg).trans h.cell
  pl := fun b q => ⟨(h.pl b q).1, Nat.lt_of_lt_of_le (h.pl b q).2 hs⟩
  p1 := h.p1.of (fun b e => hk b (h.f1 b e)) (fun j hj b e => hk b (h.q1 j hj b e))
  p2 := h.p2.of (fun b e => hk b (h.f2 b e)) (fun j hj b e => hk b (h.q2 j hj b e))
  r3 := own_ofL h.r3 (fun b e => hk b (h.f3 b e))
  r4 := own_ofL h.r4 (fun b e => hk b (h.f4 b e))
  el := fun k hk' => (h.el k hk').of (fun b e => hk b (h.pu k hk' b e).1) (fun j hj b e => by
   obtain ⟨q, hq, eq⟩ := memx hk' hj
   exact hk b (h.qx q hq b (by rw [eq]; exact e)))
  ap := apt_ofT h.ap (fun j hj b e => hk b (h.qx j hj b e))
  me := fun k hk' => by
   obtain ⟨S, s1, s2⟩ := h.me k hk'
   exact ⟨S, s1, fun W hW => s2 W (fun i hi => (hW i hi).trans (hk i (s1 i hi).1))⟩ }
theorem BkX.mono (h : BkX B g P w v1 v2 v3 v4 x1 x2 l1 l2 us ms xss lss mss) {P' : Nat -> Prop} (hp : ∀ b, P b -> P' b) (hl : ∀ b, P' b -> B <= b /\ b < w.heap.size) : BkX B g P' w v1 v2 v3 v4 x1 x2 l1 l2 us ms xss lss mss :=
 { h with
  pg := hp g h.pg
  pl := hl
  f1 := fun b e => hp b (h.f1 b e)
  f2 := fun b e => hp b (h.f2 b e)
  f3 := fun b e => hp b (h.f3 b e)
  f4 := fun b e => hp b (h.f4 b e)
  q1 := fun j hj b e => hp b (h.q1 j hj b e)
  q2 := fun j hj b e => hp b (h.q2 j hj b e)
  pu := fun k hk b e => ⟨hp b (h.pu k hk b e).1, (h.pu k hk b e).2⟩
  qx := fun j hj b e => hp b (h.qx j hj b e)
  me := fun k hk => by
   obtain ⟨S, s1, s2⟩ := h.me k hk
   exact ⟨S, fun i hi => ⟨hp i (s1 i hi).1, (s1 i hi).2⟩, s2⟩ }
theorem BkX.nil (h : w.heap[g]? = some (.cells #[.slice none 0 0, .slice none 0 0, .slice none 0 0, .slice none 0 0] 27 (0, 0))) (hB : B <= g) : BkX B g (fun b => b = g) w (.slice none 0 0) (.slice none 0 0) (.slice none 0 0) (.slice none 0 0) [] [] [] [] [] [] [] [] [] where
 cell := h
 pg := rfl
 pl := fun b e => by subst e; exact ⟨hB, (Array.getElem?_eq_some_iff.1 h).1⟩
 p1 := PX.nil _ _
 p2 := PX.nil _ _
 r3 := World.ownsRow_nil _ _ _ _
 r4 := World.ownsRow_nil _ _ _ _
 f1 := fun b e => by cases e
 f2 := fun b e => by cases e
 f3 := fun b e => by cases e
 f4 := fun b e => by cases e
 q1 := fun j hj => by simp at hj
 q2 := fun j hj => by simp at hj
 n12 := fun b e => by cases e
 n34 := fun b e => by cases e
 c1 := rfl
 c2 := rfl
 c3 := rfl
 el := fun k hk => by simp at hk
 pu := fun k hk => by simp at hk
 ap := ⟨rfl, fun j hj => by simp at hj, fun i j hi => by simp at hi⟩
 qx := fun j hj => by simp at hj
 dis := fun i j hi => by simp at hi
 me := fun k hk => by simp at hk
 cr := fun i hi => by simp at hi
theorem BkX.push1 (h : BkX B g P w v1 v2 v3 v4 x1 x2 l1 l2 us ms xss lss mss) {Q : Nat -> Prop} (hn : ∀ b, Q b -> ¬ P b /\ B <= b /\ b < w.heap.size) {u : Value} {l : List Int} (hu : w.ownsRow B 5 1 u l.length (l.map (Value.int .u8))) (hl : BytI l) (hQ : ∀ b, u.ownBlock = some b -> Q b)
  {o : Obj} {w2 : World} {v' : Value} (hr : w2.ownsRow B 30 1 v' (l1.length + 1) (x1 ++ [u])) (hg : (w.alloc o).grownBy w2 v1.ownBlock) (hw : v'.ownBlock = v1.ownBlock \/ (v'.ownBlock = some (w.heap.size + 1) /\ w.heap.size + 1 < w2.heap.size)) :
  BkX B g (fun b => P b \/ Q b \/ (w.heap.size <= b /\ b < w2.heap.size)) (w2.setCell ⟨g, 0, none⟩ v') v' v2 v3 v4 (x1 ++ [u]) x2 (l1 ++ [l]) l2 us ms xss lss mss := by
 have hgl : g < w.heap.size := (Array.getElem?_eq_some_iff.1 h.cell).1
 have hBw : B <= w.heap.size := Nat.le_trans (h.pl g h.pg).1 (Nat.le_of_lt hgl)
 have hs2 : w.heap.size + 1 <= w2.heap.size := by have := hg.size; simpa using this
 have k2 : ∀ b, b < w.heap.size -> v1.ownBlock ≠ some b -> w2.heap[b]? = w.heap[b]? := fun b hb hne => (hg.block b (by simp; omega) (fun e => hne e.symm)).trans (heap_alloc_old w _ hb)
 have gvi : ∀ b, v1.ownBlock = some b -> b ≠ g := fun b e => ne_bk h.p1.row h.cell (by decide) e
 have kp : ∀ b, b < w.heap.size -> b ≠ g -> v1.ownBlock ≠ some b -> (w2.setCell ⟨g, 0, none⟩ v').heap[b]? = w.heap[b]? := fun b hb hbg hne => (heap_setCell_other w2 _ _ _ (fun e => hbg e)).trans (k2 b hb hne)
 have c2 : w2.heap[g]? = some (.cells #[v1, v2, v3, v4] 27 (0, 0)) := (k2 g hgl (fun e => gvi g e rfl)).trans h.cell
 have hv' : ∀ b, v'.ownBlock = some b -> b ≠ g := fun b e => ne_bk hr c2 (by decide) e
 have hvP : ∀ b, v'.ownBlock = some b -> v1.ownBlock = some b \/ (w.heap.size <= b /\ b < w2.heap.size) := fun b e => by
  rcases hw with q | ⟨q, q2⟩
  ·exact .inl (q.symm.trans e)
  ·rw [q] at e; cases e; exact .inr ⟨by omega, q2⟩
 have ltP : ∀ b, P b -> b < w.heap.size := fun b q => (h.pl b q).2
 have EL : ∀ k, k < xss.length -> PX B (w2.setCell ⟨g, 0, none⟩ v') (us.getD k undef) (xss.getD k []) (lss.getD k []) := fun k hk => (h.el k hk).of (fun b e => kp b (ltP b (h.pu k hk b e).1) (ne_bk (h.el k hk).row h.cell (by decide) e) (h.pu k hk b e).2.1) (fun j hj b e => by
   obtain ⟨q, hq, eq⟩ := memx hk hj
   exact kp b (ltP b (h.qx q hq b (by rw [eq]; exact e))) (ne_bk ((h.el k hk).apt.2.1 j hj) h.cell (by decide) e) (ne_typ ((h.el k hk).apt.2.1 j hj) h.p1.row (by decide) e))
 have AP : Apt B (w2.setCell ⟨g, 0, none⟩ v') xss.flatten lss.flatten := apt_ofT h.ap (fun j hj b e => kp b (ltP b (h.qx j hj b e)) (ne_bk (h.ap.2.1 j hj) h.cell (by decide) e) (ne_typ (h.ap.2.1 j hj) h.p1.row (by decide) e))
 have HR : (w2.setCell ⟨g, 0, none⟩ v').ownsRow B 30 1 v' (l1.length + 1) (x1 ++ [u]) := own_ofL hr (fun b e => heap_setCell_other w2 _ _ _ (fun q => hv' b e q))
 have NQ : ∀ b, Q b -> b ≠ g /\ v1.ownBlock ≠ some b /\ v2.ownBlock ≠ some b /\ v3.ownBlock ≠ some b /\ v4.ownBlock ≠ some b := fun b q => ⟨fun e => (hn b q).1 (by rw [e]; exact h.pg), fun e => (hn b q).1 (h.f1 b e), fun e => (hn b q).1 (h.f2 b e), fun e => (hn b q).1 (h.f3 b e), fun e => (hn b q).1 (h.f4 b e)⟩
 have kq : ∀ b, Q b -> (w2.setCell ⟨g, 0, none⟩ v').heap[b]? = w.heap[b]? := fun b q => kp b (hn b q).2.2 (NQ b q).1 (NQ b q).2.1
 exact {
  cell := (heap_setCell_same w2 g 0 _ _ _ c2).trans rfl
  pg := .inl h.pg
  pl := fun b q => by
   have hsz : (w2.setCell ⟨g, 0, none⟩ v').heap.size = w2.heap.size := by simp
   rw [hsz]
   rcases q with q | q | q
   ·exact ⟨(h.pl b q).1, by have := ltP b q; omega⟩
   ·exact ⟨(hn b q).2.1, by have := (hn b q).2.2; omega⟩
   ·exact ⟨by omega, q.2⟩
  p1 := ⟨by rw [List.length_append, List.length_singleton]; exact HR, ((apt_ofT h.p1.apt (fun j hj b e => kp b (ltP b (h.q1 j hj b e)) (ne_bk (h.p1.apt.2.1 j hj) h.cell (by decide) e) (ne_typ (h.p1.apt.2.1 j hj) h.p1.row (by decide) e))).snoc (own_ofL hu (fun b e => kq b (hQ b e))) (fun j hj => by
   cases e : u.ownBlock with
   | none => exact .inl rfl
   | some b => exact .inr (fun q => (hn b (hQ b e)).1 (h.q1 j hj b q.symm)))), fun j hj => by
   rw [List.length_append, List.length_singleton] at hj
   by_cases q : j < l1.length
   ·rw [getD_app, if_pos q]; exact h.p1.byt j q
   ·rw [getD_app, if_neg q, show j - l1.length = 0 by omega]; exact hl⟩
  p2 := (h.p2.of (fun b e => kp b (ltP b (h.f2 b e)) (ne_bk h.p2.row h.cell (by decide) e) (fun q => h.n12 b q e)) (fun j hj b e => kp b (ltP b (h.q2 j hj b e)) (ne_bk (h.p2.apt.2.1 j hj) h.cell (by decide) e) (ne_typ (h.p2.apt.2.1 j hj) h.p1.row (by decide) e)))
  r3 := own_ofL h.r3 (fun b e => kp b (ltP b (h.f3 b e)) (ne_bk h.r3 h.cell (by decide) e) (ne_typ h.r3 h.p1.row (by decide) e))
  r4 := own_ofL h.r4 (fun b e => kp b (ltP b (h.f4 b e)) (ne_bk h.r4 h.cell (by decide) e) (ne_typ h.r4 h.p1.row (by decide) e))
  f1 := fun b e => (hvP b e).elim (fun q => .inl (h.f1 b q)) (fun q => .inr (.inr q))
  f2 := fun b e => .inl (h.f2 b e)
  f3 := fun b e => .inl (h.f3 b e)
  f4 := fun b e => .inl (h.f4 b e)
  q1 := fun j hj b e => by
   rw [List.length_append, List.length_singleton] at hj
   by_cases q : j < x1.length
   ·rw [getD_app, if_pos q] at e; exact .inl (h.q1 j q b e)
   ·rw [getD_app, if_neg q, show j - x1.length = 0 by omega] at e; exact .inr (.inl (hQ b e))
  q2 := fun j hj b e => .inl (h.q2 j hj b e)
  n12 := fun b e => (hvP b e).elim (h.n12 b) (fun q e2 => by have := ltP b (h.f2 b e2); omega)
  n34 := h.n34
  c1 := h.c1
  c2 := h.c2
  c3 := h.c3
  el := EL
  pu := fun k hk b e => ⟨.inl (h.pu k hk b e).1, (fun e2 => (hvP b e2).elim (h.pu k hk b e).2.1 (fun q => by have := ltP b (h.pu k hk b e).1; omega)), (h.pu k hk b e).2.2⟩
  ap := AP
  qx := fun j hj b e => .inl (h.qx j hj b e)
  dis := h.dis
  me := fun k hk => by
   obtain ⟨S, s1, s2⟩ := h.me k hk
   refine ⟨S, fun i hi => ?_, fun W hW => s2 W (fun i hi => ?_)⟩
   ·obtain ⟨z1, z2, z3, z4, z5, z6⟩ := s1 i hi
    exact ⟨.inl z1, z2, (fun e => (hvP i e).elim (fun q => z3 q) (fun q => by have := ltP i z1; omega)), z4, z5, z6⟩
   ·obtain ⟨z1, z2, z3, z4, z5, z6⟩ := s1 i hi
    exact (hW i hi).trans (kp i (ltP i z1) z2 z3)
  cr := fun i hi j hj b e => by
   rw [List.length_append, List.length_singleton] at hi
   by_cases q : i < x1.length
   ·rw [getD_app, if_pos q] at e; exact h.cr i q j hj b e
   ·rw [getD_app, if_neg q, show i - x1.length = 0 by omega] at e
    exact fun e2 => (hn b (hQ b e)).1 (h.qx j hj b e2) }
theorem BkX.push2 (h : BkX B g P w v1 v2 v3 v4 x1 x2 l1 l2 us ms xss lss mss) {Q : Nat -> Prop} (hn : ∀ b, Q b -> ¬ P b /\ B <= b /\ b < w.heap.size) {u : Value} {l : List Int} (hu : w.ownsRow B 5 1 u l.length (l.map (Value.int .u8))) (hl : BytI l) (hQ : ∀ b, u.ownBlock = some b -> Q b)
  {o : Obj} {w2 : World} {v' : Value} (hr : w2.ownsRow B 30 1 v' (l2.length + 1) (x2 ++ [u])) (hg : (w.alloc o).grownBy w2 v2.ownBlock) (hw : v'.ownBlock = v2.ownBlock \/ (v'.ownBlock = some (w.heap.size + 1) /\ w.heap.size + 1 < w2.heap.size)) :
  BkX B g (fun b => P b \/ Q b \/ (w.heap.size <= b /\ b < w2.heap.size)) (w2.setCell ⟨g, 1, none⟩ v') v1 v' v3 v4 x1 (x2 ++ [u]) l1 (l2 ++ [l]) us ms xss lss mss := by
 have hgl : g < w.heap.size := (Array.getElem?_eq_some_iff.1 h.cell).1
 have hBw : B <= w.heap.size := Nat.le_trans (h.pl g h.pg).1 (Nat.le_of_lt hgl)
 have hs2 : w.heap.size + 1 <= w2.heap.size := by have := hg.size; simpa using this
 have k2 : ∀ b, b < w.heap.size -> v2.ownBlock ≠ some b -> w2.heap[b]? = w.heap[b]? := fun b hb hne => (hg.block b (by simp; omega) (fun e => hne e.symm)).trans (heap_alloc_old w _ hb)
 have gvi : ∀ b, v2.ownBlock = some b -> b ≠ g := fun b e => ne_bk h.p2.row h.cell (by decide) e
 have kp : ∀ b, b < w.heap.size -> b ≠ g -> v2.ownBlock ≠ some b -> (w2.setCell ⟨g, 1, none⟩ v').heap[b]? = w.heap[b]? := fun b hb hbg hne => (heap_setCell_other w2 _ _ _ (fun e => hbg e)).trans (k2 b hb hne)
 have c2 : w2.heap[g]? = some (.cells #[v1, v2, v3, v4] 27 (0, 0)) := (k2 g hgl (fun e => gvi g e rfl)).trans h.cell
 have hv' : ∀ b, v'.ownBlock = some b -> b ≠ g := fun b e => ne_bk hr c2 (by decide) e
 have hvP : ∀ b, v'.ownBlock = some b -> v2.ownBlock = some b \/ (w.heap.size <= b /\ b < w2.heap.size) := fun b e => by
  rcases hw with q | ⟨q, q2⟩
  ·exact .inl (q.symm.trans e)
  ·rw [q] at e; cases e; exact .inr ⟨by omega, q2⟩
 have ltP : ∀ b, P b -> b < w.heap.size := fun b q => (h.pl b q).2
 have EL : ∀ k, k < xss.length -> PX B (w2.setCell ⟨g, 1, none⟩ v') (us.getD k undef) (xss.getD k []) (lss.getD k []) := fun k hk => (h.el k hk).of (fun b e => kp b (ltP b (h.pu k hk b e).1) (ne_bk (h.el k hk).row h.cell (by decide) e) (h.pu k hk b e).2.2) (fun j hj b e => by
   obtain ⟨q, hq, eq⟩ := memx hk hj
   exact kp b (ltP b (h.qx q hq b (by rw [eq]; exact e))) (ne_bk ((h.el k hk).apt.2.1 j hj) h.cell (by decide) e) (ne_typ ((h.el k hk).apt.2.1 j hj) h.p2.row (by decide) e))
 have AP : Apt B (w2.setCell ⟨g, 1, none⟩ v') xss.flatten lss.flatten := apt_ofT h.ap (fun j hj b e => kp b (ltP b (h.qx j hj b e)) (ne_bk (h.ap.2.1 j hj) h.cell (by decide) e) (ne_typ (h.ap.2.1 j hj) h.p2.row (by decide) e))
 have HR : (w2.setCell ⟨g, 1, none⟩ v').ownsRow B 30 1 v' (l2.length + 1) (x2 ++ [u]) := own_ofL hr (fun b e => heap_setCell_other w2 _ _ _ (fun q => hv' b e q))
 have NQ : ∀ b, Q b -> b ≠ g /\ v1.ownBlock ≠ some b /\ v2.ownBlock ≠ some b /\ v3.ownBlock ≠ some b /\ v4.ownBlock ≠ some b := fun b q => ⟨fun e => (hn b q).1 (by rw [e]; exact h.pg), fun e => (hn b q).1 (h.f1 b e), fun e => (hn b q).1 (h.f2 b e), fun e => (hn b q).1 (h.f3 b e), fun e => (hn b q).1 (h.f4 b e)⟩
 have kq : ∀ b, Q b -> (w2.setCell ⟨g, 1, none⟩ v').heap[b]? = w.heap[b]? := fun b q => kp b (hn b q).2.2 (NQ b q).1 (NQ b q).2.2.1
 exact {
  cell := (heap_setCell_same w2 g 1 _ _ _ c2).trans rfl
  pg := .inl h.pg
  pl := fun b q => by
   have hsz : (w2.setCell ⟨g, 1, none⟩ v').heap.size = w2.heap.size := by simp
   rw [hsz]
   rcases q with q | q | q
   ·exact ⟨(h.pl b q).1, by have := ltP b q; omega⟩
   ·exact ⟨(hn b q).2.1, by have := (hn b q).2.2; omega⟩
   ·exact ⟨by omega, q.2⟩
  p1 := (h.p1.of (fun b e => kp b (ltP b (h.f1 b e)) (ne_bk h.p1.row h.cell (by decide) e) (h.n12 b e)) (fun j hj b e => kp b (ltP b (h.q1 j hj b e)) (ne_bk (h.p1.apt.2.1 j hj) h.cell (by decide) e) (ne_typ (h.p1.apt.2.1 j hj) h.p2.row (by decide) e)))
  p2 := ⟨by rw [List.length_append, List.length_singleton]; exact HR, ((apt_ofT h.p2.apt (fun j hj b e => kp b (ltP b (h.q2 j hj b e)) (ne_bk (h.p2.apt.2.1 j hj) h.cell (by decide) e) (ne_typ (h.p2.apt.2.1 j hj) h.p2.row (by decide) e))).snoc (own_ofL hu (fun b e => kq b (hQ b e))) (fun j hj => by
   cases e : u.ownBlock with
   | none => exact .inl rfl
   | some b => exact .inr (fun q => (hn b (hQ b e)).1 (h.q2 j hj b q.symm)))), fun j hj => by
   rw [List.length_append, List.length_singleton] at hj
   by_cases q : j < l2.length
   ·rw [getD_app, if_pos q]; exact h.p2.byt j q
   ·rw [getD_app, if_neg q, show j - l2.length = 0 by omega]; exact hl⟩
  r3 := own_ofL h.r3 (fun b e => kp b (ltP b (h.f3 b e)) (ne_bk h.r3 h.cell (by decide) e) (ne_typ h.r3 h.p2.row (by decide) e))
  r4 := own_ofL h.r4 (fun b e => kp b (ltP b (h.f4 b e)) (ne_bk h.r4 h.cell (by decide) e) (ne_typ h.r4 h.p2.row (by decide) e))
  f1 := fun b e => .inl (h.f1 b e)
  f2 := fun b e => (hvP b e).elim (fun q => .inl (h.f2 b q)) (fun q => .inr (.inr q))
  f3 := fun b e => .inl (h.f3 b e)
  f4 := fun b e => .inl (h.f4 b e)
  q1 := fun j hj b e => .inl (h.q1 j hj b e)
  q2 := fun j hj b e => by
   rw [List.length_append, List.length_singleton] at hj
   by_cases q : j < x2.length
   ·rw [getD_app, if_pos q] at e; exact .inl (h.q2 j q b e)
   ·rw [getD_app, if_neg q, show j - x2.length = 0 by omega] at e; exact .inr (.inl (hQ b e))
  n12 := fun b e e2 => (hvP b e2).elim (h.n12 b e) (fun q => by have := ltP b (h.f1 b e); omega)
  n34 := h.n34
  c1 := h.c1
  c2 := h.c2
  c3 := h.c3
  el := EL
  pu := fun k hk b e => ⟨.inl (h.pu k hk b e).1, (h.pu k hk b e).2.1, (fun e2 => (hvP b e2).elim (h.pu k hk b e).2.2 (fun q => by have := ltP b (h.pu k hk b e).1; omega))⟩
  ap := AP
  qx := fun j hj b e => .inl (h.qx j hj b e)
  dis := h.dis
  me := fun k hk => by
   obtain ⟨S, s1, s2⟩ := h.me k hk
   refine ⟨S, fun i hi => ?_, fun W hW => s2 W (fun i hi => ?_)⟩
   ·obtain ⟨z1, z2, z3, z4, z5, z6⟩ := s1 i hi
    exact ⟨.inl z1, z2, z3, (fun e => (hvP i e).elim (fun q => z4 q) (fun q => by have := ltP i z1; omega)), z5, z6⟩
   ·obtain ⟨z1, z2, z3, z4, z5, z6⟩ := s1 i hi
    exact (hW i hi).trans (kp i (ltP i z1) z2 z4)
  cr := h.cr }
theorem BkX.push3 (h : BkX B g P w v1 v2 v3 v4 x1 x2 l1 l2 us ms xss lss mss) {Q : Nat -> Prop} (hn : ∀ b, Q b -> ¬ P b /\ B <= b /\ b < w.heap.size) {u : Value} {xs : List Value} {ls : List (List Int)} (hu : PX B w u xs ls) (hQ : ∀ b, u.ownBlock = some b -> Q b) (hQx : ∀ j, j < xs.length -> ∀ b, (xs.getD j undef).ownBlock = some b -> Q b)
  {o : Obj} {w2 : World} {v' : Value} (hr : w2.ownsRow B 24 1 v' (us.length + 1) (us ++ [u])) (hg : (w.alloc o).grownBy w2 v3.ownBlock) (hw : v'.ownBlock = v3.ownBlock \/ (v'.ownBlock = some (w.heap.size + 1) /\ w.heap.size + 1 < w2.heap.size)) :
  BkX B g (fun b => P b \/ Q b \/ (w.heap.size <= b /\ b < w2.heap.size)) (w2.setCell ⟨g, 2, none⟩ v') v1 v2 v' v4 x1 x2 l1 l2 (us ++ [u]) ms (xss ++ [xs]) (lss ++ [ls]) mss := by
 have hgl : g < w.heap.size := (Array.getElem?_eq_some_iff.1 h.cell).1
 have hBw : B <= w.heap.size := Nat.le_trans (h.pl g h.pg).1 (Nat.le_of_lt hgl)
 have hs2 : w.heap.size + 1 <= w2.heap.size := by have := hg.size; simpa using this
 have k2 : ∀ b, b < w.heap.size -> v3.ownBlock ≠ some b -> w2.heap[b]? = w.heap[b]? := fun b hb hne => (hg.block b (by simp; omega) (fun e => hne e.symm)).trans (heap_alloc_old w _ hb)
 have gvi : ∀ b, v3.ownBlock = some b -> b ≠ g := fun b e => ne_bk h.r3 h.cell (by decide) e
 have kp : ∀ b, b < w.heap.size -> b ≠ g -> v3.ownBlock ≠ some b -> (w2.setCell ⟨g, 2, none⟩ v').heap[b]? = w.heap[b]? := fun b hb hbg hne => (heap_setCell_other w2 _ _ _ (fun e => hbg e)).trans (k2 b hb hne)
 have c2 : w2.heap[g]? = some (.cells #[v1, v2, v3, v4] 27 (0, 0)) := (k2 g hgl (fun e => gvi g e rfl)).trans h.cell
 have hv' : ∀ b, v'.ownBlock = some b -> b ≠ g := fun b e => ne_bk hr c2 (by decide) e
 have hvP : ∀ b, v'.ownBlock = some b -> v3.ownBlock = some b \/ (w.heap.size <= b /\ b < w2.heap.size) := fun b e => by
  rcases hw with q | ⟨q, q2⟩
  ·exact .inl (q.symm.trans e)
  ·rw [q] at e; cases e; exact .inr ⟨by omega, q2⟩
 have ltP : ∀ b, P b -> b < w.heap.size := fun b q => (h.pl b q).2
 have EL : ∀ k, k < xss.length -> PX B (w2.setCell ⟨g, 2, none⟩ v') (us.getD k undef) (xss.getD k []) (lss.getD k []) := fun k hk => (h.el k hk).of (fun b e => kp b (ltP b (h.pu k hk b e).1) (ne_bk (h.el k hk).row h.cell (by decide) e) (ne_typ (h.el k hk).row h.r3 (by decide) e)) (fun j hj b e => by
   obtain ⟨q, hq, eq⟩ := memx hk hj
   exact kp b (ltP b (h.qx q hq b (by rw [eq]; exact e))) (ne_bk ((h.el k hk).apt.2.1 j hj) h.cell (by decide) e) (ne_typ ((h.el k hk).apt.2.1 j hj) h.r3 (by decide) e))
 have AP : Apt B (w2.setCell ⟨g, 2, none⟩ v') xss.flatten lss.flatten := apt_ofT h.ap (fun j hj b e => kp b (ltP b (h.qx j hj b e)) (ne_bk (h.ap.2.1 j hj) h.cell (by decide) e) (ne_typ (h.ap.2.1 j hj) h.r3 (by decide) e))
 have HR : (w2.setCell ⟨g, 2, none⟩ v').ownsRow B 24 1 v' (us.length + 1) (us ++ [u]) := own_ofL hr (fun b e => heap_setCell_other w2 _ _ _ (fun q => hv' b e q))
 have NQ : ∀ b, Q b -> b ≠ g /\ v1.ownBlock ≠ some b /\ v2.ownBlock ≠ some b /\ v3.ownBlock ≠ some b /\ v4.ownBlock ≠ some b := fun b q => ⟨fun e => (hn b q).1 (by rw [e]; exact h.pg), fun e => (hn b q).1 (h.f1 b e), fun e => (hn b q).1 (h.f2 b e), fun e => (hn b q).1 (h.f3 b e), fun e => (hn b q).1 (h.f4 b e)⟩
 have kq : ∀ b, Q b -> (w2.setCell ⟨g, 2, none⟩ v').heap[b]? = w.heap[b]? := fun b q => kp b (hn b q).2.2 (NQ b q).1 (NQ b q).2.2.2.1
 exact {
  cell := (heap_setCell_same w2 g 2 _ _ _ c2).trans rfl
  pg := .inl h.pg
  pl := fun b q => by
   have hsz : (w2.setCell ⟨g, 2, none⟩ v').heap.size = w2.heap.size := by simp
   rw [hsz]
   rcases q with q | q | q
   ·exact ⟨(h.pl b q).1, by have := ltP b q; omega⟩
   ·exact ⟨(hn b q).2.1, by have := (hn b q).2.2; omega⟩
   ·exact ⟨by omega, q.2⟩
  p1 := (h.p1.of (fun b e => kp b (ltP b (h.f1 b e)) (ne_bk h.p1.row h.cell (by decide) e) (ne_typ h.p1.row h.r3 (by decide) e)) (fun j hj b e => kp b (ltP b (h.q1 j hj b e)) (ne_bk (h.p1.apt.2.1 j hj) h.cell (by decide) e) (ne_typ (h.p1.apt.2.1 j hj) h.r3 (by decide) e)))
  p2 := (h.p2.of (fun b e => kp b (ltP b (h.f2 b e)) (ne_bk h.p2.row h.cell (by decide) e) (ne_typ h.p2.row h.r3 (by decide) e)) (fun j hj b e => kp b (ltP b (h.q2 j hj b e)) (ne_bk (h.p2.apt.2.1 j hj) h.cell (by decide) e) (ne_typ (h.p2.apt.2.1 j hj) h.r3 (by decide) e)))
  r3 := by rw [List.length_append, List.length_singleton]; exact HR
  r4 := own_ofL h.r4 (fun b e => kp b (ltP b (h.f4 b e)) (ne_bk h.r4 h.cell (by decide) e) (fun q => h.n34 b q e))
  f1 := fun b e => .inl (h.f1 b e)
  f2 := fun b e => .inl (h.f2 b e)
  f3 := fun b e => (hvP b e).elim (fun q => .inl (h.f3 b q)) (fun q => .inr (.inr q))
  f4 := fun b e => .inl (h.f4 b e)
  q1 := fun j hj b e => .inl (h.q1 j hj b e)
  q2 := fun j hj b e => .inl (h.q2 j hj b e)
  n12 := h.n12
  n34 := fun b e => (hvP b e).elim (h.n34 b) (fun q e2 => by have := ltP b (h.f4 b e2); omega)
  c1 := by simp [h.c1]
  c2 := by simp [h.c2]
  c3 := h.c3
  el := fun k hk => by
   rw [List.length_append, List.length_singleton] at hk
   rw [getD_app, getD_app, getD_app, h.c1, h.c2]
   by_cases q : k < xss.length
   ·rw [if_pos q, if_pos q, if_pos q]; exact EL k q
   ·rw [if_neg q, if_neg q, if_neg q, show k - xss.length = 0 by omega]
    exact hu.of (fun b e => kq b (hQ b e)) (fun j hj b e => kq b (hQx j hj b e))
  pu := fun k hk b e => by
   rw [List.length_append, List.length_singleton] at hk
   rw [getD_app, h.c1] at e
   by_cases q : k < xss.length
   ·rw [if_pos q] at e; exact ⟨.inl (h.pu k q b e).1, (h.pu k q b e).2⟩
   ·rw [if_neg q, show k - xss.length = 0 by omega] at e
    have := hQ b e
    exact ⟨.inr (.inl this), (NQ b this).2.1, (NQ b this).2.2.1⟩
  ap := by
   rw [List.flatten_append, List.flatten_append]
   simp only [List.flatten_cons, List.flatten_nil, List.append_nil]
   refine apt_app AP (apt_ofT hu.apt (fun j hj b e => kq b (hQx j hj b e))) (fun i j b hi hj e1 e2 => ?_)
   exact (hn b (hQx j hj b e2)).1 (h.qx i hi b e1)
  qx := fun j hj b e => by
   rw [List.flatten_append, List.flatten_cons, List.flatten_nil, List.append_nil] at hj e
   rw [List.length_append] at hj
   rw [getD_app] at e
   by_cases q : j < xss.flatten.length
   ·rw [if_pos q] at e; exact .inl (h.qx j q b e)
   ·rw [if_neg q] at e; exact .inr (.inl (hQx _ (by omega) b e))
  dis := fun i j hi hj hne => by
   rw [List.length_append, List.length_singleton] at hi hj
   rw [getD_app, getD_app]
   by_cases qi : i < us.length <;> by_cases qj : j < us.length
   ·rw [if_pos qi, if_pos qj]; exact h.dis i j qi qj hne
   ·rw [if_pos qi, if_neg qj, show j - us.length = 0 by omega]
    show _ \/ _ ≠ u.ownBlock
    cases e : u.ownBlock with
    | none => cases (us.getD i undef).ownBlock <;> simp
    | some b => exact .inr (fun q => (hn b (hQ b e)).1 (h.pu i (by rw [<- h.c1]; exact qi) b q).1)
   ·rw [if_neg qi, if_pos qj, show i - us.length = 0 by omega]
    show u.ownBlock = none \/ u.ownBlock ≠ _
    cases e : u.ownBlock with
    | none => exact .inl rfl
    | some b => exact .inr (fun q => (hn b (hQ b e)).1 (h.pu j (by rw [<- h.c1]; exact qj) b q.symm).1)
   ·omega
  me := fun k hk => by
   obtain ⟨S, s1, s2⟩ := h.me k hk
   refine ⟨S, fun i hi => ?_, fun W hW => s2 W (fun i hi => ?_)⟩
   ·obtain ⟨z1, z2, z3, z4, z5, z6⟩ := s1 i hi
    exact ⟨.inl z1, z2, z3, z4, (fun e => (hvP i e).elim (fun q => z5 q) (fun q => by have := ltP i z1; omega)), z6⟩
   ·obtain ⟨z1, z2, z3, z4, z5, z6⟩ := s1 i hi
    exact (hW i hi).trans (kp i (ltP i z1) z2 z5)
  cr := fun i hi j hj b e => by
   rw [List.flatten_append, List.flatten_cons, List.flatten_nil, List.append_nil] at hj ⊢
   rw [List.length_append] at hj
   rw [getD_app]
   by_cases q : j < xss.flatten.length
   ·rw [if_pos q]; exact h.cr i hi j q b e
   ·rw [if_neg q]; exact fun e2 => (hn b (hQx _ (by omega) b e2)).1 (h.q1 i hi b e) }
theorem BkX.push4 (h : BkX B g P w v1 v2 v3 v4 x1 x2 l1 l2 us ms xss lss mss) {Q : Nat -> Prop} (hn : ∀ b, Q b -> ¬ P b /\ B <= b /\ b < w.heap.size) {u : Value} {ls : List (List Int)} (hu : ∀ W : World, (∀ b, Q b -> W.heap[b]? = w.heap[b]?) -> HL W u ls)
  {o : Obj} {w2 : World} {v' : Value} (hr : w2.ownsRow B 24 1 v' (ms.length + 1) (ms ++ [u])) (hg : (w.alloc o).grownBy w2 v4.ownBlock) (hw : v'.ownBlock = v4.ownBlock \/ (v'.ownBlock = some (w.heap.size + 1) /\ w.heap.size + 1 < w2.heap.size)) :
  BkX B g (fun b => P b \/ Q b \/ (w.heap.size <= b /\ b < w2.heap.size)) (w2.setCell ⟨g, 3, none⟩ v') v1 v2 v3 v' x1 x2 l1 l2 us (ms ++ [u]) xss lss (mss ++ [ls]) := by
 have hgl : g < w.heap.size := (Array.getElem?_eq_some_iff.1 h.cell).1
 have hBw : B <= w.heap.size := Nat.le_trans (h.pl g h.pg).1 (Nat.le_of_lt hgl)
 have hs2 : w.heap.size + 1 <= w2.heap.size := by have := hg.size; simpa using this
 have k2 : ∀ b, b < w.heap.size -> v4.ownBlock ≠ some b -> w2.heap[b]? = w.heap[b]? := fun b hb hne => (hg.block b (by simp; omega) (fun e => hne e.symm)).trans (heap_alloc_old w _ hb)
 have gvi : ∀ b, v4.ownBlock = some b -> b ≠ g := fun b e => ne_bk h.r4 h.cell (by decide) e
 have kp : ∀ b, b < w.heap.size -> b ≠ g -> v4.ownBlock ≠ some b -> (w2.setCell ⟨g, 3, none⟩ v').heap[b]? = w.heap[b]? := fun b hb hbg hne => (heap_setCell_other w2 _ _ _ (fun e => hbg e)).trans (k2 b hb hne)
 have c2 : w2.heap[g]? = some (.cells #[v1, v2, v3, v4] 27 (0, 0)) := (k2 g hgl (fun e => gvi g e rfl)).trans h.cell
 have hv' : ∀ b, v'.ownBlock = some b -> b ≠ g := fun b e => ne_bk hr c2 (by decide) e
 have hvP : ∀ b, v'.ownBlock = some b -> v4.ownBlock = some b \/ (w.heap.size <= b /\ b < w2.heap.size) := fun b e => by
  rcases hw with q | ⟨q, q2⟩
  ·exact .inl (q.symm.trans e)
  ·rw [q] at e; cases e; exact .inr ⟨by omega, q2⟩
 have ltP : ∀ b, P b -> b < w.heap.size := fun b q => (h.pl b q).2
 have EL : ∀ k, k < xss.length -> PX B (w2.setCell ⟨g, 3, none⟩ v') (us.getD k undef) (xss.getD k []) (lss.getD k []) := fun k hk => (h.el k hk).of (fun b e => kp b (ltP b (h.pu k hk b e).1) (ne_bk (h.el k hk).row h.cell (by decide) e) (ne_typ (h.el k hk).row h.r4 (by decide) e)) (fun j hj b e => by
   obtain ⟨q, hq, eq⟩ := memx hk hj
   exact kp b (ltP b (h.qx q hq b (by rw [eq]; exact e))) (ne_bk ((h.el k hk).apt.2.1 j hj) h.cell (by decide) e) (ne_typ ((h.el k hk).apt.2.1 j hj) h.r4 (by decide) e))
 have AP : Apt B (w2.setCell ⟨g, 3, none⟩ v') xss.flatten lss.flatten := apt_ofT h.ap (fun j hj b e => kp b (ltP b (h.qx j hj b e)) (ne_bk (h.ap.2.1 j hj) h.cell (by decide) e) (ne_typ (h.ap.2.1 j hj) h.r4 (by decide) e))
 have HR : (w2.setCell ⟨g, 3, none⟩ v').ownsRow B 24 1 v' (ms.length + 1) (ms ++ [u]) := own_ofL hr (fun b e => heap_setCell_other w2 _ _ _ (fun q => hv' b e q))
 have NQ : ∀ b, Q b -> b ≠ g /\ v1.ownBlock ≠ some b /\ v2.ownBlock ≠ some b /\ v3.ownBlock ≠ some b /\ v4.ownBlock ≠ some b := fun b q => ⟨fun e => (hn b q).1 (by rw [e]; exact h.pg), fun e => (hn b q).1 (h.f1 b e), fun e => (hn b q).1 (h.f2 b e), fun e => (hn b q).1 (h.f3 b e), fun e => (hn b q).1 (h.f4 b e)⟩
 have kq : ∀ b, Q b -> (w2.setCell ⟨g, 3, none⟩ v').heap[b]? = w.heap[b]? := fun b q => kp b (hn b q).2.2 (NQ b q).1 (NQ b q).2.2.2.2
 exact {
  cell := (heap_setCell_same w2 g 3 _ _ _ c2).trans rfl
  pg := .inl h.pg
  pl := fun b q => by
   have hsz : (w2.setCell ⟨g, 3, none⟩ v').heap.size = w2.heap.size := by simp
   rw [hsz]
   rcases q with q | q | q
   ·exact ⟨(h.pl b q).1, by have := ltP b q; omega⟩
   ·exact ⟨(hn b q).2.1, by have := (hn b q).2.2; omega⟩
   ·exact ⟨by omega, q.2⟩
  p1 := (h.p1.of (fun b e => kp b (ltP b (h.f1 b e)) (ne_bk h.p1.row h.cell (by decide) e) (ne_typ h.p1.row h.r4 (by decide) e)) (fun j hj b e => kp b (ltP b (h.q1 j hj b e)) (ne_bk (h.p1.apt.2.1 j hj) h.cell (by decide) e) (ne_typ (h.p1.apt.2.1 j hj) h.r4 (by decide) e)))
  p2 := (h.p2.of (fun b e => kp b (ltP b (h.f2 b e)) (ne_bk h.p2.row h.cell (by decide) e) (ne_typ h.p2.row h.r4 (by decide) e)) (fun j hj b e => kp b (ltP b (h.q2 j hj b e)) (ne_bk (h.p2.apt.2.1 j hj) h.cell (by decide) e) (ne_typ (h.p2.apt.2.1 j hj) h.r4 (by decide) e)))
  r3 := own_ofL h.r3 (fun b e => kp b (ltP b (h.f3 b e)) (ne_bk h.r3 h.cell (by decide) e) (h.n34 b e))
  r4 := by rw [List.length_append, List.length_singleton]; exact HR
  f1 := fun b e => .inl (h.f1 b e)
  f2 := fun b e => .inl (h.f2 b e)
  f3 := fun b e => .inl (h.f3 b e)
  f4 := fun b e => (hvP b e).elim (fun q => .inl (h.f4 b q)) (fun q => .inr (.inr q))
  q1 := fun j hj b e => .inl (h.q1 j hj b e)
  q2 := fun j hj b e => .inl (h.q2 j hj b e)
  n12 := h.n12
  n34 := fun b e e2 => (hvP b e2).elim (h.n34 b e) (fun q => by have := ltP b (h.f3 b e); omega)
  c1 := h.c1
  c2 := h.c2
  c3 := by simp [h.c3]
  el := EL
  pu := fun k hk b e => ⟨.inl (h.pu k hk b e).1, (h.pu k hk b e).2⟩
  ap := AP
  qx := fun j hj b e => .inl (h.qx j hj b e)
  dis := h.dis
  me := fun k hk => by
   rw [List.length_append, List.length_singleton] at hk
   rw [getD_app, getD_app, h.c3]
   by_cases q : k < mss.length
   ·rw [if_pos q, if_pos q]
    obtain ⟨S, s1, s2⟩ := h.me k q
    refine ⟨S, fun i hi => ?_, fun W hW => s2 W (fun i hi => ?_)⟩
    ·obtain ⟨z1, z2, z3, z4, z5, z6⟩ := s1 i hi
     exact ⟨.inl z1, z2, z3, z4, z5, (fun e => (hvP i e).elim (fun q => z6 q) (fun q => by have := ltP i z1; omega))⟩
    ·obtain ⟨z1, z2, z3, z4, z5, z6⟩ := s1 i hi
     exact (hW i hi).trans (kp i (ltP i z1) z2 z6)
   ·rw [if_neg q, if_neg q, show k - mss.length = 0 by omega]
    refine ⟨Q, fun i hi => ⟨.inr (.inl hi), (NQ i hi).1, (NQ i hi).2.1, (NQ i hi).2.2.1, (NQ i hi).2.2.2.1, (fun e => (hvP i e).elim (NQ i hi).2.2.2.2 (fun q => by have := (hn i hi).2.2; omega))⟩, fun W hW => hu W (fun i hi => (hW i hi).trans (kq i hi))⟩
  cr := h.cr }
end
end Go.Proofs.YtcpchhigiohlnaaDoor
namespace Go.Proofs.YtcpchhigiohlnaaDoor
open Go Go.RowKit
theorem ask_key (w : World) (g : Nat) (o : Tc) (ho : o.ok) (ht : HTc w o) (hk : KC w) (hc : o.cl = 3) : Calls Tryd.prog 5 #[.pointer (some ⟨g, 0, none⟩), .agg o.cs.toArray] w fun e w' => e = .returned (.bool true) /\ Below w.heap.size w w' := by
 have HO := hid ho
 have HK := hid hk
 have HT := hid ht
 obtain ⟨hp, hd⟩ := ht
 have HP := hid hp
 have HD := hid hd
 obtain ⟨pp, cp, epv, hpc, _⟩ := hp.open
 obtain ⟨pd, cd, edv, hdc, _⟩ := hd.open
 obtain ⟨A, HA⟩ : ∃ A, Hid (o.cs.toArray = A) := ⟨_, rfl⟩
 have SZA : Hid ((Tryd.prog.info? 37).map (·.size) = some A.size) := by refine hid ?_; rw [<- HA.out, List.size_toArray, Tc.len ho]; exact size_op
 rw [HA.out]
 obtain ⟨ps, HPS⟩ : ∃ x, Hid (o.ps = x) := ⟨_, rfl⟩
 obtain ⟨ds, HDS⟩ : ∃ x, Hid (o.ds = x) := ⟨_, rfl⟩
 obtain ⟨t, HTT⟩ : ∃ x, Hid (o.tg = x) := ⟨_, rfl⟩
 obtain ⟨cl, HCL⟩ : ∃ x, Hid (o.cl = x) := ⟨_, rfl⟩
 rw [HCL.out] at hc
 have hps : ps.flatten.length + ps.length + 1 <= 1048576 := by rw [<- HPS.out]; exact ho.ps
 have hds : ds.length <= 1048576 := by rw [<- HDS.out]; exact ho.ds
 rw [HPS.out] at hpc epv HP
 rw [HDS.out] at hdc edv HD
 rw [epv] at HP
 rw [edv] at HD
 have HPSL := hid hps
 have HDSL := hid hds
 obtain ⟨np, HNP⟩ : ∃ x, Hid (ps.length = x) := ⟨_, rfl⟩
 obtain ⟨nd, HND⟩ : ∃ x, Hid (ds.length = x) := ⟨_, rfl⟩
 rw [HNP.out] at epv HP hpc
 rw [HND.out] at edv HD hdc hds
 have CELL : Hid (∀ (W : World) (b : Nat), W.heap[b]? = some (.cells A 37 (0, 0)) -> W.cell? ⟨b, 0, none⟩ = some (.int .i64 cl) /\ W.cell? ⟨b, 1, none⟩ = some (.int .u8 (t : Int)) /\ W.cell? ⟨b, 2, none⟩ = some (.slice pp np cp) /\ W.cell? ⟨b, 3, none⟩ = some (.slice pd nd cd)) := hid fun W b hW => by
  rw [<- HA.out] at hW
  obtain ⟨q0, q1, q2, q3, _⟩ := Tc.at hW
  rw [epv] at q2
  rw [edv] at q3
  rw [HTT.out] at q1
  rw [HCL.out] at q0
  exact ⟨q0, q1, q2, q3⟩
 obtain ⟨W0, hW0⟩ : ∃ W0, Hid (w.alloc (.cells A 37) = W0) := ⟨_, rfl⟩
 have B0 : Hid (Below w.heap.size w W0) := by rw [<- hW0.out]; exact (Below.refl _ w).alloc (Nat.le_refl _) _
 have X0 : Hid (W0.heap[w.heap.size]? = some (.cells A 37 (0, 0))) := by rw [<- hW0.out]; exact heap_alloc_new w _
 have S0 : Hid (w.heap.size < W0.heap.size) := hid (Array.getElem?_eq_some_iff.1 X0.out).1
 obtain ⟨c0, c1, c2, c3⟩ := CELL.out W0 _ X0.out
 subst hc
 have C1 := lkeyC W0 o HO.out (HT.out.below B0.out) (HK.out.below B0.out)
 rw [HA.out] at C1
 have C1 := hid C1
 clear ho hk hp hd hps hds
 go_enter Tryd.func5, Tryd.ntmps5
 go_wp2_with (first | rw [hW0.out] | (refine wpList_load_row rfl 37 _ rfl w.heap.size rfl 37 A (0, 0) _ X0.out Tryd.underlying37 rfl SZA.out ?_) | fail)
 refine C1.out.mono ?_
 rintro e w1 ⟨rfl, hb1⟩
 have B1 := hid (B0.out.trans (hb1.mono B0.out.size))
 clear hb1 C1
 go_wp2
 go_ret
 exact ⟨rfl, B1.out⟩
theorem ask_each (w : World) (g : Nat) (o : Tc) (ho : o.ok) (ht : HTc w o) (hk : KC w) (hc : o.cl ≠ 0 /\ o.cl ≠ 1 /\ o.cl ≠ 2 /\ o.cl ≠ 3 /\ o.cl ≠ 4) : Calls Tryd.prog 5 #[.pointer (some ⟨g, 0, none⟩), .agg o.cs.toArray] w fun e w' => e = .returned (.bool true) /\ Below w.heap.size w w' := by
 have HO := hid ho
 have HK := hid hk
 have HT := hid ht
 obtain ⟨hp, hd⟩ := ht
 have HP := hid hp
 have HD := hid hd
 obtain ⟨pp, cp, epv, hpc, _⟩ := hp.open
 obtain ⟨pd, cd, edv, hdc, _⟩ := hd.open
 obtain ⟨A, HA⟩ : ∃ A, Hid (o.cs.toArray = A) := ⟨_, rfl⟩
 have SZA : Hid ((Tryd.prog.info? 37).map (·.size) = some A.size) := by refine hid ?_; rw [<- HA.out, List.size_toArray, Tc.len ho]; exact size_op
 rw [HA.out]
 obtain ⟨ps, HPS⟩ : ∃ x, Hid (o.ps = x) := ⟨_, rfl⟩
 obtain ⟨ds, HDS⟩ : ∃ x, Hid (o.ds = x) := ⟨_, rfl⟩
 obtain ⟨t, HTT⟩ : ∃ x, Hid (o.tg = x) := ⟨_, rfl⟩
 obtain ⟨cl, HCL⟩ : ∃ x, Hid (o.cl = x) := ⟨_, rfl⟩
 rw [HCL.out] at hc
 have hps : ps.flatten.length + ps.length + 1 <= 1048576 := by rw [<- HPS.out]; exact ho.ps
 have hds : ds.length <= 1048576 := by rw [<- HDS.out]; exact ho.ds
 rw [HPS.out] at hpc epv HP
 rw [HDS.out] at hdc edv HD
 rw [epv] at HP
 rw [edv] at HD
 have HPSL := hid hps
 have HDSL := hid hds
 obtain ⟨np, HNP⟩ : ∃ x, Hid (ps.length = x) := ⟨_, rfl⟩
 obtain ⟨nd, HND⟩ : ∃ x, Hid (ds.length = x) := ⟨_, rfl⟩
 rw [HNP.out] at epv HP hpc
 rw [HND.out] at edv HD hdc hds
 have CELL : Hid (∀ (W : World) (b : Nat), W.heap[b]? = some (.cells A 37 (0, 0)) -> W.cell? ⟨b, 0, none⟩ = some (.int .i64 cl) /\ W.cell? ⟨b, 1, none⟩ = some (.int .u8 (t : Int)) /\ W.cell? ⟨b, 2, none⟩ = some (.slice pp np cp) /\ W.cell? ⟨b, 3, none⟩ = some (.slice pd nd cd)) := hid fun W b hW => by
  rw [<- HA.out] at hW
  obtain ⟨q0, q1, q2, q3, _⟩ := Tc.at hW
  rw [epv] at q2
  rw [edv] at q3
  rw [HTT.out] at q1
  rw [HCL.out] at q0
  exact ⟨q0, q1, q2, q3⟩
 obtain ⟨W0, hW0⟩ : ∃ W0, Hid (w.alloc (.cells A 37) = W0) := ⟨_, rfl⟩
 have B0 : Hid (Below w.heap.size w W0) := by rw [<- hW0.out]; exact (Below.refl _ w).alloc (Nat.le_refl _) _
 have X0 : Hid (W0.heap[w.heap.size]? = some (.cells A 37 (0, 0))) := by rw [<- hW0.out]; exact heap_alloc_new w _
 have S0 : Hid (w.heap.size < W0.heap.size) := hid (Array.getElem?_eq_some_iff.1 X0.out).1
 obtain ⟨c0, c1, c2, c3⟩ := CELL.out W0 _ X0.out
 obtain ⟨h0, h1, h2, h3, h4⟩ := hc
 have e0 : (cl == 0) = false := by simpa using h0
 have e1 : (cl == 1) = false := by simpa using h1
 have e2 : (cl == 2) = false := by simpa using h2
 have e3 : (cl == 3) = false := by simpa using h3
 have e4 : (cl == 4) = false := by simpa using h4
 have C1 := leachC W0 o HO.out (HT.out.below B0.out) (HK.out.below B0.out)
 rw [HA.out] at C1
 have C1 := hid C1
 clear ho hk hp hd hps hds
 clear h0 h1 h2 h3 h4
 go_enter Tryd.func5, Tryd.ntmps5
 go_wp2_with (first | rw [hW0.out] | (refine wpList_load_row rfl 37 _ rfl w.heap.size rfl 37 A (0, 0) _ X0.out Tryd.underlying37 rfl SZA.out ?_) | fail)
 refine C1.out.mono ?_
 rintro e w1 ⟨rfl, hb1⟩
 have B1 := hid (B0.out.trans (hb1.mono B0.out.size))
 clear hb1 C1
 go_wp2
 go_ret
 exact ⟨rfl, B1.out⟩
theorem ask_word (w : World) (g : Nat) (o : Tc) (ho : o.ok) (ht : HTc w o) (hk : KC w) (hc : o.cl = 4) : Calls Tryd.prog 5 #[.pointer (some ⟨g, 0, none⟩), .agg o.cs.toArray] w fun e w' => e = .returned (.bool true) /\ Below w.heap.size w w' := by
 have HO := hid ho
 have HK := hid hk
 have HT := hid ht
 obtain ⟨hp, hd⟩ := ht
 have HP := hid hp
 have HD := hid hd
 obtain ⟨pp, cp, epv, hpc, _⟩ := hp.open
 obtain ⟨pd, cd, edv, hdc, _⟩ := hd.open
 obtain ⟨A, HA⟩ : ∃ A, Hid (o.cs.toArray = A) := ⟨_, rfl⟩
 have SZA : Hid ((Tryd.prog.info? 37).map (·.size) = some A.size) := by refine hid ?_; rw [<- HA.out, List.size_toArray, Tc.len ho]; exact size_op
 rw [HA.out]
 obtain ⟨ps, HPS⟩ : ∃ x, Hid (o.ps = x) := ⟨_, rfl⟩
 obtain ⟨ds, HDS⟩ : ∃ x, Hid (o.ds = x) := ⟨_, rfl⟩
 obtain ⟨t, HTT⟩ : ∃ x, Hid (o.tg = x) := ⟨_, rfl⟩
 obtain ⟨cl, HCL⟩ : ∃ x, Hid (o.cl = x) := ⟨_, rfl⟩
 rw [HCL.out] at hc
 have hps : ps.flatten.length + ps.length + 1 <= 1048576 := by rw [<- HPS.out]; exact ho.ps
 have hds : ds.length <= 1048576 := by rw [<- HDS.out]; exact ho.ds
 rw [HPS.out] at hpc epv HP
 rw [HDS.out] at hdc edv HD
 rw [epv] at HP
 rw [edv] at HD
 have HPSL := hid hps
 have HDSL := hid hds
 obtain ⟨np, HNP⟩ : ∃ x, Hid (ps.length = x) := ⟨_, rfl⟩
 obtain ⟨nd, HND⟩ : ∃ x, Hid (ds.length = x) := ⟨_, rfl⟩
 rw [HNP.out] at epv HP hpc
 rw [HND.out] at edv HD hdc hds
 have CELL : Hid (∀ (W : World) (b : Nat), W.heap[b]? = some (.cells A 37 (0, 0)) -> W.cell? ⟨b, 0, none⟩ = some (.int .i64 cl) /\ W.cell? ⟨b, 1, none⟩ = some (.int .u8 (t : Int)) /\ W.cell? ⟨b, 2, none⟩ = some (.slice pp np cp) /\ W.cell? ⟨b, 3, none⟩ = some (.slice pd nd cd)) := hid fun W b hW => by
  rw [<- HA.out] at hW
  obtain ⟨q0, q1, q2, q3, _⟩ := Tc.at hW
  rw [epv] at q2
  rw [edv] at q3
  rw [HTT.out] at q1
  rw [HCL.out] at q0
  exact ⟨q0, q1, q2, q3⟩
 obtain ⟨W0, hW0⟩ : ∃ W0, Hid (w.alloc (.cells A 37) = W0) := ⟨_, rfl⟩
 have B0 : Hid (Below w.heap.size w W0) := by rw [<- hW0.out]; exact (Below.refl _ w).alloc (Nat.le_refl _) _
 have X0 : Hid (W0.heap[w.heap.size]? = some (.cells A 37 (0, 0))) := by rw [<- hW0.out]; exact heap_alloc_new w _
 have S0 : Hid (w.heap.size < W0.heap.size) := hid (Array.getElem?_eq_some_iff.1 X0.out).1
 obtain ⟨c0, c1, c2, c3⟩ := CELL.out W0 _ X0.out
 subst hc
 have C1 := hid (word_tag W0 t)
 have C2 := hid (rwordC W0 t)
 clear ho hk hp hd hps hds
 go_enter Tryd.func5, Tryd.ntmps5
 go_wp2_with (first | rw [hW0.out] | fail)
 refine C1.out.mono ?_
 rintro e w1 ⟨rfl, hw1⟩
 have hw1' := hw1.symm
 subst hw1'
 clear hw1 C1
 go_wp2_with fail
 refine C2.out.mono ?_
 rintro e w2 ⟨rfl, hw2⟩
 have hw2' := hw2.symm
 subst hw2'
 clear hw2 C2
 go_wp2
 go_ret
 exact ⟨rfl, B0.out⟩
end Go.Proofs.YtcpchhigiohlnaaDoor
