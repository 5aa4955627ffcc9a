/- Of the road to rsAny_holds: GsPk, RsMix, PwKit, AppL, RegN, EvIn, RsProd, RsEl, RsEnc, GsUl, GsBk, GsHm. -/
import Derived.Test.YtbiplflejijbeaaG06
import Derived.Test.YtbiplflejijbeaaG00
import Derived.Laws.AppendOwn
import Derived.Test.YtbiplflejijbeaaG03
import Derived.Test.YtbiplflejijbeaaG04
import Derived.TacticsIn
import Derived.OrdersIn
import Derived.ControlIn
import Derived.WalkMore
import Derived.Deep.LoopGhost
set_option linter.unusedVariables false
set_option linter.unusedSimpArgs false
namespace Go.Proofs.Ytbiplflejijbeaa
open Go Go.RowKit
theorem within_ok (w : World) (i n : Nat) (h : i < n) : Calls Try.prog 42 #[.int .i64 (i : Int), .int .i64 (n : Int)] w fun e w' => e = .returned (.bool true) ∧ w' = w := by
  have q1 : (0 : Int) ≤ (i : Int) := by omega
  have q2 : (i : Int) < (n : Int) := by omega
  go_enter Try.func42, Try.ntmps42
  go_wp2
  go_ret
  exact ⟨by simp [h], rfl⟩
theorem bk_setG {w : World} {b : Nat} {cs : Array Value} {t : TypeId} (h : w.heap[b]? = some (.cells cs t (0, 0))) (i : Nat) (v : Value) : (w.setCell ⟨b, i, none⟩ v).heap[b]? = some (.cells (cs.setIfInBounds i v) t (0, 0)) := by
  simp [World.setCell, Array.getElem?_modify, h]
def pkL (l : List Int) (c : Nat) (ns : Nat → Nat) (k : Nat) : List Int := catL (fun i => rwL l c (ns i)) k
theorem pkL_len {l : List Int} {r c : Nat} {ns : Nat → Nat} (hl : l.length = r * c) {k : Nat} (h : ∀ i, i < k → ns i < r) : (pkL l c ns k).length = k * c := catL_len fun i hi => rwL_length hl (h i hi)
set_option maxRecDepth 100000 in
set_option maxHeartbeats 8000000 in
theorem bpick_any (w : World) (g r c : Nat) (l : List Int) (gn on n cn : Nat) (ns : Nat → Nat) (h : HMt w g r c l) (hr : r ≤ 256) (hc1 : 1 ≤ c) (hc : c ≤ 256) (hn1 : 1 ≤ n) (hn : n ≤ 256) (hcn : n ≤ cn) (hcn2 : cn ≤ 9223372036854775807)
    (hv : ∀ i, i < n → w.cell? ⟨gn, on + i, none⟩ = some (.int .i64 (ns i : Int))) (hns : ∀ i, i < n → ns i < r) :
    Calls Try.prog 24 #[.pointer (some ⟨g, 0, none⟩), .slice (some ⟨gn, on, none⟩) n cn] w fun e w' => ∃ g', e = .returned (.tuple #[.pointer (some ⟨g', 0, none⟩), .int .i64 0]) ∧ w.heap.size ≤ g' ∧ HMt w' g' n c (pkL l c ns n) ∧ Below w.heap.size w w' := by
  have H := hid h
  have CM := hid (bmade_any w g r c l h)
  have CB := hid (mayBe_ok w n hn1 hn)
  have HV := hid hv
  have HNS := hid hns
  obtain ⟨hl, v0, hh, hv0⟩ := h
  have HL := hid hl
  have HBY := hid hv0.2
  have hgw := (Array.getElem?_eq_some_iff.1 hh).1
  have C0 : Hid (w.cell? ⟨g, 0, none⟩ = some (.iface 47 (.agg #[]))) := hid (by rw [cell_of_row _ _ _ _ _ _ hh]; rfl)
  have C1 : Hid (w.cell? ⟨g, 1, none⟩ = some (.int .i64 (r : Int))) := hid (by rw [cell_of_row _ _ _ _ _ _ hh]; rfl)
  have C2 : Hid (w.cell? ⟨g, 2, none⟩ = some (.int .i64 (c : Int))) := hid (by rw [cell_of_row _ _ _ _ _ _ hh]; rfl)
  clear hv0 hh hl hv hns
  go_enter Try.func24, Try.ntmps24
  go_wp2_with fail
  refine CM.out.mono ?_
  rintro e wq ⟨rfl, hwq⟩
  rw [hwq]
  clear hwq wq CM
  go_wp2_with fail
  refine CB.out.mono ?_
  rintro e wq ⟨rfl, hwq⟩
  rw [hwq]
  clear hwq wq CB
  go_wp2_with fail
  refine wp_region_held_drew (S := (fun W : World => W.cell? ⟨g, 0, none⟩ = some (.iface 47 (.agg #[])) ∧ W.cell? ⟨g, 2, none⟩ = some (.int .i64 (c : Int)))) (by kernel_rfl) ⟨C0.out, C2.out⟩ (fun hHeld => ?_)
  have HS := hid hHeld
  clear hHeld
  change wpAnyH _ _ _ _ _ _ _ _ (World.drew _)
  refine wpAnyH_take (i := 0) (v := ?_) rfl (by kernel_rfl) (by kernel_rfl) (by kernel_rfl) (fun _ _ _ h => h) (Or.inl ⟨by rfl, ?q0⟩) HS.out ?_
  case q0 => intro w hSw; obtain ⟨hc0, hc1⟩ := hSw; go_simp; rfl
  simp only [Act.put, List.getElem_toArray, List.getElem_cons_zero, List.getElem_cons_succ, List.setIfInBounds_toArray, List.set_cons_zero, List.set_cons_succ]
  refine wpAnyH_take (i := 1) (v := ?_) rfl (by kernel_rfl) (by kernel_rfl) (by kernel_rfl) (fun _ _ _ h => h) (Or.inl ⟨by rfl, ?q1⟩) HS.out ?_
  case q1 => intro w hSw; obtain ⟨hc0, hc1⟩ := hSw; go_simp; rfl
  simp only [Act.put, List.getElem_toArray, List.getElem_cons_zero, List.getElem_cons_succ, List.setIfInBounds_toArray, List.set_cons_zero, List.set_cons_succ]
  refine wpAnyH_take (i := 2) (v := ?_) rfl (by kernel_rfl) (by kernel_rfl) (by kernel_rfl) (fun _ _ _ h => h) (Or.inl ⟨by rfl, ?q2⟩) HS.out ?_
  case q2 => intro w hSw; obtain ⟨hc0, hc1⟩ := hSw; go_simp; rfl
  simp only [Act.put, List.getElem_toArray, List.getElem_cons_zero, List.getElem_cons_succ, List.setIfInBounds_toArray, List.set_cons_zero, List.set_cons_succ]
  refine wpAnyH_take (i := 3) (v := ?_) rfl (by kernel_rfl) (by kernel_rfl) (by kernel_rfl) (fun _ _ _ h => h) (Or.inl ⟨by rfl, ?q3⟩) HS.out ?_
  case q3 => intro w hSw; obtain ⟨hc0, hc1⟩ := hSw; go_simp; rfl
  simp only [Act.put, List.getElem_toArray, List.getElem_cons_zero, List.getElem_cons_succ, List.setIfInBounds_toArray, List.set_cons_zero, List.set_cons_succ]
  refine wpAnyH_take (i := 4) (v := ?_) rfl (by kernel_rfl) (by kernel_rfl) (by kernel_rfl) (fun _ _ _ h => h) (Or.inl ⟨by rfl, ?q4⟩) HS.out ?_
  case q4 => intro w hSw; obtain ⟨hc0, hc1⟩ := hSw; go_simp; rfl
  simp only [Act.put, List.getElem_toArray, List.getElem_cons_zero, List.getElem_cons_succ, List.setIfInBounds_toArray, List.set_cons_zero, List.set_cons_succ]
  refine wpAnyH_take (i := 5) (v := ?_) rfl (by kernel_rfl) (by kernel_rfl) (by kernel_rfl) (fun _ _ _ h => h) (Or.inl ⟨by rfl, ?q5⟩) HS.out ?_
  case q5 => intro w hSw; obtain ⟨hc0, hc1⟩ := hSw; go_simp; rfl
  simp only [Act.put, List.getElem_toArray, List.getElem_cons_zero, List.getElem_cons_succ, List.setIfInBounds_toArray, List.set_cons_zero, List.set_cons_succ]
  refine wpAnyH_take (i := 6) (v := ?_) rfl (by kernel_rfl) (by kernel_rfl) (by kernel_rfl) (fun _ _ _ h => h) (Or.inl ⟨by rfl, ?q6⟩) HS.out ?_
  case q6 => intro w hSw; obtain ⟨hc0, hc1⟩ := hSw; go_simp; rfl
  simp only [Act.put, List.getElem_toArray, List.getElem_cons_zero, List.getElem_cons_succ, List.setIfInBounds_toArray, List.set_cons_zero, List.set_cons_succ]
  refine wpAnyH_take (i := 7) (v := ?_) rfl (by kernel_rfl) (by kernel_rfl) (by kernel_rfl) (fun _ _ _ h => h) (Or.inl ⟨by rfl, ?q7⟩) HS.out ?_
  case q7 => intro w hSw; obtain ⟨hc0, hc1⟩ := hSw; go_simp; rfl
  simp only [Act.put, List.getElem_toArray, List.getElem_cons_zero, List.getElem_cons_succ, List.setIfInBounds_toArray, List.set_cons_zero, List.set_cons_succ]
  refine wpAnyH_take (i := 8) (v := ?_) rfl (by kernel_rfl) (by kernel_rfl) (by kernel_rfl) (fun _ _ _ h => h) (Or.inl ⟨by rfl, ?q8⟩) HS.out ?_
  case q8 => intro w hSw; obtain ⟨hc0, hc1⟩ := hSw; go_simp; rfl
  simp only [Act.put, List.getElem_toArray, List.getElem_cons_zero, List.getElem_cons_succ, List.setIfInBounds_toArray, List.set_cons_zero, List.set_cons_succ]
  refine wpAnyH_take (i := 9) (v := ?_) rfl (by kernel_rfl) (by kernel_rfl) (by kernel_rfl) (fun _ _ _ h => h) (Or.inl ⟨by rfl, ?q9⟩) HS.out ?_
  case q9 => intro w hSw; obtain ⟨hc0, hc1⟩ := hSw; go_simp; rfl
  simp only [Act.put, List.getElem_toArray, List.getElem_cons_zero, List.getElem_cons_succ, List.setIfInBounds_toArray, List.set_cons_zero, List.set_cons_succ]
  refine wpAnyH_take (i := 10) (v := ?_) rfl (by kernel_rfl) (by kernel_rfl) (by kernel_rfl) (fun _ _ _ h => h) (Or.inl ⟨by rfl, ?q10⟩) HS.out ?_
  case q10 => intro w hSw; obtain ⟨hc0, hc1⟩ := hSw; go_simp; rfl
  simp only [Act.put, List.getElem_toArray, List.getElem_cons_zero, List.getElem_cons_succ, List.setIfInBounds_toArray, List.set_cons_zero, List.set_cons_succ]
  refine wpAnyH_ready (rs := [11]) (by kernel_rfl) (by simp) ?_
  refine AllReadyH.cons rfl (fun K hK => ?_) AllReadyH.nil
  replace hK := hid hK
  go_simp
  obtain ⟨w5, HW5⟩ : ∃ x, Hid ((w.alloc (.cells #[.iface 47 (.agg #[]), .int .i64 (n : Int), .int .i64 (c : Int), .slice none 0 0] 71)).drew = x) := ⟨_, hid rfl⟩
  have B5 : Hid (Below w.heap.size w w5) := by rw [← HW5.out]; exact hid ((Below.refl _ _).alloc (Nat.le_refl _) _).drew
  have P5 : Hid (w5.heap[w.heap.size]? = some (.cells #[.iface 47 (.agg #[]), .int .i64 (n : Int), .int .i64 (c : Int), .slice none 0 0] 71 (0, 0))) := by rw [← HW5.out]; exact hid (heap_alloc_new w _)
  have S5 : Hid (w5.cell? ⟨g, 0, none⟩ = some (.iface 47 (.agg #[])) ∧ w5.cell? ⟨g, 2, none⟩ = some (.int .i64 (c : Int))) := hid ⟨(B5.out.cell (p := ⟨g, 0, none⟩) hgw).trans C0.out, (B5.out.cell (p := ⟨g, 2, none⟩) hgw).trans C2.out⟩
  rw [HW5.out]
  obtain ⟨gp, HGP⟩ : ∃ x, Hid (w.heap.size = x) := ⟨_, hid rfl⟩
  have hgp := Nat.le_of_eq HGP.out
  rw [HGP.out] at P5
  rw [HGP.out]
  refine hK.out _ _ S5.out (fun _ => ?_)
  clear hK K HS
  have HS := S5
  try simp only [Act.put, List.getElem_toArray, List.getElem_cons_zero, List.getElem_cons_succ, List.setIfInBounds_toArray, List.set_cons_zero, List.set_cons_succ]
  refine wpAnyH_take (i := 12) (v := ?_) rfl (by kernel_rfl) (by kernel_rfl) (by kernel_rfl) (fun _ _ _ h => h) (Or.inl ⟨by rfl, ?q12⟩) HS.out ?_
  case q12 => intro w hSw; obtain ⟨hc0, hc1⟩ := hSw; go_simp; rfl
  simp only [Act.put, List.getElem_toArray, List.getElem_cons_zero, List.getElem_cons_succ, List.setIfInBounds_toArray, List.set_cons_zero, List.set_cons_succ]
  refine wpAnyH_done (by kernel_rfl) ?_ _
  go_wp2_with fail
  have O0 : Hid (w5.ownsRow w.heap.size 5 1 (.slice none 0 0) (0 * c) ((pkL l c ns 0).map (Value.int .u8))) := hid (by rw [Nat.zero_mul]; exact World.ownsRow_nil _ _ _ _)
  go_loopw [30] (fun i wr => ∃ k : Nat, k ≤ n ∧ i = .int .i64 (k : Int) ∧ (∃ v, Hid (wr.heap[gp]? = some (.cells #[.iface 47 (.agg #[]), .int .i64 (n : Int), .int .i64 (c : Int), v] 71 (0, 0))) ∧ Hid (wr.ownsRow w.heap.size 5 1 v (k * c) ((pkL l c ns k).map (Value.int .u8)))) ∧ Hid (Below w.heap.size w wr)) (fun i _ => n - (intOf i).toNat)
  case atStart => exact ⟨0, Nat.zero_le _, rfl, ⟨_, P5, O0⟩, B5⟩
  case round =>
    clear O0 P5 B5 S5 HS
    obtain ⟨k, hk, rfl, ⟨v, HP, HO⟩, HB5⟩ := hrel
    by_cases hkn : k < n
    · have q1 : wr.cell? ⟨gn, on + k, none⟩ = some (.int .i64 (ns k : Int)) := (HB5.out.cell (p := ⟨gn, on + k, none⟩) (World.block_lt_of_cell? w _ (HV.out k hkn))).trans (HV.out k hkn)
      have q2 : wr.cell? ⟨g, 1, none⟩ = some (.int .i64 (r : Int)) := (HB5.out.cell (p := ⟨g, 1, none⟩) hgw).trans C1.out
      obtain ⟨m, HM⟩ : ∃ x, Hid (ns k = x) := ⟨_, hid rfl⟩
      have hm : m < r := by rw [← HM.out]; exact HNS.out k hkn
      rw [HM.out] at q1
      have CW := hid (within_ok wr m r hm)
      have M1 := hid (H.out.below HB5.out)
      have CR := hid (brow_any wr.drew g r c l m (M1.out.below (Below.refl _ _).drew) hm hr hc1 hc)
      obtain ⟨p, cp, ev⟩ := own_slc HO.out
      subst ev
      obtain ⟨kc, HKC⟩ : ∃ x, Hid (k * c = x) := ⟨_, hid rfl⟩
      have hkc : kc ≤ 65536 := by rw [← HKC.out]; exact Nat.mul_le_mul (show k ≤ 256 by omega) hc
      rw [HKC.out] at HO HP
      have X3 : Hid (wr.drew.cell? ⟨gp, 3, none⟩ = some (.slice p kc cp)) := hid (by rw [cell_of_row _ _ _ _ _ _ (show wr.drew.heap[gp]? = _ from HP.out)]; rfl)
      go_wp2_with fail
      refine CW.out.mono ?_
      rintro e wq ⟨rfl, hwq⟩
      rw [hwq]
      clear hwq wq CW
      go_wp2_with fail
      refine wp_region_last (S := (fun W : World => W.cell? ⟨gp, 3, none⟩ = some (.slice p kc cp))) 11 (by kernel_rfl) X3.out (fun hHeld => ?_)
      have HS := hid hHeld
      clear hHeld
      change wpAnyL _ _ _ _ _ _ _ _ _ (World.drew _)
      refine wpAnyL_take (i := 0) (v := ?_) rfl (by kernel_rfl) (by kernel_rfl) (by kernel_rfl) (by kernel_rfl) (by kernel_rfl) (fun _ _ _ h => h) (Or.inl ⟨by rfl, ?q0⟩) HS.out ?_
      case q0 => intro w hSw; have hc0 := hSw; go_simp; rfl
      simp only [Act.put, List.getElem_toArray, List.getElem_cons_zero, List.getElem_cons_succ, List.setIfInBounds_toArray, List.set_cons_zero, List.set_cons_succ]
      refine wpAnyL_take (i := 1) (v := ?_) rfl (by kernel_rfl) (by kernel_rfl) (by kernel_rfl) (by kernel_rfl) (by kernel_rfl) (fun _ _ _ h => h) (Or.inl ⟨by rfl, ?q1⟩) HS.out ?_
      case q1 => intro w hSw; have hc0 := hSw; go_simp; rfl
      simp only [Act.put, List.getElem_toArray, List.getElem_cons_zero, List.getElem_cons_succ, List.setIfInBounds_toArray, List.set_cons_zero, List.set_cons_succ]
      refine wpAnyL_take (i := 2) (v := ?_) rfl (by kernel_rfl) (by kernel_rfl) (by kernel_rfl) (by kernel_rfl) (by kernel_rfl) (fun _ _ _ h => h) (Or.inl ⟨by rfl, ?q2⟩) HS.out ?_
      case q2 => intro w hSw; have hc0 := hSw; go_simp; rfl
      simp only [Act.put, List.getElem_toArray, List.getElem_cons_zero, List.getElem_cons_succ, List.setIfInBounds_toArray, List.set_cons_zero, List.set_cons_succ]
      refine wpAnyL_take (i := 3) (v := ?_) rfl (by kernel_rfl) (by kernel_rfl) (by kernel_rfl) (by kernel_rfl) (by kernel_rfl) (fun _ _ _ h => h) (Or.inl ⟨by rfl, ?q3⟩) HS.out ?_
      case q3 => intro w hSw; have hc0 := hSw; go_simp; rfl
      simp only [Act.put, List.getElem_toArray, List.getElem_cons_zero, List.getElem_cons_succ, List.setIfInBounds_toArray, List.set_cons_zero, List.set_cons_succ]
      refine wpAnyL_take (i := 4) (v := ?_) rfl (by kernel_rfl) (by kernel_rfl) (by kernel_rfl) (by kernel_rfl) (by kernel_rfl) (fun _ _ _ h => h) (Or.inl ⟨by rfl, ?q4⟩) HS.out ?_
      case q4 => intro w hSw; have hc0 := hSw; go_simp; rfl
      simp only [Act.put, List.getElem_toArray, List.getElem_cons_zero, List.getElem_cons_succ, List.setIfInBounds_toArray, List.set_cons_zero, List.set_cons_succ]
      refine wpAnyL_take (i := 5) (v := ?_) rfl (by kernel_rfl) (by kernel_rfl) (by kernel_rfl) (by kernel_rfl) (by kernel_rfl) (fun _ _ _ h => h) (Or.inl ⟨by rfl, ?q5⟩) HS.out ?_
      case q5 => intro w hSw; have hc0 := hSw; go_simp; rfl
      simp only [Act.put, List.getElem_toArray, List.getElem_cons_zero, List.getElem_cons_succ, List.setIfInBounds_toArray, List.set_cons_zero, List.set_cons_succ]
      refine wpAnyL_take (i := 6) (v := ?_) rfl (by kernel_rfl) (by kernel_rfl) (by kernel_rfl) (by kernel_rfl) (by kernel_rfl) (fun _ _ _ h => h) (Or.inl ⟨by rfl, ?q6⟩) HS.out ?_
      case q6 => intro w hSw; have hc0 := hSw; go_simp; rfl
      simp only [Act.put, List.getElem_toArray, List.getElem_cons_zero, List.getElem_cons_succ, List.setIfInBounds_toArray, List.set_cons_zero, List.set_cons_succ]
      refine wpAnyL_one (i := 7) (by kernel_rfl) rfl (fun K hK => ?_)
      go_simp
      refine CR.out.mono ?_
      rintro e w7 ⟨v7, rfl, hb7, hd7⟩
      have S7 : Hid (w7.cell? ⟨gp, 3, none⟩ = some (.slice p kc cp)) := hid ((hd7.cell _).trans X3.out)
      have H7 := hid hb7
      have D7 := hid hd7
      refine hK.out _ _ (fun _ => S7.out) ?_
      clear hK K CR hb7 hd7 HS
      have HS := S7
      try simp only [Act.put, List.getElem_toArray, List.getElem_cons_zero, List.getElem_cons_succ, List.setIfInBounds_toArray, List.set_cons_zero, List.set_cons_succ]
      refine wpAnyL_one (i := 8) (by kernel_rfl) rfl (fun K hK => ?_)
      have HP7 : Hid (w7.heap[gp]? = some (.cells #[.iface 47 (.agg #[]), .int .i64 (n : Int), .int .i64 (c : Int), .slice p kc cp] 71 (0, 0))) := hid (by rw [D7.out.heap]; exact HP.out)
      have HO7 := hid (own_blkR HO.out fun q e => by rw [D7.out.heap]; rfl)
      have B7 := hid (HB5.out.trans (((Below.refl _ wr).drew.trans (D7.out.below _)).mono HB5.out.size))
      rw [if_pos (by rfl)]
      refine wp_append_bytesW _ _ rfl w.heap.size _ kc _ rfl HO7.out _ _ rfl H7.out (by rw [rwL_length HL.out hm]; omega) B7.out.size ?_
      intro v8 w8 ho8 hg8 _
      have HP8 : Hid (w8.heap[gp]? = some (.cells #[.iface 47 (.agg #[]), .int .i64 (n : Int), .int .i64 (c : Int), .slice p kc cp] 71 (0, 0))) := hid ((hg8.block gp (Array.getElem?_eq_some_iff.1 HP7.out).1 fun q => by obtain ⟨_, _, c9, h9⟩ := own_typR HO7.out q.symm; rw [HP7.out] at h9; cases h9).trans HP7.out)
      have S8 : Hid (w8.cell? ⟨gp, 3, none⟩ = some (.slice p kc cp)) := hid (by rw [cell_of_row _ _ _ _ _ _ HP8.out]; rfl)
      have B8 := hid (B7.out.grown hg8 B7.out.size (fun q e => (HO7.out.lt q e).1))
      have F8 : Hid (w8.frozen? ⟨gp, 3, none⟩ = false) := hid (by simp [World.frozen?, HP8.out])
      rw [rwL_length HL.out hm] at ho8
      have HO8 : Hid (w8.ownsRow w.heap.size 5 1 v8 ((k + 1) * c) ((pkL l c ns (k + 1)).map (Value.int .u8))) := hid (by
        have e1 : (k + 1) * c = kc + c := by rw [Nat.succ_mul, HKC.out]
        have e2 : pkL l c ns (k + 1) = pkL l c ns k ++ rwL l c m := by rw [← HM.out]; rfl
        rw [e1, e2, List.map_append]
        exact ho8)
      obtain ⟨p8, c8, e8⟩ := own_slc HO8.out
      subst e8
      refine hK.out _ _ (fun _ => S8.out) ?_
      clear hK K HS ho8 hg8
      have HS := S8
      try simp only [Act.put, List.getElem_toArray, List.getElem_cons_zero, List.getElem_cons_succ, List.setIfInBounds_toArray, List.set_cons_zero, List.set_cons_succ]
      refine wpAnyL_one (i := 9) (by kernel_rfl) rfl (fun K hK => ?_)
      go_simp
      refine hK.out _ _ (fun _ => S8.out) ?_
      clear hK K
      try simp only [Act.put, List.getElem_toArray, List.getElem_cons_zero, List.getElem_cons_succ, List.setIfInBounds_toArray, List.set_cons_zero, List.set_cons_succ]
      refine wpAnyL_one (i := 10) (by kernel_rfl) rfl (fun K hK => ?_)
      go_simp
      refine hK.out _ _ (fun _ => S8.out) ?_
      clear hK K
      try simp only [Act.put, List.getElem_toArray, List.getElem_cons_zero, List.getElem_cons_succ, List.setIfInBounds_toArray, List.set_cons_zero, List.set_cons_succ]
      refine wpAnyL_one (i := 11) (by kernel_rfl) rfl (fun K hK => ?_)
      have cu := S8.out
      have fu := F8.out
      clear HS
      go_simp
      have HP9 : Hid ((w8.setCell ⟨gp, 3, none⟩ (.slice p8 ((k + 1) * c) c8)).heap[gp]? = some (.cells #[.iface 47 (.agg #[]), .int .i64 (n : Int), .int .i64 (c : Int), .slice p8 ((k + 1) * c) c8] 71 (0, 0))) := hid (bk_setG HP8.out 3 _)
      have HO9 : Hid ((w8.setCell ⟨gp, 3, none⟩ (.slice p8 ((k + 1) * c) c8)).ownsRow w.heap.size 5 1 (.slice p8 ((k + 1) * c) c8) ((k + 1) * c) ((pkL l c ns (k + 1)).map (Value.int .u8))) := hid (own_blkR HO8.out fun q e => heap_setCell_other _ _ _ _ (by
        intro z
        have z : q = gp := by simpa using z
        subst z
        obtain ⟨_, _, c9, h9⟩ := own_typR HO8.out e
        rw [HP8.out] at h9
        cases h9))
      have B9 : Hid (Below w.heap.size w (w8.setCell ⟨gp, 3, none⟩ (.slice p8 ((k + 1) * c) c8))) := hid (B8.out.setCell (p := ⟨gp, 3, none⟩) hgp _)
      refine hK.out _ _ (fun e => absurd rfl e) ?_
      clear hK K cu fu
      try simp only [Act.put, List.getElem_toArray, List.getElem_cons_zero, List.getElem_cons_succ, List.setIfInBounds_toArray, List.set_cons_zero, List.set_cons_succ]
      refine wpAnyL_done (by kernel_rfl) ?_ _
      go_wp2_with fail
      exact ⟨⟨k + 1, by omega, by go_num, ⟨_, HP9, HO9⟩, B9⟩, by simp [intOf]; omega⟩
    · have hkn' : k = n := by omega
      subst hkn'
      go_wp2_with fail
      go_ret2
      have hlen := pkL_len HL.out (c := c) (ns := ns) (k := k) fun i hi => HNS.out i hi
      refine ⟨gp, rfl, hgp, ⟨hlen, v, HP.out, HB.of_own (by rw [hlen]; exact HO.out) (catL_byt fun i _ x hx => HBY.out x ?_)⟩, HB5.out⟩
      exact List.mem_of_mem_take (List.mem_of_mem_drop hx)
theorem map_u8 {l : List Int} {t : Nat} (h : t < l.length) : (l.map (Value.int .u8))[t]? = some (.int .u8 (l.getD t 0)) := by simp [List.getD, List.getElem?_eq_getElem h]
def mixG (row : List Int) (ds : List (List Int)) (J b t : Nat) : Nat := if t < b then mixV row ds (J + 1) t else mixV row ds J t
theorem mixG_step (row : List Int) (ds : List (List Int)) (J b L : Nat) (h : b < L) : (tbL L (mixG row ds J b)).set b ((mixV row ds (J + 1) b : Nat) : Int) = tbL L (mixG row ds J (b + 1)) := by
  rw [tbL_set _ _ _ _ h]
  apply tbL_congr
  intro i hi
  unfold mixG
  by_cases e : i = b
  · subst e; rw [if_pos rfl, if_pos (by omega)]
  · rw [if_neg e]
    by_cases q : i < b
    · rw [if_pos q, if_pos (by omega)]
    · rw [if_neg q, if_neg (by omega)]
theorem mixG_zero (row : List Int) (ds : List (List Int)) (J L : Nat) : tbL L (mixG row ds J 0) = mixL row ds J L := tbL_congr fun i _ => by unfold mixG; rw [if_neg (by omega)]
theorem mixG_all (row : List Int) (ds : List (List Int)) (J L : Nat) : tbL L (mixG row ds J L) = mixL row ds (J + 1) L := tbL_congr fun i h => by unfold mixG; rw [if_pos h]
theorem HL.gn {w : World} {v : Value} {ds : List (List Int)} (h : HL w v ds) (j b : Nat) : gN (ds.getD j []) b < 256 := by
  unfold gN
  by_cases hj : j < ds.length
  · obtain ⟨b0, off, c, _, _, _, hh⟩ := h.ne (by omega)
    obtain ⟨u, _, hb⟩ := hh j hj
    have := hb.byte b
    omega
  · have e : ds.getD j [] = [] := by simp [List.getD, List.getElem?_eq_none (by omega : ds.length ≤ j)]
    rw [e]
    simp
set_option maxRecDepth 100000 in
set_option maxHeartbeats 8000000 in
theorem mixed_any (w : World) (vr vb : Value) (row : List Int) (ds : List (List Int)) (L : Nat) (hr : HB w vr row) (hd : HL w vb ds) (hk : row.length ≤ ds.length) (h0 : 0 < ds.length) (hL : ∀ j, j < ds.length → (ds.getD j []).length = L) (hLb : L ≤ 140737488355328) :
    Calls Try.prog 26 #[vr, vb] w fun e w' => ∃ v', e = .returned v' ∧ w'.ownsRow w.heap.size 5 1 v' L ((mixL row ds row.length L).map (Value.int .u8)) ∧ Below w.heap.size w w' := by
  obtain ⟨i0, hi, hz0, hz1, hz2⟩ := info_parts info_u8
  have HR := hid hr
  have HD := hid hd
  have HGN := hid fun j b => hd.gn j b
  obtain ⟨pr, cr, rfl, hlr, hcr⟩ := hr.open
  obtain ⟨b, off, cb, rfl, hlb, hcb, hh⟩ := hd.ne h0
  unfold maxLen at hcr hcb
  obtain ⟨u0, hu0, hbu0⟩ := hh 0 h0
  rw [Nat.add_zero] at hu0
  have hl0 := hL 0 h0
  obtain ⟨pu, cu, e0, _, _⟩ := hbu0.open
  rw [hl0] at e0
  subst e0
  have HH := hid hh
  have HLE := hid hL
  obtain ⟨w3, hmk, hown, hgr⟩ := run_make_full (P := Try.prog) w w.heap.size 22 5 i0 (.int .u8 0) 1 Try.underlying22 hi hz0 hz1 .i64 .i64 L (by rw [hz2]; omega) (by unfold maxLen; omega) (by omega)
  have hmk2 : (Instr.makeSlice 22 (.int .i64 (L : Int)) (.int .i64 (L : Int))).run Try.prog w = .ok (.slice (some ⟨w.heap.size, 0, none⟩) L L) w3 := hmk
  have B3 : Hid (Below w.heap.size w w3) := (Below.refl _ w).grown hgr (by omega) (fun k e => by cases e)
  have HO3 : Hid (w3.ownsRow w.heap.size 5 1 (.slice (some ⟨w.heap.size, 0, none⟩) L L) L ((mixL row ds 0 L).map (Value.int .u8))) := by
    have e : (madeCells (Value.int IntKind.u8 0).cells (L * 1)).toList = (mixL row ds 0 L).map (Value.int .u8) := by
      rw [show (Value.int IntKind.u8 0).cells = #[Value.int .u8 0] from rfl, toList_madeCells_one, mixL_none, List.map_replicate, Nat.mul_one]
    rw [← e]
    exact hown
  obtain ⟨K, HK⟩ : ∃ K, Hid (row.length = K) := ⟨_, rfl⟩
  obtain ⟨D, HDl⟩ : ∃ D, Hid (ds.length = D) := ⟨_, rfl⟩
  rw [HK.out] at hk hlr ⊢
  rw [HDl.out] at hk h0 hlb ⊢
  have sz := size_u8
  clear hown hgr hmk hr hd hh hL hbu0 hl0
  go_enter Try.func26, Try.ntmps26
  go_wp2
  clear hmk2 hu0
  go_loopw [19] (fun i wr => ∃ J : Nat, J ≤ K ∧ i = .int .i64 (J : Int) ∧ Hid (wr.ownsRow w.heap.size 5 1 (.slice (some ⟨w.heap.size, 0, none⟩) L L) L ((mixL row ds J L).map (Value.int .u8))) ∧ Hid (Below w.heap.size w wr)) (fun i _ => K - (intOf i).toNat)
  case atStart => exact ⟨0, Nat.zero_le _, rfl, HO3, B3⟩
  case round =>
    clear HO3 B3
    obtain ⟨J, hJ, rfl, HO, B⟩ := hrel
    by_cases hlt : J < K
    · obtain ⟨b1, o1, c1, e1, _, _, hc1⟩ := HR.out.ne (by rw [HK.out]; omega)
      simp only [Value.slice.injEq] at e1
      obtain ⟨rfl, _, rfl⟩ := e1
      have q1 := (B.out.cell (World.block_lt_of_cell? w _ (hc1 J (by rw [HK.out]; exact hlt)))).trans (hc1 J (by rw [HK.out]; exact hlt))
      have g1 := HR.out.byte J
      obtain ⟨x, HX⟩ : ∃ x : Nat, Hid (row.getD J 0 = (x : Int)) := ⟨(row.getD J 0).toNat, hid (by omega)⟩
      rw [HX.out] at q1 g1
      have HGX : Hid (gN row J = x) := by refine hid ?_; unfold gN; rw [HX.out]; simp
      obtain ⟨u, hu, hbu⟩ := HH.out J (by rw [HDl.out]; omega)
      have hlu := HLE.out J (by rw [HDl.out]; omega)
      have q2 := (B.out.cell (World.block_lt_of_cell? w _ hu)).trans hu
      have HU := hid (hbu.below B.out)
      obtain ⟨pu2, cu2, e0, _, _⟩ := hbu.open
      rw [hlu] at e0
      subst e0
      by_cases hx : x = 0
      · subst hx
        have HO2 : Hid (wr.ownsRow w.heap.size 5 1 (.slice (some ⟨w.heap.size, 0, none⟩) L L) L ((mixL row ds (J + 1) L).map (Value.int .u8))) := by
          have e : mixL row ds (J + 1) L = mixL row ds J L := tbL_congr fun i _ => mixV_skip HGX.out i
          rw [e]
          exact HO
        clear hc1 HO hbu hu hlu
        go_wp2
        exact ⟨⟨J + 1, by omega, by go_num, HO2, B⟩, by simp [intOf]; omega⟩
      · have hx0 : ((x : Int) == 0) = false := by simp; omega
        have CS := scale_any wr _ (ds.getD J []) x HU.out (by omega) (by rw [hlu]; omega)
        rw [scL_length, hlu] at CS
        have CS := hid CS
        have HLU := hid hlu
        clear hc1 hbu hu hlu hx
        go_wp2_with fail
        refine CS.out.mono ?_
        rintro e w5 ⟨v5, rfl, ho5, hb5⟩
        have O5 := hid (own_below HO.out hb5)
        have B5 := hid (B.out.trans (hb5.mono B.out.size))
        have V5 := hid ho5
        have HSP : Hid (∀ t, t < L → (scL (ds.getD J []) x).getD t 0 = ((prod (gN (ds.getD J []) t) x : Nat) : Int)) := hid fun t ht => scL_get _ _ _ (by rw [HLU.out]; exact ht)
        have HNE : Hid (∀ g, v5.ownBlock = some g → wr.heap.size ≤ g ∧ g < w5.heap.size) := hid fun g e => ho5.lt g e
        have hws : w.heap.size < wr.heap.size := by
          rcases HO.out.2 with ⟨_, _⟩ | ⟨g, cap, cur, he, _, hh2, _⟩
          · rename_i a _; cases a
          · simp only [Value.slice.injEq, Option.some.injEq, Addr.mk.injEq, and_true] at he
            obtain ⟨rfl, _⟩ := he
            exact (Array.getElem?_eq_some_iff.1 hh2).1
        obtain ⟨p5, c5, rfl⟩ := own_slc ho5
        have O5z : Hid (w5.ownsRow w.heap.size 5 1 (.slice (some ⟨w.heap.size, 0, none⟩) L L) L ((tbL L (mixG row ds J 0)).map (Value.int .u8))) := by rw [mixG_zero]; exact O5
        clear ho5 hb5 CS O5 HO B q1 q2
        go_wp2
        go_loopw [33] (fun i wr => ∃ T : Nat, T ≤ L ∧ i = .int .i64 (T : Int) ∧ Hid (wr.ownsRow w.heap.size 5 1 (.slice (some ⟨w.heap.size, 0, none⟩) L L) L ((tbL L (mixG row ds J T)).map (Value.int .u8))) ∧ Hid (wr.ownsRow w.heap.size 5 1 (.slice p5 L c5) L ((scL (ds.getD J []) x).map (Value.int .u8))) ∧ Hid (Below w.heap.size w wr)) (fun i _ => L - (intOf i).toNat)
        case atStart => exact ⟨0, Nat.zero_le _, rfl, O5z, own_mono V5.out (by omega), B5⟩
        case round =>
          clear O5z V5 B5
          obtain ⟨T, hT, rfl, HO, HV, B⟩ := hrel
          by_cases hlt2 : T < L
          · obtain ⟨g5, cc5, e5, _, _, hc5⟩ := ownsRow_cells HV.out (by omega)
            simp only [Value.slice.injEq] at e5
            obtain ⟨rfl, _, rfl⟩ := e5
            have hg5 := HNE.out g5 rfl
            have r1 := hc5.2 T (.int .u8 ((prod (gN (ds.getD J []) T) x : Nat) : Int)) (by rw [← HSP.out T hlt2]; exact map_u8 (by rw [scL_length, HLU.out]; exact hlt2))
            rw [Nat.zero_add] at r1
            have hcx := HO.out.cellAt T (by omega)
            have hfz := HO.out.frozenAt T
            have e1 : ((tbL L (mixG row ds J T)).map (Value.int .u8))[T]? = some (.int .u8 ((mixV row ds J T : Nat) : Int)) := by
              simp [tbL, hlt2, mixG]
            rw [e1] at hcx
            have y1 := mixV_lt (row := row) HGN.out J T
            have y2 : prod (gN (ds.getD J []) T) x < 256 := prod_lt _ (HGN.out J T)
            have HMV : Hid (mixV row ds (J + 1) T = mixV row ds J T ^^^ prod (gN (ds.getD J []) T) x) := by refine hid ?_; rw [← HGX.out]; rfl
            obtain ⟨y, HY⟩ : ∃ y, Hid (mixV row ds J T = y) := ⟨_, rfl⟩
            obtain ⟨z, HZ⟩ : ∃ y, Hid (prod (gN (ds.getD J []) T) x = y) := ⟨_, rfl⟩
            rw [HY.out] at hcx y1 HMV
            rw [HZ.out] at r1 y2 HMV
            have hxx := u8_xor_nat y z y1 y2
            have HO2 : Hid ((wr.setCell ⟨w.heap.size, T, none⟩ (.int .u8 ((y ^^^ z : Nat) : Int))).ownsRow w.heap.size 5 1 (.slice (some ⟨w.heap.size, 0, none⟩) L L) L ((tbL L (mixG row ds J (T + 1))).map (Value.int .u8))) := by
              have h := (HO.out.stored T (.int .u8 ((y ^^^ z : Nat) : Int))).1
              rw [← List.map_set, ← HMV.out, mixG_step row ds J T L hlt2] at h
              rw [← HMV.out]
              exact h
            have HV2 : Hid ((wr.setCell ⟨w.heap.size, T, none⟩ (.int .u8 ((y ^^^ z : Nat) : Int))).ownsRow w.heap.size 5 1 (.slice (some ⟨g5, 0, none⟩) L c5) L ((scL (ds.getD J []) x).map (Value.int .u8))) := hid (ownsRow_setCell_other HV.out (by simp [Value.ownBlock]; omega) _)
            have B2 : Hid (Below w.heap.size w (wr.setCell ⟨w.heap.size, T, none⟩ (.int .u8 ((y ^^^ z : Nat) : Int)))) := B.out.setCell (p := ⟨w.heap.size, T, none⟩) (Nat.le_refl _) _
            clear hc5 e1 HO HV B
            go_wp2
            go_region
            all_goals go_wp2
            exact ⟨⟨T + 1, by omega, by go_num, HO2, HV2, hid (B2.out.trans (((Dr.one _ 1).below _).mono (Nat.le_refl _)))⟩, by simp [intOf]; omega⟩
          · have hT' : T = L := by omega
            subst hT'
            rw [mixG_all] at HO
            clear HV
            go_wp2
            exact ⟨⟨J + 1, by omega, by go_num, HO, B⟩, by simp [intOf]; omega⟩
    · have hJ' : J = K := by omega
      subst hJ'
      go_wp2
      go_ret
      exact ⟨_, rfl, HO.out, B.out⟩
end Go.Proofs.Ytbiplflejijbeaa
namespace Go.Proofs.Ytbiplflejijbeaa
open Go.RowKit Go.Shelf
theorem own_slc1 {w : World} {B n : Nat} {e : TypeId} {v : Value} {xs : List Value} (h : w.ownsRow B e 1 v n xs) : ∃ p c, v = .slice p n c := by
  rcases h.2 with ⟨rfl, rfl⟩ | ⟨g, cap, cur, rfl, _⟩
  · exact ⟨_, _, rfl⟩
  · exact ⟨_, _, rfl⟩
def PW (B : Nat) (w : World) (v : Value) (ls : List (List Int)) : Prop :=
  ∃ xs, w.ownsRow B 22 1 v ls.length xs ∧ ∀ j, j < ls.length → w.ownsRow B 5 1 (xs.getD j undef) (ls.getD j []).length ((ls.getD j []).map (Value.int .u8)) ∧ BytI (ls.getD j [])
theorem PW.nil (B : Nat) (w : World) : PW B w (.slice none 0 0) [] := ⟨[], World.ownsRow_nil _ _ _ _, fun j hj => by simp at hj⟩
theorem PW.hl {B : Nat} {w : World} {v : Value} {ls : List (List Int)} (h : PW B w v ls) : HL w v ls := by
  obtain ⟨xs, h1, h2⟩ := h
  by_cases h0 : 0 < ls.length
  · obtain ⟨g, cap, rfl, _, hn, hm, hc⟩ := ownsRow_cells h1 h0
    refine ⟨_, cap, rfl, hn, hm, (fun e => by cases e), fun _ => ⟨g, 0, rfl, fun j hj => ⟨xs.getD j undef, ?_, HB.of_own (h2 j hj).1 (h2 j hj).2⟩⟩⟩
    have hx : xs.length = ls.length := by have := h1.1; omega
    exact hc j _ (by simp [List.getD, List.getElem?_eq_getElem (show j < xs.length by omega)])
  · have e : ls = [] := List.length_eq_zero_iff.1 (by omega)
    subst e
    rcases h1.2 with ⟨rfl, _⟩ | ⟨g, cap, cur, rfl, _, _, hn, hm, _⟩
    · exact HL.nil _
    · exact ⟨_, cap, rfl, hn, hm, (fun e => by cases e), fun h => absurd rfl h⟩
theorem PW.from {B n : Nat} {A C : World} {v : Value} {ls : List (List Int)} {row : Option Nat} (h : PW B A v ls) (hg : A.grownBy C row) (hr : ∀ r, row = some r → n ≤ r ∧ ∃ o : Obj, A.heap[r]? = some o ∧ o.isCells = false) : PW B C v ls := by
  obtain ⟨xs, h1, h2⟩ := h
  exact ⟨xs, row_from h1 hg hr, fun j hj => ⟨row_from (h2 j hj).1 hg hr, (h2 j hj).2⟩⟩
theorem PW.push {B0 Bx : Nat} {W w1 : World} {vp v' u : Value} {ls : List (List Int)} {l : List Int} {xs : List Value} {o : Obj} (hrow : W.ownsRow B0 22 1 vp ls.length xs)
    (hel : ∀ j, j < ls.length → W.ownsRow B0 5 1 (xs.getD j undef) (ls.getD j []).length ((ls.getD j []).map (Value.int .u8)) ∧ BytI (ls.getD j [])) (hu : W.ownsRow B0 5 1 u l.length (l.map (Value.int .u8))) (hby : BytI l)
    (x1 : Boxed W Bx 29 vp) (hown : w1.ownsRow B0 22 1 v' (ls.length + 1) (xs ++ [u])) (hg : (W.alloc o).grownBy w1 vp.ownBlock) :
    PW B0 (w1.setCell ⟨Bx, 0, none⟩ v') v' (ls ++ [l]) ∧ Boxed w1 Bx 29 vp ∧ Boxed (w1.setCell ⟨Bx, 0, none⟩ v') Bx 29 v' := by
  have hv1 : Boxed w1 Bx 29 vp := (x1.alloc o).kept hg (x1.not_row (by decide) hrow)
  have gs := grownBy_setCell' w1 Bx v'
  have key : ∀ {q : Value} {m : Nat} {ys : List Value}, W.ownsRow B0 5 1 q m ys → (w1.setCell ⟨Bx, 0, none⟩ v').ownsRow B0 5 1 q m ys := fun {q m ys} h => by
    have h1 := h.alloc o
    have h2 : w1.ownsRow B0 5 1 q m ys := by
      refine h1.kept hg ?_
      cases hvp : vp.ownBlock with
      | none => cases q.ownBlock <;> simp
      | some g =>
        rcases (hrow.alloc o).2 with ⟨rfl, _⟩ | ⟨g', cap, cur, rfl, _, hh, _⟩
        · simp [Value.ownBlock] at hvp
        · simp only [Value.ownBlock, Option.some.injEq] at hvp
          subst hvp
          exact .inr (own_block_ne h1 hh (by decide))
    exact h2.kept gs (.inr (own_block_ne h2 (show w1.heap[Bx]? = _ from hv1) (by decide)))
  refine ⟨⟨xs ++ [u], ?_, fun j hj => ?_⟩, hv1, hv1.set v'⟩
  · rw [List.length_append, List.length_singleton]
    exact hown.kept gs (.inr (hv1.not_row (by decide) hown).symm)
  · have hxl : xs.length = ls.length := by have := hrow.1; omega
    rw [List.length_append, List.length_singleton] at hj
    rw [getD_app, getD_app, hxl]
    split
    · rename_i h
      exact ⟨key (hel j h).1, (hel j h).2⟩
    · have : j - ls.length = 0 := by omega
      rw [this]
      exact ⟨key hu, hby⟩
end Go.Proofs.Ytbiplflejijbeaa
namespace Go.Proofs.Ytbiplflejijbeaa
open Go Go.RowKit
theorem run_append_slice (w : World) (base : Nat) (ty : TypeId) (v : Value) (n : Nat) (xs : List Value) (hown : w.ownsRow base 22 1 v n xs) (a : Addr) (c : Nat) (x : Value) (hx : w.cell? a = some x) (hx1 : x.oneCell' = true) (hn : (n + 1) * 24 ≤ 140737488355328) (hbase : base ≤ w.heap.size) :
    ∃ v' w', (Builtin.append_ #[29, 29] ty #[v, .slice (some a) 1 c]).run Try.prog w = .ok v' w' ∧ w'.ownsRow base 22 1 v' (n + 1) (xs ++ [x]) ∧ w.grownBy w' v.ownBlock ∧
      (v'.ownBlock = v.ownBlock ∨ v'.ownBlock = some w.heap.size) := by
  obtain ⟨i0, hi, hz0, hz1, hz2⟩ := info_parts info_bytes
  have hnews : ∀ j u, [x][j]? = some u → w.cell? (a.add j) = some u := by
    intro j u hj
    match j, hj with
    | 0, hj => simp at hj; subst hj; simpa [Addr.add] using hx
  have h1 : ∀ u ∈ [x], u.oneCell' = true := by intro u hu; simp at hu; subst hu; exact hx1
  obtain ⟨v', w', hr, h2, h3, _⟩ := run_append_own (P := Try.prog) w base 29 ty 22 i0 (.slice none 0 0) 1 24 Try.underlying29 hi hz0 hz1 hz2 rfl (by decide) v n xs hown a 1 c [x] rfl hnews h1 (by unfold maxLen; omega) hn hbase
  refine ⟨v', w', hr, h2, h3, ?_⟩
  rcases hown.2 with ⟨rfl, rfl⟩ | ⟨g, cap, cur, rfl, hbg, hg, hnc, hcm, hcs, htake⟩
  · have hr2 := run_append_nil (P := Try.prog) w 29 ty 22 i0 (.slice none 0 0) Try.underlying29 hi hz0 a 1 c [x] (by rw [hz1]; rfl) hnews (by omega) (by omega) (by rw [hz2]; omega)
    rw [hr] at hr2
    simp only [Result.ok.injEq] at hr2
    obtain ⟨rfl, rfl⟩ := hr2
    exact .inr rfl
  · by_cases hroom : n + 1 ≤ cap
    · obtain ⟨w2, hr2, _⟩ := run_append_fits (P := Try.prog) w base 29 ty 22 i0 1 Try.underlying29 hi hz1 g n cap xs hown a 1 c [x] rfl hnews h1 hroom
      rw [hr] at hr2
      simp only [Result.ok.injEq] at hr2
      obtain ⟨rfl, rfl⟩ := hr2
      exact .inl rfl
    · have hr2 := run_append_grow (P := Try.prog) w 29 ty 22 i0 (.slice none 0 0) Try.underlying29 hi hz0 ⟨g, 0, none⟩ n cap xs (by rw [hz1]; exact hown.1) (hown.cells (g := g) rfl) a 1 c [x] (by rw [hz1]; rfl) hnews (by omega) (by omega) (growslice_fits (by omega) (by rw [hz2]; exact hn))
      rw [hr] at hr2
      simp only [Result.ok.injEq] at hr2
      obtain ⟨rfl, rfl⟩ := hr2
      exact .inr rfl
theorem owp_appendL {o : Oper} {a : Act} {w w' : World} {K : Act → World → Prop} {Q : Exit → Act → World → Prop} {v v' : Value} {ad : Addr} {c : Nat} (s x : Operand)
    (ho : o.op = .call { callee := .builtin .append, args := #[s, x], argTypes := #[29, 29] }) (hs : a.eval s = v) (hx : a.eval x = .slice (some ad) 1 c)
    (hr : (Builtin.append_ #[29, 29] o.type #[v, .slice (some ad) 1 c]).run Try.prog w = .ok v' w') (h : K (a.put o.dst v') w') : o.wp Try.prog a w K Q := by
  unfold Oper.wp execOp
  simp only [ho, resolve, invoke, builtin, Sem.run_bind, Sem.run_pure, Result.andThen_ok, List.map_toArray, List.map_cons, List.map_nil, hs, hx, hr]
  exact h
end Go.Proofs.Ytbiplflejijbeaa
namespace Go.Proofs.Ytbiplflejijbeaa.Ev
open Go Go.RowKit
def edgeB (ops : Array Oper) (K i : Nat) : Bool := (ops[K]?).any fun o => o.after.any fun e => Region.binds .any e && e.on == i
section
variable {P : Program} {ops : Array Oper} {Q : Exit → Act → World → Prop} {S : World → Prop} {K : Nat}
theorem wpN_load {i : Nat} {oi : Oper} {v : Value} {f : Nat} {listed : Array Bool} {a : Act} {w : World} (hi : ops[i]? = some oi) (hsel : Region.noSelect ops = true) (hf : Region.free .any ops listed i = true) (hr : (Region.ready .any ops listed).contains i = true)
    (hQ : ∀ c a w, ¬ Q (.panic c) a w) (hK : (i == K) = false) (hw : edgeB ops K i = true) (hy : YieldsIf P ops S oi v a) (hS : S w)
    (h : wpN P ops Q S (fun j => j == K) f false (listed.setIfInBounds i true) (a.put oi.dst v) w) : wpN P ops Q S (fun j => j == K) (f + 1) false listed a w := by
  refine wpN_take (W := fun j => j == K) (S' := S) hi hsel hQ hK f false listed a w (.inr ⟨rfl, rfl, fun j oj hj hWj => ?_⟩) (Region.free_spec hi hf) (by simpa using hr) hy hS (.inl hS) h
  have e : j = K := by simpa using hWj
  subst e
  unfold edgeB at hw
  rw [hj] at hw
  simp only [Option.any_some, Array.any_eq_true', Bool.and_eq_true, beq_iff_eq] at hw
  obtain ⟨e, h1, h2, h3⟩ := hw
  exact ⟨e, h1, h2, h3⟩
theorem wpN_step {i : Nat} {o : Oper} {f : Nat} {late : Bool} {listed : Array Bool} {a : Act} {w : World} (hr : Region.ready .any ops listed = [i]) (ho : ops[i]? = some o) (hw : Region.wanted o (yielded ops a.tmps) = true)
    (h : o.wp P a w (fun a' w' => (S w' ∨ (late || i == K) = true) ∧ wpN P ops Q S (fun j => j == K) f (late || i == K) (listed.setIfInBounds i true) a' w') Q) : wpN P ops Q S (fun j => j == K) (f + 1) late listed a w := by
  refine ⟨fun h0 => (by rw [hr] at h0; cases h0), fun j hj => ?_⟩
  rw [hr] at hj
  obtain rfl := List.mem_singleton.1 hj
  unfold wpOp
  rw [ho]
  simp only [hw, if_true]
  exact .inl h
theorem wpN_end {f : Nat} {late : Bool} {listed : Array Bool} {a : Act} {w : World} (hr : Region.ready .any ops listed = []) (h : Q .normal a w) : wpN P ops Q S (fun j => j == K) f late listed a w := by
  cases f with
  | zero => exact ⟨hr, h⟩
  | succ f => exact ⟨fun _ => h, fun j hj => by rw [hr] at hj; cases hj⟩
end
end Go.Proofs.Ytbiplflejijbeaa.Ev
namespace Go.Proofs.Ytbiplflejijbeaa.Ev
open Go Go.RowKit
def calmO (o : Oper) : Bool := match o.op with | .defer _ => false | _ => true
theorem calmO_spec {o : Oper} (h : calmO o = true) : ∀ c, o.op ≠ .defer c := fun c e => by simp [calmO, e] at h
def wideR (ro : Option Nat) : Fence := { Fence.wide with round := ro }
def Ys (Y : List Nat) (yv : Value) (tm : Array Value) : Prop := ∀ y ∈ Y, tm[y]? = some yv
def dstFree (Y : List Nat) (o : Oper) : Bool := match o.dst with | some d => !Y.contains d | none => true
theorem Ys.put {Y : List Nat} {yv : Value} {a : Act} (h : Ys Y yv a.tmps) {o : Oper} (hd : dstFree Y o = true) (v : Value) : Ys Y yv (a.put o.dst v).tmps := by
  unfold dstFree at hd
  cases ho : o.dst with
  | none => exact h
  | some d =>
    rw [ho] at hd
    intro y hy
    simp only [Act.put]
    rw [Array.getElem?_setIfInBounds]
    have : d ≠ y := fun e => by subst e; simp [hy] at hd
    rw [if_neg this]
    exact h y hy
theorem op_in {P : Program} {ro : Option Nat} {n : Nat} {o : Oper} {a : Act} {w : World} {K K' : Act → World → Prop} {Q Q' : Exit → Act → World → Prop}
    (h : o.wp P a w K Q) (hd : calmO o = true) (hQ : ∀ e a w, Q e a w → e = .normal) (hK : ∀ a' w', K a' w' → (∃ v, a'.tmps = (a.put o.dst v).tmps) → K' a' w') : o.wpIn (wideR ro) n P a w K' Q' := by
  refine ⟨fun f _ => trivial, ?_⟩
  rw [Oper.semAt_eq _ _ _ (calmO_spec hd)]
  unfold Oper.wp at h
  generalize (execOp a.eval o).run P w = r at h ⊢
  cases r with
  | ok x w' =>
    cases x with
    | value v => exact hK _ _ h ⟨v, rfl⟩
    | skip => exact hK _ _ h ⟨undef, rfl⟩
    | defer d => exact hK _ _ h ⟨undef, by cases o.dst <;> rfl⟩
    | enter f args =>
      refine ⟨(fun e => by cases e), ?_⟩
      show CallsIn Fence.wide (n - 1) P f args w' _
      refine callsIn_wide.2 (Calls.mono h ?_)
      intro e w'' he
      cases e with
      | returned v => exact hK _ _ he ⟨v, rfl⟩
      | panicked ch => cases hQ _ _ _ he
      | outgrown => obtain ⟨a0, w0, q⟩ := he; cases hQ _ _ _ q
    | row row args =>
      refine ⟨(fun e => by cases e), fun c cs _ => ?_⟩
      obtain ⟨v, w2, r, s⟩ := h c cs
      exact ⟨v, w2, hK _ _ r ⟨v, rfl⟩, stepsIn_wide.2 s⟩
    | round => exact h.elim
    | _ => exact h.elim
  | halt x w' =>
    cases x with
    | panic v => cases hQ _ _ _ h
    | _ => exact h.elim
theorem list_in {P : Program} {ro : Option Nat} {n : Nat} {ops : Array Oper} {Q : Exit → Act → World → Prop} (hQ : ∀ e a w, Q e a w → e = .normal) {Y : List Nat} {yv : Value} : ∀ (l : List Oper) (a : Act) (w : World),
    wpList P ops Q l a w → l.all (fun o => calmO o && dstFree Y o) = true → Ys Y yv a.tmps → wpListIn (wideR ro) n P ops (fun e a w => Q e a w ∧ Ys Y yv a.tmps) l a w
  | [], a, w, h, _, hy => ⟨h, hy⟩
  | o :: r, a, w, h, hc, hy => by
    simp only [List.all_cons, Bool.and_eq_true] at hc
    unfold wpList at h
    unfold wpListIn
    split at h
    · rename_i hw
      rw [if_pos hw]
      rcases h with h | ⟨_, a0, w0, q⟩
      · refine op_in h hc.1.1 hQ fun a' w' hk ⟨v, hv⟩ => ?_
        exact list_in hQ r a' w' hk hc.2 (by rw [hv]; exact hy.put hc.1.2 v)
      · cases hQ _ _ _ q
    · rename_i hw
      rw [if_neg hw]
      exact ⟨fun _ _ => trivial, list_in hQ r _ w h hc.2 (hy.put hc.1.2 _)⟩
theorem any_in {P : Program} {ro : Option Nat} {n : Nat} {md : Region.Mode} {ops : Array Oper} {Q : Exit → Act → World → Prop} (hQ : ∀ e a w, Q e a w → e = .normal) {Y : List Nat} {yv : Value} (hc : ops.all (fun o => calmO o && dstFree Y o) = true) : ∀ (fuel : Nat) (listed : Array Bool) (a : Act) (w : World),
    wpAny P md ops Q fuel listed a w → Ys Y yv a.tmps → wpAnyIn (wideR ro) n P md ops (fun e a w => Q e a w ∧ Ys Y yv a.tmps) fuel listed a w
  | 0, listed, a, w, h, hy => ⟨h.1, h.2, hy⟩
  | fuel + 1, listed, a, w, h, hy => by
    refine ⟨fun e => ⟨h.1 e, hy⟩, fun i hi => ?_⟩
    have h1 := h.2 i hi
    unfold wpOp at h1
    unfold wpOpIn
    cases ho : ops[i]? with
    | none =>
      rw [ho] at h1
      exact any_in hQ hc fuel _ a w h1 hy
    | some o =>
      rw [ho] at h1
      have hco : calmO o = true ∧ dstFree Y o = true := by
        obtain ⟨hi2, e⟩ := Array.getElem?_eq_some_iff.1 ho
        have := (Array.all_eq_true.1 hc) i hi2
        rw [e] at this
        simpa using this
      simp only at h1 ⊢
      split at h1
      · rename_i hw
        rw [if_pos hw]
        rcases h1 with h1 | ⟨_, a0, w0, q⟩
        · refine op_in h1 hco.1 hQ fun a' w' hk ⟨v, hv⟩ => ?_
          exact any_in hQ hc fuel _ a' w' hk (by rw [hv]; exact hy.put hco.2 v)
        · cases hQ _ _ _ q
      · rename_i hw
        rw [if_neg hw]
        exact ⟨fun _ _ => trivial, any_in hQ hc fuel _ _ w h1 (hy.put hco.2 _)⟩
def calm : Code → Bool
  | .skip => true
  | .region _ ops _ => ops.all fun o => calmO o && dstFree [] o
  | .seq a b => calm a && calm b
  | .cond _ x y => calm x && calm y
  | .block _ c => calm c
  | .loop c => calm c
  | .exit _ => true
  | .ret => true
  | .label _ => true
  | _ => false
def CodeOkG (P : Program) (ρ : Env) (self : CodeF) : Prop :=
  ∀ c t H o t' H', self c t H = some (o, t', H') → ∀ (ro : Option Nat), (ro = none ∨ calm c = true) → ∀ (n : Nat) (ms : List Nat) (B : Nat) (a : Act) (w : World) (Q : Exit → Act → World → Prop), RelT ρ ms t a.tmps → Holds ρ ms H B w →
    (∀ ms' a' w', ms <+: ms' → RelT ρ ms' t' a'.tmps → a'.defers = a.defers → Holds ρ ms' H' B w' → Bel B w w' → Q o.to a' w') → c.wpIn (wideR ro) n P Q a w
theorem CodeOkG.plain {P : Program} {ρ : Env} {self : CodeF} (h : CodeOkG P ρ self) : CodeOk P ρ self :=
  fun c t H o t' H' hs ms B a w Q hT hH hQ => (wpIn_wide (n := 0)).1 (h c t H o t' H' hs none (.inl rfl) 0 ms B a w Q hT hH hQ)
theorem evG_gen {P : Program} {ρ : Env} {L : Lore} (hL : LoreOk ρ L) {mk : CodeF → CallF} (hm : P.follows .mixedOrders = true) : ∀ n, (∀ k, k < n → CallOk P ρ (mk (evG P L mk k))) → CodeOkG P ρ (evG P L mk n) := by
  intro n
  induction n using Nat.strongRecOn with
  | _ n ih =>
    intro hcalls
    cases n with
    | zero => intro c t H o t' H' h; simp [evG] at h
    | succ n =>
      have ihn := ih n (by omega) (fun k hk => hcalls k (by omega))
      have hcall : CallOk P ρ (mk (evG P L mk n)) := hcalls n (by omega)
      intro c t H o t' H' h ro hro nn ms B a w Q hT hH hQ
      have sub : ∀ {c' : Code}, (calm c = true → calm c' = true) → (ro = none ∨ calm c' = true) := fun f => hro.imp id f
      rw [evG] at h
      unfold codeStep at h
      split at h
      · -- skip
        simp only [Option.some.injEq, Prod.mk.injEq] at h
        obtain ⟨rfl, rfl, rfl⟩ := h
        exact wpIn_skip (hQ ms a w (List.prefix_refl _) hT rfl hH (Bel.refl _ _))
      · -- a region
        rename_i id ops
        rw [Option.map_eq_some_iff] at h
        obtain ⟨r, h1, h2⟩ := h
        simp only [Prod.mk.injEq] at h2
        obtain ⟨rfl, rfl, rfl⟩ := h2
        have key := evOps_ok (Q := fun e a w => e = .normal ∧ Q .normal a w) hL hcall _ ms t H a w r.1 r.2 hT hH h1 fun ms' a' w' q1 q2 q3 q4 q5 => ⟨rfl, hQ ms' a' w' q1 q2 q3 q4 q5⟩
        rcases hro with rfl | hcm
        · exact wpIn_wide.2 (Code.wp_mono (fun e a w q => by rw [q.1]; exact q.2) (wp_region_list (id := id) key))
        · have hl : ops.toList.all (fun o => calmO o && dstFree [] o) = true := by simpa [calm] using hcm
          refine wpIn_mono (wpIn_region_list (list_in (Y := []) (yv := undef) (fun e a w q => q.1) _ a w key hl (fun y hy => by cases hy))) fun e a w q => ?_
          rw [q.1.1]; exact q.1.2
      · -- a region whose order is open
        rename_i id ops
        rw [Option.map_eq_some_iff] at h
        obtain ⟨r, h1, h2⟩ := h
        simp only [Prod.mk.injEq] at h2
        obtain ⟨rfl, rfl, rfl⟩ := h2
        rcases hro with rfl | hcm
        · exact wpIn_wide.2 (evPlan_ok hL hcall hm _ hT hH h1 fun ms' a' w' q1 q2 q3 q4 q5 => hQ ms' a' w' q1 q2 q3 q4 q5)
        · have key := evPlan_any (Q := Q) hL hcall hT hH h1 fun ms' a' w' q1 q2 q3 q4 q5 => hQ ms' a' w' q1 q2 q3 q4 q5
          refine wpIn_mono (wpIn_region_any hm (any_in (Y := []) (yv := undef) (fun e a w q => q.1) (by simpa [calm] using hcm) _ _ a _ key (fun y hy => by cases hy))) fun e a w q => ?_
          rw [q.1.1]; exact q.1.2
      · -- one behind the other
        rename_i x y
        have cx := sub (c' := x) (fun e => by simp only [calm, Bool.and_eq_true] at e; exact e.1)
        have cy := sub (c' := y) (fun e => by simp only [calm, Bool.and_eq_true] at e; exact e.2)
        split at h
        · rename_i t1 H1 h1
          refine wpIn_seq (ihn x t H .normal t1 H1 h1 ro cx nn ms B a w _ hT hH fun ms1 a1 w1 q1 q2 q3 q4 q5 => ?_)
          exact ihn y t1 H1 o t' H' h ro cy nn ms1 B a1 w1 Q q2 q4 fun ms2 a2 w2 r1 r2 r3 r4 r5 => hQ ms2 a2 w2 (q1.trans r1) r2 (r3.trans q3) r4 (q5.trans r5)
        · rename_i hne
          have hno : o ≠ .normal := fun e => by subst e; exact hne t' H' h
          refine wpIn_seq (ihn x t H o t' H' h ro cx nn ms B a w _ hT hH fun ms1 a1 w1 q1 q2 q3 q4 q5 => ?_)
          have := hQ ms1 a1 w1 q1 q2 q3 q4 q5
          cases o with
          | normal => exact absurd rfl hno
          | exit i => exact this
          | ret => exact this
      · -- a choice
        rename_i cc x y
        have cx := sub (c' := x) (fun e => by simp only [calm, Bool.and_eq_true] at e; exact e.1)
        have cy := sub (c' := y) (fun e => by simp only [calm, Bool.and_eq_true] at e; exact e.2)
        split at h
        · rename_i hc
          have e := evGet_ok hT hc
          simp only [AV.inst, TV.inst, SV.inst, Option.some.injEq] at e
          exact wpIn_cond_true e.symm (ihn x t H o t' H' h ro cx nn ms B a w Q hT hH hQ)
        · rename_i hc
          have e := evGet_ok hT hc
          simp only [AV.inst, TV.inst, SV.inst, Option.some.injEq] at e
          exact wpIn_cond_false e.symm (ihn y t H o t' H' h ro cy nn ms B a w Q hT hH hQ)
        · cases h
      · -- a block
        rename_i id x
        have cx := sub (c' := x) (fun e => by simpa only [calm] using e)
        split at h
        · rename_i i t1 H1 h1
          refine wpIn_block (ihn x t H (.exit i) t1 H1 h1 ro cx nn ms B a w _ hT hH fun ms1 a1 w1 q1 q2 q3 q4 q5 => ?_)
          simp only [Out.to, Exit.inBlock]
          split at h
          · rename_i e
            rw [if_pos e]
            simp only [Option.some.injEq, Prod.mk.injEq] at h
            obtain ⟨rfl, rfl, rfl⟩ := h
            exact hQ ms1 a1 w1 q1 q2 q3 q4 q5
          · rename_i e
            rw [if_neg e]
            simp only [Option.some.injEq, Prod.mk.injEq] at h
            obtain ⟨rfl, rfl, rfl⟩ := h
            exact hQ ms1 a1 w1 q1 q2 q3 q4 q5
        · rename_i hne
          refine wpIn_block (ihn x t H o t' H' h ro cx nn ms B a w _ hT hH fun ms1 a1 w1 q1 q2 q3 q4 q5 => ?_)
          have := hQ ms1 a1 w1 q1 q2 q3 q4 q5
          cases o with
          | normal => exact this
          | exit i => exact absurd h (hne i t' H')
          | ret => exact this
      · -- a loop
        rename_i x
        have cx := sub (c' := x) (fun e => by simpa only [calm] using e)
        have start : evG P L mk (n + 1) (.loop x) t H = some (o, t', H') := by rw [evG]; exact h
        let R : Nat → Act → World → Prop := fun k a1 w1 => k ≤ n + 1 ∧ ∃ ms1 t1 H1, evG P L mk k (.loop x) t1 H1 = some (o, t', H') ∧ ms <+: ms1 ∧ RelT ρ ms1 t1 a1.tmps ∧ a1.defers = a.defers ∧ Holds ρ ms1 H1 B w1 ∧ Bel B w w1
        classical
        refine wpIn_loop (fun a1 w1 => ∃ k, R k a1 w1) (fun a1 w1 => if hx : ∃ k, R k a1 w1 then Classical.choose (has_least hx) else 0) ⟨n + 1, Nat.le_refl _, ms, t, H, start, List.prefix_refl _, hT, rfl, hH, Bel.refl _ _⟩ ?_
        intro a1 w1 hI
        have hmin := (Classical.choose_spec (has_least hI)).1
        have hall := (Classical.choose_spec (has_least hI)).2
        generalize hk : Classical.choose (has_least hI) = k at hmin hall
        obtain ⟨hle, ms1, t1, H1, hev, p1, p2, p3, p4, p5⟩ := hmin
        cases k with
        | zero => simp [evG] at hev
        | succ k =>
          have ihk := ih k (by omega) (fun j hj => hcalls j (by omega))
          rw [evG] at hev
          simp only [codeStep] at hev
          split at hev
          · rename_i t2 H2 h2
            refine ihk x t1 H1 .normal t2 H2 h2 ro cx nn ms1 B a1 w1 _ p2 p4 fun ms2 a2 w2 q1 q2 q3 q4 q5 => ?_
            have hR : R k a2 w2 := ⟨by omega, ms2, t2, H2, hev, p1.trans q1, q2, q3.trans p3, q4, p5.trans q5⟩
            have hE : ∃ j, R j a2 w2 := ⟨k, hR⟩
            refine ⟨hE, ?_⟩
            rw [dif_pos hE, dif_pos hI, hk]
            exact Nat.lt_succ_of_le ((Classical.choose_spec (has_least hE)).2 k hR)
          · rename_i hne
            refine ihk x t1 H1 o t' H' hev ro cx nn ms1 B a1 w1 _ p2 p4 fun ms2 a2 w2 q1 q2 q3 q4 q5 => ?_
            have := hQ ms2 a2 w2 (p1.trans q1) q2 (q3.trans p3) q4 (p5.trans q5)
            cases o with
            | normal => exact absurd hev (hne t' H')
            | exit i => exact this
            | ret => exact this
      · simp only [Option.some.injEq, Prod.mk.injEq] at h
        obtain ⟨rfl, rfl, rfl⟩ := h
        exact wpIn_exit (hQ ms a w (List.prefix_refl _) hT rfl hH (Bel.refl _ _))
      · simp only [Option.some.injEq, Prod.mk.injEq] at h
        obtain ⟨rfl, rfl, rfl⟩ := h
        exact wpIn_ret (hQ ms a w (List.prefix_refl _) hT rfl hH (Bel.refl _ _))
      · simp only [Option.some.injEq, Prod.mk.injEq] at h
        obtain ⟨rfl, rfl, rfl⟩ := h
        exact wpIn_label (hQ ms a w (List.prefix_refl _) hT rfl hH (Bel.refl _ _))
      · rename_i x
        rcases hro with rfl | hcm
        · refine wpIn_wide.2 (wp_scope_straight ((wpIn_wide (n := nn)).1 (ihn _ t H o t' H' h none (.inl rfl) nn ms B a w _ hT hH fun ms2 a2 w2 q1 q2 q3 q4 q5 => ?_)))
          have := hQ ms2 a2 w2 q1 q2 q3 q4 q5
          cases o <;> exact this
        · simp [calm] at hcm
      · cases h
theorem evG_both {P : Program} {ρ : Env} {L : Lore} (hL : LoreOk ρ L) {mk : CodeF → CallF} (hmk : ∀ self, CodeOkG P ρ self → CallOk P ρ (mk self)) (hm : P.follows .mixedOrders = true) : ∀ n, CodeOkG P ρ (evG P L mk n) := by
  intro n
  induction n using Nat.strongRecOn with
  | _ n ih => exact evG_gen hL hm n fun k hk => hmk _ (ih k hk)
end Go.Proofs.Ytbiplflejijbeaa.Ev
namespace Go.Proofs.Ytbiplflejijbeaa
open Go Go.RowKit Go.Shelf
attribute [local go_sem] Oper.semAt_some
def prL (l : List Int) (c : Nat) (ds : List (List Int)) (L k : Nat) : List (List Int) := (List.range k).map fun i => mixL (rwL l c i) ds c L
theorem prL_length (l : List Int) (c : Nat) (ds : List (List Int)) (L k : Nat) : (prL l c ds L k).length = k := by simp [prL]
theorem prL_succ (l : List Int) (c : Nat) (ds : List (List Int)) (L k : Nat) : prL l c ds L (k + 1) = prL l c ds L k ++ [mixL (rwL l c k) ds c L] := by simp [prL, List.range_succ]
theorem prL_get (l : List Int) (c : Nat) (ds : List (List Int)) (L k i : Nat) (h : i < k) : (prL l c ds L k).getD i [] = mixL (rwL l c i) ds c L := by simp [prL, List.getD, h]
theorem brows_any (w : World) (g r c : Nat) (l : List Int) (h : HMt w g r c l) : Calls Try.prog 35 #[.pointer (some ⟨g, 0, none⟩)] w fun e w' => e = .returned (.int .i64 (r : Int)) ∧ w' = w := by
  have CM := hid (bmade_any w g r c l h)
  obtain ⟨_, v, hg, _⟩ := h
  have h0 : w.cell? ⟨g, 1, none⟩ = some (.int .i64 (r : Int)) := (cell_of_row w g 1 _ _ _ hg).trans rfl
  clear hg
  go_enter Try.func35, Try.ntmps35
  go_wp2_with fail
  refine CM.out.mono ?_
  rintro e wq ⟨rfl, hwq⟩
  rw [hwq]
  clear hwq wq
  go_wp2
  go_ret
  exact ⟨rfl, rfl⟩
set_option maxRecDepth 100000 in
set_option maxHeartbeats 8000000 in
theorem products_any (w : World) (g r c : Nat) (l : List Int) (vb : Value) (ds : List (List Int)) (L : Nat) (hm : HMt w g r c l) (hr1 : 1 ≤ r) (hr : r ≤ 256) (hc1 : 1 ≤ c) (hc : c ≤ 256) (hd : HL w vb ds) (hdl : ds.length = c) (hL : ∀ j, j < ds.length → (ds.getD j []).length = L) (hLb : L ≤ 140737488355328) :
    Calls Try.prog 20 #[.pointer (some ⟨g, 0, none⟩), vb] w fun e w' => ∃ v', e = .returned v' ∧ PW w.heap.size w' v' (prL l c ds L r) ∧ Below w.heap.size w w' := by
  obtain ⟨i1, hi1, hy0, hy1, hy2⟩ := info_parts info_bytes
  have HM := hid hm
  have HD := hid hd
  have HLE := hid hL
  have HDL := hid hdl
  have HML := hid hm.1
  have HBYR : Hid (∀ k, ∀ x ∈ rwL l c k, 0 ≤ x ∧ x < 256) := hid fun k x hx => by
    obtain ⟨_, v, _, hb⟩ := hm
    exact hb.2 x (List.mem_of_mem_take (List.mem_of_mem_drop hx))
  have hmx : Try.prog.follows .mixedOrders = true := by kernel_rfl
  obtain ⟨pb, cb, rfl, _, _⟩ := hd.open
  rw [hdl]
  obtain ⟨wA, HWA⟩ : ∃ x, Hid (w.alloc (.cells #[.slice pb c cb] 29) = x) := ⟨_, rfl⟩
  have BA : Hid (Below w.heap.size w wA) := by rw [← HWA.out]; exact (Below.refl _ w).alloc (Nat.le_refl _) _
  have XA : Hid (Boxed wA w.heap.size 29 (.slice pb c cb)) := by rw [← HWA.out]; exact Boxed.new _ _ _
  have SA : Hid (wA.heap.size = w.heap.size + 1) := by refine hid ?_; rw [← HWA.out]; simp
  have CR := hid (brows_any wA g r c l (hm.below BA.out))
  obtain ⟨w3, hmk3, hown3, hgr3⟩ := run_make_own (P := Try.prog) wA wA.heap.size 29 22 i1 (.slice none 0 0) 1 Try.underlying29 hi1 hy0 hy1 .i64 .i64 r (by rw [hy2]; omega) (by unfold maxLen; omega) (Nat.le_refl _)
  have O3 := hid hown3
  have B3 : Hid (Below wA.heap.size wA w3) := (Below.refl _ wA).grown hgr3 (Nat.le_refl _) (fun k e => by cases e)
  obtain ⟨w4, HW4⟩ : ∃ x, Hid (w3.alloc (.cells #[.slice (some ⟨wA.heap.size, 0, none⟩) 0 r] 29) = x) := ⟨_, rfl⟩
  have b34 : Below w3.heap.size w3 w4 := by rw [← HW4.out]; exact (Below.refl _ _).alloc (Nat.le_refl _) _
  have X4 : Hid (Boxed w4 w3.heap.size 29 (.slice (some ⟨wA.heap.size, 0, none⟩) 0 r)) := by rw [← HW4.out]; exact Boxed.new _ _ _
  have B4a := B3.out.trans (b34.mono B3.out.size)
  have XB4 : Hid (Boxed w4 w.heap.size 29 (.slice pb c cb)) := XA.out.kept (grown_below (r := none) B4a) (by simp)
  have O4 : Hid (w4.ownsRow w.heap.size 22 1 (.slice (some ⟨wA.heap.size, 0, none⟩) 0 r) 0 []) := own_mono (own_below O3.out b34) BA.out.size
  have B4 := hid (BA.out.trans (B4a.mono BA.out.size))
  have hlt3 := hid (O3.out.lt wA.heap.size rfl)
  have S4 : Hid (w4.heap.size = w3.heap.size + 1) := by refine hid ?_; rw [← HW4.out]; simp
  have hs3 : w.heap.size + 1 ≤ w3.heap.size := by have := B3.out.size; rw [SA.out] at this; exact this
  have CA := hid (ball_any w4 g r c l (hm.below B4.out))
  clear hown3 hgr3 hm hd hL hdl B4a b34 O3
  refine (callsIn_wide (n := 3)).1 ?_
  refine callsIn_of_wp_marks Try.func20 rfl trivial (wpIn_wide.2 ?_) rfl
  simp only [Try.ntmps20, List.size_toArray, List.length_cons, List.length_nil, Nat.reduceAdd, Nat.reduceSub, Array.replicate_succ, Array.replicate_zero, List.push_toArray, List.append_toArray, List.nil_append, List.cons_append]
  go_wp2_with fail
  rw [HWA.out]
  refine CR.out.mono ?_
  rintro e wq ⟨rfl, hwq⟩
  rw [hwq]
  clear hwq wq CR
  go_wp2_with fail
  rw [HW4.out]
  clear hmk3
  refine CA.out.mono ?_
  rintro e w5 ⟨b5, rfl, hb5l, hb5h, hm5, hc5, hb5⟩
  have HM5 := hid hm5
  have B5 := hid (B4.out.trans (hb5.mono B4.out.size))
  have X5 : Hid (Boxed w5 w3.heap.size 29 (.slice (some ⟨wA.heap.size, 0, none⟩) 0 r)) := X4.out.kept (grown_below (r := none) hb5) (by simp)
  have XB5 : Hid (Boxed w5 w.heap.size 29 (.slice pb c cb)) := XB4.out.kept (grown_below (r := none) hb5) (by simp)
  have O5 := hid (own_below O4.out hb5)
  have hw5 := hid hb5.size
  -- the blocks that the iteration leans on
  have HDl : Hid (∀ i, mtD w5 b5 i → i < w5.heap.size ∧ i ≠ w3.heap.size ∧ i ≠ w.heap.size ∧ i ≠ wA.heap.size) := by
    rintro i (rfl | ⟨v, hv, hvb⟩)
    · have h1 := S4.out; have h2 := SA.out; have h3 := hlt3.out.2; omega
    · obtain ⟨b0, o0, k0, hg0, _, _, hb0⟩ := HM.out.open hr1 hc1
      have c0 : w.cell? ⟨g, 3, none⟩ = some (.slice (some ⟨b0, o0, none⟩) (r * c) k0) := (cell_of_row w g 3 _ _ _ hg0).trans rfl
      have c4 := (B4.out.cell (World.block_lt_of_cell? w _ c0)).trans c0
      rw [hc5, c4] at hv
      obtain rfl := Option.some.inj hv
      simp only [Value.ownBlock, Option.some.injEq] at hvb
      subst hvb
      obtain ⟨b1, o1, k1, e1, _, _, hcell⟩ := hb0.ne (by rw [HML.out]; exact Nat.mul_pos hr1 hc1)
      simp only [Value.slice.injEq, Option.some.injEq, Addr.mk.injEq, and_true] at e1
      obtain ⟨⟨rfl, rfl⟩, _⟩ := e1
      have h0 := World.block_lt_of_cell? w _ (hcell 0 (by rw [HML.out]; exact Nat.mul_pos hr1 hc1))
      have h1 := S4.out; have h2 := SA.out; have h3 := B5.out.size
      show b0 < w5.heap.size ∧ b0 ≠ w3.heap.size ∧ b0 ≠ w.heap.size ∧ b0 ≠ wA.heap.size
      have h4 : b0 < w.heap.size := h0
      omega
  clear hb5 hm5 hc5 CA X4 XB4 O4
  go_wp2_with fail
  refine (wpIn_wide (n := 3)).1 ?_
  apply range_fit rfl (by decide) (gf := 49) (lb := #[.pointer (some ⟨b5, 0, none⟩)]) rfl trivial (enters_of Try.func49 (by kernel_rfl) rfl)
    (ball_iter (3 - 1) w5 b5 r c l HM5.out hr1 hr hc1 hc (fun i hi => (HDl.out i hi).1)) (KD.refl _ _) (fun i hi => (HDl.out i hi).1) (fun _ _ => rfl)
    (fun i W => ∃ v, Boxed W w3.heap.size 29 v ∧ Boxed W w.heap.size 29 (.slice pb c cb) ∧ PW w.heap.size W v (prL l c ds L i) ∧ Below w.heap.size w W ∧ KD (mtD w5 b5) w5 W ∧ ∀ i, mtD w5 b5 i → v.ownBlock ≠ some i)
    (fun _ _ => False)
    (fun s A C row hs hg hr => by
      obtain ⟨v, h1, h2, h3, h4, h5, h6⟩ := hs
      refine ⟨v, box_from h1 hg hr, box_from h2 hg hr, h3.from hg hr, below_from h4 (Nat.le_refl _) hg hr (by have := B5.out.size; omega), ⟨Nat.le_trans h5.1 hg.size, fun i hi => ?_⟩, h6⟩
      have hlt := (HDl.out i hi).1
      refine (hg.block i (Nat.lt_of_lt_of_le hlt h5.1) fun e => ?_).trans (h5.2 i hi)
      obtain ⟨q1, _⟩ := hr i e.symm
      omega)
    (fun _ _ _ _ hs _ _ => hs)
    (fun k v _ A C row hs hg hr => row_from hs hg hr)
    ⟨_, X5.out, XB5.out, ⟨[], O5.out, fun j hj => by simp [prL] at hj⟩, B5.out, KD.refl _ _, fun i hi q => by simp only [Value.ownBlock, Option.some.injEq] at q; exact (HDl.out i hi).2.2.2 q.symm⟩
  case hassign =>
    intro l k v W K hK
    gi_wp2
    exact hK
  case hstop =>
    intro d c W _ h _
    exact h.elim
  case hbody =>
    rintro lp i v W hlp - ⟨vp, x1, x2, ⟨xs, hrow, hel⟩, x4, x5, x6⟩ hf hi'
    obtain ⟨pp, cp, ep⟩ := own_slc1 hrow
    rw [prL_length] at hrow ep
    subst ep
    obtain ⟨pv, cv, ev⟩ := own_slc1 hf
    have HRL := hid (rwL_length HML.out hi')
    rw [HRL.out] at ev
    subst ev
    have c1 := x1.cell
    have c2 := x2.cell
    have b1l : w3.heap.size < W.heap.size := World.block_lt_of_cell? W _ c1
    have b2l : w.heap.size < W.heap.size := World.block_lt_of_cell? W _ c2
    have CMX := mixed_any W.drew (.slice pv c cv) (.slice pb c cb) (rwL l c i) ds L ((HB.of_own hf (fun x hx => HBYR.out i x hx)).later fun _ _ h => h) ((show HL W (.slice pb c cb) ds by have := HD.out.below x4; rw [HDL.out] at this; exact this).later fun _ _ h => h) (by rw [HRL.out, HDL.out]; exact Nat.le_refl _) (by rw [HDL.out]; exact hc1) HLE.out hLb
    rw [HRL.out] at CMX
    have CMX := hid CMX
    have X1 := hid x1
    have X2 := hid x2
    have HROW := hid hrow
    have HEL := hid hel
    have X4 := hid x4
    have X5 := hid x5
    have X6 := hid x6
    have HBM : Hid (BytI (mixL (rwL l c i) ds c L)) := hid (tbL_byt L fun t => mixV_lt HD.out.gn c t)
    have HPS := hid (prL_succ l c ds L i)
    have HSS : Hid ((fun V : World => V.cell? ⟨w3.heap.size, 0, none⟩ = some (.slice pp i cp) ∧ V.cell? ⟨w.heap.size, 0, none⟩ = some (.slice pb c cb)) W.drew) := hid ⟨c1, c2⟩
    have hir : i ≤ 256 := by omega
    have hW5 := hid x5.1
    clear hrow hel x1 x2 x4 x5 x6 hf c1 c2
    gi_wp2
    refine wpIn_mono (wpIn_region_any hmx (Ev.any_in (ro := some lp) (Y := []) (yv := undef) (Q := fun e a' w' => e = .normal ∧ (KeepsFrom w5.heap.size W w' ∧ KD (mtD w5 b5) W w' ∧ ∃ v, Boxed w' w3.heap.size 29 v ∧ Boxed w' w.heap.size 29 (.slice pb c cb) ∧ PW w.heap.size w' v (prL l c ds L (i + 1)) ∧ Below w.heap.size w w' ∧ KD (mtD w5 b5) w5 w' ∧ ∀ i, mtD w5 b5 i → v.ownBlock ≠ some i)) (fun e a w q => q.1) (by kernel_rfl) _ _ _ _ (Ev.wpAny_of_N (W := fun j => j == 6) (S := (fun V : World => V.cell? ⟨w3.heap.size, 0, none⟩ = some (.slice pp i cp) ∧ V.cell? ⟨w.heap.size, 0, none⟩ = some (.slice pb c cb))) _ false _ _ _ ?_) (fun y hy => by cases hy))) (fun e a' w' q => by rw [q.1.1]; exact q.1.2)
    change Ev.wpN _ _ _ _ _ _ _ _ _ (World.drew _)
    refine Ev.wpN_load (i := 0) (v := ?_) rfl (by kernel_rfl) (by kernel_rfl) (by kernel_rfl) (fun _ _ _ h => by cases h.1) (by rfl) (by kernel_rfl) (Or.inl ⟨by rfl, ?q0⟩) HSS.out ?_
    case q0 => intro w hSw; have hs1 := hSw.1; have hs2 := hSw.2; clear hSw; go_simp; rfl
    simp only [Act.put, List.getElem_toArray, List.getElem_cons_zero, List.getElem_cons_succ, List.setIfInBounds_toArray, List.set_cons_zero, List.set_cons_succ]
    refine Ev.wpN_load (i := 1) (v := ?_) rfl (by kernel_rfl) (by kernel_rfl) (by kernel_rfl) (fun _ _ _ h => by cases h.1) (by rfl) (by kernel_rfl) (Or.inl ⟨by rfl, ?q1⟩) HSS.out ?_
    case q1 => intro w hSw; have hs1 := hSw.1; have hs2 := hSw.2; clear hSw; go_simp; rfl
    simp only [Act.put, List.getElem_toArray, List.getElem_cons_zero, List.getElem_cons_succ, List.setIfInBounds_toArray, List.set_cons_zero, List.set_cons_succ]
    refine Ev.wpN_load (i := 2) (v := ?_) rfl (by kernel_rfl) (by kernel_rfl) (by kernel_rfl) (fun _ _ _ h => by cases h.1) (by rfl) (by kernel_rfl) (Or.inl ⟨by rfl, ?q2⟩) HSS.out ?_
    case q2 => intro w hSw; have hs1 := hSw.1; have hs2 := hSw.2; clear hSw; go_simp; rfl
    simp only [Act.put, List.getElem_toArray, List.getElem_cons_zero, List.getElem_cons_succ, List.setIfInBounds_toArray, List.set_cons_zero, List.set_cons_succ]
    refine Ev.wpN_step (i := 3) (by kernel_rfl) rfl rfl ?_
    go_simp
    refine CMX.out.mono ?_
    rintro e w6 ⟨v6, rfl, ho6, hb6⟩
    have hb6' : Below W.heap.size W w6 := ((Dr.one W 1).below W.heap.size).trans hb6
    have O6 : w6.ownsRow W.heap.size 5 1 v6 (mixL (rwL l c i) ds c L).length ((mixL (rwL l c i) ds c L).map (Value.int .u8)) := by
      have e : (mixL (rwL l c i) ds c L).length = L := tbL_length _ _
      rw [e]
      exact ho6
    obtain ⟨p6, c6, e6⟩ := own_slc1 ho6
    subst e6
    have HS6 : Hid (w6.cell? ⟨w3.heap.size, 0, none⟩ = some (.slice pp i cp) ∧ w6.cell? ⟨w.heap.size, 0, none⟩ = some (.slice pb c cb)) := hid ⟨(hb6.cell b1l).trans HSS.out.1, (hb6.cell b2l).trans HSS.out.2⟩
    have hrow6 := own_below HROW.out hb6'
    have hel6 : ∀ j, j < (prL l c ds L i).length → w6.ownsRow w.heap.size 5 1 (xs.getD j undef) ((prL l c ds L i).getD j []).length (((prL l c ds L i).getD j []).map (Value.int .u8)) ∧ BytI ((prL l c ds L i).getD j []) := fun j hj => ⟨own_below (HEL.out j hj).1 hb6', (HEL.out j hj).2⟩
    have X16 : Boxed w6 w3.heap.size 29 (.slice pp i cp) := X1.out.kept (grown_below (r := none) hb6') (by simp)
    have X26 : Boxed w6 w.heap.size 29 (.slice pb c cb) := X2.out.kept (grown_below (r := none) hb6') (by simp)
    obtain ⟨w7, HW7⟩ : ∃ x, Hid (w6.alloc (.cells #[.slice p6 L c6] 22) = x) := ⟨_, rfl⟩
    have b67 : Below w6.heap.size w6 w7 := by rw [← HW7.out]; exact (Below.refl _ _).alloc (Nat.le_refl _) _
    have hc7 : w7.cell? ⟨w6.heap.size, 0, none⟩ = some (.slice p6 L c6) := by rw [← HW7.out, cell_of_row _ _ _ _ _ _ (heap_alloc_new w6 _)]; rfl
    have s6 := hb6'.size
    have s7 := b67.size
    obtain ⟨v8, w8, hr8, hown8, hgr8, hloc8⟩ := run_append_slice w7 w.heap.size 29 (.slice pp i cp) i xs (own_below hrow6 b67) ⟨w6.heap.size, 0, none⟩ 1 (.slice p6 L c6) hc7 rfl (by omega) (by omega)
    have PP := PW.push (B0 := w.heap.size) (W := w6) (w1 := w8) (u := .slice p6 L c6) (ls := prL l c ds L i) (l := mixL (rwL l c i) ds c L) (xs := xs) (o := .cells #[.slice p6 L c6] 22) (by rw [prL_length]; exact hrow6) hel6 (own_mono O6 (by omega)) HBM.out X16 (by rw [prL_length]; exact hown8) (by rw [HW7.out]; exact hgr8)
    rw [← HPS.out] at PP
    obtain ⟨hp1, hp2, hp3⟩ := PP
    have hc8 := hp2.cell
    have hf8 := hp2.frozen
    have lt6 := hrow6.lt
    have g78 : w7.grownBy w8 (Value.slice pp i cp).ownBlock := hgr8
    have X28 : Boxed w8 w.heap.size 29 (.slice pb c cb) := ((X26.kept (grown_below (r := none) b67) (by simp)).kept g78 (X26.kept (grown_below (r := none) b67) (by simp) |>.not_row (by decide) (own_below hrow6 b67)))
    have HS8 : Hid (w8.cell? ⟨w3.heap.size, 0, none⟩ = some (.slice pp i cp) ∧ w8.cell? ⟨w.heap.size, 0, none⟩ = some (.slice pb c cb)) := hid ⟨hc8, X28.cell⟩
    have HS7 : Hid (w7.cell? ⟨w3.heap.size, 0, none⟩ = some (.slice pp i cp) ∧ w7.cell? ⟨w.heap.size, 0, none⟩ = some (.slice pb c cb)) := hid ⟨(b67.cell (World.block_lt_of_cell? w6 _ HS6.out.1)).trans HS6.out.1, (b67.cell (World.block_lt_of_cell? w6 _ HS6.out.2)).trans HS6.out.2⟩
    have FK : KeepsFrom w5.heap.size W (w8.setCell ⟨w3.heap.size, 0, none⟩ v8) := by
      have a0 : KeepsOthers W w6 := KeepsOthers.of_grownBy (grown_below (r := none) hb6') (fun j o e => by cases e)
      have a1 : KeepsOthers w6 w7 := by rw [← HW7.out]; exact KeepsOthers.alloc w6 _
      have a2 : KeepsOthers w7 w8 := KeepsOthers.of_grownBy g78 fun j o ej hj => by
        rcases (own_below hrow6 b67).2 with ⟨e0, _⟩ | ⟨g, cap, cur, e0, _, hgb, _⟩
        · rw [e0] at ej; simp [Value.ownBlock] at ej
        · rw [e0] at ej
          obtain rfl : g = j := by simpa [Value.ownBlock] using ej
          rw [hgb] at hj; cases hj; rfl
      exact (((a0.trans a1).trans a2).trans (KeepsOthers.setCell _ _ _)).from _
    have FD0 : ∀ j, mtD w5 b5 j → w8.heap[j]? = W.heap[j]? := fun j hj => by
      have hj5 := (HDl.out j hj).1
      have hW := hW5.out
      rw [hgr8.block j (by omega) (fun e => X6.out j hj e.symm), b67.block j (by omega), hb6'.block j (by omega)]
    have FD : KD (mtD w5 b5) W (w8.setCell ⟨w3.heap.size, 0, none⟩ v8) := by
      refine ⟨by simp; have := hgr8.size; omega, fun j hj => ?_⟩
      rw [heap_setCell_other _ _ _ _ (by have := (HDl.out j hj).2.1; simp; omega)]
      exact FD0 j hj
    have FB : Below w.heap.size w (w8.setCell ⟨w3.heap.size, 0, none⟩ v8) := by
      have q1 := X4.out.trans (hb6'.mono X4.out.size)
      have q2 := q1.trans (b67.mono q1.size)
      have q3 := q2.grown hgr8 q2.size (fun j e => by have := (lt6 j e).1; omega)
      exact q3.setCell (p := ⟨w3.heap.size, 0, none⟩) (by show w.heap.size ≤ w3.heap.size; omega) _
    have FN : ∀ j, mtD w5 b5 j → v8.ownBlock ≠ some j := fun j hj e => by
      rcases hloc8 with q | q
      · exact X6.out j hj (q.symm.trans e)
      · have hj5 := (HDl.out j hj).1
        have hW := hW5.out
        rw [q] at e
        have := Option.some.inj e
        omega
    have X29 : Boxed (w8.setCell ⟨w3.heap.size, 0, none⟩ v8) w.heap.size 29 (.slice pb c cb) := (heap_setCell_other w8 ⟨w3.heap.size, 0, none⟩ w.heap.size v8 (by simp; omega)).trans X28
    have FIN := hid (And.intro FK (And.intro FD (⟨v8, hp3, X29, hp1, FB, X5.out.trans FD, FN⟩ : ∃ v, Boxed (w8.setCell ⟨w3.heap.size, 0, none⟩ v8) w3.heap.size 29 v ∧ Boxed (w8.setCell ⟨w3.heap.size, 0, none⟩ v8) w.heap.size 29 (.slice pb c cb) ∧ PW w.heap.size (w8.setCell ⟨w3.heap.size, 0, none⟩ v8) v (prL l c ds L (i + 1)) ∧ Below w.heap.size w (w8.setCell ⟨w3.heap.size, 0, none⟩ v8) ∧ KD (mtD w5 b5) w5 (w8.setCell ⟨w3.heap.size, 0, none⟩ v8) ∧ ∀ i, mtD w5 b5 i → v.ownBlock ≠ some i)))
    obtain ⟨g8, cap8, e8⟩ := ownsRow_succ hown8
    have HR8 := hid hr8
    have HC8 := hid (And.intro hc8 hf8)
    clear FK FD FB FN FD0 hp1 hp2 hp3 hgr8 hown8 hloc8 X28 X29 g78 hc8 hf8 hc7 hel6 hrow6 O6 ho6 hb6 hb6' b67 X16 X26 CMX lt6
    refine ⟨HS6.out, ?_⟩
    refine Ev.wpN_step (i := 4) (by kernel_rfl) rfl rfl ?_
    go_simp
    rw [HW7.out]
    refine ⟨HS7.out, ?_⟩
    refine Ev.wpN_step (i := 5) (by kernel_rfl) rfl rfl ?_
    refine owp_appendL (.tmp 15) (.tmp 19) rfl rfl rfl HR8.out ?_
    refine ⟨.inl HS8.out, ?_⟩
    simp only [Act.put, List.getElem_toArray, List.getElem_cons_zero, List.getElem_cons_succ, List.setIfInBounds_toArray, List.set_cons_zero, List.set_cons_succ]
    subst e8
    refine Ev.wpN_step (i := 6) (by kernel_rfl) rfl rfl ?_
    have hc8 := HC8.out.1
    have hf8 := HC8.out.2
    go_simp
    exact Ev.wpN_end (by kernel_rfl) ⟨rfl, FIN.out⟩
  case hdone =>
    rintro d W hd ⟨vp, x1, x2, x3, x4, x5, x6⟩ hK
    have c1 := x1.cell
    have HKD := hid hK
    have X3 := hid x3
    have X4 := hid x4
    obtain ⟨pp, cp, ep⟩ : ∃ p q, vp = .slice p (prL l c ds L r).length q := by obtain ⟨xs, hrow, _⟩ := x3; exact own_slc1 hrow
    subst ep
    clear x1 x2 x3 x4 x5 x6 hK
    go_wp2
    refine ⟨by simp, .inl ⟨_, _, rfl, run_takeDeferred HKD.out, ?_⟩⟩
    refine ⟨_, results_tmp rfl _ _ _, _, rfl, ?_, X4.out.trans (belowK_b (w := w) (Nat.le_refl _) W d _ _ (by have := hw5.out; have := B4.out.size; omega) HKD.out rfl rfl)⟩
    obtain ⟨xs, hrow, hel⟩ := X3.out
    exact ⟨xs, ownsRow_putObj hrow _ HKD.out rfl, fun j hj => ⟨ownsRow_putObj (hel j hj).1 _ HKD.out rfl, (hel j hj).2⟩⟩
end Go.Proofs.Ytbiplflejijbeaa
namespace Go.Proofs.Ytbiplflejijbeaa
open Go Go.RowKit
theorem xor_i64 (a b : Nat) (ha : a < 256) (hb : b < 256) : bits .xor .i64 (a : Int) (b : Int) = ((a ^^^ b : Nat) : Int) := by
  have hx : a ^^^ b < 2 ^ 8 := Nat.xor_lt_two_pow (by omega) (by omega)
  have h1 : (BitVec.ofInt 64 (a : Int)).toNat = a := by
    rw [BitVec.ofInt_natCast, BitVec.toNat_ofNat]; exact Nat.mod_eq_of_lt (by omega)
  have h2 : (BitVec.ofInt 64 (b : Int)).toNat = b := by
    rw [BitVec.ofInt_natCast, BitVec.toNat_ofNat]; exact Nat.mod_eq_of_lt (by omega)
  show IntKind.i64.wrap ((BitVec.ofInt 64 (a : Int) ^^^ BitVec.ofInt 64 (b : Int)).toNat : Int) = _
  rw [BitVec.toNat_xor, h1, h2, IntKind.wrap_i64]
  omega
def bz256 : List Int := List.replicate 256 0
def cB (l : List Int) : Array Value := (l.map (Value.int .u8)).toArray
theorem cB_size (l : List Int) : (cB l).size = l.length := by simp [cB]
theorem zero_t256 : (Try.prog.info? 72).map (·.zero) = some (some (.agg (cB bz256))) := by kernel_rfl
def InvT (A : List Int) : Prop := A.length = 256 ∧ ∀ x, x < 256 → A.getD x 0 = 0 ∨ A.getD x 0 = ((inv x : Nat) : Int)
theorem InvT.zero : InvT bz256 := ⟨List.length_replicate, fun x hx => Or.inl (by unfold bz256; rw [List.getD_eq_getElem?_getD, List.getElem?_replicate]; split <;> rfl)⟩
theorem InvT.set {A : List Int} (h : InvT A) {x : Nat} (hx : x < 256) : InvT (A.set x ((inv x : Nat) : Int)) ∧ (A.set x ((inv x : Nat) : Int)).getD x 0 = ((inv x : Nat) : Int) := by
  have h1 := h.1
  refine ⟨⟨by simp [h.1], fun y hy => ?_⟩, by simp [List.getD, List.getElem?_set, h1, hx]⟩
  by_cases e : x = y
  · subst e
    right
    simp [List.getD, List.getElem?_set, h1, hx]
  · rcases h.2 y hy with q | q
    · left; simpa [List.getD, List.getElem?_set, e] using q
    · right; simpa [List.getD, List.getElem?_set, e] using q
theorem cB_cell {w : World} {g : Nat} {A : List Int} {T : TypeId} (h : w.heap[g]? = some (.cells (cB A) T (0, 0))) (x : Nat) (hx : x < A.length) : w.cell? ⟨g, x, none⟩ = some (.int .u8 (A.getD x 0)) := by
  rw [cell_of_row _ _ _ _ _ _ h]
  simp [cB, List.getD, List.getElem?_eq_getElem hx]
theorem cB_set {w : World} {g : Nat} {A : List Int} {T : TypeId} (h : w.heap[g]? = some (.cells (cB A) T (0, 0))) (x : Nat) (y : Int) : (w.setCell ⟨g, x, none⟩ (.int .u8 y)).heap[g]? = some (.cells (cB (A.set x y)) T (0, 0)) := by
  exact (heap_setCell_same w g x _ _ _ h).trans (by simp [cB, List.map_set])
set_option maxRecDepth 100000 in
set_option maxHeartbeats 8000000 in
theorem elements_any (w : World) (k n : Nat) (h1 : 1 ≤ k) (hk : k ≤ n) (hn : n ≤ 255) :
    Calls Try.prog 16 #[.int .i64 (k : Int), .int .i64 (n : Int)] w fun e w' => ∃ v', e = .returned v' ∧ w'.ownsRow w.heap.size 5 1 v' (elL k n).length ((elL k n).map (Value.int .u8)) ∧ Below w.heap.size w w' := by
  obtain ⟨i0, hi, hz0, hz1, hz2⟩ := info_parts info_u8
  have hnk : n * k ≤ 65025 := Nat.mul_le_mul hn (by omega : k ≤ 255)
  have hmul : (n : Int) * (k : Int) = ((n * k : Nat) : Int) := by simp
  obtain ⟨z, HZ⟩ : ∃ z, Hid (cB bz256 = z) := ⟨_, rfl⟩
  have hz := zero_t256
  rw [HZ.out] at hz
  have HZ0 := hid hz
  clear hz
  obtain ⟨M, HM⟩ : ∃ M, Hid (n * k = M) := ⟨_, rfl⟩
  rw [HM.out] at hnk hmul
  obtain ⟨wA, HWA⟩ : ∃ x, Hid (w.alloc (.cells z 72) = x) := ⟨_, rfl⟩
  have BA : Hid (Below w.heap.size w wA) := by rw [← HWA.out]; exact (Below.refl _ w).alloc (Nat.le_refl _) _
  have TA : Hid (wA.heap[w.heap.size]? = some (.cells (cB bz256) 72 (0, 0))) := by rw [← HWA.out, HZ.out]; exact heap_alloc_new w _
  have SA : Hid (wA.heap.size = w.heap.size + 1) := by refine hid ?_; rw [← HWA.out]; simp
  obtain ⟨w3, hmk, hown, hgr⟩ := run_make_full (P := Try.prog) wA wA.heap.size 22 5 i0 (.int .u8 0) 1 Try.underlying22 hi hz0 hz1 .i64 .i64 M (by rw [hz2]; omega) (by unfold maxLen; omega) (by omega)
  have hmk2 : (Instr.makeSlice 22 (.int .i64 (M : Int)) (.int .i64 (M : Int))).run Try.prog wA = .ok (.slice (some ⟨wA.heap.size, 0, none⟩) M M) w3 := hmk
  rw [SA.out] at hmk2
  have hb3 : Below wA.heap.size wA w3 := (Below.refl _ wA).grown hgr (by omega) (fun k e => by cases e)
  have B3 : Hid (Below w.heap.size w w3) := BA.out.trans (hb3.mono BA.out.size)
  have T3 : Hid (w3.heap[w.heap.size]? = some (.cells (cB bz256) 72 (0, 0))) := (hb3.block _ (by rw [SA.out]; omega)).trans TA.out
  have HO3 : Hid (w3.ownsRow (w.heap.size + 1) 5 1 (.slice (some ⟨w.heap.size + 1, 0, none⟩) M M) M ((el1 k n 0).map (Value.int .u8))) := by
    have e : (madeCells (Value.int IntKind.u8 0).cells (M * 1)).toList = (el1 k n 0).map (Value.int .u8) := by
      rw [show (Value.int IntKind.u8 0).cells = #[Value.int .u8 0] from rfl, toList_madeCells_one, el1_zero, HM.out, List.map_replicate, Nat.mul_one]
    rw [← e]
    have h := hown
    rw [SA.out] at h
    exact h
  clear hown hgr hmk hb3
  obtain ⟨eb, Heb⟩ : ∃ x, Hid (w.heap.size + 1 = x) := ⟨_, rfl⟩
  have hne : w.heap.size ≠ eb := by rw [← Heb.out]; omega
  rw [Heb.out] at HO3 hmk2
  go_enter Try.func16, Try.ntmps16
  go_wp2_with (first | (refine wpList_alloc_agg HZ0.out rfl rfl ?_; rw [HWA.out]) | fail)
  clear hmk2
  go_loopw [16] (fun i wr => ∃ I : Nat, I ≤ k ∧ i = .int .i64 (I : Int) ∧ Hid (wr.ownsRow eb 5 1 (.slice (some ⟨eb, 0, none⟩) M M) M ((el1 k n I).map (Value.int .u8))) ∧ Hid (wr.heap[w.heap.size]? = some (.cells (cB bz256) 72 (0, 0))) ∧ Hid (Below w.heap.size w wr)) (fun i _ => k - (intOf i).toNat)
  case atStart => exact ⟨0, Nat.zero_le _, rfl, HO3, T3, B3⟩
  case round =>
    clear HO3 T3 B3
    obtain ⟨I, hI, rfl, HO, HT, B⟩ := hrel
    by_cases hlt : I < k
    · have hQ : I * k + I < M := by
        have h2 : (I + 1) * k ≤ n * k := Nat.mul_le_mul_right k (by omega)
        rw [Nat.succ_mul] at h2
        rw [← HM.out]
        omega
      have hm1 : (I : Int) * (k : Int) = ((I * k : Nat) : Int) := by simp
      have HST := hid (el1_step (n := n) hlt hk)
      obtain ⟨Q, HQ⟩ : ∃ x, Hid (I * k = x) := ⟨_, rfl⟩
      rw [HQ.out] at hQ hm1 HST
      have hcx := HO.out.cellAt (Q + I) (by omega)
      have hfz := HO.out.frozenAt (Q + I)
      obtain ⟨zz, hzz⟩ : ∃ zz, ((el1 k n I).map (Value.int .u8))[Q + I]? = some zz := ⟨_, List.getElem?_eq_getElem (by rw [List.length_map, el1_length, HM.out]; exact hQ)⟩
      rw [hzz] at hcx
      have HO2 : Hid ((wr.setCell ⟨eb, Q + I, none⟩ (.int .u8 1)).ownsRow eb 5 1 (.slice (some ⟨eb, 0, none⟩) M M) M ((el1 k n (I + 1)).map (Value.int .u8))) := by
        have h := (HO.out.stored (Q + I) (.int .u8 1)).1
        rw [← List.map_set, HST.out] at h
        exact h
      have T2 : Hid ((wr.setCell ⟨eb, Q + I, none⟩ (.int .u8 1)).heap[w.heap.size]? = some (.cells (cB bz256) 72 (0, 0))) := (heap_setCell_other wr ⟨eb, Q + I, none⟩ w.heap.size (.int .u8 1) (by simpa using hne)).trans HT.out
      have B2 : Hid (Below w.heap.size w (wr.setCell ⟨eb, Q + I, none⟩ (.int .u8 1))) := B.out.setCell (p := ⟨eb, Q + I, none⟩) (by show w.heap.size ≤ eb; rw [← Heb.out]; omega) _
      clear hzz HO HT B
      go_wp2
      exact ⟨⟨I + 1, by omega, by go_num, HO2, T2, B2⟩, by simp [intOf]; omega⟩
    · have hI' : I = k := by omega
      subst hI'
      have HOk : Hid (wr.ownsRow eb 5 1 (.slice (some ⟨eb, 0, none⟩) M M) M ((partTo (elL I n) (I * I)).map (Value.int .u8))) := by
        have := HO.out
        rw [el1_all h1 hk] at this
        exact this
      clear HO hlt hI
      obtain ⟨k, Hkk⟩ : ∃ k, Hid (I = k) := ⟨I, rfl⟩
      rw [Hkk.out] at HOk h1 hk HM hmul
      rw [Hkk.out]
      go_wp2
      go_loopw [8] (fun i wr => ∃ I : Nat, k ≤ I ∧ I ≤ n ∧ i = .int .i64 (I : Int) ∧ Hid (wr.ownsRow eb 5 1 (.slice (some ⟨eb, 0, none⟩) M M) M ((partTo (elL k n) (I * k)).map (Value.int .u8))) ∧ Hid (∃ A, InvT A ∧ wr.heap[w.heap.size]? = some (.cells (cB A) 72 (0, 0))) ∧ Hid (Below w.heap.size w wr)) (fun i _ => n - (intOf i).toNat)
      case atStart => exact ⟨k, Nat.le_refl _, hk, rfl, HOk, ⟨bz256, InvT.zero, HT.out⟩, B⟩
      case round =>
        clear HOk HT B
        obtain ⟨I, hkI, hIn, rfl, HO, HT, B⟩ := hrel
        by_cases hlt : I < n
        · have hm1 : (I : Int) * (k : Int) = ((I * k : Nat) : Int) := by simp
          have hQ0 : I * k + k ≤ M := by
            have h2 : (I + 1) * k ≤ n * k := Nat.mul_le_mul_right k (by omega)
            rw [Nat.succ_mul] at h2
            rw [← HM.out]
            exact h2
          obtain ⟨Q, HQ⟩ : ∃ x, Hid (I * k = x) := ⟨_, rfl⟩
          rw [HQ.out] at hm1 hQ0 HO
          go_wp2
          go_loopw [34] (fun j wr => ∃ J : Nat, J ≤ k ∧ j = .int .i64 (J : Int) ∧ Hid (wr.ownsRow eb 5 1 (.slice (some ⟨eb, 0, none⟩) M M) M ((partTo (elL k n) (Q + J)).map (Value.int .u8))) ∧ Hid (∃ A, InvT A ∧ wr.heap[w.heap.size]? = some (.cells (cB A) 72 (0, 0))) ∧ Hid (Below w.heap.size w wr)) (fun j _ => k - (intOf j).toNat)
          case atStart => exact ⟨0, Nat.zero_le _, rfl, HO, HT, B⟩
          case round =>
            clear HO HT B
            obtain ⟨J, hJ, rfl, HO, HT, B⟩ := hrel
            by_cases hjt : J < k
            · obtain ⟨A, hA, hTA⟩ := HT.out
              have hx0 := xor_i64 I J (by omega) (by omega)
              have hx1 : I ^^^ J < 256 := xor_lt' (by omega) (by omega)
              have hx2 : I ^^^ J ≠ 0 := xor_ne (by omega)
              have HEL : Hid ((elL k n).getD (Q + J) 0 = ((inv (I ^^^ J) : Nat) : Int)) := by
                refine hid ?_
                rw [elL_get k n (Q + J) (by rw [HM.out]; omega), ← HQ.out]
                exact elP_far hkI hjt
              obtain ⟨x, HX⟩ : ∃ x, Hid (I ^^^ J = x) := ⟨_, rfl⟩
              rw [HX.out] at hx0 hx1 hx2 HEL
              obtain ⟨y, HYv⟩ : ∃ y, Hid (((inv x : Nat) : Int) = y) := ⟨_, rfl⟩
              have CI := inv_any wr x hx1 hx2
              rw [HYv.out] at CI HEL
              have CI := hid CI
              have HAs := hid (hA.set hx1)
              rw [HYv.out] at HAs
              have HA := hid hA
              have HTA := hid hTA
              have heb : w.heap.size ≤ eb := by rw [← Heb.out]; omega
              have END : Hid (∀ (W : World) (A' : List Int), W.ownsRow eb 5 1 (.slice (some ⟨eb, 0, none⟩) M M) M ((partTo (elL k n) (Q + J)).map (Value.int .u8)) → InvT A' → W.heap[w.heap.size]? = some (.cells (cB A') 72 (0, 0)) → Below w.heap.size w W →
                  (W.setCell ⟨eb, Q + J, none⟩ (.int .u8 y)).ownsRow eb 5 1 (.slice (some ⟨eb, 0, none⟩) M M) M ((partTo (elL k n) (Q + (J + 1))).map (Value.int .u8)) ∧ (∃ A, InvT A ∧ (W.setCell ⟨eb, Q + J, none⟩ (.int .u8 y)).heap[w.heap.size]? = some (.cells (cB A) 72 (0, 0))) ∧ Below w.heap.size w (W.setCell ⟨eb, Q + J, none⟩ (.int .u8 y))) := hid fun W A' q1 q2 q3 q4 => by
                refine ⟨?_, ⟨A', q2, (heap_setCell_other W ⟨eb, Q + J, none⟩ w.heap.size (.int .u8 y) (by simpa using hne)).trans q3⟩, q4.setCell (p := ⟨eb, Q + J, none⟩) heb _⟩
                have h := (q1.stored (Q + J) (.int .u8 y)).1
                rw [← List.map_set, ← HEL.out, partTo_step (elL k n) (Q + J) (by rw [elL_length, HM.out]; omega)] at h
                rw [← HEL.out]
                exact h
              have CEL : Hid (∀ W : World, W.ownsRow eb 5 1 (.slice (some ⟨eb, 0, none⟩) M M) M ((partTo (elL k n) (Q + J)).map (Value.int .u8)) → (∃ zz, W.cell? ⟨eb, Q + J, none⟩ = some zz) ∧ W.frozen? ⟨eb, Q + J, none⟩ = false) := hid fun W q => by
                have hcx := q.cellAt (Q + J) (by omega)
                exact ⟨⟨_, hcx.trans (List.getElem?_eq_getElem (by rw [List.length_map, partTo_length _ _ (by rw [elL_length, HM.out]; omega), elL_length, HM.out]; omega))⟩, q.frozenAt (Q + J)⟩
              have hcA := cB_cell hTA x (by rw [hA.1]; exact hx1)
              by_cases ha : A.getD x 0 = 0
              · rw [ha] at hcA
                clear hA hTA ha
                go_wp2_with fail
                refine CI.out.mono ?_
                rintro e w5 ⟨rfl, hb5⟩
                have B5 := hid (B.out.trans (hb5.mono B.out.size))
                have O5 := hid (own_below HO.out hb5)
                have T5 : w5.heap[w.heap.size]? = some (.cells (cB A) 72 (0, 0)) := (hb5.block w.heap.size (Array.getElem?_eq_some_iff.1 HTA.out).1).trans HTA.out
                have hc5 := cB_cell T5 x (by rw [HA.out.1]; exact hx1)
                have hf5 : w5.frozen? ⟨w.heap.size, x, none⟩ = false := by simp [World.frozen?, T5]
                have T6 := cB_set T5 x y
                have HT6 := hid T6
                have c6 := cB_cell T6 x (by rw [List.length_set, HA.out.1]; exact hx1)
                rw [HAs.out.2] at c6
                have B6 := hid (B5.out.setCell (p := ⟨w.heap.size, x, none⟩) (Nat.le_refl _) (.int .u8 y))
                have O6 : Hid ((w5.setCell ⟨w.heap.size, x, none⟩ (.int .u8 y)).ownsRow eb 5 1 (.slice (some ⟨eb, 0, none⟩) M M) M ((partTo (elL k n) (Q + J)).map (Value.int .u8))) := hid (ownsRow_setCell_other O5.out (by simpa [Value.ownBlock] using hne.symm) _)
                obtain ⟨⟨zz, hz6⟩, hf6⟩ := CEL.out _ O6.out
                obtain ⟨E1, E2, E3⟩ := END.out _ _ O6.out HAs.out.1 HT6.out B6.out
                have HE := hid (And.intro E1 (And.intro E2 E3))
                clear E1 E2 E3 T5 T6 hb5 CI hcA
                go_wp2
                exact ⟨⟨J + 1, by omega, by go_num, HE.out.1, HE.out.2.1, HE.out.2.2⟩, by simp [intOf]; omega⟩
              · have hay : A.getD x 0 = y := by
                  rcases hA.2 x hx1 with q | q
                  · exact absurd q ha
                  · rw [q]; exact HYv.out
                have hy0 : (y == 0) = false := by rw [← hay]; simpa using ha
                rw [hay] at hcA
                obtain ⟨⟨zz, hz6⟩, hf6⟩ := CEL.out _ HO.out
                obtain ⟨E1, E2, E3⟩ := END.out _ _ HO.out HA.out HTA.out B.out
                have HE := hid (And.intro E1 (And.intro E2 E3))
                clear E1 E2 E3 hA hTA ha hay CI
                go_wp2
                exact ⟨⟨J + 1, by omega, by go_num, HE.out.1, HE.out.2.1, HE.out.2.2⟩, by simp [intOf]; omega⟩
            · have hJ' : J = k := by omega
              subst hJ'
              have HO2 : Hid (wr.ownsRow eb 5 1 (.slice (some ⟨eb, 0, none⟩) M M) M ((partTo (elL J n) ((I + 1) * J)).map (Value.int .u8))) := by
                have := HO.out
                rw [← HQ.out, ← Nat.succ_mul] at this
                exact this
              clear HO
              go_wp2
              exact ⟨⟨I + 1, by omega, by omega, by go_num, HO2, HT, B⟩, by simp [intOf]; omega⟩
        · have hI' : I = n := by omega
          subst hI'
          have HF : Hid (wr.ownsRow w.heap.size 5 1 (.slice (some ⟨eb, 0, none⟩) M M) (elL k I).length ((elL k I).map (Value.int .u8))) := by
            have := HO.out
            rw [show I * k = (elL k I).length from (elL_length k I).symm, partTo_all] at this
            rw [elL_length, HM.out]
            exact own_mono this (by rw [← Heb.out]; omega)
          clear HO
          go_wp2
          go_ret
          exact ⟨_, rfl, by rw [Hkk.out]; exact HF.out, B.out⟩
def HCd (w : World) (gc k n : Nat) : Prop := ∃ g, w.heap[gc]? = some (.cells #[.pointer (some ⟨g, 0, none⟩)] 50 (0, 0)) ∧ HMt w g n k (elL k n)
theorem HCd.below {w w' : World} {gc k n : Nat} (h : HCd w gc k n) (hb : Below w.heap.size w w') : HCd w' gc k n := by
  obtain ⟨g, h1, h2⟩ := h
  exact ⟨g, (hb.block gc (Array.getElem?_eq_some_iff.1 h1).1).trans h1, h2.below hb⟩
theorem elL_byt (k n : Nat) (hk : k ≤ n) (hn : n ≤ 255) (h1 : 1 ≤ k) : ∀ x ∈ elL k n, 0 ≤ x ∧ x < 256 := by
  intro x hx
  obtain ⟨p, hp, rfl⟩ := List.mem_map.1 hx
  have hp := List.mem_range.1 hp
  have h : elF k (p / k) (p % k) < 256 := by
    unfold elF
    split
    · split <;> decide
    · exact inv_lt _
  unfold elP
  omega
set_option maxRecDepth 100000 in
set_option maxHeartbeats 4000000 in
theorem rsnew_ok (w : World) (k n : Nat) (h1 : 1 ≤ k) (hk : k ≤ n) (hn : n ≤ 255) :
    Calls Try.prog 5 #[.int .i64 (k : Int), .int .i64 (n : Int)] w fun e w' => ∃ gc, e = .returned (.tuple #[.pointer (some ⟨gc, 0, none⟩), .int .i64 0]) ∧ HCd w' gc k n ∧ Below w.heap.size w w' := by
  have CE := elements_any w k n h1 hk hn
  rw [elL_length] at CE
  have CE := hid CE
  have HBY := hid (elL_byt k n hk hn h1)
  have CN := hid fun W v (h : HB W v (elL k n)) => bnew_ok W v (elL k n) n k h ⟨by omega, by omega⟩ ⟨h1, by omega⟩ (elL_length k n)
  have q1 : ¬ ((k : Int) < 1) := by omega
  have q2 : ¬ ((k : Int) > (n : Int)) := by omega
  have q3 : ¬ ((n : Int) > 255) := by omega
  obtain ⟨M, HM⟩ : ∃ x, Hid (n * k = x) := ⟨_, rfl⟩
  rw [HM.out] at CE
  unfold gfF at CN
  go_enter Try.func5, Try.ntmps5
  go_wp2_with fail
  refine CE.out.mono ?_
  rintro e w1 ⟨v1, rfl, ho1, hb1⟩
  have H1 : HB w1 v1 (elL k n) := HB.of_own (by rw [elL_length, HM.out]; exact ho1) HBY.out
  have C2 := hid (CN.out w1 v1 H1)
  have B1 := hid hb1
  obtain ⟨p1, c1, rfl⟩ := own_slc ho1
  clear ho1 hb1 H1 CE CN
  go_wp2_with fail
  refine C2.out.mono ?_
  rintro e w2 ⟨g, rfl, hg, hm2, hb2⟩
  have M2 := hid hm2
  have B2 := hid (B1.out.trans (hb2.mono B1.out.size))
  clear hm2 hb2 C2 hg
  go_wp2
  go_ret2
  have bal : Below w2.heap.size w2 (w2.alloc (.cells #[.pointer (some ⟨g, 0, none⟩)] 50)) := (Below.refl _ _).alloc (Nat.le_refl _) _
  exact ⟨w2.heap.size, rfl, ⟨g, heap_alloc_new w2 _, M2.out.below bal⟩, B2.out.trans (bal.mono B2.out.size)⟩
set_option maxHeartbeats 1000000 in
theorem rsnew_bad (w : World) (k n : Int) (h : k < 1 ∨ k > n ∨ n > 255) :
    Calls Try.prog 5 #[.int .i64 k, .int .i64 n] w fun e w' => e = .returned (.tuple #[.pointer none, .int .i64 3]) ∧ w' = w := by
  by_cases q1 : k < 1
  · clear h
    go_enter Try.func5, Try.ntmps5
    go_wp2
    go_ret2
    exact ⟨rfl, rfl⟩
  · by_cases q2 : k > n
    · clear h
      go_enter Try.func5, Try.ntmps5
      go_wp2
      go_ret2
      exact ⟨rfl, rfl⟩
    · have q3 : n > 255 := by omega
      clear h
      go_enter Try.func5, Try.ntmps5
      go_wp2
      go_ret2
      exact ⟨rfl, rfl⟩
theorem bcols_any (w : World) (g r c : Nat) (l : List Int) (h : HMt w g r c l) : Calls Try.prog 34 #[.pointer (some ⟨g, 0, none⟩)] w fun e w' => e = .returned (.int .i64 (c : Int)) ∧ w' = w := by
  have CM := hid (bmade_any w g r c l h)
  obtain ⟨_, v, hg, _⟩ := h
  have h0 : w.cell? ⟨g, 2, none⟩ = some (.int .i64 (c : Int)) := (cell_of_row w g 2 _ _ _ hg).trans rfl
  clear hg
  go_enter Try.func34, Try.ntmps34
  go_wp2_with fail
  refine CM.out.mono ?_
  rintro e wq ⟨rfl, hwq⟩
  rw [hwq]
  clear hwq wq
  go_wp2
  go_ret
  exact ⟨rfl, rfl⟩
theorem cmade_any (w : World) (gc k n : Nat) (h : HCd w gc k n) : Calls Try.prog 17 #[.pointer (some ⟨gc, 0, none⟩)] w fun e w' => e = .returned (.bool true) ∧ w' = w := by
  obtain ⟨g, hg, _⟩ := h
  have h0 : w.cell? ⟨gc, 0, none⟩ = some (.pointer (some ⟨g, 0, none⟩)) := (cell_of_row w gc 0 _ _ _ hg).trans rfl
  go_enter Try.func17, Try.ntmps17
  go_wp2
  go_ret
  exact ⟨rfl, rfl⟩
theorem ck_any (w : World) (gc k n : Nat) (h : HCd w gc k n) : Calls Try.prog 19 #[.pointer (some ⟨gc, 0, none⟩)] w fun e w' => e = .returned (.int .i64 (k : Int)) ∧ w' = w := by
  have CM := hid (cmade_any w gc k n h)
  obtain ⟨g, hg, hm⟩ := h
  have CC := hid (bcols_any w g n k _ hm)
  have h0 : w.cell? ⟨gc, 0, none⟩ = some (.pointer (some ⟨g, 0, none⟩)) := (cell_of_row w gc 0 _ _ _ hg).trans rfl
  clear hg hm
  go_enter Try.func19, Try.ntmps19
  go_wp2_with fail
  refine CM.out.mono ?_
  rintro e wq ⟨rfl, hwq⟩
  rw [hwq]
  clear hwq wq
  go_wp2_with fail
  refine CC.out.mono ?_
  rintro e wq ⟨rfl, hwq⟩
  rw [hwq]
  clear hwq wq
  go_wp2
  go_ret
  exact ⟨rfl, rfl⟩
set_option maxRecDepth 100000 in
set_option maxHeartbeats 4000000 in
theorem fit_ok (w : World) (vb : Value) (ds : List (List Int)) (k L : Nat) (hd : HL w vb ds) (hk : ds.length = k) (h1 : 1 ≤ k) (hkb : k ≤ 255) (hL : ∀ j, j < ds.length → (ds.getD j []).length = L) :
    Calls Try.prog 18 #[vb, .int .i64 (k : Int)] w fun e w' => e = .returned (.int .i64 0) ∧ w' = w := by
  obtain ⟨b, off, cb, rfl, hlb, hcb, hh⟩ := hd.ne (by omega)
  unfold maxLen at hcb
  rw [hk] at hlb ⊢
  have hne : ((k : Int) != (k : Int)) = false := by simp
  have HH := hid hh
  have HLE := hid hL
  have HK := hid hk
  obtain ⟨u0, hu0, hbu0⟩ := hh 0 (by omega)
  rw [Nat.add_zero] at hu0
  obtain ⟨pu, cu, e0, _, _⟩ := hbu0.open
  rw [hL 0 (by omega)] at e0
  subst e0
  clear hd hh hL hk hbu0
  go_enter Try.func18, Try.ntmps18
  go_wp2
  go_loopw [13] (fun i wr => ∃ J : Nat, J ≤ k ∧ i = .int .i64 (J : Int) ∧ wr = w) (fun i _ => k - (intOf i).toNat)
  case atStart => exact ⟨0, Nat.zero_le _, rfl, rfl⟩
  case round =>
    obtain ⟨J, hJ, rfl, hwr⟩ := hrel
    subst hwr
    by_cases hlt : J < k
    · obtain ⟨u, hu, hbu⟩ := HH.out J (by rw [HK.out]; exact hlt)
      obtain ⟨pu2, cu2, e0, _, _⟩ := hbu.open
      rw [HLE.out J (by rw [HK.out]; exact hlt)] at e0
      subst e0
      have hLL : ((L : Int) != (L : Int)) = false := by simp
      clear hbu
      go_wp2
      exact ⟨⟨J + 1, by omega, by go_num, by first | rfl | trivial⟩, by simp [intOf]; omega⟩
    · have hJ' : J = k := by omega
      subst hJ'
      go_wp2
      go_ret
      exact ⟨rfl, rfl⟩
set_option maxRecDepth 100000 in
set_option maxHeartbeats 4000000 in
theorem encode_ok (w : World) (gc k n : Nat) (vb : Value) (ds : List (List Int)) (L : Nat) (hc : HCd w gc k n) (h1 : 1 ≤ k) (hkn : k ≤ n) (hn : n ≤ 255) (hd : HL w vb ds) (hdl : ds.length = k) (hL : ∀ j, j < ds.length → (ds.getD j []).length = L) (hLb : L ≤ 140737488355328) :
    Calls Try.prog 7 #[.pointer (some ⟨gc, 0, none⟩), vb] w fun e w' => ∃ v', e = .returned (.tuple #[v', .int .i64 0]) ∧ PW w.heap.size w' v' (prL (elL k n) k ds L n) ∧ Below w.heap.size w w' := by
  have CM := hid (cmade_any w gc k n hc)
  have CK := hid (ck_any w gc k n hc)
  have CF := hid (fit_ok w vb ds k L hd hdl h1 (by omega) hL)
  obtain ⟨g, hg, hm⟩ := hc
  have CP := hid (products_any w g n k (elL k n) vb ds L hm (by omega) (by omega) h1 (by omega) hd hdl hL hLb)
  have h0 : w.cell? ⟨gc, 0, none⟩ = some (.pointer (some ⟨g, 0, none⟩)) := (cell_of_row w gc 0 _ _ _ hg).trans rfl
  obtain ⟨pb, cb, rfl, _, _⟩ := hd.open
  rw [hdl] at CF CP ⊢
  clear hg hm hd hL
  go_enter Try.func7, Try.ntmps7
  go_wp2_with fail
  refine CM.out.mono ?_
  rintro e wq ⟨rfl, hwq⟩
  rw [hwq]
  clear hwq wq
  go_wp2_with fail
  refine CK.out.mono ?_
  rintro e wq ⟨rfl, hwq⟩
  rw [hwq]
  clear hwq wq
  go_wp2_with fail
  refine CF.out.mono ?_
  rintro e wq ⟨rfl, hwq⟩
  rw [hwq]
  clear hwq wq
  go_wp2_with fail
  refine CP.out.mono ?_
  rintro e w1 ⟨v1, rfl, hp1, hb1⟩
  have P1 := hid hp1
  have B1 := hid hb1
  obtain ⟨xs, hrow, _⟩ := hp1
  obtain ⟨p1, c1, rfl⟩ := own_slc1 hrow
  clear hrow hb1 CP
  go_wp2
  go_ret2
  exact ⟨_, rfl, P1.out, B1.out⟩
theorem cn_any (w : World) (gc k n : Nat) (h : HCd w gc k n) : Calls Try.prog 28 #[.pointer (some ⟨gc, 0, none⟩)] w fun e w' => e = .returned (.int .i64 (n : Int)) ∧ w' = w := by
  have CM := hid (cmade_any w gc k n h)
  obtain ⟨g, hg, hm⟩ := h
  have CC := hid (brows_any w g n k _ hm)
  have h0 : w.cell? ⟨gc, 0, none⟩ = some (.pointer (some ⟨g, 0, none⟩)) := (cell_of_row w gc 0 _ _ _ hg).trans rfl
  clear hg hm
  go_enter Try.func28, Try.ntmps28
  go_wp2_with fail
  refine CM.out.mono ?_
  rintro e wq ⟨rfl, hwq⟩
  rw [hwq]
  clear hwq wq
  go_wp2_with fail
  refine CC.out.mono ?_
  rintro e wq ⟨rfl, hwq⟩
  rw [hwq]
  clear hwq wq
  go_wp2
  go_ret
  exact ⟨rfl, rfl⟩
theorem has_ok (w : World) (gc k n i : Nat) (h : HCd w gc k n) (hi : i < n) : Calls Try.prog 37 #[.pointer (some ⟨gc, 0, none⟩), .int .i64 (i : Int)] w fun e w' => e = .returned (.bool true) ∧ w' = w := by
  have CN := hid (cn_any w gc k n h)
  have q1 : (0 : Int) ≤ (i : Int) := by omega
  have q2 : (i : Int) < (n : Int) := by omega
  clear h
  go_enter Try.func37, Try.ntmps37
  go_wp2_with fail
  refine CN.out.mono ?_
  rintro e wq ⟨rfl, hwq⟩
  rw [hwq]
  clear hwq wq
  go_wp2
  go_ret
  exact ⟨by simp [hi], rfl⟩
set_option maxRecDepth 100000 in
set_option maxHeartbeats 8000000 in
theorem unlike_ok (w : World) (gc k n m : Nat) (gn on cn : Nat) (ns : Nat → Nat) (h : HCd w gc k n) (hm : m ≤ 256) (hcn : m ≤ cn) (hcn2 : cn ≤ 9223372036854775807)
    (hv : ∀ i, i < m → w.cell? ⟨gn, on + i, none⟩ = some (.int .i64 (ns i : Int))) (hns : ∀ i, i < m → ns i < n) (hne : ∀ i j, i < m → j < i → ns j ≠ ns i) :
    Calls Try.prog 36 #[.pointer (some ⟨gc, 0, none⟩), .slice (some ⟨gn, on, none⟩) m cn] w fun e w' => e = .returned (.bool true) ∧ w' = w := by
  have HV := hid hv
  have HNS := hid hns
  have HNE := hid hne
  have HC := hid h
  clear hv hns hne h
  go_enter Try.func36, Try.ntmps36
  go_wp2_with fail
  go_step3
  go_wp2_with fail
  go_step3
  go_wp2_with fail
  go_loopg [5, 12] m (fun g s5 s12 wr => ∃ i : Nat, i + g = m ∧ s5 = .int .i64 (i : Int) ∧ s12 = .int .i64 (i : Int) ∧ Hid (wr = w))
  case atStart => exact ⟨0, by omega, rfl, rfl, hid rfl⟩
  case round =>
    obtain ⟨i, hig, rfl, rfl, HW⟩ := hrel
    have hww := HW.out.symm
    subst hww
    clear HW
    cases gk with
    | zero =>
      have him : i = m := by omega
      subst him
      go_wp2_with fail
      rw [Exit.noGoto_ret]
      go_ret
      exact ⟨by simp, rfl⟩
    | succ g =>
      have him : i < m := by omega
      have q1 := HV.out i him
      obtain ⟨x, HX⟩ : ∃ x, Hid (ns i = x) := ⟨_, hid rfl⟩
      rw [HX.out] at q1
      have hx : x < n := by rw [← HX.out]; exact HNS.out i him
      have CH := hid (has_ok w gc k n x HC.out hx)
      go_wp2_with fail
      refine CH.out.mono ?_
      rintro e wq ⟨rfl, hwq⟩
      rw [hwq]
      clear hwq wq CH
      have hic : i ≤ cn := by omega
      clear q1
      go_wp2_with fail
      go_loopg [25] i (fun g2 s25 wr => ∃ j : Nat, j + g2 = i ∧ s25 = .int .i64 (j : Int) ∧ Hid (wr = w))
      case atStart => exact ⟨0, by omega, rfl, hid rfl⟩
      case round =>
        obtain ⟨j, hjg, rfl, HW⟩ := hrel
        have hww := HW.out.symm
        subst hww
        clear HW
        cases gk with
        | zero =>
          have hji : j = i := by omega
          subst hji
          go_wp2_with fail
          go_roundg g
          case measure => omega
          case rel => exact ⟨j + 1, by omega, by go_num, by go_num, hid rfl⟩
        | succ g2 =>
          have hji : j < i := by omega
          have q1 := HV.out j (by omega)
          have hne : ¬ ns j = x := by rw [← HX.out]; exact HNE.out i j him hji
          obtain ⟨y, HY⟩ : ∃ y, Hid (ns j = y) := ⟨_, hid rfl⟩
          rw [HY.out] at q1 hne
          have hne2 : ((y : Int) == (x : Int)) = false := by simp; exact fun e => hne (by omega)
          go_wp2_with fail
          go_roundg g2
          case measure => omega
          case rel => exact ⟨j + 1, by omega, by go_num, hid rfl⟩
set_option maxRecDepth 100000 in
set_option maxHeartbeats 8000000 in
theorem refused_ok (w : World) (gc k n : Nat) (gn on cn : Nat) (ns : Nat → Nat) (vb : Value) (ds : List (List Int)) (L want : Nat) (h : HCd w gc k n) (hk1 : 1 ≤ k) (hk : k ≤ 255) (hcn : k ≤ cn) (hcn2 : cn ≤ 9223372036854775807)
    (hv : ∀ i, i < k → w.cell? ⟨gn, on + i, none⟩ = some (.int .i64 (ns i : Int))) (hns : ∀ i, i < k → ns i < n) (hne : ∀ i j, i < k → j < i → ns j ≠ ns i) (hd : HL w vb ds) (hdk : ds.length = k) (hL : ∀ j, j < ds.length → (ds.getD j []).length = L) (hw : want < n) :
    Calls Try.prog 21 #[.pointer (some ⟨gc, 0, none⟩), .slice (some ⟨gn, on, none⟩) k cn, vb, .int .i64 (want : Int)] w fun e w' => e = .returned (.int .i64 0) ∧ w' = w := by
  have CM := hid (cmade_any w gc k n h)
  have CK := hid (ck_any w gc k n h)
  have CU := hid (unlike_ok w gc k n k gn on cn ns h (by omega) hcn hcn2 hv hns hne)
  have CH := hid (has_ok w gc k n want h hw)
  have CF := hid (fit_ok w vb ds k L hd hdk hk1 hk hL)
  obtain ⟨b, off, cb, rfl, hlb, hcb, hh⟩ := hd.ne (by omega)
  rw [hdk] at CF ⊢
  have hne' : ((k : Int) != (k : Int)) = false := by simp
  clear hv hns hne hd hL hh hdk h
  go_enter Try.func21, Try.ntmps21
  go_wp2_with fail
  refine CM.out.mono ?_
  rintro e wq ⟨rfl, hwq⟩
  rw [hwq]
  clear hwq wq CM
  go_wp2_with fail
  refine CK.out.mono ?_
  rintro e wq ⟨rfl, hwq⟩
  rw [hwq]
  clear hwq wq
  go_wp2_with fail
  refine CK.out.mono ?_
  rintro e wq ⟨rfl, hwq⟩
  rw [hwq]
  clear hwq wq
  go_wp2_with fail
  refine CU.out.mono ?_
  rintro e wq ⟨rfl, hwq⟩
  rw [hwq]
  clear hwq wq CU
  go_wp2_with fail
  refine CH.out.mono ?_
  rintro e wq ⟨rfl, hwq⟩
  rw [hwq]
  clear hwq wq CH
  go_wp2_with fail
  refine CK.out.mono ?_
  rintro e wq ⟨rfl, hwq⟩
  rw [hwq]
  clear hwq wq
  go_wp2_with fail
  refine CF.out.mono ?_
  rintro e wq ⟨rfl, hwq⟩
  rw [hwq]
  clear hwq wq
  go_wp2_with fail
  go_ret
  exact ⟨rfl, rfl⟩
set_option maxRecDepth 100000 in
set_option maxHeartbeats 8000000 in
theorem back_ok (w : World) (gc k n : Nat) (gn on cn : Nat) (ns : Nat → Nat) (h : HCd w gc k n) (hk1 : 1 ≤ k) (hk : k ≤ 255) (hn : n ≤ 255) (hcn : k ≤ cn) (hcn2 : cn ≤ 9223372036854775807)
    (hv : ∀ i, i < k → w.cell? ⟨gn, on + i, none⟩ = some (.int .i64 (ns i : Int))) (hns : ∀ i, i < k → ns i < n) (hf : (FB.els k (Fd.bes k (mtN (pkL (elL k n) k ns k) k)) k).2 = k) :
    Calls Try.prog 23 #[.pointer (some ⟨gc, 0, none⟩), .slice (some ⟨gn, on, none⟩) k cn] w fun e w' => ∃ g', e = .returned (.tuple #[.pointer (some ⟨g', 0, none⟩), .int .i64 0]) ∧ w.heap.size ≤ g' ∧ HMt w' g' k k (ivL (pkL (elL k n) k ns k) k) ∧ Below w.heap.size w w' := by
  obtain ⟨g, hg, hm⟩ := h
  have CP := hid (bpick_any w g n k (elL k n) gn on k cn ns hm (by omega) hk1 (by omega) hk1 (by omega) hcn hcn2 hv hns)
  have h0 : w.cell? ⟨gc, 0, none⟩ = some (.pointer (some ⟨g, 0, none⟩)) := (cell_of_row w gc 0 _ _ _ hg).trans rfl
  have HF := hid hf
  clear hg hm hv hns hf
  go_enter Try.func23, Try.ntmps23
  go_wp2_with fail
  refine CP.out.mono ?_
  rintro e w1 ⟨g1, rfl, hg1, hm1, hb1⟩
  have CI := hid (binverse_any w1 g1 k _ hm1 hk1 (by omega))
  have B1 := hid hb1
  clear hm1 hb1 CP h0
  go_wp2_with fail
  refine CI.out.mono ?_
  rintro e w2 ⟨hb2, hcase⟩
  have B2 := hid (B1.out.trans (hb2.mono B1.out.size))
  rcases hcase with ⟨hlt, rfl⟩ | ⟨_, g2, rfl, hg2, hm2⟩
  · have := HF.out
    omega
  · have M2 := hid hm2
    have hgg := Nat.le_trans B1.out.size hg2
    clear hm2 CI hb2
    go_wp2_with fail
    go_ret2
    exact ⟨g2, rfl, hgg, M2.out, B2.out⟩
theorem ne_nil_ints (w : World) (a : Addr) (n c : Nat) : (binOp .eql 23 (.slice (some a) n c) (.slice none 0 0)).run Try.prog w = .ok (.bool false) w := by
  simp only [binOp]
  simp [run_equal_slice_nil w 23 _ (some a) n c Try.underlying23]
set_option maxRecDepth 100000 in
set_option maxHeartbeats 4000000 in
theorem clone_ints (w : World) (gn on m cn : Nat) (vs : Nat → Value) (hm : m ≤ 1000000) (hv : ∀ i, i < m → w.cell? ⟨gn, on + i, none⟩ = some (vs i)) (h1 : ∀ i, i < m → (vs i).oneCell' = true) :
    Calls Try.prog 38 #[.slice (some ⟨gn, on, none⟩) m cn] w fun e w' => ∃ v, e = .returned v ∧ w'.ownsRow w.heap.size 3 1 v m ((List.range m).map vs) ∧ Below w.heap.size w w' := by
  obtain ⟨i0, hi, hz0, hz1, hz2⟩ := info_parts info_int
  have hq := fun w => ne_nil_ints w ⟨gn, on, none⟩ m cn
  have HV := hid hv
  have H1 := hid h1
  clear hv h1
  go_enter Try.func38, Try.ntmps38
  go_wp2_with (first | rw [hq] | (at_builtin; refine wpList_append_own _ rfl _ _ 23 rfl w.heap.size 3 i0 (.int .i64 0) 1 8 Try.underlying23 hi hz0 hz1 hz2 rfl (by decide) _ _ _ rfl (World.ownsRow_made w #[] 0 (Nat.le_refl _) (Nat.zero_le _) rfl) ⟨gn, on, none⟩ m cn ((List.range m).map vs) rfl ?qc1 ?qc2 ?qc3 ?qc4 ?qc5 ?qc6 ?_))
  case qc1 => simp
  case qc2 =>
    intro j u hj
    have hjn : j < m := by
      have := (List.getElem?_eq_some_iff.1 hj).1
      simpa using this
    refine Lib.cell?_alloc_some _ ?_
    rw [Go.WideShapes.add_plain, HV.out j hjn]
    rw [List.getElem?_map, List.getElem?_range hjn] at hj
    exact hj
  case qc3 =>
    intro u hu
    obtain ⟨x, hx, rfl⟩ := List.mem_map.1 hu
    exact H1.out x (List.mem_range.1 hx)
  case qc4 => unfold maxLen; omega
  case qc5 => omega
  case qc6 => simp
  intro v' w1 hown hgrow hnil
  go_wp2
  go_ret
  exact ⟨v', rfl, by simpa using hown, ((Below.refl _ w).alloc (Nat.le_refl _) _).grown hgrow (by simp) (by intro k hk; simp [Value.ownBlock] at hk; omega)⟩
theorem ne_nil_lists (w : World) (a : Addr) (n c : Nat) : (binOp .eql 29 (.slice (some a) n c) (.slice none 0 0)).run Try.prog w = .ok (.bool false) w := by
  simp only [binOp]
  simp [run_equal_slice_nil w 29 _ (some a) n c Try.underlying29]
set_option maxRecDepth 100000 in
set_option maxHeartbeats 4000000 in
theorem clone_lists (w : World) (gn on m cn : Nat) (vs : Nat → Value) (hm : m ≤ 1000000) (hv : ∀ i, i < m → w.cell? ⟨gn, on + i, none⟩ = some (vs i)) (h1 : ∀ i, i < m → (vs i).oneCell' = true) :
    Calls Try.prog 39 #[.slice (some ⟨gn, on, none⟩) m cn] w fun e w' => ∃ v, e = .returned v ∧ w'.ownsRow w.heap.size 22 1 v m ((List.range m).map vs) ∧ Below w.heap.size w w' := by
  obtain ⟨i0, hi, hz0, hz1, hz2⟩ := info_parts info_bytes
  have hq := fun w => ne_nil_lists w ⟨gn, on, none⟩ m cn
  have HV := hid hv
  have H1 := hid h1
  clear hv h1
  go_enter Try.func39, Try.ntmps39
  go_wp2_with (first | rw [hq] | (at_builtin; refine wpList_append_own _ rfl _ _ 29 rfl w.heap.size 22 i0 (.slice none 0 0) 1 24 Try.underlying29 hi hz0 hz1 hz2 rfl (by decide) _ _ _ rfl (World.ownsRow_made w #[] 0 (Nat.le_refl _) (Nat.zero_le _) rfl) ⟨gn, on, none⟩ m cn ((List.range m).map vs) rfl ?qc1 ?qc2 ?qc3 ?qc4 ?qc5 ?qc6 ?_))
  case qc1 => simp
  case qc2 =>
    intro j u hj
    have hjn : j < m := by
      have := (List.getElem?_eq_some_iff.1 hj).1
      simpa using this
    refine Lib.cell?_alloc_some _ ?_
    rw [Go.WideShapes.add_plain, HV.out j hjn]
    rw [List.getElem?_map, List.getElem?_range hjn] at hj
    exact hj
  case qc3 =>
    intro u hu
    obtain ⟨x, hx, rfl⟩ := List.mem_map.1 hu
    exact H1.out x (List.mem_range.1 hx)
  case qc4 => unfold maxLen; omega
  case qc5 => omega
  case qc6 => simp
  intro v' w1 hown hgrow hnil
  go_wp2
  go_ret
  exact ⟨v', rfl, by simpa using hown, ((Below.refl _ w).alloc (Nat.le_refl _) _).grown hgrow (by simp) (by intro k hk; simp [Value.ownBlock] at hk; omega)⟩
end Go.Proofs.Ytbiplflejijbeaa
