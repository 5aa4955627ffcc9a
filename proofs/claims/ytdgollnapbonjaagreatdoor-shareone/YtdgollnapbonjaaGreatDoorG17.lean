/- Of the road to shareOneCard_holds: TrLvG, ShSnd1. -/
import Derived.Test.YtdgollnapbonjaaGreatDoorG16
import Derived.Test.YtdgollnapbonjaaGreatDoorG15
import Derived.Test.YtdgollnapbonjaaGreatDoorG13
import Derived.Deep.RegionHeld3
set_option linter.unusedVariables false
set_option linter.unusedSimpArgs false
set_option maxRecDepth 100000
set_option maxHeartbeats 16000000
namespace Go.Proofs.YtdgollnapbonjaaGreatDoor
open Go Go.RowKit
def FlQ (N : List (List Int)) (W L : Nat) (x : Nat) : Prop := x < 2 * W /\ (x = 0 -> (∀ y, 1 <= y -> y < W -> InR N y) /\ ∀ i, L <= i -> i < W -> N.getD (W - 1 + i) [] = pdL i)
theorem fault_any (w : World) (v : Value) (N : List (List Int)) (W L : Nat) (h : HDs w v N) (hlen : N.length + 1 = 2 * W) (hLW : L <= W) (hW : W <= 512) (hW1 : 1 <= W) (hk : KC w) :
  Calls Tryz.prog 62 #[.int .i64 (L : Int), .int .i64 (W : Int), v] w fun e w' => ∃ x : Nat, e = .returned (.int .i64 (x : Int)) /\ FlQ N W L x /\ Below w.heap.size w w' := by
 obtain ⟨b, off, c, ev, hc1, hc2, hbl, hr⟩ := h.ne (by omega)
 unfold maxLen at hc2
 have HV := hid h
 have HR := hid hr
 have HK := hid hk
 have HDN := hid h.2
 obtain ⟨m, HM⟩ : ∃ m, Hid (N.length = m) := ⟨_, rfl⟩
 have hm : m + 1 = 2 * W := by rw [<- HM.out]; omega
 rw [HM.out] at ev hc1
 subst ev
 clear h hr hk hlen
 go_enter Tryz.func62, Tryz.ntmps62
 go_wp2
 go_loopw [7] (fun i wr => ∃ x : Nat, 1 <= x /\ x <= W /\ i = .int .i64 x /\ Hid (∀ y, 1 <= y -> y < x -> InR N y) /\ Hid (Below w.heap.size w wr)) (fun i _ => W - (intOf i).toNat)
 case atStart => exact ⟨1, Nat.le_refl _, hW1, rfl, hid (fun y h1 h2 => by omega), Below.refl _ _⟩
 case round =>
  obtain ⟨x, hx1, hx2, rfl, HIN, HB⟩ := hrel
  have hsz := HB.out.size
  by_cases hlt : x < W
  ·have Rx := hid (range_below (HR.out (x - 1) (by rw [HM.out]; omega)) HB.out hbl)
   have dxD := hid (getD_D HDN.out (x - 1) (by rw [HM.out]; omega))
   have dyD : Hid (D32 (ndL (N.getD (2 * x - 1) []) (N.getD (2 * x) []))) := hid (ndL_D _ _)
   have CA := hid (fun (w' : World) (h : Below w.heap.size w w') => above_any w' _ N x (HV.out.below h) hx1 (by rw [HM.out]; omega) (HK.out.below h))
   have ISX : Hid (N.getD (x - 1) [] = ndL (N.getD (2 * x - 1) []) (N.getD (2 * x) []) -> InR N x) := hid (fun h => h)
   generalize N.getD (x - 1) [] = dx at Rx dxD ISX
   generalize ndL (N.getD (2 * x - 1) []) (N.getD (2 * x) []) = dy at dyD CA ISX
   have hq := fun w => run_neq_bytes w 32 23 Tryz.underlying23 dx dy dxD.out.1 dyD.out.1
   have ew : IntKind.i64.wrap ((x : Int) - 1) = (x : Int) - 1 := by rw [IntKind.wrap_i64]; omega
   have et : ((x : Int) - 1).toNat = x - 1 := by omega
   have hbw : b < wr.heap.size := by omega
   by_cases hde : dx = dy
   ·rw [show decide (dx = dy) = true by simp [hde]] at hq
    have ISX := hid (ISX.out hde)
    clear hde
    go_wp2
    refine wp_region_held_drew (S := Below wr.heap.size wr) (by kernel_rfl) (Below.refl _ _).drew (fun hHeld => ?_)
    have HS := hid hHeld
    clear hHeld
    change wpAnyH _ _ _ _ _ _ _ _ (World.drew _)
    refine wpAnyH_take (i := 0) (v := ?_) rfl (by kernel_rfl) (by kernel_rfl) (by kernel_rfl) (fun _ _ _ h => h) (Or.inl ⟨by rfl, ?q0⟩) HS.out ?_
    case q0 => intro w hSw; go_simp; rfl
    simp only [Act.put, lay6]
    refine wpAnyH_take (i := 1) (v := ?_) rfl (by kernel_rfl) (by kernel_rfl) (by kernel_rfl) (fun _ _ _ h => h) (Or.inl ⟨by rfl, ?q1⟩) HS.out ?_
    case q1 => intro w hSw; go_simp; rfl
    simp only [Act.put, lay6]
    refine wpAnyH_take (i := 2) (v := .int .i64 ((x : Int) - 1)) rfl (by kernel_rfl) (by kernel_rfl) (by kernel_rfl) (fun _ _ _ h => h) (Or.inl ⟨by rfl, ?q2⟩) HS.out ?_
    case q2 => intro w hSw; go_simp
    simp only [Act.put, lay6]
    refine wpAnyH_take (i := 3) (v := .pointer (some ⟨b, off + (x - 1) * 32, none⟩)) rfl (by kernel_rfl) (by kernel_rfl) (by kernel_rfl) (fun _ _ _ h => h) (Or.inl ⟨by rfl, ?q3⟩) HS.out ?_
    case q3 => intro w hSw; go_simp; intro hq; exfalso; omega
    simp only [Act.put, lay6]
    refine wpAnyH_take (i := 4) rfl (by kernel_rfl) (by kernel_rfl) (by kernel_rfl) (fun _ _ _ h => h) (yieldsIf_load_mid (by rfl) 23 _ rfl b (off + (x - 1) * 32) rfl (dc dx) _ (fun W hW => range_below Rx.out hW hbw) Tryz.underlying23 rfl (size_dig dxD.out)) HS.out ?_
    simp only [Act.put, lay6]
    rw [dc_arr]
    refine wpAnyH_take (i := 5) (v := ?_) rfl (by kernel_rfl) (by kernel_rfl) (by kernel_rfl) (fun _ _ _ h => h) (Or.inl ⟨by rfl, ?q5⟩) HS.out ?_
    case q5 => intro w hSw; go_simp; rfl
    simp only [Act.put, lay6]
    refine wpAnyH_take (i := 6) (v := ?_) rfl (by kernel_rfl) (by kernel_rfl) (by kernel_rfl) (fun _ _ _ h => h) (Or.inl ⟨by rfl, ?q6⟩) HS.out ?_
    case q6 => intro w hSw; go_simp; rfl
    simp only [Act.put, lay6]
    refine wpAnyH_ready (rs := [7]) (by kernel_rfl) (by simp) ?_
    refine AllReadyH.cons rfl (fun K hK => ?_) AllReadyH.nil
    go_simp
    refine (CA.out _ (HB.out.trans (HS.out.mono hsz))).mono ?_
    rintro e w5 ⟨rfl, hB5⟩
    have HS5 := hid (HS.out.trans (hB5.mono HS.out.size))
    clear hB5
    refine hK.out _ _ HS5.out (fun _ => ?_)
    clear hK K
    have HS := hid HS5.out
    clear HS5
    refine wpAnyH_take (i := 8) (v := .bool false) rfl (by kernel_rfl) (by kernel_rfl) (by kernel_rfl) (fun _ _ _ h => h) (Or.inl ⟨by rfl, ?q8⟩) HS.out ?_
    case q8 => intro w hSw; go_simp
    simp only [Act.put, lay6]
    refine wpAnyH_done (by kernel_rfl) ?_ _
    go_wp2
    exact ⟨⟨x + 1, by omega, by omega, by go_num, hid (fun y h1 h2 => by
     by_cases hy : y = x
     ·rw [hy]; exact ISX.out
     ·exact HIN.out y h1 (by omega)), HB.out.trans (HS.out.mono hsz)⟩, by simp [intOf]; omega⟩
   ·rw [show decide (dx = dy) = false by simp [hde]] at hq
    clear ISX hde
    go_wp2
    refine wp_region_held_drew (S := Below wr.heap.size wr) (by kernel_rfl) (Below.refl _ _).drew (fun hHeld => ?_)
    have HS := hid hHeld
    clear hHeld
    change wpAnyH _ _ _ _ _ _ _ _ (World.drew _)
    refine wpAnyH_take (i := 0) (v := ?_) rfl (by kernel_rfl) (by kernel_rfl) (by kernel_rfl) (fun _ _ _ h => h) (Or.inl ⟨by rfl, ?q0⟩) HS.out ?_
    case q0 => intro w hSw; go_simp; rfl
    simp only [Act.put, lay6]
    refine wpAnyH_take (i := 1) (v := ?_) rfl (by kernel_rfl) (by kernel_rfl) (by kernel_rfl) (fun _ _ _ h => h) (Or.inl ⟨by rfl, ?q1⟩) HS.out ?_
    case q1 => intro w hSw; go_simp; rfl
    simp only [Act.put, lay6]
    refine wpAnyH_take (i := 2) (v := .int .i64 ((x : Int) - 1)) rfl (by kernel_rfl) (by kernel_rfl) (by kernel_rfl) (fun _ _ _ h => h) (Or.inl ⟨by rfl, ?q2⟩) HS.out ?_
    case q2 => intro w hSw; go_simp
    simp only [Act.put, lay6]
    refine wpAnyH_take (i := 3) (v := .pointer (some ⟨b, off + (x - 1) * 32, none⟩)) rfl (by kernel_rfl) (by kernel_rfl) (by kernel_rfl) (fun _ _ _ h => h) (Or.inl ⟨by rfl, ?q3⟩) HS.out ?_
    case q3 => intro w hSw; go_simp; intro hq; exfalso; omega
    simp only [Act.put, lay6]
    refine wpAnyH_take (i := 4) rfl (by kernel_rfl) (by kernel_rfl) (by kernel_rfl) (fun _ _ _ h => h) (yieldsIf_load_mid (by rfl) 23 _ rfl b (off + (x - 1) * 32) rfl (dc dx) _ (fun W hW => range_below Rx.out hW hbw) Tryz.underlying23 rfl (size_dig dxD.out)) HS.out ?_
    simp only [Act.put, lay6]
    rw [dc_arr]
    refine wpAnyH_take (i := 5) (v := ?_) rfl (by kernel_rfl) (by kernel_rfl) (by kernel_rfl) (fun _ _ _ h => h) (Or.inl ⟨by rfl, ?q5⟩) HS.out ?_
    case q5 => intro w hSw; go_simp; rfl
    simp only [Act.put, lay6]
    refine wpAnyH_take (i := 6) (v := ?_) rfl (by kernel_rfl) (by kernel_rfl) (by kernel_rfl) (fun _ _ _ h => h) (Or.inl ⟨by rfl, ?q6⟩) HS.out ?_
    case q6 => intro w hSw; go_simp; rfl
    simp only [Act.put, lay6]
    refine wpAnyH_ready (rs := [7]) (by kernel_rfl) (by simp) ?_
    refine AllReadyH.cons rfl (fun K hK => ?_) AllReadyH.nil
    go_simp
    refine (CA.out _ (HB.out.trans (HS.out.mono hsz))).mono ?_
    rintro e w5 ⟨rfl, hB5⟩
    have HS5 := hid (HS.out.trans (hB5.mono HS.out.size))
    clear hB5
    refine hK.out _ _ HS5.out (fun _ => ?_)
    clear hK K
    have HS := hid HS5.out
    clear HS5
    refine wpAnyH_take (i := 8) (v := .bool true) rfl (by kernel_rfl) (by kernel_rfl) (by kernel_rfl) (fun _ _ _ h => h) (Or.inl ⟨by rfl, ?q8⟩) HS.out ?_
    case q8 => intro w hSw; go_simp
    simp only [Act.put, lay6]
    refine wpAnyH_done (by kernel_rfl) ?_ _
    go_wp2
    go_ret
    exact ⟨x, rfl, ⟨by omega, fun h => by omega⟩, HB.out.trans (HS.out.mono hsz)⟩
  ·have hxW : x = W := by omega
   subst hxW
   go_wp2
   go_loopw [8] (fun i wr' => ∃ k : Nat, L <= k /\ k <= x /\ i = .int .i64 k /\ Hid (∀ i, L <= i -> i < k -> N.getD (x - 1 + i) [] = pdL i) /\ Hid (Below w.heap.size w wr')) (fun i _ => x - (intOf i).toNat)
   case atStart => exact ⟨L, Nat.le_refl _, hLW, rfl, hid (fun i h1 h2 => by omega), HB⟩
   case round =>
    clear HB hsz
    obtain ⟨k, hk1, hk2, rfl, HPD, HB⟩ := hrel
    have hsz := HB.out.size
    by_cases hkl : k < x
    ·have Rx := hid (range_below (HR.out (x + k - 1) (by rw [HM.out]; omega)) HB.out hbl)
     have dxD := hid (getD_D HDN.out (x + k - 1) (by rw [HM.out]; omega))
     have CP := hid (fun (w' : World) (h : Below w.heap.size w w') => tpad_any w' k (by omega) (HK.out.below h))
     have dyD := hid (pdL_D k)
     have ISX : Hid (N.getD (x + k - 1) [] = pdL k -> N.getD (x - 1 + k) [] = pdL k) := hid (fun h => by rw [show x - 1 + k = x + k - 1 by omega]; exact h)
     generalize N.getD (x + k - 1) [] = dx at Rx dxD ISX
     obtain ⟨dy, HDY⟩ : ∃ dx, Hid (pdL k = dx) := ⟨_, rfl⟩
     rw [HDY.out] at dyD CP
     rw [show (dx = pdL k) = (dx = dy) by rw [HDY.out]] at ISX
     have hq := fun w => run_neq_bytes w 32 23 Tryz.underlying23 dx dy dxD.out.1 dyD.out.1
     have ew0 : IntKind.i64.wrap ((x : Int) + (k : Int)) = (x : Int) + (k : Int) := by rw [IntKind.wrap_i64]; omega
     have ew : IntKind.i64.wrap ((x : Int) + (k : Int) - 1) = (x : Int) + (k : Int) - 1 := by rw [IntKind.wrap_i64]; omega
     have et : ((x : Int) + (k : Int) - 1).toNat = x + k - 1 := by omega
     have ew32 : IntKind.u32.wrap (k : Int) = (k : Int) := by rw [IntKind.wrap_u32]; omega
     have hbw : b < wr.heap.size := by omega
     by_cases hde : dx = dy
     ·rw [show decide (dx = dy) = true by simp [hde]] at hq
      have ISX := hid (ISX.out hde)
      clear hde
      go_wp2
      refine wp_region_held_drew (S := Below wr.heap.size wr) (by kernel_rfl) (Below.refl _ _).drew (fun hHeld => ?_)
      have HS := hid hHeld
      clear hHeld
      change wpAnyH _ _ _ _ _ _ _ _ (World.drew _)
      refine wpAnyH_take (i := 0) (v := ?_) rfl (by kernel_rfl) (by kernel_rfl) (by kernel_rfl) (fun _ _ _ h => h) (Or.inl ⟨by rfl, ?q0⟩) HS.out ?_
      case q0 => intro w hSw; go_simp; rfl
      simp only [Act.put, lay6]
      refine wpAnyH_take (i := 1) (v := ?_) rfl (by kernel_rfl) (by kernel_rfl) (by kernel_rfl) (fun _ _ _ h => h) (Or.inl ⟨by rfl, ?q1⟩) HS.out ?_
      case q1 => intro w hSw; go_simp; rfl
      simp only [Act.put, lay6]
      refine wpAnyH_take (i := 2) (v := .int .i64 ((x : Int) + (k : Int) - 1)) rfl (by kernel_rfl) (by kernel_rfl) (by kernel_rfl) (fun _ _ _ h => h) (Or.inl ⟨by rfl, ?q2⟩) HS.out ?_
      case q2 => intro w hSw; go_simp
      simp only [Act.put, lay6]
      refine wpAnyH_take (i := 3) (v := .pointer (some ⟨b, off + (x + k - 1) * 32, none⟩)) rfl (by kernel_rfl) (by kernel_rfl) (by kernel_rfl) (fun _ _ _ h => h) (Or.inl ⟨by rfl, ?q3⟩) HS.out ?_
      case q3 => intro w hSw; go_simp; intro hq; exfalso; omega
      simp only [Act.put, lay6]
      refine wpAnyH_take (i := 4) rfl (by kernel_rfl) (by kernel_rfl) (by kernel_rfl) (fun _ _ _ h => h) (yieldsIf_load_mid (by rfl) 23 _ rfl b (off + (x + k - 1) * 32) rfl (dc dx) _ (fun W hW => range_below Rx.out hW hbw) Tryz.underlying23 rfl (size_dig dxD.out)) HS.out ?_
      simp only [Act.put, lay6]
      rw [dc_arr]
      refine wpAnyH_take (i := 5) (v := ?_) rfl (by kernel_rfl) (by kernel_rfl) (by kernel_rfl) (fun _ _ _ h => h) (Or.inl ⟨by rfl, ?q5⟩) HS.out ?_
      case q5 => intro w hSw; go_simp; rfl
      simp only [Act.put, lay6]
      refine wpAnyH_take (i := 6) (v := .int .u32 (k : Int)) rfl (by kernel_rfl) (by kernel_rfl) (by kernel_rfl) (fun _ _ _ h => h) (Or.inl ⟨by rfl, ?q6⟩) HS.out ?_
      case q6 => intro w hSw; go_simp
      simp only [Act.put, lay6]
      refine wpAnyH_ready (rs := [7]) (by kernel_rfl) (by simp) ?_
      refine AllReadyH.cons rfl (fun K hK => ?_) AllReadyH.nil
      go_simp
      refine (CP.out _ (HB.out.trans (HS.out.mono hsz))).mono ?_
      rintro e w5 ⟨rfl, hB5⟩
      have HS5 := hid (HS.out.trans (hB5.mono HS.out.size))
      clear hB5
      refine hK.out _ _ HS5.out (fun _ => ?_)
      clear hK K
      have HS := hid HS5.out
      clear HS5
      refine wpAnyH_take (i := 8) (v := .bool false) rfl (by kernel_rfl) (by kernel_rfl) (by kernel_rfl) (fun _ _ _ h => h) (Or.inl ⟨by rfl, ?q8⟩) HS.out ?_
      case q8 => intro w hSw; go_simp
      simp only [Act.put, lay6]
      refine wpAnyH_done (by kernel_rfl) ?_ _
      go_wp2
      exact ⟨⟨k + 1, by omega, by omega, by go_num, hid (fun i h1 h2 => by
       by_cases hy : i = k
       ·rw [hy]; exact ISX.out
       ·exact HPD.out i h1 (by omega)), HB.out.trans (HS.out.mono hsz)⟩, by simp [intOf]; omega⟩
     ·rw [show decide (dx = dy) = false by simp [hde]] at hq
      clear ISX hde
      go_wp2
      refine wp_region_held_drew (S := Below wr.heap.size wr) (by kernel_rfl) (Below.refl _ _).drew (fun hHeld => ?_)
      have HS := hid hHeld
      clear hHeld
      change wpAnyH _ _ _ _ _ _ _ _ (World.drew _)
      refine wpAnyH_take (i := 0) (v := ?_) rfl (by kernel_rfl) (by kernel_rfl) (by kernel_rfl) (fun _ _ _ h => h) (Or.inl ⟨by rfl, ?q0⟩) HS.out ?_
      case q0 => intro w hSw; go_simp; rfl
      simp only [Act.put, lay6]
      refine wpAnyH_take (i := 1) (v := ?_) rfl (by kernel_rfl) (by kernel_rfl) (by kernel_rfl) (fun _ _ _ h => h) (Or.inl ⟨by rfl, ?q1⟩) HS.out ?_
      case q1 => intro w hSw; go_simp; rfl
      simp only [Act.put, lay6]
      refine wpAnyH_take (i := 2) (v := .int .i64 ((x : Int) + (k : Int) - 1)) rfl (by kernel_rfl) (by kernel_rfl) (by kernel_rfl) (fun _ _ _ h => h) (Or.inl ⟨by rfl, ?q2⟩) HS.out ?_
      case q2 => intro w hSw; go_simp
      simp only [Act.put, lay6]
      refine wpAnyH_take (i := 3) (v := .pointer (some ⟨b, off + (x + k - 1) * 32, none⟩)) rfl (by kernel_rfl) (by kernel_rfl) (by kernel_rfl) (fun _ _ _ h => h) (Or.inl ⟨by rfl, ?q3⟩) HS.out ?_
      case q3 => intro w hSw; go_simp; intro hq; exfalso; omega
      simp only [Act.put, lay6]
      refine wpAnyH_take (i := 4) rfl (by kernel_rfl) (by kernel_rfl) (by kernel_rfl) (fun _ _ _ h => h) (yieldsIf_load_mid (by rfl) 23 _ rfl b (off + (x + k - 1) * 32) rfl (dc dx) _ (fun W hW => range_below Rx.out hW hbw) Tryz.underlying23 rfl (size_dig dxD.out)) HS.out ?_
      simp only [Act.put, lay6]
      rw [dc_arr]
      refine wpAnyH_take (i := 5) (v := ?_) rfl (by kernel_rfl) (by kernel_rfl) (by kernel_rfl) (fun _ _ _ h => h) (Or.inl ⟨by rfl, ?q5⟩) HS.out ?_
      case q5 => intro w hSw; go_simp; rfl
      simp only [Act.put, lay6]
      refine wpAnyH_take (i := 6) (v := .int .u32 (k : Int)) rfl (by kernel_rfl) (by kernel_rfl) (by kernel_rfl) (fun _ _ _ h => h) (Or.inl ⟨by rfl, ?q6⟩) HS.out ?_
      case q6 => intro w hSw; go_simp
      simp only [Act.put, lay6]
      refine wpAnyH_ready (rs := [7]) (by kernel_rfl) (by simp) ?_
      refine AllReadyH.cons rfl (fun K hK => ?_) AllReadyH.nil
      go_simp
      refine (CP.out _ (HB.out.trans (HS.out.mono hsz))).mono ?_
      rintro e w5 ⟨rfl, hB5⟩
      have HS5 := hid (HS.out.trans (hB5.mono HS.out.size))
      clear hB5
      refine hK.out _ _ HS5.out (fun _ => ?_)
      clear hK K
      have HS := hid HS5.out
      clear HS5
      refine wpAnyH_take (i := 8) (v := .bool true) rfl (by kernel_rfl) (by kernel_rfl) (by kernel_rfl) (fun _ _ _ h => h) (Or.inl ⟨by rfl, ?q8⟩) HS.out ?_
      case q8 => intro w hSw; go_simp
      simp only [Act.put, lay6]
      refine wpAnyH_done (by kernel_rfl) ?_ _
      go_wp2
      go_ret
      exact ⟨x + k, by simp, ⟨by omega, fun h => by omega⟩, HB.out.trans (HS.out.mono hsz)⟩
    ·have hkx : k = x := by omega
     go_wp2
     go_ret
     exact ⟨0, rfl, ⟨by omega, fun _ => ⟨HIN.out, fun i h1 h2 => HPD.out i h1 (by omega)⟩⟩, HB.out⟩
def LvQ (w : World) (n : Nat) (N : List (List Int)) (e : Ending) (w' : World) : Prop :=
 ∃ (u : Value) (x E : Int), e = .returned (.tuple #[u, .int .i64 x, .int .i64 E]) /\ ((E = 0 /\ ∃ ls : List (List Int), ls.length = n /\ (∀ d ∈ ls, D32 d) /\ IsT ls (wdN n) N /\ HDs w' u ls) \/ E ≠ 0) /\ Below w.heap.size w w'
theorem leaves_any (w : World) (v : Value) (n : Nat) (N : List (List Int)) (h : HDs w v N) (h1 : 1 <= n) (h2 : n <= 512) (hlen : N.length + 1 = 2 * wdN n) (hk : KC w) :
  Calls Tryz.prog 37 #[.int .i64 (n : Int), v] w fun e w' => LvQ w n N e w' := by
 have hWg := wdN_ge n h2
 have hWl := wdN_le n
 obtain ⟨b, off, c, ev, hc1, hc2, hbl, hr⟩ := h.ne (by omega)
 unfold maxLen at hc2
 have CW := hid (width_ok w n h1 h2)
 have HV := hid h
 have HR := hid hr
 have HK := hid hk
 have HDN := hid h.2
 obtain ⟨W, HW⟩ : ∃ W, Hid (wdN n = W) := ⟨_, rfl⟩
 rw [HW.out] at CW hWg hWl hlen
 have hWl2 := hWl
 obtain ⟨hW5, hW1⟩ := hWl
 obtain ⟨m, HM⟩ : ∃ m, Hid (N.length = m) := ⟨_, rfl⟩
 have hm : m + 1 = 2 * W := by rw [<- HM.out]; omega
 rw [HM.out] at ev hc1
 subst ev
 clear h hr hk hlen
 go_enter Tryz.func37, Tryz.ntmps37
 go_wp2_with fail
 refine CW.out.mono ?_
 rintro e w1 ⟨rfl, hB1⟩
 have BL1 := hid hB1
 have CS := hid (size_w w1 W hW5)
 clear hB1 CW
 go_wp2_with fail
 refine CS.out.mono ?_
 rintro e w2 ⟨rfl, rfl⟩
 have hmi : (m : Int) = 2 * (W : Int) - 1 := by omega
 have hmb : ((m : Int) != 2 * (W : Int) - 1) = false := by simp; omega
 have CF := hid (fault_any w2 _ N W n (HV.out.below BL1.out) (by rw [HM.out]; exact hm) hWg hW5 hW1 (HK.out.below BL1.out))
 have HMI := hid hmi
 clear hmi CS
 go_wp2_with fail
 refine CF.out.mono ?_
 rintro e w3 ⟨x, rfl, hfq, hB3⟩
 have BL3 := hid (BL1.out.trans (hB3.mono BL1.out.size))
 have ew : IntKind.i64.wrap ((W : Int) - 1) = (W : Int) - 1 := by rw [IntKind.wrap_i64]; omega
 have HFQ := hid hfq
 clear hB3 CF hfq
 by_cases hx0 : x = 0
 ·subst hx0
  obtain ⟨ls, HLS⟩ : ∃ ls, Hid ((N.drop (W - 1)).take n = ls) := ⟨_, rfl⟩
  have hLl : ls.length = n := by rw [<- HLS.out, List.length_take, List.length_drop]; have := HM.out; omega
  have hLg : ∀ i, i < n -> ls.getD i [] = N.getD (W - 1 + i) [] := fun i hi => by
   rw [<- HLS.out]
   simp [List.getD, List.getElem?_take, List.getElem?_drop, hi]
  have hLD : ∀ d ∈ ls, D32 d := fun d hd => by rw [<- HLS.out] at hd; exact HDN.out d (List.mem_of_mem_drop (List.mem_of_mem_take hd))
  have HT : Hid (IsT ls W N) := by
   obtain ⟨_, q⟩ := HFQ.out
   obtain ⟨q1, q2⟩ := q rfl
   refine hid ⟨by have := HM.out; omega, fun i hi => ?_, q1⟩
   by_cases hin : i < n
   ·rw [lf_leaf (by omega), hLg i hin]
   ·rw [lf_pad (by omega)]; exact q2 i (by omega) hi
  have CC := hid (scloneD_any w3 b (off + (W - 1) * 32) n ls hLD (fun i hi => by
   have q := range_below (HR.out (W - 1 + i) (by rw [HM.out]; omega)) BL3.out hbl
   rw [<- hLg i (by omega)] at q
   rw [show off + (W - 1) * 32 + i * 32 = off + (W - 1 + i) * 32 by omega]
   exact q) (by omega))
  rw [hLl] at CC
  have HLL := hid hLl
  have HLD := hid hLD
  clear hLl hLg hLD
  go_wp2_with fail
  refine CC.out.mono ?_
  rintro e w4 ⟨u, rfl, hu, hB4⟩
  have HU := hid hu
  have BL4 := hid (BL3.out.trans (hB4.mono BL3.out.size))
  clear hB4 hu CC
  go_wp2
  go_ret3
  exact ⟨u, 0, 0, rfl, .inl ⟨rfl, ls, HLL.out, HLD.out, by rw [HW.out]; exact HT.out, HU.out⟩, BL4.out⟩
 ·have hxi : ((x : Int) != 0) = true := by simp; omega
  have hxi2 : ¬ (x : Int) = 0 := by omega
  clear HFQ
  go_wp2
  go_ret3
  exact ⟨_, _, _, rfl, .inr (by decide), BL3.out⟩
def Bks (w : World) (y : Nat) (cs : Array Value) : Prop := w.heap[y]? = some (.cells cs 23 (0, 0))
theorem Bks.below {w w' : World} {y : Nat} {cs : Array Value} (h : Bks w y cs) (hb : Below w.heap.size w w') : Bks w' y cs := (hb.block y (Array.getElem?_eq_some_iff.1 h).1).trans h
theorem load_mid_on {ops : Array Oper} {rest : List Oper} {op : Oper} {a : Act} {w : World} {Q : Exit -> Act -> World -> Prop} (hw : Region.wanted op (yielded ops a.tmps) = true) (ty : TypeId) (x : Operand) (ho : op.op = .load ty x)
  (b o : Nat) (hx : a.eval x = .pointer (some ⟨b, o, none⟩)) (cs : List Value) (d : TypeDesc) (hc : w.rangeAt b o cs)
  (hu : Tryz.prog.underlying ty = some d) (hd : d.isRow = true) (hi : (Tryz.prog.info? ty).map (·.size) = some cs.length)
  (h : wpList Tryz.prog ops Q rest (a.put op.dst (.agg cs.toArray)) w) : wpList Tryz.prog ops Q (op :: rest) a w := by
 refine wpList_step fun K hK => ?_
 simp only [hw, if_true]
 exact wp_load_mid ty x ho b o hx cs d hc hu hd hi (hK _ _ h)
theorem wp_alloc_digest {o : Oper} {a : Act} {w : World} {K : Act -> World -> Prop} {Q : Exit -> Act -> World -> Prop} (ho : o.op = .alloc 23)
  (h : K (a.put o.dst (.pointer (some ⟨w.heap.size, 0, none⟩))) (w.alloc (.cells (cellsB zeros32) 23))) : o.wp Tryz.prog a w K Q := by
 have hr := run_alloc_digest w
 unfold Oper.wp
 simp only [execOp, ho, Sem.run_bind, hr, Result.andThen_ok]
 exact h
theorem frA_n {s : Sr} (h : s.u.ok) (vc vb vs : Value) : (frA s vc vb vs)[2]? = some (.int .i64 s.u.n) := rfl
theorem frA_dig {s : Sr} (h : s.u.ok) (vc vb vs : Value) : (∀ j, j < 32 -> (frA s vc vb vs)[5 + j]? = some (.int .u8 (s.u.a.getD j 0))) /\ ∀ j, j < 32 -> (frA s vc vb vs)[37 + j]? = some (.int .u8 (s.u.b.getD j 0)) := by
 refine ⟨fun j hj => ?_, fun j hj => ?_⟩
 ·have e := frA_ub h vc vb vs (4 + j) (by omega)
  rw [show 1 + (4 + j) = 5 + j by omega] at e
  rw [e]
  have := ubA_a h j hj
  unfold ubA at this
  rwa [List.getElem?_toArray] at this
 ·have e := frA_ub h vc vb vs (36 + j) (by omega)
  rw [show 1 + (36 + j) = 37 + j by omega] at e
  rw [e]
  have := ubA_b h j hj
  unfold ubA at this
  rwa [List.getElem?_toArray] at this
theorem dc_get {l : List Int} (h : l.length = 32) (j : Nat) (hj : j < 32) : (dc l)[j]? = some (.int .u8 (l.getD j 0)) := by
 unfold dc
 rw [List.getElem?_map, List.getElem?_eq_getElem (by omega)]
 simp [List.getD, List.getElem?_eq_getElem (show j < l.length by omega)]
theorem sharesSound_any (wz : World) (s : Sr) (vc vb vs : Value) (h : HFr wz s vc vb vs) (hf : FrQ s) (hkc : KC wz) : Calls Tryz.prog 19 #[.agg (frA s vc vb vs)] wz fun e w' => e = .returned (.bool (decide (clV s.ch (wdN s.u.n.toNat + s.num.toNat) (rtL (s.bl.getD 0 [])) = s.u.a))) /\ Below wz.heap.size wz w' := by
 have hu := h.u
 have hbl0 : 0 < s.bl.length := by have := hf.bl; have := ndN_le (upI s.u.z s.u.g); omega
 have hn1 := hf.n1
 have hn0 := hf.n0
 have hn2 : s.u.n <= 255 := hf.ok.2.2.1
 obtain ⟨bb, ob, cb, evb, hb1, hb2, hbl, hrb⟩ := h.bl.ne hbl0
 have RB := hid (hrb 0 hbl0)
 have DB := hid (getD_D h.bl.2 0 hbl0)
 have CLM := hid fun (W : World) (hb : Below wz.heap.size wz W) => climb_ok W s.u.n.toNat s.num.toNat (lgN s.u.n.toNat) (rtL (s.bl.getD 0 [])) vc s.ch ⟨digL_length _, digL_byt _⟩ (h.ch.below hb) (by omega) (by omega) (by omega) (lgN_is _).1 (lgN_is _).2 hf.ch (hkc.below hb)
 have CRT := hid fun (W : World) (hb : Below wz.heap.size wz W) => root_any W (s.bl.getD 0 []) (getD_D h.bl.2 0 hbl0) (hkc.below hb)
 rw [show ((s.u.n.toNat : Nat) : Int) = s.u.n by omega, show ((s.num.toNat : Nat) : Int) = s.num by omega] at CLM
 have DR : Hid (D32 (clV s.ch (wdN s.u.n.toNat + s.num.toNat) (rtL (s.bl.getD 0 [])))) := by
  have := clTo_D s.ch h.ch.2 (wdN s.u.n.toNat + s.num.toNat) (rtL (s.bl.getD 0 [])) ⟨digL_length _, digL_byt _⟩ s.ch.length (Nat.le_refl _)
  unfold clTo at this
  rw [List.take_length] at this
  exact hid this
 obtain ⟨r, HR⟩ : ∃ r, Hid (clV s.ch (wdN s.u.n.toNat + s.num.toNat) (rtL (s.bl.getD 0 [])) = r) := ⟨_, rfl⟩
 rw [HR.out] at CLM DR
 rw [HR.out]
 obtain ⟨q, HQ⟩ : ∃ r, Hid (rtL (s.bl.getD 0 []) = r) := ⟨_, rfl⟩
 rw [HQ.out] at CLM CRT
 obtain ⟨b0, HB0'⟩ : ∃ r, Hid (s.bl.getD 0 [] = r) := ⟨_, rfl⟩
 rw [HB0'.out] at CRT RB DB
 have g0 := hid (frA_num s vc vb vs)
 have g2 := hid (frA_n hu vc vb vs)
 have g69 := hid (frA_ch hu vc vb vs)
 have g70 := hid (frA_bl hu vc vb vs)
 have gda := hid (frA_dig hu vc vb vs).1
 obtain ⟨m, Hm⟩ : ∃ x, Hid (frA s vc vb vs = x) := ⟨_, rfl⟩
 rw [Hm.out] at g0 g2 g69 g70 gda
 rw [Hm.out]
 rw [evb] at g70
 obtain ⟨pc, cc, evc, _, _⟩ := h.ch.open
 rw [evc] at g69 CLM
 have UA := hid hu.1
 obtain ⟨num, ⟨k, n, g, z, ua, ub⟩, ch, bl, sg, dt⟩ := s
 dsimp only at *
 obtain ⟨w1, HW1⟩ : ∃ x, Hid (wz.alloc (.cells m 28) = x) := ⟨_, rfl⟩
 have H1 : Hid (w1.heap[wz.heap.size]? = some (.cells m 28 (0, 0))) := by refine hid ?_; rw [<- HW1.out]; exact heap_alloc_new wz _
 have B1 : Hid (Below wz.heap.size wz w1) := by refine hid ?_; rw [<- HW1.out]; exact (Below.refl _ _).alloc (Nat.le_refl _) _
 have Z1 : Hid (w1.heap.size = wz.heap.size + 1) := by refine hid ?_; rw [<- HW1.out]; simp
 have HLT : Hid (wz.heap.size < w1.heap.size) := hid (by rw [Z1.out]; omega)
 have HC0 : Hid (w1.cell? ⟨wz.heap.size, 0, none⟩ = some (.int .i64 num)) := hid ((cell_of_row _ _ _ _ _ _ H1.out).trans g0.out)
 have HC2 : Hid (w1.cell? ⟨wz.heap.size, 2, none⟩ = some (.int .i64 n)) := hid ((cell_of_row _ _ _ _ _ _ H1.out).trans g2.out)
 have HC69 : Hid (w1.cell? ⟨wz.heap.size, 69, none⟩ = some (.slice pc ch.length cc)) := hid ((cell_of_row _ _ _ _ _ _ H1.out).trans g69.out)
 have HC70 : Hid (w1.cell? ⟨wz.heap.size, 70, none⟩ = some (.slice (some ⟨bb, ob, none⟩) bl.length cb)) := hid ((cell_of_row _ _ _ _ _ _ H1.out).trans g70.out)
 have RBL : Hid (∀ W, Below w1.heap.size w1 W -> W.rangeAt bb ob (dc b0)) := hid fun W hW => by
  have q1 := range_below RB.out B1.out hbl
  rw [Nat.zero_mul, Nat.add_zero] at q1
  exact range_below q1 hW (by rw [Z1.out]; omega)
 have RUA : Hid (∀ W, Below w1.heap.size w1 W -> W.rangeAt wz.heap.size 5 (dc ua)) := hid fun W hW => by
  refine range_below (range_of_row H1.out (fun j hj => ?_)) hW HLT.out
  rw [dc_length, UA.out.1] at hj
  rw [gda.out j hj, dc_get UA.out.1 j hj]
 obtain ⟨zd, HZD⟩ : ∃ zd, Hid (cellsB zeros32 = zd) := ⟨_, rfl⟩
 obtain ⟨y, HY⟩ : ∃ y, Hid (cellsB r = y) := ⟨_, rfl⟩
 have SY : Hid ((Tryz.prog.info? 23).map (·.size) = some y.size) := by refine hid ?_; rw [<- HY.out, cellsB_size, DR.out.1]; exact size_digest
 have OY : Hid (y.all (·.oneCell') = true) := by refine hid ?_; rw [<- HY.out]; exact cellsB_one _
 have ZY : Hid (zd.size = y.size) := by refine hid ?_; rw [<- HZD.out, <- HY.out, cellsB_size, cellsB_size, DR.out.1, zeros32_length]
 have SUA : Hid ((Tryz.prog.info? 23).map (·.size) = some (dc ua).length) := hid (by rw [dc_length, UA.out.1]; exact size_digest)
 have hq := fun w => run_eql_bytes w 32 23 Tryz.underlying23 r ua DR.out.1 UA.out.1
 rw [HY.out] at CLM hq
 have hbn : ¬ bl.length = 0 := by omega
 clear h hf hu gda g0 g2 g69 g70 hrb hn0 hn1 hn2 hkc
 go_enter Tryz.func19, Tryz.ntmps19
 go_wp2
 rw [HW1.out]
 refine wp_region_held_drew (S := Below w1.heap.size w1) (by kernel_rfl) (Below.refl _ _).drew (fun hHeld => ?_)
 have HS := hid hHeld
 clear hHeld
 change wpAnyH _ _ _ _ _ _ _ _ (World.drew _)
 refine wpAnyH_take (i := 0) (v := .pointer (some ⟨wz.heap.size, 1, none⟩)) rfl (by kernel_rfl) (by kernel_rfl) (by kernel_rfl) (fun _ _ _ h => h) (Or.inl ⟨by rfl, ?q0⟩) HS.out ?_
 case q0 => intro w hSw; have s0 := (hSw.cell (p := ⟨wz.heap.size, 0, none⟩) HLT.out).trans HC0.out; have s2 := (hSw.cell (p := ⟨wz.heap.size, 2, none⟩) HLT.out).trans HC2.out; have s69 := (hSw.cell (p := ⟨wz.heap.size, 69, none⟩) HLT.out).trans HC69.out; have s70 := (hSw.cell (p := ⟨wz.heap.size, 70, none⟩) HLT.out).trans HC70.out; first | (go_simp; done) | (go_simp; rfl) | (go_simp; intro hq; exfalso; omega)
 simp only [Act.put, lay6]
 refine wpAnyH_take (i := 1) (v := .pointer (some ⟨wz.heap.size, 2, none⟩)) rfl (by kernel_rfl) (by kernel_rfl) (by kernel_rfl) (fun _ _ _ h => h) (Or.inl ⟨by rfl, ?q1⟩) HS.out ?_
 case q1 => intro w hSw; have s0 := (hSw.cell (p := ⟨wz.heap.size, 0, none⟩) HLT.out).trans HC0.out; have s2 := (hSw.cell (p := ⟨wz.heap.size, 2, none⟩) HLT.out).trans HC2.out; have s69 := (hSw.cell (p := ⟨wz.heap.size, 69, none⟩) HLT.out).trans HC69.out; have s70 := (hSw.cell (p := ⟨wz.heap.size, 70, none⟩) HLT.out).trans HC70.out; first | (go_simp; done) | (go_simp; rfl) | (go_simp; intro hq; exfalso; omega)
 simp only [Act.put, lay6]
 refine wpAnyH_take (i := 2) (v := .int .i64 n) rfl (by kernel_rfl) (by kernel_rfl) (by kernel_rfl) (fun _ _ _ h => h) (Or.inl ⟨by rfl, ?q2⟩) HS.out ?_
 case q2 => intro w hSw; have s0 := (hSw.cell (p := ⟨wz.heap.size, 0, none⟩) HLT.out).trans HC0.out; have s2 := (hSw.cell (p := ⟨wz.heap.size, 2, none⟩) HLT.out).trans HC2.out; have s69 := (hSw.cell (p := ⟨wz.heap.size, 69, none⟩) HLT.out).trans HC69.out; have s70 := (hSw.cell (p := ⟨wz.heap.size, 70, none⟩) HLT.out).trans HC70.out; first | (go_simp; done) | (go_simp; rfl) | (go_simp; intro hq; exfalso; omega)
 simp only [Act.put, lay6]
 refine wpAnyH_take (i := 3) (v := .pointer (some ⟨wz.heap.size, 0, none⟩)) rfl (by kernel_rfl) (by kernel_rfl) (by kernel_rfl) (fun _ _ _ h => h) (Or.inl ⟨by rfl, ?q3⟩) HS.out ?_
 case q3 => intro w hSw; have s0 := (hSw.cell (p := ⟨wz.heap.size, 0, none⟩) HLT.out).trans HC0.out; have s2 := (hSw.cell (p := ⟨wz.heap.size, 2, none⟩) HLT.out).trans HC2.out; have s69 := (hSw.cell (p := ⟨wz.heap.size, 69, none⟩) HLT.out).trans HC69.out; have s70 := (hSw.cell (p := ⟨wz.heap.size, 70, none⟩) HLT.out).trans HC70.out; first | (go_simp; done) | (go_simp; rfl) | (go_simp; intro hq; exfalso; omega)
 simp only [Act.put, lay6]
 refine wpAnyH_take (i := 4) (v := .int .i64 num) rfl (by kernel_rfl) (by kernel_rfl) (by kernel_rfl) (fun _ _ _ h => h) (Or.inl ⟨by rfl, ?q4⟩) HS.out ?_
 case q4 => intro w hSw; have s0 := (hSw.cell (p := ⟨wz.heap.size, 0, none⟩) HLT.out).trans HC0.out; have s2 := (hSw.cell (p := ⟨wz.heap.size, 2, none⟩) HLT.out).trans HC2.out; have s69 := (hSw.cell (p := ⟨wz.heap.size, 69, none⟩) HLT.out).trans HC69.out; have s70 := (hSw.cell (p := ⟨wz.heap.size, 70, none⟩) HLT.out).trans HC70.out; first | (go_simp; done) | (go_simp; rfl) | (go_simp; intro hq; exfalso; omega)
 simp only [Act.put, lay6]
 refine wpAnyH_take (i := 5) (v := .pointer (some ⟨wz.heap.size, 70, none⟩)) rfl (by kernel_rfl) (by kernel_rfl) (by kernel_rfl) (fun _ _ _ h => h) (Or.inl ⟨by rfl, ?q5⟩) HS.out ?_
 case q5 => intro w hSw; have s0 := (hSw.cell (p := ⟨wz.heap.size, 0, none⟩) HLT.out).trans HC0.out; have s2 := (hSw.cell (p := ⟨wz.heap.size, 2, none⟩) HLT.out).trans HC2.out; have s69 := (hSw.cell (p := ⟨wz.heap.size, 69, none⟩) HLT.out).trans HC69.out; have s70 := (hSw.cell (p := ⟨wz.heap.size, 70, none⟩) HLT.out).trans HC70.out; first | (go_simp; done) | (go_simp; rfl) | (go_simp; intro hq; exfalso; omega)
 simp only [Act.put, lay6]
 refine wpAnyH_take (i := 6) (v := .slice (some ⟨bb, ob, none⟩) bl.length cb) rfl (by kernel_rfl) (by kernel_rfl) (by kernel_rfl) (fun _ _ _ h => h) (Or.inl ⟨by rfl, ?q6⟩) HS.out ?_
 case q6 => intro w hSw; have s0 := (hSw.cell (p := ⟨wz.heap.size, 0, none⟩) HLT.out).trans HC0.out; have s2 := (hSw.cell (p := ⟨wz.heap.size, 2, none⟩) HLT.out).trans HC2.out; have s69 := (hSw.cell (p := ⟨wz.heap.size, 69, none⟩) HLT.out).trans HC69.out; have s70 := (hSw.cell (p := ⟨wz.heap.size, 70, none⟩) HLT.out).trans HC70.out; first | (go_simp; done) | (go_simp; rfl) | (go_simp; intro hq; exfalso; omega)
 simp only [Act.put, lay6]
 refine wpAnyH_take (i := 7) (v := .pointer (some ⟨bb, ob, none⟩)) rfl (by kernel_rfl) (by kernel_rfl) (by kernel_rfl) (fun _ _ _ h => h) (Or.inl ⟨by rfl, ?q7⟩) HS.out ?_
 case q7 => intro w hSw; have s0 := (hSw.cell (p := ⟨wz.heap.size, 0, none⟩) HLT.out).trans HC0.out; have s2 := (hSw.cell (p := ⟨wz.heap.size, 2, none⟩) HLT.out).trans HC2.out; have s69 := (hSw.cell (p := ⟨wz.heap.size, 69, none⟩) HLT.out).trans HC69.out; have s70 := (hSw.cell (p := ⟨wz.heap.size, 70, none⟩) HLT.out).trans HC70.out; first | (go_simp; done) | (go_simp; rfl) | (go_simp; intro hq; exfalso; omega)
 simp only [Act.put, lay6]
 refine wpAnyH_take (i := 8) rfl (by kernel_rfl) (by kernel_rfl) (by kernel_rfl) (fun _ _ _ h => h) (yieldsIf_load_mid (by rfl) 23 _ rfl bb ob rfl (dc b0) _ RBL.out Tryz.underlying23 rfl (size_dig DB.out)) HS.out ?_
 simp only [Act.put, lay6]
 rw [dc_arr]
 refine wpAnyH_take (i := 10) (v := .pointer (some ⟨wz.heap.size, 69, none⟩)) rfl (by kernel_rfl) (by kernel_rfl) (by kernel_rfl) (fun _ _ _ h => h) (Or.inl ⟨by rfl, ?q10⟩) HS.out ?_
 case q10 => intro w hSw; have s0 := (hSw.cell (p := ⟨wz.heap.size, 0, none⟩) HLT.out).trans HC0.out; have s2 := (hSw.cell (p := ⟨wz.heap.size, 2, none⟩) HLT.out).trans HC2.out; have s69 := (hSw.cell (p := ⟨wz.heap.size, 69, none⟩) HLT.out).trans HC69.out; have s70 := (hSw.cell (p := ⟨wz.heap.size, 70, none⟩) HLT.out).trans HC70.out; first | (go_simp; done) | (go_simp; rfl) | (go_simp; intro hq; exfalso; omega)
 simp only [Act.put, lay6]
 refine wpAnyH_take (i := 11) (v := .slice pc ch.length cc) rfl (by kernel_rfl) (by kernel_rfl) (by kernel_rfl) (fun _ _ _ h => h) (Or.inl ⟨by rfl, ?q11⟩) HS.out ?_
 case q11 => intro w hSw; have s0 := (hSw.cell (p := ⟨wz.heap.size, 0, none⟩) HLT.out).trans HC0.out; have s2 := (hSw.cell (p := ⟨wz.heap.size, 2, none⟩) HLT.out).trans HC2.out; have s69 := (hSw.cell (p := ⟨wz.heap.size, 69, none⟩) HLT.out).trans HC69.out; have s70 := (hSw.cell (p := ⟨wz.heap.size, 70, none⟩) HLT.out).trans HC70.out; first | (go_simp; done) | (go_simp; rfl) | (go_simp; intro hq; exfalso; omega)
 simp only [Act.put, lay6]
 refine wpAnyH_ready (rs := [9, 16]) (by kernel_rfl) (by simp) ?_
 refine AllReadyH.cons rfl (fun K hK => ?_) (AllReadyH.cons rfl (fun K hK => ?_) AllReadyH.nil)
 ·go_simp
  refine (CRT.out _ (B1.out.trans (HS.out.mono B1.out.size))).mono ?_
  rintro e v2 ⟨rfl, hd⟩
  have HSv2 := hid (HS.out.trans (hd.mono HS.out.size))
  refine hK.out _ _ HSv2.out (fun _ => ?_)
  clear hK K hd
  refine wpAnyH_ready (rs := [12, 16]) (by kernel_rfl) (by simp) ?_
  refine AllReadyH.cons rfl (fun K hK => ?_) (AllReadyH.cons rfl (fun K hK => ?_) AllReadyH.nil)
  ·go_simp
   refine (CLM.out _ (B1.out.trans (HSv2.out.mono B1.out.size))).mono ?_
   rintro e v3 ⟨rfl, hd⟩
   have HSv3 := hid (HSv2.out.trans (hd.mono HSv2.out.size))
   refine hK.out _ _ HSv3.out (fun _ => ?_)
   clear hK K hd
   refine wpAnyH_take (i := 13) (v := .tuple #[.agg y, .int .i64 0]) rfl (by kernel_rfl) (by kernel_rfl) (by kernel_rfl) (fun _ _ _ h => h) (Or.inl ⟨by rfl, ?q13⟩) HSv3.out ?_
   case q13 => intro w hSw; first | (go_simp; done) | (go_simp; rfl) | (go_simp; intro hq; exfalso; omega)
   simp only [Act.put, lay6]
   refine wpAnyH_take (i := 14) (v := .agg y) rfl (by kernel_rfl) (by kernel_rfl) (by kernel_rfl) (fun _ _ _ h => h) (Or.inl ⟨by rfl, ?q14⟩) HSv3.out ?_
   case q14 => intro w hSw; first | (go_simp; done) | (go_simp; rfl) | (go_simp; intro hq; exfalso; omega)
   simp only [Act.put, lay6]
   refine wpAnyH_take (i := 15) (v := .int .i64 0) rfl (by kernel_rfl) (by kernel_rfl) (by kernel_rfl) (fun _ _ _ h => h) (Or.inl ⟨by rfl, ?q15⟩) HSv3.out ?_
   case q15 => intro w hSw; first | (go_simp; done) | (go_simp; rfl) | (go_simp; intro hq; exfalso; omega)
   simp only [Act.put, lay6]
   refine wpAnyH_ready (rs := [16]) (by kernel_rfl) (by simp) ?_
   refine AllReadyH.cons rfl (fun K hK => ?_) AllReadyH.nil
   refine wp_alloc_digest rfl ?_
   rw [HZD.out]
   obtain ⟨v4, HVv4⟩ : ∃ y, Hid (v3.alloc (.cells zd 23) = y) := ⟨_, rfl⟩
   obtain ⟨x, HX⟩ : ∃ y, Hid (v3.heap.size = y) := ⟨_, rfl⟩
   have HNv4 : Hid (Bks v4 x zd) := by refine hid ?_; rw [<- HVv4.out, <- HX.out]; exact heap_alloc_new v3 _
   have HSv4 : Hid (Below w1.heap.size w1 v4) := by refine hid ?_; rw [<- HVv4.out]; exact (HSv3.out.alloc HSv3.out.size _)
   have HGE : Hid (w1.heap.size <= x) := by refine hid ?_; rw [<- HX.out]; exact HSv3.out.size
   rw [HVv4.out, HX.out]
   refine hK.out _ _ HSv4.out (fun _ => ?_)
   clear hK K
   refine wpAnyH_ready (rs := [17]) (by kernel_rfl) (by simp) ?_
   refine AllReadyH.cons rfl (fun K hK => ?_) AllReadyH.nil
   refine wp_store_row 23 _ _ rfl x y rfl rfl 23 zd HNv4.out SY.out ZY.out OY.out ?_
   have HS5 := hid (bel_setRow HSv4.out HGE.out y)
   have HN5 := hid (setRow_heap v4 x zd y 23 (0, 0) HNv4.out)
   obtain ⟨w5, HW5⟩ : ∃ t, Hid (v4.setRow x y = t) := ⟨_, rfl⟩
   rw [HW5.out] at HS5 HN5 ⊢
   refine hK.out _ _ HS5.out (fun _ => ?_)
   clear hK K
   refine wpAnyH_take (i := 18) (v := .int .i64 0) rfl (by kernel_rfl) (by kernel_rfl) (by kernel_rfl) (fun _ _ _ h => h) (Or.inl ⟨by rfl, ?q18⟩) HS5.out ?_
   case q18 => intro w hSw; first | (go_simp; done) | (go_simp; rfl) | (go_simp; intro hq; exfalso; omega)
   simp only [Act.put, lay6]
   refine wpAnyH_done (by kernel_rfl) ?_ _
   have RU5 := hid (RUA.out w5 HS5.out)
   have B5 := hid (B1.out.trans (HS5.out.mono B1.out.size))
   go_wp2_with (first | (refine wpList_load_row_on rfl 23 _ rfl x rfl 23 y (0, 0) _ HN5.out Tryz.underlying23 rfl SY.out ?_) | (refine load_mid_on rfl 23 _ rfl wz.heap.size 5 rfl (dc ua) _ RU5.out Tryz.underlying23 rfl SUA.out ?_; rw [dc_arr]) | fail)
   go_ret
   exact ⟨rfl, B5.out⟩
  ·refine wp_alloc_digest rfl ?_
   rw [HZD.out]
   obtain ⟨v3, HVv3⟩ : ∃ y, Hid (v2.alloc (.cells zd 23) = y) := ⟨_, rfl⟩
   obtain ⟨x, HX⟩ : ∃ y, Hid (v2.heap.size = y) := ⟨_, rfl⟩
   have HNv3 : Hid (Bks v3 x zd) := by refine hid ?_; rw [<- HVv3.out, <- HX.out]; exact heap_alloc_new v2 _
   have HSv3 : Hid (Below w1.heap.size w1 v3) := by refine hid ?_; rw [<- HVv3.out]; exact (HSv2.out.alloc HSv2.out.size _)
   have HGE : Hid (w1.heap.size <= x) := by refine hid ?_; rw [<- HX.out]; exact HSv2.out.size
   rw [HVv3.out, HX.out]
   refine hK.out _ _ HSv3.out (fun _ => ?_)
   clear hK K
   refine wpAnyH_ready (rs := [12]) (by kernel_rfl) (by simp) ?_
   refine AllReadyH.cons rfl (fun K hK => ?_) AllReadyH.nil
   go_simp
   refine (CLM.out _ (B1.out.trans (HSv3.out.mono B1.out.size))).mono ?_
   rintro e v4 ⟨rfl, hd⟩
   have HSv4 := hid (HSv3.out.trans (hd.mono HSv3.out.size))
   have HNv4 := hid (HNv3.out.below hd)
   refine hK.out _ _ HSv4.out (fun _ => ?_)
   clear hK K hd
   refine wpAnyH_take (i := 13) (v := .tuple #[.agg y, .int .i64 0]) rfl (by kernel_rfl) (by kernel_rfl) (by kernel_rfl) (fun _ _ _ h => h) (Or.inl ⟨by rfl, ?q13⟩) HSv4.out ?_
   case q13 => intro w hSw; first | (go_simp; done) | (go_simp; rfl) | (go_simp; intro hq; exfalso; omega)
   simp only [Act.put, lay6]
   refine wpAnyH_take (i := 14) (v := .agg y) rfl (by kernel_rfl) (by kernel_rfl) (by kernel_rfl) (fun _ _ _ h => h) (Or.inl ⟨by rfl, ?q14⟩) HSv4.out ?_
   case q14 => intro w hSw; first | (go_simp; done) | (go_simp; rfl) | (go_simp; intro hq; exfalso; omega)
   simp only [Act.put, lay6]
   refine wpAnyH_take (i := 15) (v := .int .i64 0) rfl (by kernel_rfl) (by kernel_rfl) (by kernel_rfl) (fun _ _ _ h => h) (Or.inl ⟨by rfl, ?q15⟩) HSv4.out ?_
   case q15 => intro w hSw; first | (go_simp; done) | (go_simp; rfl) | (go_simp; intro hq; exfalso; omega)
   simp only [Act.put, lay6]
   refine wpAnyH_ready (rs := [17]) (by kernel_rfl) (by simp) ?_
   refine AllReadyH.cons rfl (fun K hK => ?_) AllReadyH.nil
   refine wp_store_row 23 _ _ rfl x y rfl rfl 23 zd HNv4.out SY.out ZY.out OY.out ?_
   have HS5 := hid (bel_setRow HSv4.out HGE.out y)
   have HN5 := hid (setRow_heap v4 x zd y 23 (0, 0) HNv4.out)
   obtain ⟨w5, HW5⟩ : ∃ t, Hid (v4.setRow x y = t) := ⟨_, rfl⟩
   rw [HW5.out] at HS5 HN5 ⊢
   refine hK.out _ _ HS5.out (fun _ => ?_)
   clear hK K
   refine wpAnyH_take (i := 18) (v := .int .i64 0) rfl (by kernel_rfl) (by kernel_rfl) (by kernel_rfl) (fun _ _ _ h => h) (Or.inl ⟨by rfl, ?q18⟩) HS5.out ?_
   case q18 => intro w hSw; first | (go_simp; done) | (go_simp; rfl) | (go_simp; intro hq; exfalso; omega)
   simp only [Act.put, lay6]
   refine wpAnyH_done (by kernel_rfl) ?_ _
   have RU5 := hid (RUA.out w5 HS5.out)
   have B5 := hid (B1.out.trans (HS5.out.mono B1.out.size))
   go_wp2_with (first | (refine wpList_load_row_on rfl 23 _ rfl x rfl 23 y (0, 0) _ HN5.out Tryz.underlying23 rfl SY.out ?_) | (refine load_mid_on rfl 23 _ rfl wz.heap.size 5 rfl (dc ua) _ RU5.out Tryz.underlying23 rfl SUA.out ?_; rw [dc_arr]) | fail)
   go_ret
   exact ⟨rfl, B5.out⟩
 ·refine wp_alloc_digest rfl ?_
  rw [HZD.out]
  obtain ⟨v2, HVv2⟩ : ∃ y, Hid ((World.drew w1).alloc (.cells zd 23) = y) := ⟨_, rfl⟩
  obtain ⟨x, HX⟩ : ∃ y, Hid ((World.drew w1).heap.size = y) := ⟨_, rfl⟩
  have HNv2 : Hid (Bks v2 x zd) := by refine hid ?_; rw [<- HVv2.out, <- HX.out]; exact heap_alloc_new (World.drew w1) _
  have HSv2 : Hid (Below w1.heap.size w1 v2) := by refine hid ?_; rw [<- HVv2.out]; exact (HS.out.alloc HS.out.size _)
  have HGE : Hid (w1.heap.size <= x) := by refine hid ?_; rw [<- HX.out]; exact HS.out.size
  rw [HVv2.out, HX.out]
  refine hK.out _ _ HSv2.out (fun _ => ?_)
  clear hK K
  refine wpAnyH_ready (rs := [9]) (by kernel_rfl) (by simp) ?_
  refine AllReadyH.cons rfl (fun K hK => ?_) AllReadyH.nil
  go_simp
  refine (CRT.out _ (B1.out.trans (HSv2.out.mono B1.out.size))).mono ?_
  rintro e v3 ⟨rfl, hd⟩
  have HSv3 := hid (HSv2.out.trans (hd.mono HSv2.out.size))
  have HNv3 := hid (HNv2.out.below hd)
  refine hK.out _ _ HSv3.out (fun _ => ?_)
  clear hK K hd
  refine wpAnyH_ready (rs := [12]) (by kernel_rfl) (by simp) ?_
  refine AllReadyH.cons rfl (fun K hK => ?_) AllReadyH.nil
  go_simp
  refine (CLM.out _ (B1.out.trans (HSv3.out.mono B1.out.size))).mono ?_
  rintro e v4 ⟨rfl, hd⟩
  have HSv4 := hid (HSv3.out.trans (hd.mono HSv3.out.size))
  have HNv4 := hid (HNv3.out.below hd)
  refine hK.out _ _ HSv4.out (fun _ => ?_)
  clear hK K hd
  refine wpAnyH_take (i := 13) (v := .tuple #[.agg y, .int .i64 0]) rfl (by kernel_rfl) (by kernel_rfl) (by kernel_rfl) (fun _ _ _ h => h) (Or.inl ⟨by rfl, ?q13⟩) HSv4.out ?_
  case q13 => intro w hSw; first | (go_simp; done) | (go_simp; rfl) | (go_simp; intro hq; exfalso; omega)
  simp only [Act.put, lay6]
  refine wpAnyH_take (i := 14) (v := .agg y) rfl (by kernel_rfl) (by kernel_rfl) (by kernel_rfl) (fun _ _ _ h => h) (Or.inl ⟨by rfl, ?q14⟩) HSv4.out ?_
  case q14 => intro w hSw; first | (go_simp; done) | (go_simp; rfl) | (go_simp; intro hq; exfalso; omega)
  simp only [Act.put, lay6]
  refine wpAnyH_take (i := 15) (v := .int .i64 0) rfl (by kernel_rfl) (by kernel_rfl) (by kernel_rfl) (fun _ _ _ h => h) (Or.inl ⟨by rfl, ?q15⟩) HSv4.out ?_
  case q15 => intro w hSw; first | (go_simp; done) | (go_simp; rfl) | (go_simp; intro hq; exfalso; omega)
  simp only [Act.put, lay6]
  refine wpAnyH_ready (rs := [17]) (by kernel_rfl) (by simp) ?_
  refine AllReadyH.cons rfl (fun K hK => ?_) AllReadyH.nil
  refine wp_store_row 23 _ _ rfl x y rfl rfl 23 zd HNv4.out SY.out ZY.out OY.out ?_
  have HS5 := hid (bel_setRow HSv4.out HGE.out y)
  have HN5 := hid (setRow_heap v4 x zd y 23 (0, 0) HNv4.out)
  obtain ⟨w5, HW5⟩ : ∃ t, Hid (v4.setRow x y = t) := ⟨_, rfl⟩
  rw [HW5.out] at HS5 HN5 ⊢
  refine hK.out _ _ HS5.out (fun _ => ?_)
  clear hK K
  refine wpAnyH_take (i := 18) (v := .int .i64 0) rfl (by kernel_rfl) (by kernel_rfl) (by kernel_rfl) (fun _ _ _ h => h) (Or.inl ⟨by rfl, ?q18⟩) HS5.out ?_
  case q18 => intro w hSw; first | (go_simp; done) | (go_simp; rfl) | (go_simp; intro hq; exfalso; omega)
  simp only [Act.put, lay6]
  refine wpAnyH_done (by kernel_rfl) ?_ _
  have RU5 := hid (RUA.out w5 HS5.out)
  have B5 := hid (B1.out.trans (HS5.out.mono B1.out.size))
  go_wp2_with (first | (refine wpList_load_row_on rfl 23 _ rfl x rfl 23 y (0, 0) _ HN5.out Tryz.underlying23 rfl SY.out ?_) | (refine load_mid_on rfl 23 _ rfl wz.heap.size 5 rfl (dc ua) _ RU5.out Tryz.underlying23 rfl SUA.out ?_; rw [dc_arr]) | fail)
  go_ret
  exact ⟨rfl, B5.out⟩
end Go.Proofs.YtdgollnapbonjaaGreatDoor
