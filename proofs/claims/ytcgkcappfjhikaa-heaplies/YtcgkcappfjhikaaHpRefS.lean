/- The document's Sorted. -/
import Derived.Test.YtcgkcappfjhikaaHpRefA
set_option linter.unusedVariables false
set_option linter.unusedSimpArgs false
namespace Go.Proofs.Ytcgkcappfjhikaa
open Go Go.RowKit
theorem idxL_inc (l : List Int) (n : Nat) : Inc (idxL l n) := by
  unfold Inc idxL
  rw [List.pairwise_map]
  exact List.pairwise_lt_range
theorem getD_mem {l : List Int} {i : Nat} (h : i < l.length) : l.getD i 0 ∈ l := by rw [getD_of_lt h]; exact List.getElem_mem h
theorem idxL_in {l : List Int} (hl : ∀ x ∈ l, In64 x) : ∀ p ∈ idxL l l.length, In64 p.2 := by
  intro p hp
  obtain ⟨k, hk, rfl⟩ := List.mem_map.1 hp
  exact hl _ (getD_mem (List.mem_range.1 hk))
/-- What the document's Sorted answers. -/
def RsQ (d : Int) (w : World) (l : List Int) (vo : Value) (w' : World) : Prop := ∃ R : List (Nat × Int), R.Perm (idxL l l.length) ∧ R.Pairwise (ahp (keyB d)) ∧ w'.ownsRow w.heap.size 3 1 vo l.length ((R.map (·.2)).map (Value.int .i64)) ∧ Below w.heap.size w w'
set_option maxRecDepth 100000 in
set_option maxHeartbeats 4000000 in
theorem rsorted_ok (w : World) (d : Int) (vl : Value) (l : List Int) (hl : I.HB w vl l) (hd : In64 d) (hroom : (l.length + 1) * 16 ≤ 140737488355328) :
    Calls Try.prog 17 #[.int .i64 d, vl] w fun e w' => ∃ vo, e = .returned vo ∧ RsQ d w l vo w' := by
  have HDD := hid hd
  have HIN : Hid (∀ x ∈ l, In64 x) := hid fun x hx => hl.2 x hx
  obtain ⟨pl, cl, hvl, _, _⟩ := hl.open
  have A : Hid (0 < l.length → ∃ b off, pl = some ⟨b, off, none⟩ ∧ ∀ j, j < l.length → w.cell? ⟨b, off + j, none⟩ = some (.int .i64 (l.getD j 0))) := hid fun h0 => by
    obtain ⟨b, off, c', e', _, _, hh⟩ := hl.ne h0
    rw [hvl] at e'
    simp only [Value.slice.injEq, true_and] at e'
    exact ⟨b, off, e'.1, hh⟩
  subst hvl
  clear hl hd
  obtain ⟨n, hn⟩ : ∃ n, Hid (l.length = n) := ⟨_, rfl⟩
  rw [hn.out] at A hroom
  rw [hn.out]
  go_enter Try.func17, Try.ntmps17
  go_wp2_with fail
  have H0 : Hid (HRf (w.alloc (.cells #[.int .i64 d, .slice none 0 0, .int .i64 0] 33)) w.heap.size d [] 0 (.slice none 0 0)) := hid ⟨heap_alloc_new w _, World.ownsRow_nil _ _ _ _⟩
  have B0 : Hid (Below w.heap.size w (w.alloc (.cells #[.int .i64 d, .slice none 0 0, .int .i64 0] 33))) := hid ((Below.refl _ _).alloc (Nat.le_refl _) _)
  go_loopw [6] (fun vi wr => ∃ (i : Nat) (v' : Value), vi = .int .i64 (i : Int) ∧ i ≤ n ∧ Hid (HRf wr w.heap.size d (idxL l i) i v') ∧ Hid (∀ b, v'.ownBlock = some b → w.heap.size ≤ b) ∧ Hid (Below w.heap.size w wr)) (fun vi _ => n - (intOf vi).toNat)
  case atStart => exact ⟨0, _, rfl, Nat.zero_le _, H0, hid (fun b hb => by cases hb), B0⟩
  case round =>
    clear H0 B0
    obtain ⟨i, v', rfl, hi, HH, HV, HB⟩ := hrel
    by_cases hlt : i < n
    · have hlt' : (i : Int) < (n : Int) := by omega
      obtain ⟨b, off, rfl, hcc⟩ := A.out (by omega)
      have hc0 := hcc i hlt
      have hci : wr.cell? ⟨b, off + i, none⟩ = some (.int .i64 (l.getD i 0)) := (HB.out.cell (World.block_lt_of_cell? w _ hc0)).trans hc0
      have HSU := hid (idxL_succ l i)
      obtain ⟨x, HX⟩ : ∃ x, Hid (l.getD i 0 = x) := ⟨_, rfl⟩
      rw [HX.out] at hci HSU
      have CP := hid (rpush_ok HH.out x (by omega) (by rw [idxL_length]; omega))
      clear hcc hc0
      go_wp2_with fail
      refine CP.out.mono ?_
      rintro e w2 ⟨rfl, v2, h2, he2, hv2⟩
      have H2 : Hid (HRf w2 w.heap.size d (idxL l (i + 1)) (i + 1) v2) := hid (by rw [HSU.out]; exact h2)
      have hszr := HB.out.size
      have HV2 : Hid (∀ b, v2.ownBlock = some b → w.heap.size ≤ b) := hid fun b hb => by
        rcases hv2 with q | ⟨b', q, hb'⟩
        · exact HV.out b (by rw [← q]; exact hb)
        · rw [q] at hb; cases hb; omega
      have HB2 : Hid (Below w.heap.size w w2) := hid (HB.out.trans (he2.below HB.out.size (fun k hk => by
        rcases hk with z | z
        · omega
        · exact HV.out k z)))
      clear CP h2 he2 hv2 hci
      go_wp2_with fail
      exact ⟨⟨i + 1, v2, by go_num, by omega, H2, HV2, HB2⟩, by simp [intOf]; omega⟩
    · have hin : i = n := by omega
      subst hin
      have hge : ¬ (i : Int) < (i : Int) := by omega
      have CA := hid (rall_ok HH.out HDD.out (by have := idxL_in HIN.out; rw [hn.out] at this; exact this) (idxL_inc l i) (by rw [idxL_length]; omega))
      go_wp2_with fail
      refine CA.out.mono ?_
      rintro e w3 ⟨vo, rfl, R, hP, hW, ho, hb3⟩
      have hszr := HB.out.size
      have HB3 : Hid (Below w.heap.size w w3) := hid (HB.out.trans (hb3.mono hszr))
      have hRl : R.length = i := by rw [hP.length_eq, idxL_length]
      have HP := hid hP
      have HW := hid hW
      have HOv := hid ho
      obtain ⟨po, co, hvo⟩ := own2_slc ho
      subst hvo
      rw [hRl] at HOv
      rw [hRl]
      have hs3 : wr.heap.size ≤ w3.heap.size := hb3.size
      obtain ⟨N, HNN⟩ : ∃ N, Hid (wr.heap.size = N) := ⟨_, rfl⟩
      rw [HNN.out] at HOv hs3 hszr
      clear CA hP hW ho hb3 HH HV HB
      go_wp2_with fail
      go_loopw [7, 9] (fun vs vi wz => ∃ k : Nat, vi = .int .i64 (k : Int) ∧ k ≤ i ∧ Hid (wz.ownsRow w3.heap.size 3 1 vs k (((R.take k).map (·.2)).map (Value.int .i64))) ∧ Hid (Below w3.heap.size w3 wz)) (fun _ vi _ => i - (intOf vi).toNat)
      case atStart => exact ⟨0, rfl, Nat.zero_le _, hid (World.ownsRow_nil _ _ _ _), hid (Below.refl _ _)⟩
      case round =>
        obtain ⟨k, rfl, hk, HOs, HBz⟩ := hrel
        have hsz := HBz.out.size
        by_cases hlt2 : k < i
        · have hlt2' : (k : Int) < (i : Int) := by omega
          have hkR : k < R.length := by rw [hRl]; exact hlt2
          have hci : ∃ b, po = some ⟨b, 0, none⟩ ∧ wr.cell? ⟨b, k * 2 + 1, none⟩ = some (.int .i64 (itA R k).2) := by
            rcases HOv.out.2 with ⟨_, q⟩ | ⟨b, cap, cur, hv, _, hw, q1, q2, q3, q4⟩
            · omega
            · simp only [Value.slice.injEq] at hv
              refine ⟨b, hv.1, ?_⟩
              have hw' := (HBz.out.block b (Array.getElem?_eq_some_iff.1 hw).1).trans hw
              rw [cell_of_row _ _ _ _ _ _ hw', Nat.mul_comm]
              have f2 := (flat_get R k hkR).2
              rw [← q4, List.getElem?_take, if_pos (by omega)] at f2
              simpa using f2
          obtain ⟨b, rfl, hcell⟩ := hci
          have HT : Hid ((((R.take (k + 1)).map (·.2)).map (Value.int .i64)) = (((R.take k).map (·.2)).map (Value.int .i64)) ++ [.int .i64 (itA R k).2]) := hid (by rw [take_it hkR]; simp)
          obtain ⟨x, HX⟩ : ∃ x, Hid ((itA R k).2 = x) := ⟨_, rfl⟩
          rw [HX.out] at hcell HT
          obtain ⟨ps, cs, hvs⟩ := own_slc HOs.out
          subst hvs
          go_wp2_with (at_builtin; refine I.wpList_append_byte rfl _ _ rfl w3.heap.size _ k _ rfl (HOs.out.alloc _) ⟨wr.heap.size, 0, none⟩ 1 x rfl (by simp) ?q1 ?q2 ?_)
          case q1 => omega
          case q2 => omega
          intro v7 w7 hown7 hgr7 hor7
          have HOs7 : Hid (w7.ownsRow w3.heap.size 3 1 v7 (k + 1) (((R.take (k + 1)).map (·.2)).map (Value.int .i64))) := hid (by rw [HT.out, List.map_map, List.map_take]; exact hown7)
          have HB7 : Hid (Below w3.heap.size w3 w7) := hid ((HBz.out.alloc HBz.out.size _).grown hgr7 (by simp; omega) (fun x e => (HOs.out.lt x e).1))
          clear hown7 hgr7 hor7
          go_wp2_with fail
          exact ⟨⟨k + 1, by go_num, by omega, HOs7, HB7⟩, by simp [intOf]; omega⟩
        · have hki : k = i := by omega
          have hge2 : ¬ (k : Int) < (i : Int) := by omega
          have HF : Hid (wr.ownsRow w.heap.size 3 1 u7 i ((R.map (·.2)).map (Value.int .i64))) := hid (by
            have := own_mono HOs.out (show w.heap.size ≤ w3.heap.size by omega)
            rw [hki, List.take_of_length_le (by omega)] at this
            exact this)
          have HBF : Hid (Below w.heap.size w wr) := hid (HB3.out.trans (HBz.out.mono (by omega)))
          go_wp2_with fail
          go_ret
          exact ⟨u7, rfl, R, by rw [hn.out]; exact HP.out, HW.out, by rw [hn.out]; exact HF.out, HBF.out⟩
end Go.Proofs.Ytcgkcappfjhikaa
