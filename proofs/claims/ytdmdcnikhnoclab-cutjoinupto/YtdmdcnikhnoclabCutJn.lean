/- cut.Join, walked, where it takes the blocks. -/
import Derived.Test.YtdmdcnikhnoclabCutBlk
import Derived.Test.YtdmdcnikhnoclabJoin
set_option linter.unusedVariables false
set_option linter.unusedSimpArgs false
namespace Go.Proofs.Ytdmdcnikhnoclab
open Go Go.RowKit

theorem flat_len (ls : List (List Int)) (u : Nat) (h : ∀ j, j < ls.length → (ls.getD j []).length = u) : ∀ k, k ≤ ls.length → (flatTo ls k).length = k * u
  | 0, _ => by simp [flatTo]
  | k + 1, hk => by
    have e : flatTo ls (k + 1) = flatTo ls k ++ ls.getD k [] := flat_snoc ls k (by omega)
    rw [e, List.length_append, flat_len ls u h k (by omega), h k (by omega), Nat.add_mul]
    omega
theorem flat_byt {ls : List (List Int)} (h : ∀ j, j < ls.length → BytI (ls.getD j [])) : ∀ k, k ≤ ls.length → BytI (flatTo ls k)
  | 0, _ => by simp [flatTo, BytI]
  | k + 1, hk => by
    have e : flatTo ls (k + 1) = flatTo ls k ++ ls.getD k [] := flat_snoc ls k (by omega)
    rw [e]
    intro x hx
    rcases List.mem_append.1 hx with hx | hx
    · exact flat_byt h k (by omega) x hx
    · exact h k (by omega) x hx
set_option maxRecDepth 100000 in
set_option maxHeartbeats 4000000 in
theorem cjoin_ok (w : World) (v : Value) (ls : List (List Int)) (size u : Nat) (h : HL w v ls) (hk1 : 1 ≤ ls.length) (hk2 : ls.length ≤ 255) (hs1 : 1 ≤ size) (hs2 : (size : Int) ≤ (ls.length : Int) * upI 65536 ls.length) (hu : pcN size ls.length = u) (hall : ∀ j, j < ls.length → (ls.getD j []).length = u) (hby : ∀ j, j < ls.length → BytI (ls.getD j [])) :
    Calls Try.prog 9 #[v, .int .i64 size] w fun e w' => ∃ v', e = .returned (.tuple #[v', .int .i64 0]) ∧ HB w' v' (ls.flatten.take size) ∧ Below w.heap.size w w' := by
  obtain ⟨i0, hi, hz0, hz1, hz2⟩ := info_parts info_u8
  obtain ⟨p, c, e, hlc, hm⟩ := h.open
  unfold maxLen at hm
  have A : Hid (∃ b off, p = some ⟨b, off, none⟩ ∧ ∀ j, j < ls.length → ∃ u, w.cell? ⟨b, off + j, none⟩ = some u ∧ HB w u (ls.getD j [])) := by
    obtain ⟨b, off, c', e', _, _, hh⟩ := h.ne (by omega)
    rw [e] at e'
    simp only [Value.slice.injEq, true_and] at e'
    exact ⟨b, off, e'.1, hh⟩
  clear h
  subst e
  have FL := hid (flat_len ls u hall)
  have FB := hid (flat_byt hby)
  have HALL := hid hall
  clear hall hby
  have ml := most_lt (k := (ls.length : Int)) (by omega) (by omega)
  have CM := hid fun w => most_any w (ls.length : Int) (by omega) (by omega)
  obtain ⟨M, HM⟩ : ∃ M, Hid ((ls.length : Int) * upI 65536 ls.length = M) := ⟨_, rfl⟩
  rw [HM.out] at CM ml hs2
  have CU := hid fun w => upward_any w (size : Int) (ls.length : Int) (by omega) (by omega) (by omega)
  rw [pcN_up hs1, hu] at CU
  obtain ⟨k, HK⟩ : ∃ k, Hid (ls.length = k) := ⟨_, rfl⟩
  obtain ⟨N, HN⟩ : ∃ N, Hid (k * u = N) := ⟨_, rfl⟩
  have hNs : size ≤ N ∧ N ≤ size + k := by
    have h1 := Nat.div_add_mod (size - 1) k
    have h2 := Nat.mod_lt (size - 1) (show 0 < k by rw [← HK.out]; omega)
    rw [← HN.out, ← hu, HK.out]
    unfold pcN
    rw [Nat.mul_add]
    omega
  have hmul : (ls.length : Int) * (u : Int) = (N : Int) := by rw [HK.out, ← HN.out]; simp
  have hkk : k = ls.length := HK.out.symm
  have hwN : IntKind.i64.wrap (N : Int) = (N : Int) := wrap64 (by omega) (by omega)
  obtain ⟨w1, hmk, hown, hgr⟩ := run_make_own (P := Try.prog) w w.heap.size 26 5 i0 (.int .u8 0) 1 Try.underlying26 hi hz0 hz1 .i64 .i64 N (by rw [hz2]; omega) (by unfold maxLen; omega) (Nat.le_refl _)
  have B1 : Hid (Below w.heap.size w w1) := (Below.refl _ w).grown hgr (Nat.le_refl _) (fun k e => by cases e)
  have O1 := hid hown
  clear hown hgr hkk
  go_enter Try.func9, Try.ntmps9
  go_wp2_with fail
  refine (CM.out w).mono ?_
  rintro e wq ⟨rfl, hwq⟩
  rw [hwq]
  clear hwq wq
  go_wp2_with fail
  refine (CU.out w).mono ?_
  rintro e wq ⟨rfl, hwq⟩
  rw [hwq]
  clear hwq wq
  go_wp2
  go_loopw [8, 38] (fun o i wr => ∃ j : Nat, j ≤ ls.length ∧ i = .int .i64 j ∧ Hid (wr.ownsRow w.heap.size 5 1 o (flatTo ls j).length ((flatTo ls j).map (Value.int .u8))) ∧ Hid (Below w.heap.size w wr)) (fun _ i _ => ls.length - (intOf i).toNat)
  case atStart => exact ⟨0, Nat.zero_le _, rfl, O1.out, B1.out⟩
  case round =>
    clear hmk O1 B1
    obtain ⟨j, hj, rfl, HO, HBel⟩ := hrel
    by_cases hlt : j < ls.length
    · obtain ⟨b, off, rfl, hh⟩ := A.out
      obtain ⟨x, hu0, hb⟩ := hh j hlt
      have hux : wr.cell? ⟨b, off + j, none⟩ = some x := (HBel.out.cell (World.block_lt_of_cell? w _ hu0)).trans hu0
      have HBu := hid (hb.below HBel.out)
      have HS : Hid (flatTo ls (j + 1) = flatTo ls j ++ ls.getD j []) := flat_snoc ls j hlt
      have hLj := HALL.out j hlt
      have HL2 : Hid ((flatTo ls j).length + (ls.getD j []).length ≤ 140737488355328) := by
        have h1 := FL.out (j + 1) (by omega)
        rw [HS.out, List.length_append] at h1
        rw [h1]
        have : (j + 1) * u ≤ k * u := Nat.mul_le_mul_right u (by rw [← HK.out]; omega)
        rw [HN.out] at this
        have hk255 : k ≤ 255 := by rw [← HK.out]; exact hk2
        show _ ≤ _
        omega
      obtain ⟨lk, HLK⟩ : ∃ lk, Hid (lk = ls.getD j []) := ⟨_, rfl⟩
      rw [← HLK.out] at HBu HS HL2 hb hLj
      obtain ⟨p2, c2, hu2, _, _⟩ := hb.open
      have HLj := hid hLj
      rw [hLj] at hu2
      clear hh hb hu0 hLj
      subst hu2
      go_wp2_with (at_builtin; refine wpList_append_HB rfl _ _ rfl w.heap.size _ _ _ rfl HO.out _ _ rfl HBu.out ?q1 ?q2 ?_)
      case q1 => exact HL2.out
      case q2 => exact HBel.out.size
      intro v' w2 hown2 hgr2
      have HO2 : Hid (w2.ownsRow w.heap.size 5 1 v' (flatTo ls (j + 1)).length ((flatTo ls (j + 1)).map (Value.int .u8))) := by
        show World.ownsRow _ _ _ _ _ _ _
        rw [HS.out, List.length_append, List.map_append]
        exact hown2
      have HB2 : Hid (Below w.heap.size w w2) := HBel.out.grown hgr2 HBel.out.size (fun k e => (HO.out.lt k e).1)
      clear hown2 hgr2
      go_wp2
      exact ⟨⟨j + 1, by omega, by go_num, HO2.out, HB2.out⟩, by simp [intOf]; omega⟩
    · have hj' : j = ls.length := by omega
      have HF : Hid (flatTo ls j = ls.flatten) := by
        show _ = _
        unfold flatTo
        rw [List.take_of_length_le (by omega)]
      have hlen : (flatTo ls j).length = N := by rw [FL.out j hj, hj', HK.out, HN.out]
      have hB := HB.of_own HO.out (FB.out j hj)
      rw [HF.out] at hB hlen HO
      obtain ⟨pw, cw, ew⟩ := hB.slice_form
      rw [hlen] at ew
      subst ew
      have hcap : N ≤ cw := by
        obtain ⟨p', c', e', h1, _⟩ := hB.open
        simp only [Value.slice.injEq] at e'
        omega
      have hcm : cw ≤ 9223372036854775807 := by
        obtain ⟨p', c', e', _, h2⟩ := hB.open
        simp only [Value.slice.injEq] at e'
        unfold maxLen at h2
        omega
      have hB' : HB wr (.slice pw ls.flatten.length cw) ls.flatten := by rw [hlen]; exact hB
      have hs := hB'.sliced 0 size size (Nat.zero_le _) (by omega) (Nat.le_refl _) (by omega)
      rw [if_neg (by omega)] at hs
      have HS := hid hs
      have sz := size_u8
      clear hB hB' hs hlen HO
      go_wp2
      go_ret2
      refine ⟨_, rfl, ?_, HBel.out⟩
      have h3 := HS.out
      simp only [Nat.sub_zero, List.drop_zero] at h3
      first
      | exact h3
      | (have e0 : pw.map (·.add 0) = pw := by cases pw <;> simp [Addr.add]
         rw [e0] at h3
         exact h3)
end Go.Proofs.Ytdmdcnikhnoclab
