/- cut.Join, walked, of whatever it is handed. -/
import Derived.Test.YtdmdcnikhnoclabCutJn
import Derived.Test.YtdmdcnikhnoclabRowT
set_option linter.unusedVariables false
set_option linter.unusedSimpArgs false
namespace Go.Proofs.Ytdmdcnikhnoclab
open Go Go.RowKit

def JnOk (ls : List (List Int)) (size : Int) : Prop := 1 ≤ ls.length ∧ ls.length ≤ 255 ∧ 1 ≤ size ∧ size ≤ (ls.length : Int) * upI 65536 ls.length ∧ ∀ j, j < ls.length → (ls.getD j []).length = pcN size.toNat ls.length
open Classical in
noncomputable def jnE (ls : List (List Int)) (size : Int) : Int := if JnOk ls size then 0 else 91
open Classical in
noncomputable def jnL (ls : List (List Int)) (size : Int) : List Int := if JnOk ls size then ls.flatten.take size.toNat else []
theorem jn_no {ls : List (List Int)} {size : Int} (h : ¬ JnOk ls size) : jnE ls size = 91 ∧ jnL ls size = [] := ⟨if_neg h, if_neg h⟩
theorem jn_yes {ls : List (List Int)} {size : Int} (h : JnOk ls size) : jnE ls size = 0 ∧ jnL ls size = ls.flatten.take size.toNat := ⟨if_pos h, if_pos h⟩
/-- The first of a row, cut off behind. -/
theorem rowT_cut {w : World} {B N cap n : Nat} {p : Option Addr} {xs : List Value} (h : w.ownsRow B 5 1 (.slice p N cap) N xs) (h1 : 1 ≤ n) (hn : n ≤ N) : w.ownsRowT B (.slice p n n) n (xs.take n) := by
  rcases h.2 with ⟨e, e2⟩ | ⟨g, cap', cur, e, hb, hh, h3, h4, h5, h6⟩
  · omega
  · cases e
    refine ⟨by have := h.1; simp; omega, .inr ⟨g, n, cur, rfl, hb, hh, Nat.le_refl _, by omega, .inr ⟨rfl, by omega⟩, ?_⟩⟩
    rw [← h6, List.take_take, Nat.min_eq_left (by omega)]
set_option maxRecDepth 100000 in
set_option maxHeartbeats 8000000 in
theorem cjoin_any (w : World) (v : Value) (ls : List (List Int)) (size : Int) (h : HL w v ls) :
    Calls Try.prog 9 #[v, .int .i64 size] w fun e w' => ∃ v', e = .returned (.tuple #[v', .int .i64 (jnE ls size)]) ∧ w'.ownsRowT w.heap.size v' (jnL ls size).length ((jnL ls size).map (Value.int .u8)) ∧ Below w.heap.size w w' := by
  obtain ⟨i0, hi, hz0, hz1, hz2⟩ := info_parts info_u8
  obtain ⟨p, c, e, hlc, hm⟩ := h.open
  unfold maxLen at hm
  have A : Hid (0 < ls.length → ∃ b off, p = some ⟨b, off, none⟩ ∧ ∀ j, j < ls.length → ∃ u, w.cell? ⟨b, off + j, none⟩ = some u ∧ HB w u (ls.getD j [])) := by
    intro h0
    obtain ⟨b, off, c', e', _, _, hh⟩ := h.ne h0
    rw [e] at e'
    simp only [Value.slice.injEq, true_and] at e'
    exact ⟨b, off, e'.1, hh⟩
  clear h
  subst e
  have bad : ¬ JnOk ls size → Hid (jnE ls size = 91 ∧ jnL ls size = []) := fun h => jn_no h
  have nilT : Hid (∀ w' : World, w'.ownsRowT w.heap.size (.slice none 0 0) 0 []) := fun w' => ⟨rfl, .inl ⟨rfl, rfl⟩⟩
  by_cases hk1 : ls.length < 1
  · have BD := bad fun q => by have := q.1; omega
    have hk1' : (ls.length : Int) < 1 := by omega
    clear bad
    go_enter Try.func9, Try.ntmps9
    go_wp2
    go_ret2
    rw [BD.out.1, BD.out.2]
    exact ⟨_, rfl, nilT.out _, Below.refl _ _⟩
  have hk1' : ¬ (ls.length : Int) < 1 := by omega
  by_cases hk2 : 255 < ls.length
  · have BD := bad fun q => by have := q.2.1; omega
    have hk2' : (255 : Int) < (ls.length : Int) := by omega
    clear bad
    go_enter Try.func9, Try.ntmps9
    go_wp2
    go_ret2
    rw [BD.out.1, BD.out.2]
    exact ⟨_, rfl, nilT.out _, Below.refl _ _⟩
  have hk2' : ¬ (255 : Int) < (ls.length : Int) := by omega
  by_cases hs1 : size < 1
  · have BD := bad fun q => by have := q.2.2.1; omega
    clear bad
    go_enter Try.func9, Try.ntmps9
    go_wp2
    go_ret2
    rw [BD.out.1, BD.out.2]
    exact ⟨_, rfl, nilT.out _, Below.refl _ _⟩
  have ml := most_lt (k := (ls.length : Int)) (by omega) (by omega)
  have CM := hid fun w => most_any w (ls.length : Int) (by omega) (by omega)
  obtain ⟨M, HM⟩ : ∃ M, Hid ((ls.length : Int) * upI 65536 ls.length = M) := ⟨_, rfl⟩
  rw [HM.out] at CM ml
  by_cases hs2 : M < size
  · have BD := bad fun q => by have := q.2.2.2.1; rw [HM.out] at this; omega
    clear bad
    go_enter Try.func9, Try.ntmps9
    go_wp2_with fail
    refine (CM.out w).mono ?_
    rintro e wq ⟨rfl, hwq⟩
    rw [hwq]
    clear hwq wq
    go_wp2
    go_ret2
    rw [BD.out.1, BD.out.2]
    exact ⟨_, rfl, nilT.out _, Below.refl _ _⟩
  obtain ⟨sz, rfl⟩ := Int.eq_ofNat_of_zero_le (show 0 ≤ size by omega)
  obtain ⟨u, hu⟩ : ∃ u, pcN sz ls.length = u := ⟨_, rfl⟩
  have CU := hid fun w => upward_any w (sz : Int) (ls.length : Int) (by omega) (by omega) (by omega)
  rw [pcN_up (by omega), hu] at CU
  obtain ⟨k, HK⟩ : ∃ k, Hid (ls.length = k) := ⟨_, rfl⟩
  obtain ⟨N, HN⟩ : ∃ N, Hid (k * u = N) := ⟨_, rfl⟩
  have hNs : sz ≤ N ∧ N ≤ sz + k := by
    have h1 := Nat.div_add_mod (sz - 1) k
    have h2 := Nat.mod_lt (sz - 1) (show 0 < k by rw [← HK.out]; omega)
    rw [← HN.out, ← hu, HK.out]
    unfold pcN
    rw [Nat.mul_add]
    omega
  have hmul : (ls.length : Int) * (u : Int) = (N : Int) := by rw [HK.out, ← HN.out]; simp
  have hk255 : k ≤ 255 := by rw [← HK.out]; omega
  have hwN : IntKind.i64.wrap (N : Int) = (N : Int) := wrap64 (by omega) (by omega)
  obtain ⟨w1, hmk, hown, hgr⟩ := run_make_own (P := Try.prog) w w.heap.size 26 5 i0 (.int .u8 0) 1 Try.underlying26 hi hz0 hz1 .i64 .i64 N (by rw [hz2]; omega) (by unfold maxLen; omega) (Nat.le_refl _)
  have B1 : Hid (Below w.heap.size w w1) := (Below.refl _ w).grown hgr (Nat.le_refl _) (fun k e => by cases e)
  have O1 := hid hown
  have HU := hid hu
  have ok : Hid ((∀ j, j < ls.length → (ls.getD j []).length = u) → JnOk ls (sz : Int)) := fun q => ⟨by omega, by omega, by omega, by rw [HM.out]; omega, fun j hj => by rw [q j hj, Int.toNat_natCast, HU.out]⟩
  have bad' : Hid (∀ j, j < ls.length → (ls.getD j []).length ≠ u → jnE ls (sz : Int) = 91 ∧ jnL ls (sz : Int) = []) := fun j hj hne => (bad fun q => hne (by rw [q.2.2.2.2 j hj, Int.toNat_natCast, HU.out])).out
  clear hown hgr bad hu
  go_enter Try.func9, Try.ntmps9
  go_wp2_with fail
  refine (CM.out w).mono ?_
  rintro e wq ⟨rfl, hwq⟩
  rw [hwq]
  clear hwq wq
  go_wp2_with fail
  refine (CU.out w).mono ?_
  rintro e wq ⟨rfl, hwq⟩
  rw [hwq]
  clear hwq wq
  go_wp2
  go_loopw [8, 38] (fun o i wr => ∃ j : Nat, j ≤ ls.length ∧ i = .int .i64 j ∧ Hid (∀ q, q < j → (ls.getD q []).length = u) ∧ Hid (BytI (flatTo ls j)) ∧ Hid (wr.ownsRow w.heap.size 5 1 o (flatTo ls j).length ((flatTo ls j).map (Value.int .u8))) ∧ Hid (Below w.heap.size w wr)) (fun _ i _ => ls.length - (intOf i).toNat)
  case atStart => exact ⟨0, Nat.zero_le _, rfl, fun q hq => by omega, (by simp [flatTo, BytI, Hid]), O1.out, B1.out⟩
  case round =>
    clear hmk O1 B1
    obtain ⟨j, hj, rfl, HQ, HBY, HO, HBel⟩ := hrel
    by_cases hlt : j < ls.length
    · obtain ⟨b, off, rfl, hh⟩ := A.out (by omega)
      obtain ⟨x, hu0, hb⟩ := hh j hlt
      have hux : wr.cell? ⟨b, off + j, none⟩ = some x := (HBel.out.cell (World.block_lt_of_cell? w _ hu0)).trans hu0
      have HBu := hid (hb.below HBel.out)
      obtain ⟨lk, HLK⟩ : ∃ lk, Hid (lk = ls.getD j []) := ⟨_, rfl⟩
      rw [← HLK.out] at HBu hb
      by_cases hLj : lk.length = u
      · have HS : Hid (flatTo ls (j + 1) = flatTo ls j ++ ls.getD j []) := flat_snoc ls j hlt
        have FLj : (flatTo ls j).length = j * u := by
          have := HQ.out
          have key : ∀ m, m ≤ j → (flatTo ls m).length = m * u := by
            intro m
            induction m with
            | zero => intro _; simp [flatTo]
            | succ m ih =>
              intro hm
              rw [show flatTo ls (m + 1) = flatTo ls m ++ ls.getD m [] from flat_snoc ls m (by omega), List.length_append, ih (by omega), this m (by omega), Nat.add_mul]
              omega
          exact key j (Nat.le_refl _)
        have HL2 : Hid ((flatTo ls j).length + lk.length ≤ 140737488355328) := by
          have : (j + 1) * u ≤ k * u := Nat.mul_le_mul_right u (by rw [← HK.out]; omega)
          rw [HN.out, Nat.add_mul] at this
          show _ ≤ _
          omega
        rw [← HLK.out] at HS
        have HQ2 : Hid (∀ q, q < j + 1 → (ls.getD q []).length = u) := fun q hq => by
          by_cases e : q = j
          · subst e; rw [← HLK.out]; exact hLj
          · exact HQ.out q (by omega)
        have HBY2 : Hid (BytI (flatTo ls (j + 1))) := by
          rw [HS.out]
          intro x hx
          rcases List.mem_append.1 hx with hx | hx
          · exact HBY.out x hx
          · exact hb.2 x hx
        obtain ⟨p2, c2, hu2, _, _⟩ := hb.open
        rw [hLj] at hu2
        have HLj := hid hLj
        clear hh hb hu0 hLj FLj
        subst hu2
        go_wp2_with (at_builtin; refine wpList_append_HB rfl _ _ rfl w.heap.size _ _ _ rfl HO.out _ _ rfl HBu.out ?q1 ?q2 ?_)
        case q1 => exact HL2.out
        case q2 => exact HBel.out.size
        intro v' w2 hown2 hgr2
        have HO2 : Hid (w2.ownsRow w.heap.size 5 1 v' (flatTo ls (j + 1)).length ((flatTo ls (j + 1)).map (Value.int .u8))) := by
          show World.ownsRow _ _ _ _ _ _ _
          rw [HS.out, List.length_append, List.map_append]
          exact hown2
        have HB2 : Hid (Below w.heap.size w w2) := HBel.out.grown hgr2 HBel.out.size (fun k e => (HO.out.lt k e).1)
        clear hown2 hgr2
        go_wp2
        exact ⟨⟨j + 1, by omega, by go_num, HQ2.out, HBY2.out, HO2.out, HB2.out⟩, by simp [intOf]; omega⟩
      · have BD := hid (bad'.out j hlt (by rw [← HLK.out]; exact hLj))
        obtain ⟨p2, c2, hu2, _, _⟩ := hb.open
        have hne : ¬ (lk.length : Int) = (u : Int) := by omega
        clear hh hb hu0 hLj
        subst hu2
        go_wp2
        go_ret2
        rw [BD.out.1, BD.out.2]
        exact ⟨_, rfl, nilT.out _, HBel.out⟩
    · have hj' : j = ls.length := by omega
      have OK := hid (ok.out fun q hq => HQ.out q (by omega))
      have HF : Hid (flatTo ls j = ls.flatten) := by
        show _ = _
        unfold flatTo
        rw [List.take_of_length_le (by omega)]
      have hlen : (flatTo ls j).length = N := by rw [flat_len ls u (fun q hq => HQ.out q (by omega)) j hj, hj', HK.out, HN.out]
      rw [HF.out] at hlen HO
      obtain ⟨pw, cw, ew⟩ := own_slc HO.out
      rw [hlen] at ew HO
      subst ew
      have hcap : N ≤ cw ∧ cw ≤ 9223372036854775807 := by
        rcases HO.out.2 with ⟨e', e2⟩ | ⟨g', cap', cur', e', _, _, h3, h4, _⟩
        · omega
        · cases e'; unfold maxLen at h4; exact ⟨h3, h4⟩
      have RT := hid (rowT_cut HO.out (n := sz) (by omega) (by omega))
      have sz8 := size_u8
      have JL : Hid (jnE ls (sz : Int) = 0 ∧ jnL ls (sz : Int) = ls.flatten.take sz) := by have := jn_yes OK.out; rw [Int.toNat_natCast] at this; exact this
      have HLN := hid hlen
      clear hlen HO HQ HBY
      obtain ⟨hcap1, hcap2⟩ := hcap
      go_wp2
      go_ret2
      rw [JL.out.1, JL.out.2]
      refine ⟨_, rfl, ?_, HBel.out⟩
      have h3 := RT.out
      rw [← List.map_take] at h3
      rw [List.length_take, HLN.out, Nat.min_eq_left hNs.1]
      first
      | exact h3
      | (have e0 : pw.map (·.add 0) = pw := by cases pw <;> simp [Addr.add]
         rw [e0]
         exact h3)
end Go.Proofs.Ytdmdcnikhnoclab
