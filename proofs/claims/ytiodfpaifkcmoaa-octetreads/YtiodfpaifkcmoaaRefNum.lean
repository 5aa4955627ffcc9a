/- The document's own Big and Small (strongroomref01), walked. -/
import Derived.Test.YtiodfpaifkcmoaaLawNum
import Derived.Test.YtiodfpaifkcmoaaMarks
namespace Go.Proofs.Ytiodfpaifkcmoaa
open Go.RowKit

/-- The bytes of x from place n - 1 down to place m. -/
def hiL (n m x : Nat) : List Int := (bigL n x).take (n - m)
theorem hiL_step (n m x : Nat) (h : m < n) : hiL n m x = hiL n (m + 1) x ++ [((x / 256 ^ m % 256 : Nat) : Int)] := by
  have key : ∀ r j, j < r → (bigL r x)[j]? = some ((x / 256 ^ (r - 1 - j) % 256 : Nat) : Int) := by
    intro r
    induction r with
    | zero => intro j hj; omega
    | succ r ih =>
      intro j hj
      cases j with
      | zero => simp [bigL]
      | succ j =>
        simp only [bigL, List.getElem?_cons_succ]
        rw [ih j (by omega), show r + 1 - 1 - (j + 1) = r - 1 - j by omega]
  unfold hiL
  have e : n - m = (n - (m + 1)) + 1 := by omega
  rw [e, List.take_add_one, key n _ (by omega), show n - 1 - (n - (m + 1)) = m by omega]
  rfl

set_option maxHeartbeats 1000000 in
theorem rbig_any (W : World) (x n : Nat) (hx : x < 18446744073709551616) (hn : n ≤ 8) : Calls Try.prog 9 #[.int .u64 (x : Int), .int .i64 (n : Int)] W fun e W' => ∃ v', e = .returned v' ∧ W'.ownsRow W.heap.size 5 1 v' n ((bigL n x).map (Value.int .u8)) ∧ Below W.heap.size W W' := by
  go_enter Try.func9, Try.ntmps9
  go_wp2
  go_loopw [5, 6] (fun o i wr => ∃ m : Nat, m ≤ n ∧ i = .int .i64 ((m : Int) - 1) ∧ Hid (wr.ownsRow W.heap.size 5 1 o (n - m) ((hiL n m x).map (Value.int .u8))) ∧ Hid (Below W.heap.size W wr)) (fun _ i _ => (intOf i + 1).toNat)
  case atStart => exact ⟨n, Nat.le_refl _, rfl, by rw [Nat.sub_self]; simp only [hiL, Nat.sub_self, List.take_zero, List.map_nil]; exact World.ownsRow_nil _ _ _ _, Below.refl _ _⟩
  case round =>
    obtain ⟨m, hm, rfl, HO, HBw⟩ := hrel
    cases m with
    | zero =>
      go_wp2
      go_ret
      refine ⟨_, rfl, ?_, HBw.out⟩
      have := HO.out
      simp only [Nat.sub_zero] at this
      rw [show hiL n 0 x = bigL n x by unfold hiL; rw [Nat.sub_zero, List.take_of_length_le (by rw [bigL_length]; exact Nat.le_refl n)]] at this
      exact this
    | succ m =>
      have HS := hid (hiL_step n m x (by omega))
      have hmc : m = 0 ∨ m = 1 ∨ m = 2 ∨ m = 3 ∨ m = 4 ∨ m = 5 ∨ m = 6 ∨ m = 7 := by omega
      have hxi : (x : Int) < 18446744073709551616 := by omega
      have hsz := HBw.out.size
      obtain ⟨y, HY⟩ : ∃ y, Hid (((x / 256 ^ m % 256 : Nat) : Int) = y) := ⟨_, rfl⟩
      rw [HY.out] at HS
      obtain ⟨k0, HK⟩ : ∃ k0, Hid (n - (m + 1) = k0) := ⟨_, rfl⟩
      have HK2 : Hid (n - m = k0 + 1) := by show _ = _; rw [← HK.out]; omega
      have hk0 : k0 ≤ 8 := by rw [← HK.out]; omega
      obtain ⟨lst, HLs⟩ : ∃ lst, Hid (hiL n (m + 1) x = lst) := ⟨_, rfl⟩
      rw [HLs.out] at HS
      have HO' := hid HO.out
      rw [HK.out, HLs.out] at HO'
      clear HO
      rcases hmc with rfl | rfl | rfl | rfl | rfl | rfl | rfl | rfl
      all_goals
        go_wp2_with (at_builtin; refine wpList_append_byte rfl _ _ rfl W.heap.size _ _ _ rfl (HO'.out.alloc _) ⟨wr.heap.size, 0, none⟩ 1 y rfl ?q0 ?q1 ?q2 ?_)
        case q0 => rw [← HY.out]; simp; try omega
        case q1 => omega
        case q2 => simp; omega
        intro v' w2 hown2 hgr2 _
        have HO2 : Hid (w2.ownsRow W.heap.size 5 1 v' (k0 + 1) (lst.map (Value.int .u8) ++ [.int .u8 y])) := hown2
        have HB2 := hid ((HBw.out.alloc HBw.out.size _).grown hgr2 (by simp; omega) (fun k e => (HO'.out.lt k e).1))
        clear hown2 hgr2
        go_wp2
        exact ⟨⟨_, Nat.le_of_succ_le hm, rfl, by rw [HK2.out, HS.out, List.map_append]; exact HO2, HB2⟩, by simp [intOf]⟩

set_option maxHeartbeats 1000000 in
theorem rsmall_any (w : World) (v : Value) (l : List Int) (n : Nat) (h : HB w v l) (hn0 : 1 ≤ n) (hn : n ≤ 8) : Calls Try.prog 17 #[v, .int .i64 (n : Int)] w fun e w' => e = .returned (.tuple #[.int .u64 (smallNo n l), .int .i64 (smallErr n l)]) ∧ w' = w := by
  obtain ⟨p, c, rfl, hlc, hm⟩ := h.open
  unfold maxLen at hm
  by_cases h1 : l.length < n
  · have HN : Hid (smallNo n l = 0) := if_neg (by omega)
    have HE : Hid (smallErr n l = 10) := if_pos h1
    have hd : decide ((l.length : Int) < (n : Int)) = true := by simp; omega
    rw [HN.out, HE.out]
    clear h
    go_enter Try.func17, Try.ntmps17
    go_wp2
    go_ret2
    exact ⟨rfl, rfl⟩
  · have hd : decide ((l.length : Int) < (n : Int)) = false := by simp; omega
    by_cases h2 : n < l.length
    · have HN : Hid (smallNo n l = 0) := if_neg (by omega)
      have HE : Hid (smallErr n l = 11) := (if_neg h1).trans (if_pos h2)
      have hd2 : decide ((n : Int) < l.length) = true := by simp; omega
      rw [HN.out, HE.out]
      clear h
      go_enter Try.func17, Try.ntmps17
      go_wp2
      go_ret2
      exact ⟨rfl, rfl⟩
    · have hl : l.length = n := by omega
      have HN : Hid (smallNo n l = valL l) := if_pos hl
      have HE : Hid (smallErr n l = 0) := (if_neg h1).trans (if_neg h2)
      rw [HN.out, HE.out]
      have hby := h.2
      obtain ⟨b, off, c', e, _, _, hh⟩ := h.ne (by omega)
      simp only [Value.slice.injEq, true_and] at e
      obtain ⟨rfl, rfl⟩ := e
      rw [hl] at hlc hh ⊢
      have HL := hid hl
      have HBy := hid hby
      clear hd h1 h2 hl h hby
      go_enter Try.func17, Try.ntmps17
      go_wp2
      go_loop [6, 7] (fun x i => ∃ j : Nat, j ≤ n ∧ i = .int .i64 j ∧ x = .int .u64 (valL (l.take j))) (fun _ i => n - (intOf i).toNat)
      case atStart => exact ⟨0, Nat.zero_le _, rfl, rfl⟩
      case round =>
        obtain ⟨j, hj, rfl, rfl⟩ := hrel
        have hv := valL_take_lt l HBy.out j
        obtain ⟨x, HX⟩ : ∃ x, Hid (valL (l.take j) = x) := ⟨_, rfl⟩
        rw [HX.out] at hv ⊢
        by_cases hlt : j < n
        · have hcell := hh j hlt
          obtain ⟨y, HY⟩ : ∃ y, Hid (l.getD j 0 = y) := ⟨_, rfl⟩
          rw [HY.out] at hcell
          have hx : x < 72057594037927936 := Nat.lt_of_lt_of_le hv (Nat.pow_le_pow_right (by omega) (by omega : j ≤ 7))
          clear hv hh
          have hjl : j < l.length := by rw [HL.out]; exact hlt
          have hy : 0 ≤ y ∧ y < 256 := by
            rw [← HY.out, getD_of_lt hjl]
            exact HBy.out _ (List.getElem_mem hjl)
          have HV : Hid ((valL (l.take (j + 1)) : Int) = (x : Int) * 256 + y) := by
            show _ = _
            rw [List.take_succ_eq_append_getElem hjl, valL_snoc, HX.out, ← getD_of_lt hjl, HY.out]
            omega
          obtain ⟨hy0, hy1⟩ := hy
          clear hjl
          go_wp2
          exact ⟨⟨j + 1, by omega, by go_num, by rw [HV.out]⟩, by simp [intOf]; omega⟩
        · have HV : Hid (valL l = x) := by
            show _ = _
            rw [← HX.out, List.take_of_length_le (by rw [HL.out]; omega)]
          clear hv hh
          go_wp2
          go_ret2
          exact ⟨by rw [HV.out]; rfl, rfl⟩
end Go.Proofs.Ytiodfpaifkcmoaa
