/- The document's tagged bytes (strongroomref05), walked. -/
import Derived.Test.YtjmlpkemjafifaaDoorRefShaSum
import Derived.Test.YtjmlpkemjafifaaDoorAppB
import Derived.Test.YtjmlpkemjafifaaDoorFrameMath
import Derived.Test.YtjmlpkemjafifaaDoorOwns
import Derived.Laws.IdiomStrings
set_option linter.unusedVariables false
set_option linter.unusedSimpArgs false
namespace Go.Proofs.YtjmlpkemjafifaaDoor
open Go.RowKit

/-- The bytes of x from place n - 1 down to place m. -/
def hi5 (n m x : Nat) : List Int := (bigL n x).take (n - m)
theorem hi5_step (n m x : Nat) (h : m < n) : hi5 n m x = hi5 n (m + 1) x ++ [((x / 256 ^ m % 256 : Nat) : Int)] := by
  have key : ∀ r j, j < r → (bigL r x)[j]? = some ((x / 256 ^ (r - 1 - j) % 256 : Nat) : Int) := by
    intro r
    induction r with
    | zero => intro j hj; omega
    | succ r ih =>
      intro j hj
      cases j with
      | zero => simp [bigL]
      | succ j =>
        simp only [bigL, List.getElem?_cons_succ]
        rw [ih j (by omega), show r + 1 - 1 - (j + 1) = r - 1 - j by omega]
  unfold hi5
  have e : n - m = (n - (m + 1)) + 1 := by omega
  rw [e, List.take_add_one, key n _ (by omega), show n - 1 - (n - (m + 1)) = m by omega]
  rfl

set_option maxRecDepth 100000 in
set_option maxHeartbeats 1000000 in
theorem rbig5_any (W : World) (x n : Nat) (hx : x < 18446744073709551616) (hn : n ≤ 8) : Calls Tryd.prog 58 #[.int .u64 (x : Int), .int .i64 (n : Int)] W fun e W' => ∃ v', e = .returned v' ∧ W'.ownsRow W.heap.size 5 1 v' n ((bigL n x).map (Value.int .u8)) ∧ Below W.heap.size W W' := by
  go_enter Tryd.func58, Tryd.ntmps58
  go_wp2
  go_loopw [5, 6] (fun o i wr => ∃ m : Nat, m ≤ n ∧ i = .int .i64 ((m : Int) - 1) ∧ Hid (wr.ownsRow W.heap.size 5 1 o (n - m) ((hi5 n m x).map (Value.int .u8))) ∧ Hid (Below W.heap.size W wr)) (fun _ i _ => (intOf i + 1).toNat)
  case atStart => exact ⟨n, Nat.le_refl _, rfl, by rw [Nat.sub_self]; simp only [hi5, Nat.sub_self, List.take_zero, List.map_nil]; exact World.ownsRow_nil _ _ _ _, Below.refl _ _⟩
  case round =>
    obtain ⟨m, hm, rfl, HO, HBw⟩ := hrel
    cases m with
    | zero =>
      go_wp2
      go_ret
      refine ⟨_, rfl, ?_, HBw.out⟩
      have := HO.out
      simp only [Nat.sub_zero] at this
      rw [show hi5 n 0 x = bigL n x by unfold hi5; rw [Nat.sub_zero, List.take_of_length_le (by rw [bigL_length]; exact Nat.le_refl n)]] at this
      exact this
    | succ m =>
      have HS := hid (hi5_step n m x (by omega))
      have hmc : m = 0 ∨ m = 1 ∨ m = 2 ∨ m = 3 ∨ m = 4 ∨ m = 5 ∨ m = 6 ∨ m = 7 := by omega
      have hxi : (x : Int) < 18446744073709551616 := by omega
      have hsz := HBw.out.size
      obtain ⟨y, HY⟩ : ∃ y, Hid (((x / 256 ^ m % 256 : Nat) : Int) = y) := ⟨_, rfl⟩
      rw [HY.out] at HS
      obtain ⟨k0, HK⟩ : ∃ k0, Hid (n - (m + 1) = k0) := ⟨_, rfl⟩
      have HK2 : Hid (n - m = k0 + 1) := by show _ = _; rw [← HK.out]; omega
      have hk0 : k0 ≤ 8 := by rw [← HK.out]; omega
      obtain ⟨lst, HLs⟩ : ∃ lst, Hid (hi5 n (m + 1) x = lst) := ⟨_, rfl⟩
      rw [HLs.out] at HS
      have HO' := hid HO.out
      rw [HK.out, HLs.out] at HO'
      clear HO
      rcases hmc with rfl | rfl | rfl | rfl | rfl | rfl | rfl | rfl
      all_goals
        go_wp2_with (at_builtin; refine wpList_append_byte rfl _ _ rfl W.heap.size _ _ _ rfl (HO'.out.alloc _) ⟨wr.heap.size, 0, none⟩ 1 y rfl ?q0 ?q1 ?q2 ?_)
        case q0 => rw [← HY.out]; simp; try omega
        case q1 => omega
        case q2 => simp; omega
        intro v' w2 hown2 hgr2 _
        have HO2 : Hid (w2.ownsRow W.heap.size 5 1 v' (k0 + 1) (lst.map (Value.int .u8) ++ [.int .u8 y])) := hown2
        have HB2 := hid ((HBw.out.alloc HBw.out.size _).grown hgr2 (by simp; omega) (fun k e => (HO'.out.lt k e).1))
        clear hown2 hgr2
        go_wp2
        exact ⟨⟨_, Nat.le_of_succ_le hm, rfl, by rw [HK2.out, HS.out, List.map_append]; exact HO2, HB2⟩, by simp [intOf]⟩

/-- The frame of one list. -/
def fr1 (l : List Int) : List Int := bigL 8 l.length ++ l
theorem fr1_length (l : List Int) : (fr1 l).length = 8 + l.length := by simp [fr1, bigL_length]
theorem fr1_byt {l : List Int} (h : ∀ x ∈ l, 0 ≤ x ∧ x < 256) : ∀ x ∈ fr1 l, 0 ≤ x ∧ x < 256 := fun x hx => (List.mem_append.1 hx).elim (bigL_byt _ _ x) (h x)
set_option maxRecDepth 100000 in
set_option maxHeartbeats 1000000 in
theorem rframe_any (w : World) (v : Value) (l : List Int) (h : HB w v l) (hl : l.length ≤ 140737488355000) : Calls Tryd.prog 72 #[v] w fun e w' => ∃ v', e = .returned v' ∧ w'.ownsRow w.heap.size 5 1 v' (fr1 l).length ((fr1 l).map (Value.int .u8)) ∧ Below w.heap.size w w' := by
  obtain ⟨p, c, e, hlc, hm⟩ := h.open
  have HH := hid h
  obtain ⟨n, HN⟩ : ∃ n, Hid (l.length = n) := ⟨_, rfl⟩
  rw [HN.out] at e hl hlc
  subst e
  clear h
  go_enter Tryd.func72, Tryd.ntmps72
  go_wp2_with fail
  refine (rbig5_any w n 8 (by omega) (by omega)).mono ?_
  rintro e w1 ⟨v1, rfl, ho1, hB1⟩
  have HO := hid ho1
  have HB1 := hid hB1
  have H1 := hid (HH.out.below hB1)
  clear ho1 hB1
  go_wp2_with (at_builtin; refine wpList_append_HB rfl _ _ rfl w.heap.size _ _ _ rfl HO.out _ _ rfl H1.out ?q1 ?q2 ?_)
  case q1 => rw [HN.out]; omega
  case q2 => exact HB1.out.size
  intro v2 w2 ho2 hg2
  have HO2 : Hid (w2.ownsRow w.heap.size 5 1 v2 (fr1 l).length ((fr1 l).map (Value.int .u8))) := by
    rw [fr1_length]
    show World.ownsRow _ _ _ _ _ _ _
    unfold fr1
    rw [List.map_append, HN.out]
    rw [HN.out] at ho2
    exact ho2
  have HB2 : Hid (Below w.heap.size w w2) := HB1.out.grown hg2 HB1.out.size (fun k e => (HO.out.lt k e).1)
  clear ho2 hg2
  go_wp2
  go_ret
  exact ⟨_, rfl, HO2.out, HB2.out⟩
end Go.Proofs.YtjmlpkemjafifaaDoor
