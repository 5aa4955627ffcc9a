/- wire: laidNumbers; laid of a kind alone. -/
import Derived.Test.YtmegeogfpkdodaaWrMayP
import Derived.Test.YtmegeogfpkdodaaWrLaid
import Derived.Laws.AppendOwnNone
set_option linter.unusedVariables false
set_option linter.unusedSimpArgs false
namespace Go.Proofs.Ytmegeogfpkdodaa
open Go Go.RowKit

theorem take_snocI (ns : List Int) (k : Nat) (hk : k < ns.length) : ns.take (k + 1) = ns.take k ++ [ns.getD k 0] := by
  rw [List.take_succ_eq_append_getElem hk, getD_of_lt hk]
set_option maxRecDepth 100000 in
set_option maxHeartbeats 4000000 in
theorem laidNum_any (w : World) (v : Value) (ns : List Int) (h : I.HB w v ns) (hb : ∀ x ∈ ns, 0 ≤ x ∧ x < 256) (hn : ns.length ≤ 1000) :
    Calls Try.prog 44 #[v] w fun e w' => ∃ v', e = .returned v' ∧ w'.ownsRow w.heap.size 5 1 v' ns.length (ns.map (Value.int .u8)) ∧ Below w.heap.size w w' := by
  obtain ⟨i0, hi, hz0, hz1, hz2⟩ := info_parts info_u8
  obtain ⟨p, c, e, hlc, hm⟩ := h.open
  have A : Hid (0 < ns.length → ∃ b off, p = some ⟨b, off, none⟩ ∧ ∀ j, j < ns.length → w.cell? ⟨b, off + j, none⟩ = some (.int .i64 (ns.getD j 0))) := by
    intro h0
    obtain ⟨b, off, c', e', _, _, hh⟩ := h.ne h0
    rw [e] at e'
    simp only [Value.slice.injEq, true_and] at e'
    exact ⟨b, off, e'.1, hh⟩
  clear h
  subst e
  obtain ⟨w1, hmk, hown, hgr⟩ := run_make_own (P := Try.prog) w w.heap.size 36 5 i0 (.int .u8 0) 1 Try.underlying36 hi hz0 hz1 .i64 .i64 ns.length (by rw [hz2]; omega) (by unfold maxLen; omega) (Nat.le_refl _)
  have hB1 : Below w.heap.size w w1 := (Below.refl _ w).grown hgr (Nat.le_refl _) (fun k e => by cases e)
  have HBy := hid hb
  have HNN := hid hn
  clear hgr hb
  go_enter Try.func44, Try.ntmps44
  go_wp2
  go_loopw [3, 11] (fun o i wr => ∃ k : Nat, k ≤ ns.length ∧ i = .int .i64 k ∧ wr.ownsRow w.heap.size 5 1 o (ns.take k).length ((ns.take k).map (Value.int .u8)) ∧ Below w.heap.size w wr) (fun _ i _ => ns.length - (intOf i).toNat)
  case atStart => exact ⟨0, Nat.zero_le _, rfl, hown, hB1⟩
  case round =>
    clear hmk hown hB1
    obtain ⟨k, hk, rfl, hown, hB⟩ := hrel
    by_cases hlt : k < ns.length
    · obtain ⟨b, off, rfl, hh⟩ := A.out (by omega)
      obtain ⟨T, HT⟩ : ∃ T, Hid (ns.take k = T) := ⟨_, hid rfl⟩
      have hTl : Hid (T.length ≤ 1000) := hid (by rw [← HT.out, List.length_take]; have := HNN.out; omega)
      rw [HT.out] at hown
      obtain ⟨po, co, ho⟩ := own_slice hown
      subst ho
      have hu0 := hh k hlt
      have hu : wr.cell? ⟨b, off + k, none⟩ = some (.int .i64 (ns.getD k 0)) := (hB.cell (World.block_lt_of_cell? w _ hu0)).trans hu0
      have hy := HBy.out (ns.getD k 0) (by rw [getD_of_lt hlt]; exact List.getElem_mem hlt)
      have HS : Hid (ns.take (k + 1) = T ++ [ns.getD k 0]) := hid (by rw [← HT.out]; exact take_snocI ns k hlt)
      generalize ns.getD k 0 = y at hu hy HS
      have hw8 : IntKind.u8.wrap y = y := by rw [IntKind.wrap_u8]; omega
      obtain ⟨W2, HW2⟩ : ∃ W : World, Hid (wr.alloc (.cells #[.int .u8 y] 5) = W) := ⟨_, hid rfl⟩
      have B2 : Hid (Below wr.heap.size wr W2) := by rw [← HW2.out]; exact hid ((Below.refl _ wr).alloc (Nat.le_refl _) _)
      have O2 : Hid (W2.ownsRow w.heap.size 5 1 (.slice po T.length co) T.length (T.map (Value.int .u8))) := hid (own_ex hown (Ex.of_below (S := fun _ => False) B2.out) (fun _ _ _ e => e))
      have L2 : Hid (HB W2 (.slice (some ⟨wr.heap.size, 0, none⟩) 1 1) [y]) := hid (by
        have h5 : W2.heap[wr.heap.size]? = some (.cells #[.int .u8 y] 5 (0, 0)) := by rw [← HW2.out]; exact heap_alloc_new wr _
        refine ⟨⟨_, 1, rfl, Nat.le_refl _, by decide, (fun e => by cases e), fun _ => ⟨_, 0, rfl, fun j hj => ?_⟩⟩, by simpa using hy⟩
        have hj0 : j = 0 := by simpa using hj
        subst hj0
        simp [World.cell?, h5])
      have BW : Hid (Below w.heap.size w W2) := hid (hB.trans (B2.out.mono hB.size))
      have hlen : Hid (T.length + 1 ≤ 140737488355328) := hid (by have := hTl.out; omega)
      clear hh hu0 hown hB
      go_wp2_with (first | rw [hw8] | rw [HW2.out] | (at_builtin; refine wpList_append_HB rfl _ _ rfl w.heap.size _ _ _ rfl O2.out _ _ rfl L2.out ?q1 ?q2 ?_) | fail)
      case q1 => exact hlen.out
      case q2 => exact BW.out.size
      intro v' w2 hown2 hgr2
      have HO2 : Hid (w2.ownsRow w.heap.size 5 1 v' (ns.take (k + 1)).length ((ns.take (k + 1)).map (Value.int .u8))) := by
        show World.ownsRow _ _ _ _ _ _ _
        rw [HS.out, List.length_append, List.map_append]
        exact hown2
      have HB2 : Hid (Below w.heap.size w w2) := BW.out.grown hgr2 BW.out.size (fun k e => (O2.out.lt k e).1)
      clear hown2 hgr2
      go_wp2
      exact ⟨⟨k + 1, by omega, by go_num, HO2.out, HB2.out⟩, by simp [intOf]; omega⟩
    · have HK : Hid (ns.take k = ns) := hid (List.take_of_length_le (by omega))
      go_wp2
      go_ret
      refine ⟨_, rfl, ?_, hB⟩
      rw [HK.out] at hown
      exact hown
set_option maxRecDepth 100000 in
set_option maxHeartbeats 4000000 in
theorem laid0_any (w : World) (k : Nat) (hk : k < 256) :
    Calls Try.prog 40 #[.int .u8 (k : Int), .slice none 0 0] w fun e w' => ∃ v', e = .returned v' ∧ w'.ownsRow w.heap.size 5 1 v' 1 ([(k : Int)].map (Value.int .u8)) ∧ Below w.heap.size w w' := by
  have C1 := hid (big_uint8 k hk w)
  rw [bigL_one k hk] at C1
  obtain ⟨i0, hi, hz0, hz1, hz2⟩ := info_parts info_bytes
  go_enter Try.func40, Try.ntmps40
  go_wp2_with fail
  refine C1.out.mono ?_
  rintro e w1 ⟨v1, rfl, ho1, hB1⟩
  have hb1 : HB w1 v1 [(k : Int)] := HB.of_own ho1 (by simp; omega)
  obtain ⟨W2, HW2⟩ : ∃ W : World, Hid (w1.alloc (.cells #[v1] 36) = W) := ⟨_, hid rfl⟩
  have O2 : Hid (W2.ownsRow w1.heap.size 36 1 (.slice (some ⟨w1.heap.size, 0, none⟩) 1 1) 1 [v1]) := hid ⟨rfl, .inr ⟨_, _, _, rfl, Nat.le_refl _, by rw [← HW2.out]; exact heap_alloc_new w1 _, Nat.le_refl _, by decide, rfl, rfl⟩⟩
  have B2 : Hid (Below w1.heap.size w1 W2) := by rw [← HW2.out]; exact hid ((Below.refl _ w1).alloc (Nat.le_refl _) _)
  have C3 : Hid (Calls Try.prog 59 #[.slice (some ⟨w1.heap.size, 0, none⟩) 1 1] W2 fun e w' => ∃ v', e = .returned v' ∧ w'.ownsRow W2.heap.size 5 1 v' 1 ([(k : Int)].map (Value.int .u8)) ∧ Below W2.heap.size W2 w') := hid (by
    have hh : HL W2 (.slice (some ⟨w1.heap.size, 0, none⟩) 1 1) [[(k : Int)]] := HL.of_own (us := [v1]) O2.out rfl (fun j u hj => by
      have hj0 : j = 0 := by have := (List.getElem?_eq_some_iff.1 hj).1; simpa using this
      subst hj0
      simp at hj
      subst hj
      exact hb1.below B2.out)
    have := join_any W2 _ _ hh (by simp)
    simpa using this)
  have HB1 := hid hB1
  obtain ⟨p1, c1, e1, -, -⟩ := hb1.open
  have e1' : v1 = .slice p1 1 c1 := e1
  clear hb1 ho1 hB1 C1 e1
  subst e1'
  go_wp2_with (first | rw [HW2.out] | (at_builtin; refine wpList_append_own_none rfl _ _ 24 rfl w1.heap.size 36 i0 1 Try.underlying24 hi _ 1 _ rfl O2.out rfl ?_) | fail)
  refine C3.out.mono ?_
  rintro e w4 ⟨v4, rfl, ho4, hB4⟩
  have BB : Hid (Below w.heap.size w w4) := hid (HB1.out.trans ((B2.out.mono HB1.out.size).trans (hB4.mono (Nat.le_trans HB1.out.size B2.out.size))))
  have OM : Hid (w4.ownsRow w.heap.size 5 1 v4 1 ([(k : Int)].map (Value.int .u8))) := hid ⟨ho4.1, ho4.2.elim .inl fun ⟨gg, cap, cur, z1, z2, z3⟩ => .inr ⟨gg, cap, cur, z1, Nat.le_trans (Nat.le_trans HB1.out.size B2.out.size) z2, z3⟩⟩
  clear ho4 hB4 C3
  go_wp2_with fail
  go_ret
  exact ⟨v4, rfl, OM.out, BB.out⟩
end Go.Proofs.Ytmegeogfpkdodaa
