/- The document's heap: the item of a place taken out. -/
import Derived.Test.YtcgkcappfjhikaaHpRefL
import Derived.Test.YtcgkcappfjhikaaHqPop
set_option linter.unusedVariables false
set_option linter.unusedSimpArgs false
namespace Go.Proofs.Ytcgkcappfjhikaa
open Go Go.RowKit
/-- All but the one at i, of the first k. -/
def butI (its : List (Nat × Int)) (i k : Nat) : List (Nat × Int) := (its.take k).eraseIdx i
theorem butI_zero (its : List (Nat × Int)) (i : Nat) : butI its i 0 = [] := by simp [butI]
theorem take_it {its : List (Nat × Int)} {k : Nat} (hk : k < its.length) : its.take (k + 1) = its.take k ++ [itA its k] := by
  rw [List.take_add_one, itA_some hk]; rfl
theorem butI_at {its : List (Nat × Int)} {k : Nat} (hk : k < its.length) : butI its k (k + 1) = butI its k k := by
  unfold butI
  have hl : (its.take k).length = k := by rw [List.length_take]; omega
  rw [take_it hk, List.eraseIdx_append_of_length_le (by omega), hl, List.eraseIdx_of_length_le (l := its.take k) (by omega)]
  simp
theorem butI_other {its : List (Nat × Int)} {i k : Nat} (hk : k < its.length) (hne : k ≠ i) : butI its i (k + 1) = butI its i k ++ [itA its k] := by
  unfold butI
  have hl : (its.take k).length = k := by rw [List.length_take]; omega
  rw [take_it hk]
  by_cases h : i < k
  · rw [List.eraseIdx_append_of_lt_length (by omega)]
  · rw [List.eraseIdx_append_of_length_le (by omega), hl, List.eraseIdx_of_length_le (l := its.take k) (by omega), List.eraseIdx_of_length_le (by simp; omega)]
theorem butI_length {its : List (Nat × Int)} {i k : Nat} : (butI its i k).length ≤ k := by
  unfold butI
  have := List.length_eraseIdx_le (its.take k) i
  rw [List.length_take] at this
  omega
section
variable {w : World} {g : Nat} {d : Int} {its : List (Nat × Int)} {nx : Nat} {v : Value}
theorem results_cell1 {P : Program} {fn : Func} {p : Tmp} {ty : TypeId} (h : fn.results = #[.cell p ty]) (tmps : Array Value) (w : World) (g : Nat) (t : TypeId) (cs : Array Value) (fr : Nat × Nat) (d : TypeDesc)
    (hp : tmps.getD p undef = .pointer (some ⟨g, 0, none⟩)) (hg : w.heap[g]? = some (.cells cs t fr))
    (hu : P.underlying ty = some d) (hd : (match d with | .struct _ | .array _ _ => true | _ => false) = true) (hi : (P.info? ty).map (·.size) = some cs.size) :
    (results fn tmps).run P w = .ok (.agg cs) w := by
  have hp' : tmps[p]?.getD undef = .pointer (some ⟨g, 0, none⟩) := by simpa using hp
  simp [results, h, hp', asAddr, run_loadVar_row w g t ty cs fr d hg hu hd hi]
abbrev itZ : Array Value := #[.int .i64 0, .int .i64 0]
set_option maxRecDepth 100000 in
set_option maxHeartbeats 4000000 in
theorem rtake_ok (h : HRf w g d its nx v) (i : Nat) (hi : i < its.length) (hroom : its.length * 16 ≤ 140737488355328) :
    Calls Try.prog 56 #[ptr g, .int .i64 (i : Int)] w fun e w' => e = .returned (.agg #[.int .i64 ((itA its i).1 : Int), .int .i64 (itA its i).2]) ∧ ∃ v', HRf w' g d (its.eraseIdx i) nx v' ∧ Ex (fun k => k = g) w w' ∧ (∀ b, v'.ownBlock = some b → w.heap.size ≤ b) := by
  obtain ⟨i0, hi0, hz0, hz1, hz2⟩ := info_parts info_item
  obtain ⟨c0, c1, c2⟩ := h.c
  obtain ⟨b, cap, hv, hcap, x0, x1⟩ := h.item hi
  subst hv
  have H := hid h
  have hgl := h.lt
  have hbl : b < w.heap.size := h.vlt b (.inr rfl)
  have hbg : b ≠ g := fun e => h.vg (by rw [e]; rfl)
  clear h
  obtain ⟨n, hn⟩ : ∃ n, Hid (its.length = n) := ⟨_, rfl⟩
  rw [hn.out] at c1 hi hcap hroom
  have hi' : (i : Int) < (n : Int) := by omega
  go_enter Try.func56, Try.ntmps56
  go_wp2_with fail
  obtain ⟨T, HT⟩ : ∃ T, Hid (itA its i = T) := ⟨_, rfl⟩
  rw [HT.out]
  obtain ⟨W0, HW0⟩ : ∃ W0, Hid ((w.alloc (.cells #[.int .i64 0, .int .i64 0] 85)).alloc (.cells #[.int .i64 (T.1 : Int), .int .i64 T.2] 85) = W0) := ⟨_, rfl⟩
  rw [HW0.out]
  have hs0 : W0.heap.size = w.heap.size + 2 := by rw [← HW0.out]; show ((w.heap.push _).push _).size = _; rw [Array.size_push, Array.size_push]
  have hold0 : ∀ k, k < w.heap.size → W0.heap[k]? = w.heap[k]? := fun k hk => by rw [← HW0.out]; exact (heap_alloc_old _ _ (by show k < (w.heap.push _).size; rw [Array.size_push]; omega)).trans (heap_alloc_old w _ hk)
  have hres0 : W0.heap[w.heap.size]? = some (.cells itZ 85 (0, 0)) := by rw [← HW0.out]; exact (heap_alloc_old _ _ (by show w.heap.size < (w.heap.push _).size; rw [Array.size_push]; omega)).trans (heap_alloc_new w _)
  have hx0 : W0.heap[w.heap.size + 1]? = some (.cells #[.int .i64 (T.1 : Int), .int .i64 T.2] 85 (0, 0)) := by
    rw [← HW0.out]
    show ((w.heap.push _).push _)[w.heap.size + 1]? = _
    rw [Array.getElem?_push, if_pos (by rw [Array.size_push])]
  have E0 : Hid (Ex (fun k => k = g) w W0) := hid (by rw [← HW0.out]; exact ((Ex.refl _ w).alloc _).alloc _)
  have HOLD := hid hold0
  have HRES := hid hres0
  have HXB := hid hx0
  have HS0 := hid hs0
  clear hold0 hres0 hx0 HW0 x0 x1 c0 c1 c2
  go_loopw [6, 7] (fun vo vk wr => ∃ k : Nat, vk = .int .i64 (k : Int) ∧ k ≤ n ∧ Hid (wr.ownsRow (w.heap.size + 2) 85 2 vo (butI its i k).length (flat (butI its i k))) ∧ Hid (Below (w.heap.size + 2) W0 wr)) (fun _ vk _ => n - (intOf vk).toNat)
  case atStart => exact ⟨0, rfl, Nat.zero_le _, hid (by rw [butI_zero]; exact World.ownsRow_nil _ _ _ _), hid (Below.refl _ _)⟩
  case round =>
    obtain ⟨k, rfl, hk, HO, HBl⟩ := hrel
    have hb' : ∀ x, x < w.heap.size → wr.heap[x]? = w.heap[x]? := fun x hx => (HBl.out.block x (by omega)).trans (HOLD.out x hx)
    have HRw := hid (H.out.of (w' := wr) (fun x hx => hb' x (H.out.vlt x hx)))
    obtain ⟨c0, c1, c2⟩ := HRw.out.c
    rw [hn.out] at c1
    have hwr : w.heap.size + 2 ≤ wr.heap.size := by have := HBl.out.size; have := HS0.out; omega
    by_cases hlt : k < n
    · have hlt' : (k : Int) < (n : Int) := by omega
      have hkl : k < its.length := by rw [hn.out]; exact hlt
      by_cases hki : k = i
      · have hki' : (k : Int) = (i : Int) := by omega
        have HO' : Hid (wr.ownsRow (w.heap.size + 2) 85 2 u6 (butI its i (k + 1)).length (flat (butI its i (k + 1)))) := by
          have e := butI_at hkl
          rw [hki] at e ⊢
          have q := HO.out
          rw [hki] at q
          rw [e]
          exact hid q
        go_wp2_with fail
        exact ⟨⟨k + 1, by go_num, by omega, HO', HBl⟩, by simp [intOf]; omega⟩
      · have hki' : ¬ (k : Int) = (i : Int) := by omega
        obtain ⟨bb, cc, hvv, _, y0, y1⟩ := HRw.out.item hkl
        simp only [Value.slice.injEq, Option.some.injEq, Addr.mk.injEq, and_true] at hvv
        obtain ⟨rfl, _, rfl⟩ := hvv
        have e := butI_other (i := i) hkl hki
        have HBU : Hid (butI its i (k + 1) = butI its i k ++ [itA its k]) := hid e
        have hbl2 := butI_length (its := its) (i := i) (k := k)
        obtain ⟨t, Ht⟩ : ∃ t, Hid (itA its k = t) := ⟨_, rfl⟩
        rw [Ht.out] at y0 y1 HBU
        obtain ⟨m, Hm⟩ : ∃ m, Hid ((butI its i k).length = m) := ⟨_, rfl⟩
        rw [Hm.out] at HO hbl2
        clear e
        go_wp2_with (at_builtin; refine wpList_append_own _ rfl _ _ 31 rfl (w.heap.size + 2) 85 i0 _ 2 16 Try.underlying31 hi0 hz0 hz1 hz2 rfl (by omega) _ m _ rfl (HO.out.alloc _) ⟨wr.heap.size, 0, none⟩ 1 1 [.int .i64 (t.1 : Int), .int .i64 t.2] rfl rfl (World.news_of_block (cs := #[.int .i64 (t.1 : Int), .int .i64 t.2]) (t := 85) (fr := (0, 0)) (heap_alloc_new wr _)) (by simp [Value.oneCell']) ?q1 ?q2 ?q3 ?_)
        case q1 => unfold maxLen; omega
        case q2 => omega
        case q3 => show _ ≤ (wr.heap.push _).size; rw [Array.size_push]; omega
        intro v4 w4 hown4 hgr4 hnil4
        have HO4 : Hid (w4.ownsRow (w.heap.size + 2) 85 2 v4 (butI its i (k + 1)).length (flat (butI its i (k + 1)))) := hid (by
          rw [HBU.out, List.length_append, flat_append, flat_one, Hm.out]
          exact hown4)
        have HB4 : Hid (Below (w.heap.size + 2) W0 w4) := hid ((HBl.out.alloc (by omega) _).grown hgr4 (by show _ ≤ (wr.heap.push _).size; rw [Array.size_push]; omega) (fun x e => (HO.out.lt x e).1))
        clear hown4 hgr4 hnil4
        go_wp2_with fail
        exact ⟨⟨k + 1, by go_num, by omega, HO4, HB4⟩, by simp [intOf]; omega⟩
    · have hkn : k = n := by omega
      have hge : ¬ (k : Int) < (n : Int) := by omega
      have HF : Hid (wr.ownsRow (w.heap.size + 2) 85 2 u6 (its.eraseIdx i).length (flat (its.eraseIdx i))) := by
        have q := HO.out
        have e : butI its i k = its.eraseIdx i := by
          unfold butI
          rw [List.take_of_length_le (by rw [hn.out]; omega)]
        rw [e] at q
        exact hid q
      obtain ⟨p6, c6, hv6⟩ := own2_slc HF.out
      subst hv6
      have hresr := (HBl.out.block w.heap.size (by omega)).trans HRES.out
      have hxr := (HBl.out.block (w.heap.size + 1) (by omega)).trans HXB.out
      have z0 : wr.cell? ⟨w.heap.size + 1, 0, none⟩ = some (.int .i64 (T.1 : Int)) := by rw [cell_of_row _ _ _ _ _ _ hxr]; rfl
      have z1 : wr.cell? ⟨w.heap.size + 1, 1, none⟩ = some (.int .i64 T.2) := by rw [cell_of_row _ _ _ _ _ _ hxr]; rfl
      have q0 : wr.cell? ⟨w.heap.size, 0, none⟩ = some (.int .i64 0) := by rw [cell_of_row _ _ _ _ _ _ hresr]; rfl
      have q1 : wr.cell? ⟨w.heap.size, 1, none⟩ = some (.int .i64 0) := by rw [cell_of_row _ _ _ _ _ _ hresr]; rfl
      have fq0 := free_of hresr 0
      have fq1 := free_of hresr 1
      have fg1 := free_of HRw.out.top 1
      have HRESR := hid hresr
      clear hresr hxr
      go_wp2_with fail
      have hgr := bk_set HRw.out.top 1 (.slice p6 (its.eraseIdx i).length c6)
      have hr1 : (wr.setCell ⟨g, 1, none⟩ (.slice p6 (its.eraseIdx i).length c6)).heap[w.heap.size]? = some (.cells itZ 85 (0, 0)) := (bk_other (by omega) _ _).trans HRESR.out
      have hr2 := bk_set (bk_set hr1 0 (.int .i64 (T.1 : Int))) 1 (.int .i64 T.2)
      refine bodyPost_ret (v := .agg #[.int .i64 (T.1 : Int), .int .i64 T.2]) (results_cell1 (p := 4) (ty := 85) rfl _ _ w.heap.size 85 #[.int .i64 (T.1 : Int), .int .i64 T.2] (0, 0) _ rfl hr2 Try.underlying85 rfl (by kernel_rfl)) rfl ?_
      refine ⟨by rw [HT.out], .slice p6 (its.eraseIdx i).length c6, ⟨?_, ?_⟩, ?_, ?_⟩
      · rw [bk_other (by omega), bk_other (by omega)]
        simpa using hgr
      · refine ⟨HF.out.1, ?_⟩
        rcases HF.out.2 with q | ⟨b', cap', cur, hv, hb3, hw, q⟩
        · exact .inl q
        · exact .inr ⟨b', cap', cur, hv, Nat.zero_le _, by rw [bk_other (by omega), bk_other (by omega), bk_other (by omega)]; exact hw, q⟩
      · have E1 : Ex (fun k => k = g) w wr := E0.out.trans (⟨HBl.out.os, HBl.out.tape, HBl.out.output, HBl.out.size, fun x hx _ => HBl.out.block x (by have := HS0.out; omega)⟩ : Ex (fun k => k = g) W0 wr) (fun _ q => .inl q)
        have E2 := E1.setCell (x := g) (o := 1) rfl (.slice p6 (its.eraseIdx i).length c6)
        exact ⟨E2.os, E2.tape, E2.output, by rw [sz_set, sz_set]; exact E2.size, fun x hx hnx => by rw [bk_other (by omega), bk_other (by omega)]; exact E2.block x hx hnx⟩
      · intro b' hb'
        rcases HF.out.2 with ⟨q, _⟩ | ⟨b2, cap', cur, hv, hb3, hw, q⟩
        · rw [q] at hb'; cases hb'
        · rw [hv] at hb'
          cases hb'
          exact Nat.le_trans (by omega) hb3
end
end Go.Proofs.Ytcgkcappfjhikaa
