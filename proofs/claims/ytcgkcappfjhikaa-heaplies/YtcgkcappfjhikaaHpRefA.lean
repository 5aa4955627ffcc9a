/- The document's heap: All, the least first. -/
import Derived.Test.YtcgkcappfjhikaaHpRefT
set_option linter.unusedVariables false
set_option linter.unusedSimpArgs false
namespace Go.Proofs.Ytcgkcappfjhikaa
open Go Go.RowKit
/-- An item comes ahead of another. -/
def ahp (key : Int → Int) (p q : Nat × Int) : Prop := key p.2 < key q.2 ∨ (key p.2 = key q.2 ∧ p.1 < q.1)
def Inc (its : List (Nat × Int)) : Prop := its.Pairwise fun p q => p.1 < q.1
theorem Inc.erase {its : List (Nat × Int)} (h : Inc its) (i : Nat) : Inc (its.eraseIdx i) := List.Pairwise.sublist (List.eraseIdx_sublist its i) h
theorem erase_perm {its : List (Nat × Int)} {i : Nat} (hi : i < its.length) : its.Perm (itA its i :: its.eraseIdx i) := by
  have e : its = its.take i ++ itA its i :: its.drop (i + 1) := by
    have h1 : itA its i = its[i] := by simp [itA, hi]
    rw [h1, ← List.drop_eq_getElem_cons hi, List.take_append_drop]
  rw [List.eraseIdx_eq_take_drop_succ]
  exact (List.Perm.of_eq e).trans List.perm_middle
theorem LsI.min {d : Int} {its : List (Nat × Int)} {k : Nat} (h : LsI d its its.length k) (hI : Inc its) : ∀ q ∈ its.eraseIdx k, ahp (keyB d) (itA its k) q := by
  intro q hq
  obtain ⟨j, hj, hne, he⟩ : ∃ j, j < its.length ∧ j ≠ k ∧ itA its j = q := by
    obtain ⟨j, hj⟩ := List.mem_iff_getElem?.1 hq
    rw [List.getElem?_eraseIdx] at hj
    split at hj
    · obtain ⟨h1, h2⟩ := List.getElem?_eq_some_iff.1 hj
      exact ⟨j, h1, by omega, by simp [itA, hj]⟩
    · obtain ⟨h1, h2⟩ := List.getElem?_eq_some_iff.1 hj
      exact ⟨j + 1, h1, by omega, by simp [itA, hj]⟩
  rw [← he]
  rcases h.2 j hj with z | ⟨z1, z2⟩
  · exact .inl z
  · refine .inr ⟨z1, ?_⟩
    have hkj : k < j := by omega
    have h1 : itA its k = its[k]'(h.1) := by simp [itA, h.1]
    have h2 : itA its j = its[j] := by simp [itA, hj]
    rw [h1, h2]
    exact List.pairwise_iff_getElem.1 hI k j h.1 hj hkj
theorem own2_bne {w : World} {B e n : Nat} {v : Value} {xs : List Value} (h : w.ownsRow B e 2 v n xs) {g : Nat} {cur : Array Value} {e' : TypeId} {fz : Nat × Nat} (hg : w.heap[g]? = some (.cells cur e' fz)) (hne : e ≠ e') : v.ownBlock ≠ some g := by
  intro hv
  rcases h.2 with ⟨rfl, _⟩ | ⟨g', cap, cur', rfl, _, hh, _⟩
  · simp [Value.ownBlock] at hv
  · simp only [Value.ownBlock, Option.some.injEq] at hv
    subst hv
    rw [hh] at hg
    simp only [Option.some.injEq, Obj.cells.injEq] at hg
    exact hne hg.2.1
theorem own2_kept {w w' : World} {B e n : Nat} {v : Value} {xs : List Value} (h : w.ownsRow B e 2 v n xs) (hk : ∀ b, v.ownBlock = some b → b < w.heap.size → w'.heap[b]? = w.heap[b]?) : w'.ownsRow B e 2 v n xs := by
  refine ⟨h.1, ?_⟩
  rcases h.2 with q | ⟨b, cap, cur, hv, hb, hw, q⟩
  · exact .inl q
  · exact .inr ⟨b, cap, cur, hv, hb, (hk b (by rw [hv]; rfl) (Array.getElem?_eq_some_iff.1 hw).1).trans hw, q⟩
theorem own2_ge {w : World} {B e n : Nat} {v : Value} {xs : List Value} (h : w.ownsRow B e 2 v n xs) : ∀ b, v.ownBlock = some b → B ≤ b ∧ b < w.heap.size := fun b hb => by
  rcases h.2 with ⟨rfl, _⟩ | ⟨g', cap, cur', rfl, hB, hh, _⟩
  · cases hb
  · cases hb
    exact ⟨hB, (Array.getElem?_eq_some_iff.1 hh).1⟩
theorem step_append_run {P : Program} {ops : Array Oper} {o : Oper} {a : Act} {w w' : World} {K : Act → World → Prop} {Q : Exit → Act → World → Prop} {E : Prop} {v u v' : Value} (hgd : o.guard = none) (s x : Operand) (t : TypeId)
    (ho : o.op = .call { callee := .builtin .append, args := #[s, x], argTypes := #[t, t] }) (hs : a.eval s = v) (hx : a.eval x = u) (hr : (Builtin.append_ #[t, t] o.type #[v, u]).run P w = .ok v' w') (h : K (a.put o.dst v') w') :
    if Region.wanted o (yielded ops a.tmps) = true then Oper.wp P o a w K Q else E := by
  have hw : Region.wanted o (yielded ops a.tmps) = true := by simp [Region.wanted, hgd]
  rw [if_pos hw]
  unfold Oper.wp execOp
  simp only [ho, resolve, invoke, builtin, Sem.run_bind, Sem.run_pure, Result.andThen_ok, List.map_toArray, List.map_cons, List.map_nil, hs, hx, hr]
  exact h
section
variable {w : World} {g : Nat} {d : Int} {its : List (Nat × Int)} {nx : Nat} {v : Value}
theorem rcopy_run (h : HRf w g d its nx v) (W : World) (hW : ∀ k, k < w.heap.size → W.heap[k]? = w.heap[k]?) (hroom : its.length * 16 ≤ 140737488355328) : ∃ v' w', (Builtin.append_ #[31, 31] 31 #[.slice none 0 0, v]).run Try.prog W = .ok v' w' ∧ w'.ownsRow W.heap.size 85 2 v' its.length (flat its) ∧ W.grownBy w' none := by
  obtain ⟨i0, hi0, hz0, hz1, hz2⟩ := info_parts info_item
  rcases h.row.2 with ⟨q, hz⟩ | ⟨b, cap, cur, hv, hb, hw, q1, q2, q3, q4⟩
  · have e : its = [] := List.length_eq_zero_iff.1 hz
    subst e
    rw [q]
    have hrun := run_append_owned_none (P := Try.prog) (w := W) W.heap.size 31 31 85 i0 2 Try.underlying31 hi0 (.slice none 0 0) 0 [] (World.ownsRow_nil _ _ _ _)
    exact ⟨_, _, hrun, World.ownsRow_nil _ _ _ _, ⟨rfl, rfl, rfl, Nat.le_refl _, fun _ _ _ => rfl⟩⟩
  · have hbl : b < w.heap.size := (Array.getElem?_eq_some_iff.1 hw).1
    have hw' : W.heap[b]? = some (.cells cur 85 (0, 0)) := (hW b hbl).trans hw
    obtain ⟨v', w', hr, h2, h3, _⟩ := run_append_own (P := Try.prog) W W.heap.size 31 31 85 i0 _ 2 16 Try.underlying31 hi0 hz0 hz1 hz2 rfl (by omega) (.slice none 0 0) 0 [] (World.ownsRow_nil _ _ _ _) ⟨b, 0, none⟩ its.length cap (flat its) (flat_length _) (fun j u hj => by
      rw [Go.WideShapes.add_plain, Nat.zero_add, cell_of_row _ _ _ _ _ _ hw']
      rw [← q4, List.getElem?_take] at hj
      split at hj
      · simpa using hj
      · cases hj) (fun u hu => by
      obtain ⟨p, _, hp⟩ := List.mem_flatMap.1 hu
      simp at hp
      rcases hp with rfl | rfl <;> rfl) (by unfold maxLen; omega) (by omega) (Nat.le_refl _)
    rw [hv]
    exact ⟨v', w', hr, by simpa using h2, by simpa [Value.ownBlock] using h3⟩
def len1N (g : Nat) (w : World) : Nat := match w.cell? ⟨g, 1, none⟩ with | some (.slice _ n _) => n | _ => 0
/-- What All answers of its. -/
def AlQ (d : Int) (w : World) (its : List (Nat × Int)) (vo : Value) (w' : World) : Prop := ∃ R, R.Perm its ∧ R.Pairwise (ahp (keyB d)) ∧ w'.ownsRow w.heap.size 85 2 vo R.length (flat R) ∧ Below w.heap.size w w'
set_option maxRecDepth 100000 in
set_option maxHeartbeats 4000000 in
theorem rall_ok (h : HRf w g d its nx v) (hd : In64 d) (hx : ∀ p ∈ its, In64 p.2) (hI : Inc its) (hroom : its.length * 16 ≤ 140737488355328) :
    Calls Try.prog 46 #[ptr g] w fun e w' => ∃ vo, e = .returned vo ∧ AlQ d w its vo w' := by
  obtain ⟨i0, hi0, hz0, hz1, hz2⟩ := info_parts info_item
  have H := hid h
  obtain ⟨c0, c1, c2⟩ := h.c
  have hgl := h.lt
  have HX := hid hx
  have HDD := hid hd
  have HI := hid hI
  -- the copy of the items
  obtain ⟨W1, HW1⟩ : ∃ W1, Hid (w.alloc (.cells #[.int .i64 d, .slice none 0 0, .int .i64 0] 33) = W1) := ⟨_, rfl⟩
  have hW1 : ∀ k, k < w.heap.size → W1.heap[k]? = w.heap[k]? := fun k hk => by rw [← HW1.out]; exact heap_alloc_old w _ hk
  have hc1 : W1.heap[w.heap.size]? = some (.cells #[.int .i64 d, .slice none 0 0, .int .i64 0] 33 (0, 0)) := by rw [← HW1.out]; exact heap_alloc_new w _
  have hs1 : W1.heap.size = w.heap.size + 1 := by rw [← HW1.out]; show (w.heap.push _).size = _; rw [Array.size_push]
  obtain ⟨v2, w2, hr2, ho2, hg2⟩ := rcopy_run h W1.drew (fun k hk => hW1 k hk) hroom
  have hc2 := (hg2.block w.heap.size (by show w.heap.size < W1.heap.size; omega) (fun e => by cases e)).trans hc1
  have k2 : w2.cell? ⟨w.heap.size, 1, none⟩ = some (.slice none 0 0) := by rw [cell_of_row _ _ _ _ _ _ hc2]; rfl
  have k3 := free_of hc2 1
  obtain ⟨p2, cp2, hv2⟩ := own2_slc ho2
  subst hv2
  have hW1c : W1.cell? ⟨g, 1, none⟩ = some v := (World.cell?_of_block (a := ⟨g, 1, none⟩) (hW1 g hgl)).trans c1
  have hW1d : W1.cell? ⟨w.heap.size, 1, none⟩ = some (.slice none 0 0) := by rw [cell_of_row _ _ _ _ _ _ hc1]; rfl
  obtain ⟨pv, cv, hv⟩ := own2_slc h.row
  subst hv
  have HR2 := hid hr2
  have HO2 := hid ho2
  have HG2 := hid hg2
  have HC2 := hid hc2
  obtain ⟨n, hn⟩ : ∃ n, Hid (its.length = n) := ⟨_, rfl⟩
  clear h hx hd hI hc1 hr2 ho2 hg2 hc2
  go_enter Try.func46, Try.ntmps46
  go_wp2_with fail
  rw [HW1.out]
  have hW1c' : W1.cell? ⟨g, 1, none⟩ = some (.slice pv its.length cv) := hW1c
  go_region_law ((refine step_append_run (by rfl) _ _ _ (by rfl) (by rfl) (by rfl) HR2.out ?_))
  all_goals
    have HH0 : Hid (HRf (w2.setCell ⟨w.heap.size, 1, none⟩ (.slice p2 its.length cp2)) w.heap.size d its 0 (.slice p2 its.length cp2)) := by
      have h1 := bk_set HC2.out 1 (.slice p2 its.length cp2)
      refine hid ⟨by simpa using h1, HO2.out.1, ?_⟩
      rcases HO2.out.2 with q | ⟨b, cap, cur, hv, hb, hw, q⟩
      · exact .inl q
      · have hb' : W1.heap.size ≤ b := hb
        exact .inr ⟨b, cap, cur, hv, Nat.zero_le _, by rw [bk_other (by omega)]; exact hw, q⟩
    have B0 : Hid (Below w.heap.size w (w2.setCell ⟨w.heap.size, 1, none⟩ (.slice p2 its.length cp2))) := hid (by
      have b1 : Below w.heap.size w W1 := by rw [← HW1.out]; exact (Below.refl _ _).alloc (Nat.le_refl _) _
      have b2 : Below w.heap.size w w2 := ⟨HG2.out.os.trans b1.os, HG2.out.tape.trans b1.tape, HG2.out.output.trans b1.output, Nat.le_trans b1.size HG2.out.size, fun k hk => (HG2.out.block k (by show k < W1.heap.size; omega) (fun e => by cases e)).trans (hW1 k hk)⟩
      exact b2.setCell (p := ⟨w.heap.size, 1, none⟩) (Nat.le_refl _) _)
    obtain ⟨w3, HW3⟩ : ∃ w3, Hid (w2.setCell ⟨w.heap.size, 1, none⟩ (.slice p2 its.length cp2) = w3) := ⟨_, rfl⟩
    rw [HW3.out] at HH0 B0
    rw [HW3.out]
    clear k2 k3 hW1c hW1d hW1c' HR2 HO2 HG2 HC2 HW1 hW1 hs1 HW3 c0 c1 c2
    go_wp2_with fail
    go_loopw [4] (fun vo wr => ∃ (R its' : List (Nat × Int)) (v' : Value), Hid (HRf wr w.heap.size d its' 0 v') ∧ Hid (its.Perm (R ++ its')) ∧ Hid (Inc its') ∧ Hid (R.Pairwise (ahp (keyB d)) ∧ ∀ r ∈ R, ∀ q ∈ its', ahp (keyB d) r q) ∧ Hid (wr.ownsRow w.heap.size 85 2 vo R.length (flat R)) ∧ Hid (Below w.heap.size w wr)) (fun _ wr => len1N w.heap.size wr)
    case atStart => exact ⟨[], its, _, HH0, hid (List.Perm.refl _), HI, hid ⟨List.Pairwise.nil, fun r hr => by cases hr⟩, hid (World.ownsRow_nil _ _ _ _), B0⟩
    case round =>
      clear HH0 B0
      obtain ⟨R, its', v', HH, HPM, HIN, HPW, HO, HB⟩ := hrel
      obtain ⟨c0, c1, c2⟩ := HH.out.c
      obtain ⟨p', c', hv'⟩ := own2_slc HH.out.row
      subst hv'
      have hlen : R.length + its'.length = n := by rw [← hn.out, HPM.out.length_eq, List.length_append]
      obtain ⟨n', hn'⟩ : ∃ n', Hid (its'.length = n') := ⟨_, rfl⟩
      rw [hn'.out] at c1 hlen
      have HM : Hid (len1N w.heap.size wr = n') := hid (by unfold len1N; rw [c1])
      have hroom' : n * 16 ≤ 140737488355328 := by rw [← hn.out]; exact hroom
      by_cases h0 : 0 < n'
      · have h0' : (0 : Int) < (n' : Int) := by omega
        have CL := hid (rleast_ok HH.out HDD.out (fun p hp => HX.out p (HPM.out.symm.subset (List.mem_append.2 (.inr hp)))) (by rw [hn'.out]; omega))
        go_wp2_with fail
        refine CL.out.mono ?_
        rintro e w4 ⟨b, rfl, hb, hdr⟩
        clear CL
        have hk : ∃ k : Nat, b = (k : Int) ∧ LsI d its' its'.length k := by
          rcases hb with ⟨q, _⟩ | q
          · rw [q] at hn'
            have : 0 = n' := hn'.out
            omega
          · exact q
        obtain ⟨k, rfl, hk⟩ := hk
        have H4 := hid (HH.out.dr hdr)
        have CT := hid (rtake_ok H4.out k hk.1 (by rw [hn'.out]; omega))
        have HK := hid hk
        have HB4 : Hid (Below w.heap.size w w4) := hid (HB.out.trans (hdr.below _))
        have HO4 : Hid (w4.ownsRow w.heap.size 85 2 u4 R.length (flat R)) := hid (own2_kept HO.out (fun b _ _ => by obtain ⟨q, rfl⟩ := hdr; rfl))
        clear hb hk hdr c1
        go_wp2_with fail
        refine CT.out.mono ?_
        rintro e w5 ⟨rfl, v5, h5, he5, hv5⟩
        have H5 := hid h5
        have hs45 := he5.size
        have HB5 : Hid (Below w.heap.size w w5) := hid (HB4.out.trans (he5.below HB4.out.size (fun x hx => by have : x = w.heap.size := hx; omega)))
        have HO5 : Hid (w5.ownsRow w.heap.size 85 2 u4 R.length (flat R)) := hid (own2_kept HO4.out (fun b hb hbl => he5.block b hbl (fun e => own2_bne HO4.out H4.out.top (by decide) (by rw [hb]; exact congrArg some e))))
        have HV5 : Hid (∀ x, u4.ownBlock = some x → v5.ownBlock ≠ some x) := hid fun x hx e => by
          have h1 := (own2_ge HO4.out x hx).2
          have h2 := hv5 x e
          omega
        have HU5 := hid (own2_bne HO5.out H5.out.top (by decide))
        obtain ⟨t, Ht⟩ : ∃ t, Hid (itA its' k = t) := ⟨_, rfl⟩
        have HPM5 : Hid (its.Perm ((R ++ [t]) ++ its'.eraseIdx k)) := hid (by
          rw [List.append_assoc]
          refine HPM.out.trans (List.Perm.append_left R ?_)
          rw [← Ht.out]
          exact erase_perm HK.out.1)
        have HPW5 : Hid ((R ++ [t]).Pairwise (ahp (keyB d)) ∧ ∀ r ∈ R ++ [t], ∀ q ∈ its'.eraseIdx k, ahp (keyB d) r q) := hid (by
          have hm : t ∈ its' := by rw [← Ht.out]; exact List.mem_of_getElem? (itA_some HK.out.1)
          refine ⟨?_, fun r hr q hq => ?_⟩
          · rw [List.pairwise_append]
            exact ⟨HPW.out.1, List.pairwise_singleton _ _, fun a ha b hb => by rw [List.mem_singleton.1 hb]; exact HPW.out.2 a ha t hm⟩
          · rcases List.mem_append.1 hr with z | z
            · exact HPW.out.2 r z q (List.mem_of_mem_eraseIdx hq)
            · rw [List.mem_singleton.1 z, ← Ht.out]
              exact HK.out.min HIN.out q hq)
        have hle : (its'.eraseIdx k).length + 1 = n' := by have := (erase_perm HK.out.1).length_eq; rw [hn'.out, List.length_cons] at this; omega
        rw [Ht.out]
        clear h5 he5 hv5 CT H4
        go_wp2_with (at_builtin; refine wpList_append_own _ rfl _ _ 31 rfl w.heap.size 85 i0 _ 2 16 Try.underlying31 hi0 hz0 hz1 hz2 rfl (by omega) _ R.length _ rfl (HO5.out.alloc _) ⟨w5.heap.size, 0, none⟩ 1 1 [.int .i64 (t.1 : Int), .int .i64 t.2] rfl rfl (World.news_of_block (cs := #[.int .i64 (t.1 : Int), .int .i64 t.2]) (t := 85) (fr := (0, 0)) (heap_alloc_new w5 _)) (by simp [Value.oneCell']) ?q1 ?q2 ?q3 ?_)
        case q1 => unfold maxLen; omega
        case q2 => omega
        case q3 => show _ ≤ (w5.heap.push _).size; rw [Array.size_push]; have := HB5.out.size; omega
        intro v6 w6 hown6 hgr6 hnil6
        have hk6 : ∀ x, x < w5.heap.size → u4.ownBlock ≠ some x → w6.heap[x]? = w5.heap[x]? := fun x hx hne => (hgr6.block x (by show x < (w5.heap.push _).size; rw [Array.size_push]; omega) (Ne.symm hne)).trans (heap_alloc_old w5 _ hx)
        have H6 : Hid (HRf w6 w.heap.size d (its'.eraseIdx k) 0 v5) := hid (H5.out.of (fun x hx => hk6 x (H5.out.vlt x hx) (fun e => by
          rcases hx with z | z
          · exact HU5.out (by rw [e, z])
          · exact HV5.out x e z)))
        have HO6 : Hid (w6.ownsRow w.heap.size 85 2 v6 (R ++ [t]).length (flat (R ++ [t]))) := hid (by rw [List.length_append, flat_append, flat_one]; exact hown6)
        have HB6 : Hid (Below w.heap.size w w6) := hid ((HB5.out.alloc HB5.out.size _).grown hgr6 (by show _ ≤ (w5.heap.push _).size; rw [Array.size_push]; have := HB5.out.size; omega) (fun x e => (HO5.out.lt x e).1))
        have HM6 : Hid (len1N w.heap.size w6 = (its'.eraseIdx k).length) := hid (by
          have c := H6.out.c.2.1
          obtain ⟨p7, c7, hv7⟩ := own2_slc H6.out.row
          unfold len1N
          rw [c, hv7])
        clear hown6 hgr6 hnil6 hk6
        go_wp2_with fail
        exact ⟨⟨R ++ [t], its'.eraseIdx k, v5, H6, HPM5, hid (HIN.out.erase k), HPW5, HO6, HB6⟩, by rw [HM6.out, HM.out]; omega⟩
      · have hn0 : n' = 0 := by omega
        have hL0 : its' = [] := List.length_eq_zero_iff.1 (by rw [hn'.out]; omega)
        subst hn0
        have HPF : Hid (R.Perm its) := hid (by have := HPM.out; rw [hL0, List.append_nil] at this; exact this.symm)
        go_wp2_with fail
        go_ret
        exact ⟨u4, rfl, R, HPF.out, HPW.out.1, HO.out, HB.out⟩
end
end Go.Proofs.Ytcgkcappfjhikaa
