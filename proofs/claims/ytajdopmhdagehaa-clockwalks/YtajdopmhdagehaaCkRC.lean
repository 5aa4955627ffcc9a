/- The document's clock: Take, All. -/
import Derived.Test.YtajdopmhdagehaaCkRB
import Derived.Deep.AppendLies
import Derived.Deep.RegionLaw
set_option linter.unusedVariables false
set_option linter.unusedSimpArgs false
namespace Go.Proofs.Ytajdopmhdagehaa.Rc
open Go.Proofs.Ytajdopmhdagehaa
open Go Go.RowKit
/-- a is due ahead of b. -/
def lt3 (a b : Tr) : Prop := a.2.1 < b.2.1 ∨ (a.2.1 = b.2.1 ∧ a.1 < b.1)
/-- By rising numbers. -/
def Inc (l : List Tr) : Prop := l.Pairwise fun a b => a.1 < b.1
theorem oL_perm {l : List Tr} {k : Nat} (hk : k < l.length) : (tA l k :: oL l k).Perm l := by
  have e : l = l.take k ++ tA l k :: l.drop (k + 1) := by
    have h1 : l[k] = tA l k := by have := tA_some hk; rw [List.getElem?_eq_getElem hk] at this; simpa using this
    rw [← h1, ← List.drop_eq_getElem_cons hk, List.take_append_drop]
  unfold oL
  have h2 : (tA l k :: (l.take k ++ l.drop (k + 1))).Perm (l.take k ++ tA l k :: l.drop (k + 1)) := List.perm_middle.symm
  rw [← e] at h2
  exact h2
theorem oL_inc {l : List Tr} (h : Inc l) (k : Nat) : Inc (oL l k) := by
  unfold Inc oL
  have h1 : (l.take k ++ l.drop (k + 1)).Sublist l := by
    have h2 : (l.take k ++ l.drop (k + 1)).Sublist (l.take k ++ l.drop k) := List.Sublist.append (List.Sublist.refl _) (by
      have := List.drop_sublist 1 (l.drop k)
      rwa [List.drop_drop] at this)
    rwa [List.take_append_drop] at h2
  exact List.Pairwise.sublist h1 h
theorem oL_length {l : List Tr} {k : Nat} (hk : k < l.length) : (oL l k).length + 1 = l.length := by
  have := (oL_perm hk).length_eq
  simpa using this
theorem fs_first {l : List Tr} (h : Inc l) {k : Nat} (hk : FsI l l.length k) : ∀ q ∈ oL l k, lt3 (tA l k) q := by
  intro q hq
  have key : ∀ j, j < l.length → j ≠ k → lt3 (tA l k) (tA l j) := fun j hj hne => by
    have h1 := hk.2 j hj
    rcases Nat.lt_or_ge j k with z | z
    · exact .inl (h1.2 z)
    · have h2 : (tA l k).1 < (tA l j).1 := by
        have e1 : tA l k = l[k]'hk.1 := by have := tA_some hk.1; rw [List.getElem?_eq_getElem hk.1] at this; simpa using this.symm
        have e2 : tA l j = l[j] := by have := tA_some hj; rw [List.getElem?_eq_getElem hj] at this; simpa using this.symm
        rw [e1, e2]
        exact (List.pairwise_iff_getElem.1 h) k j hk.1 hj (by omega)
      unfold lt3
      omega
  unfold oL at hq
  rcases List.mem_append.1 hq with z | z
  · obtain ⟨j, hj⟩ := List.mem_iff_getElem?.1 z
    rw [List.getElem?_take] at hj
    split at hj
    · rename_i hjk
      have hjl := (List.getElem?_eq_some_iff.1 hj).1
      rw [tA_some hjl] at hj
      cases hj
      exact key j hjl (by omega)
    · cases hj
  · obtain ⟨j, hj⟩ := List.mem_iff_getElem?.1 z
    rw [List.getElem?_drop] at hj
    have hjl := (List.getElem?_eq_some_iff.1 hj).1
    rw [tA_some hjl] at hj
    cases hj
    exact key _ hjl (by omega)
section
variable {w : World} {y : Nat} {tk : Int} {md : Nat} {l : List Tr} {v : Value}
/-- What Take has come to. -/
def TkQ (w : World) (y : Nat) (tk : Int) (md : Nat) (l : List Tr) (v : Value) (e : Ending) (w' : World) : Prop :=
  (l = [] ∧ e = .returned (.tuple #[.agg trZ, .bool false]) ∧ HRc w' y tk md l v ∧ Ex (fun k => k = y) w w') ∨
  (∃ k, FsI l l.length k ∧ e = .returned (.tuple #[.agg (trA (tA l k)), .bool true]) ∧ ∃ v', HRc w' y (tA l k).2.1 md (oL l k) v' ∧ Ex (fun k => k = y) w w' ∧ ∀ b, v'.ownBlock = some b → w.heap.size ≤ b)
set_option maxRecDepth 100000 in
set_option maxHeartbeats 8000000 in
theorem rtake_ok (h : HRc w y tk md l v) (hroom : l.length * 24 ≤ 140737488355328) :
    Calls Try.prog 47 #[ptr y] w fun e w' => TkQ w y tk md l v e w' := by
  have h0 := h.below ((Below.refl _ _).alloc (Nat.le_refl _) (.cells trZ 59))
  have CF := hid (rfirst_ok h0 (by omega))
  have hz0 := heap_alloc_new w (.cells trZ 59)
  have hyl := h.lt
  have hvl := h.vlt
  obtain ⟨w0, HW0⟩ : ∃ w0, Hid (w.alloc (.cells trZ 59) = w0) := ⟨_, rfl⟩
  have HEW : Hid (Ex (fun k => k = y) w w0) := hid (by rw [← HW0.out]; exact (Ex.refl _ w).alloc _)
  have hsz0 : w0.heap.size = w.heap.size + 1 := by rw [← HW0.out]; simp
  rw [HW0.out] at CF h0 hz0
  have H0 := hid h0
  have HZ0 := hid hz0
  have HVL := hid hvl
  have HS0 := hid hsz0
  clear h h0 hz0 hvl hsz0
  go_enter Try.func47, Try.ntmps47
  go_wp2_with fail
  rw [HW0.out]
  refine CF.out.mono ?_
  rintro e w1 ⟨b, rfl, hb, hd⟩
  have H1 := hid (H0.out.dr hd)
  have HE1 : Hid (Ex (fun k => k = y) w w1) := hid (HEW.out.trans (Ex.of_below (S := fun k => k = y) (hd.below _)) (fun _ q => .inl q))
  have hz1 := (((hd.below w0.heap.size).block w.heap.size (by rw [HS0.out]; omega)).trans HZ0.out)
  have HSD : Hid (w0.heap.size ≤ w1.heap.size) := hid (hd.below w0.heap.size).size
  clear hd CF
  rcases hb with ⟨hl, hb⟩ | ⟨k, hb, hk⟩
  · subst hl hb
    have z0 : w1.cell? ⟨w.heap.size, 0, none⟩ = some (.int .i64 0) := by rw [cell_of_row _ _ _ _ _ _ hz1]; rfl
    have z1 : w1.cell? ⟨w.heap.size, 1, none⟩ = some (.int .i64 0) := by rw [cell_of_row _ _ _ _ _ _ hz1]; rfl
    have z2 : w1.cell? ⟨w.heap.size, 2, none⟩ = some (.int .u32 0) := by rw [cell_of_row _ _ _ _ _ _ hz1]; rfl
    have f0 := free_of hz1 0
    have f1 := free_of hz1 1
    have f2 := free_of hz1 2
    have HZ1 := hid hz1
    clear hz1
    go_wp2_with fail
    have hz3 := bk_set (bk_set (bk_set HZ1.out 0 (.int .i64 0)) 1 (.int .i64 0)) 2 (.int .u32 0)
    refine bodyPost_ret (v := .tuple #[.agg trZ, .bool false]) (results_cellt (p := 2) (u := 3) (ty := 59) rfl _ _ w.heap.size 59 trZ (0, 0) _ rfl hz3 Try.underlying59 rfl (by kernel_rfl) _ rfl) rfl ?_
    refine .inl ⟨rfl, rfl, H1.out.of fun k hk => ?_, ?_⟩
    · have := HVL.out k hk
      rw [bk_other (by omega), bk_other (by omega), bk_other (by omega)]
    · have E1 := HE1.out
      refine ⟨E1.os, E1.tape, E1.output, by rw [sz_set, sz_set, sz_set]; exact E1.size, fun k hk hnk => ?_⟩
      rw [bk_other (by omega), bk_other (by omega), bk_other (by omega)]
      exact E1.block k hk hnk
  · subst hb
    have CO := hid (rout_ok H1.out k hk.1 hroom)
    have HK := hid hk
    have hg0 : ¬ (k : Int) < 0 := by omega
    have HZ1 := hid hz1
    obtain ⟨X, HX⟩ : ∃ X, Hid (tA l k = X) := ⟨_, rfl⟩
    rw [HX.out] at CO
    clear hk hz1
    go_wp2_with fail
    refine CO.out.mono ?_
    rintro e w2 ⟨rfl, v', hr2, he2, hv2⟩
    have hs1 := HSD.out
    have hs0 := HS0.out
    have hny : w.heap.size ≠ y := by omega
    have hz2 := (he2.block w.heap.size (by omega) hny).trans HZ1.out
    have lz := (Array.getElem?_eq_some_iff.1 hz2).1
    have z0 : w2.cell? ⟨w.heap.size, 0, none⟩ = some (.int .i64 0) := by rw [cell_of_row _ _ _ _ _ _ hz2]; rfl
    have z1 : w2.cell? ⟨w.heap.size, 1, none⟩ = some (.int .i64 0) := by rw [cell_of_row _ _ _ _ _ _ hz2]; rfl
    have z2 : w2.cell? ⟨w.heap.size, 2, none⟩ = some (.int .u32 0) := by rw [cell_of_row _ _ _ _ _ _ hz2]; rfl
    have f0 := free_of hz2 0
    have f1 := free_of hz2 1
    have f2 := free_of hz2 2
    have c0 := hr2.c.1
    have g0 := free_of hr2.top 0
    have ly := hr2.lt
    have HZ2 := hid hz2
    have HR2 := hid hr2
    have HE2 := hid he2
    have HV2 := hid hv2
    clear hz2 hr2 he2 hv2 CO
    go_wp2_with fail
    have hz3 : ((((w2.setCell ⟨y, 0, none⟩ (.int .i64 X.2.1)).setCell ⟨w.heap.size, 0, none⟩ (.int .i64 X.1)).setCell ⟨w.heap.size, 1, none⟩ (.int .i64 X.2.1)).setCell ⟨w.heap.size, 2, none⟩ (.int .u32 X.2.2)).heap[w.heap.size]? = some (.cells (trA X) 59 (0, 0)) := bk_set (bk_set (bk_set ((bk_other (Ne.symm hny) _ _).trans HZ2.out) 0 (.int .i64 X.1)) 1 (.int .i64 X.2.1)) 2 (.int .u32 X.2.2)
    have hz4 := (heap_alloc_old ((((w2.setCell ⟨y, 0, none⟩ (.int .i64 X.2.1)).setCell ⟨w.heap.size, 0, none⟩ (.int .i64 X.1)).setCell ⟨w.heap.size, 1, none⟩ (.int .i64 X.2.1)).setCell ⟨w.heap.size, 2, none⟩ (.int .u32 X.2.2)) (.cells (trA X) 59) (by rw [sz_set, sz_set, sz_set, sz_set]; exact lz)).trans hz3
    refine bodyPost_ret (v := .tuple #[.agg (trA X), .bool true]) (results_cellt (p := 2) (u := 3) (ty := 59) rfl _ _ w.heap.size 59 (trA X) (0, 0) _ rfl hz4 Try.underlying59 rfl (by kernel_rfl) _ rfl) rfl ?_
    refine .inr ⟨k, HK.out, by rw [HX.out], v', ⟨?_, own3_keep HR2.out.row fun j hj => ?_⟩, ?_, fun j hj => by have := HV2.out j hj; omega⟩
    · rw [HX.out]
      refine (heap_alloc_old _ _ (by rw [sz_set, sz_set, sz_set, sz_set]; exact ly)).trans ?_
      rw [bk_other hny, bk_other hny, bk_other hny]
      have := bk_set HR2.out.top 0 (.int .i64 X.2.1)
      simpa using this
    · have h1 := HV2.out j hj
      have h2 := (own3_lt HR2.out.row j hj).2
      refine (heap_alloc_old _ _ (by rw [sz_set, sz_set, sz_set, sz_set]; exact h2)).trans ?_
      rw [bk_other (by omega), bk_other (by omega), bk_other (by omega), bk_other (by omega)]
    · have E2 := HE1.out.trans HE2.out (fun _ q => .inl q)
      refine Ex.alloc (b := (((w2.setCell ⟨y, 0, none⟩ (.int .i64 X.2.1)).setCell ⟨w.heap.size, 0, none⟩ (.int .i64 X.1)).setCell ⟨w.heap.size, 1, none⟩ (.int .i64 X.2.1)).setCell ⟨w.heap.size, 2, none⟩ (.int .u32 X.2.2)) ?_ _
      refine ⟨E2.os, E2.tape, E2.output, by rw [sz_set, sz_set, sz_set, sz_set]; exact E2.size, fun j hj hn => ?_⟩
      rw [bk_other (by omega), bk_other (by omega), bk_other (by omega), bk_other (Ne.symm hn)]
      exact E2.block j hj hn
theorem step_append_run {P : Program} {ops : Array Oper} {o : Oper} {a : Act} {w w' : World} {K : Act → World → Prop} {Q : Exit → Act → World → Prop} {E : Prop} {v u v' : Value} (hgd : o.guard = none) (s x : Operand) (t : TypeId)
    (ho : o.op = .call { callee := .builtin .append, args := #[s, x], argTypes := #[t, t] }) (hs : a.eval s = v) (hx : a.eval x = u) (hr : (Builtin.append_ #[t, t] o.type #[v, u]).run P w = .ok v' w') (h : K (a.put o.dst v') w') :
    if Region.wanted o (yielded ops a.tmps) = true then Oper.wp P o a w K Q else E := by
  have hw : Region.wanted o (yielded ops a.tmps) = true := by simp [Region.wanted, hgd]
  rw [if_pos hw]
  unfold Oper.wp execOp
  simp only [ho, resolve, invoke, builtin, Sem.run_bind, Sem.run_pure, Result.andThen_ok, List.map_toArray, List.map_cons, List.map_nil, hs, hx, hr]
  exact h
theorem rcopy_run (h : HRc w y tk md l v) (W : World) (hW : ∀ k, k < w.heap.size → W.heap[k]? = w.heap[k]?) (hroom : l.length * 24 ≤ 140737488355328) : ∃ v' w', (Builtin.append_ #[38, 38] 38 #[.slice none 0 0, v]).run Try.prog W = .ok v' w' ∧ w'.ownsRow W.heap.size 59 3 v' l.length (flat l) ∧ W.grownBy w' none := by
  obtain ⟨i0, hi0, hz0, hz1, hz2⟩ := info_parts info_tr
  rcases h.row.2 with ⟨q, hz⟩ | ⟨b, cap, cur, hv, hb, hw, q1, q2, q3, q4⟩
  · have e : l = [] := List.length_eq_zero_iff.1 hz
    subst e
    rw [q]
    have hrun := run_append_owned_none (P := Try.prog) (w := W) W.heap.size 38 38 59 i0 3 Try.underlying38 hi0 (.slice none 0 0) 0 [] (World.ownsRow_nil _ _ _ _)
    exact ⟨_, _, hrun, World.ownsRow_nil _ _ _ _, ⟨rfl, rfl, rfl, Nat.le_refl _, fun _ _ _ => rfl⟩⟩
  · have hbl : b < w.heap.size := (Array.getElem?_eq_some_iff.1 hw).1
    obtain ⟨v', w', hr, h2, h3, _⟩ := run_append_tr W W.heap.size 38 (.slice none 0 0) 0 [] (World.ownsRow_nil _ _ _ _) ⟨b, 0, none⟩ l.length cap l rfl (fun j u hj => by
      have := src_at (cap := cap) ((hW b hbl).trans hw) q4 0 l.length (by omega) j u (by simpa using hj)
      simpa using this) (by omega) (Nat.le_refl _)
    rw [hv]
    exact ⟨v', w', hr, by simpa using h2, by simpa [Value.ownBlock] using h3⟩
/-- What All has come to. -/
def RaQ (w : World) (l : List Tr) (vo : Value) (w' : World) : Prop :=
  ∃ R, w'.ownsRow w.heap.size 59 3 vo R.length (flat R) ∧ R.Perm l ∧ R.Pairwise lt3 ∧ Below w.heap.size w w'
def slN3 (v : Value) : Nat := match v with | .slice _ n _ => n | _ => 0
structure RaI (w : World) (l : List Tr) (D : Nat) (R l2 : List Tr) (tk2 : Int) (v2 vo : Value) (w' : World) : Prop where
  hr : HRc w' D tk2 0 l2 v2
  hb : Below w.heap.size w w'
  lo : ∀ b, v2.ownBlock = some b → w.heap.size ≤ b
  ne : ∀ b, v2.ownBlock = some b → vo.ownBlock ≠ some b
  nD : vo.ownBlock ≠ some D
  own : w'.ownsRow w.heap.size 59 3 vo R.length (flat R)
  perm : (R ++ l2).Perm l
  pw : R.Pairwise lt3
  fst : ∀ r ∈ R, ∀ q ∈ l2, lt3 r q
  inc : Inc l2
set_option maxRecDepth 100000 in
set_option maxHeartbeats 8000000 in
theorem rall_ok (h : HRc w y tk md l v) (hinc : Inc l) (hroom : l.length * 24 ≤ 140737488355328) :
    Calls Try.prog 16 #[ptr y] w fun e w' => ∃ vo, e = .returned vo ∧ RaQ w l vo w' := by
  have H := hid h
  obtain ⟨c0, c1, c2⟩ := h.c
  have hyl := h.lt
  have HINC := hid hinc
  obtain ⟨W1, HW1⟩ : ∃ W1, Hid (w.alloc (.cells #[.int .i64 0, .int .i64 0, .slice none 0 0] 40) = W1) := ⟨_, rfl⟩
  have hW1 : ∀ k, k < w.heap.size → W1.heap[k]? = w.heap[k]? := fun k hk => by rw [← HW1.out]; exact heap_alloc_old w _ hk
  have hc1 : W1.heap[w.heap.size]? = some (.cells #[.int .i64 0, .int .i64 0, .slice none 0 0] 40 (0, 0)) := by rw [← HW1.out]; exact heap_alloc_new w _
  have hs1 : W1.heap.size = w.heap.size + 1 := by rw [← HW1.out]; simp
  obtain ⟨v2, w2, hr2, ho2, hg2⟩ := rcopy_run h W1.drew (fun k hk => hW1 k hk) hroom
  have hc2 := (hg2.block w.heap.size (by show w.heap.size < W1.heap.size; omega) (fun e => by cases e)).trans hc1
  have k2 : w2.cell? ⟨w.heap.size, 2, none⟩ = some (.slice none 0 0) := by rw [cell_of_row _ _ _ _ _ _ hc2]; rfl
  have k3 := free_of hc2 2
  obtain ⟨p2, cp2, hv2⟩ := own3_slc ho2
  subst hv2
  have hW1c : W1.cell? ⟨y, 2, none⟩ = some v := (World.cell?_of_block (a := ⟨y, 2, none⟩) (hW1 y hyl)).trans c2
  have hW1d : W1.cell? ⟨w.heap.size, 2, none⟩ = some (.slice none 0 0) := by rw [cell_of_row _ _ _ _ _ _ hc1]; rfl
  obtain ⟨pv, cv, hv⟩ := own3_slc h.row
  subst hv
  have HR2 := hid hr2
  have HO2 := hid ho2
  have HG2 := hid hg2
  have HC2 := hid hc2
  obtain ⟨n, hn⟩ : ∃ n, Hid (l.length = n) := ⟨_, rfl⟩
  clear h hinc hc1 hr2 ho2 hg2 hc2
  go_enter Try.func16, Try.ntmps16
  go_wp2_with fail
  rw [HW1.out]
  have hW1c' : W1.cell? ⟨y, 2, none⟩ = some (.slice pv l.length cv) := hW1c
  go_region_law ((refine step_append_run (by rfl) _ _ _ (by rfl) (by rfl) (by rfl) HR2.out ?_))
  all_goals
    have I0 : Hid (RaI w l w.heap.size [] l 0 (.slice p2 l.length cp2) (.slice none 0 0) (w2.setCell ⟨w.heap.size, 2, none⟩ (.slice p2 l.length cp2))) := by
      have h1 := bk_set HC2.out 2 (.slice p2 l.length cp2)
      have hlo : ∀ b, (Value.slice p2 l.length cp2).ownBlock = some b → w.heap.size + 1 ≤ b := fun b hb => by
        have := (own3_lt HO2.out b hb).1
        have h2 : W1.heap.size ≤ b := this
        omega
      refine hid ⟨⟨by simpa using h1, own3_keep (own3_base HO2.out) fun b hb => bk_other (by have := hlo b hb; omega) _ _⟩, ?_, fun b hb => by have := hlo b hb; omega, (fun b hb e => by cases e), (fun e => by cases e), ⟨rfl, .inl ⟨rfl, rfl⟩⟩, List.Perm.refl _, List.Pairwise.nil, (fun r hr => by cases hr), HINC.out⟩
      have b1 : Below w.heap.size w W1 := by rw [← HW1.out]; exact (Below.refl _ _).alloc (Nat.le_refl _) _
      have b2 : Below w.heap.size w w2 := ⟨HG2.out.os.trans b1.os, HG2.out.tape.trans b1.tape, HG2.out.output.trans b1.output, Nat.le_trans b1.size HG2.out.size, fun k hk => (HG2.out.block k (by show k < W1.heap.size; omega) (fun e => by cases e)).trans (hW1 k hk)⟩
      exact b2.setCell (p := ⟨w.heap.size, 2, none⟩) (Nat.le_refl _) _
    obtain ⟨w3, HW3⟩ : ∃ w3, Hid (w2.setCell ⟨w.heap.size, 2, none⟩ (.slice p2 l.length cp2) = w3) := ⟨_, rfl⟩
    rw [HW3.out] at I0
    rw [HW3.out]
    clear k2 k3 hW1c hW1d hW1c' HR2 HO2 HG2 HC2 HW1 hW1 hs1 HW3 c0 c1 c2
    go_wp2_with fail
    go_loopw [4] (fun vo wr => ∃ (R l2 : List Tr) (tk2 : Int) (v2 : Value), Hid (RaI w l w.heap.size R l2 tk2 v2 vo wr)) (fun vo _ => n + 1 - slN3 vo)
    case atStart => exact ⟨[], l, _, _, I0⟩
    case round =>
      clear I0
      obtain ⟨R, l2, tk2, v2, HI⟩ := hrel
      have hlen : R.length + l2.length = n := by have := HI.out.perm.length_eq; rw [List.length_append, hn.out] at this; exact this
      have hroom' : n * 24 ≤ 140737488355328 := by rw [← hn.out]; exact hroom
      have hslN : slN3 u4 = R.length := by
        rcases HI.out.own.2 with ⟨q, e⟩ | ⟨b', cap, cur, hv, _⟩
        · rw [q, e]; rfl
        · rw [hv]; rfl
      have HSL := hid hslN
      have CT := hid (rtake_ok HI.out.hr (by omega))
      clear hslN
      go_wp2_with fail
      refine CT.out.mono ?_
      rintro e w4 (⟨hl2, rfl, hr4, he4⟩ | ⟨k, hk, rfl, v4, hr4, he4, hv4⟩)
      · subst hl2
        have hb4 : Below w.heap.size w w4 := HI.out.hb.trans (he4.below HI.out.hb.size (fun j hj => by rw [hj]; exact Nat.le_refl _))
        have HB4 := hid hb4
        have HO4 := hid (own3_keep HI.out.own fun b hb => he4.block b (own3_lt HI.out.own b hb).2 (fun q => HI.out.nD (by rw [← q]; exact hb)))
        clear CT hr4 he4 hb4
        go_wp2_with fail
        go_ret
        refine ⟨_, rfl, R, own3_keep HO4.out fun b hb => heap_alloc_old _ _ (own3_lt HO4.out b hb).2, ?_, HI.out.pw, HB4.out.alloc HB4.out.size _⟩
        have := HI.out.perm
        rwa [List.append_nil] at this
      · have hkl := hk.1
        obtain ⟨X, HX⟩ : ∃ X, Hid (tA l2 k = X) := ⟨_, rfl⟩
        have HPM : Hid ((X :: oL l2 k).Perm l2) := hid (by rw [← HX.out]; exact oL_perm hkl)
        have HFS : Hid (∀ q ∈ oL l2 k, lt3 X q) := hid (by rw [← HX.out]; exact fs_first HI.out.inc hk)
        have HLN : Hid ((oL l2 k).length + 1 = l2.length) := hid (oL_length hkl)
        rw [HX.out] at hr4
        rw [HX.out]
        have hs4 := he4.size
        have hb4 : Below w.heap.size w w4 := HI.out.hb.trans (he4.below HI.out.hb.size (fun j hj => by rw [hj]; exact Nat.le_refl _))
        have hu : ∀ b, u4.ownBlock = some b → w.heap.size ≤ b ∧ b < wr.heap.size ∧ b ≠ w.heap.size := fun b hb => ⟨(own3_lt HI.out.own b hb).1, (own3_lt HI.out.own b hb).2, fun q => HI.out.nD (by rw [← q]; exact hb)⟩
        have hv4l : ∀ b, v4.ownBlock = some b → wr.heap.size ≤ b ∧ b < w4.heap.size := fun b hb => ⟨hv4 b hb, (own3_lt hr4.row b hb).2⟩
        have hDl := hr4.lt
        have hs5 : ((w4.alloc (.cells (trA X) 59)).alloc (.cells (trA X) 59)).heap.size = w4.heap.size + 2 := by simp
        have ho5 : ∀ j, j < w4.heap.size → ((w4.alloc (.cells (trA X) 59)).alloc (.cells (trA X) 59)).heap[j]? = w4.heap[j]? := fun j hj => (heap_alloc_old _ _ (by simp; omega)).trans (heap_alloc_old w4 _ hj)
        have hown5 : ((w4.alloc (.cells (trA X) 59)).alloc (.cells (trA X) 59)).ownsRow w.heap.size 59 3 u4 R.length (flat R) := own3_keep HI.out.own fun b hb => by
          obtain ⟨q1, q2, q3⟩ := hu b hb
          exact (ho5 b (by omega)).trans (he4.block b q2 q3)
        have hx5 : ((w4.alloc (.cells (trA X) 59)).alloc (.cells (trA X) 59)).heap[w4.heap.size + 1]? = some (.cells (trA X) 59 (0, 0)) := by
          have := heap_alloc_new (w4.alloc (.cells (trA X) 59)) (.cells (trA X) 59)
          rw [show (w4.alloc (.cells (trA X) 59)).heap.size = w4.heap.size + 1 by simp] at this
          exact this
        have HB5 : Hid (Below w.heap.size w ((w4.alloc (.cells (trA X) 59)).alloc (.cells (trA X) 59))) := hid ((hb4.alloc hb4.size _).alloc (by have := hb4.size; simp; omega) _)
        have HO5 := hid ho5
        have HOWN5 := hid hown5
        have HX5 := hid hx5
        have HS5 := hid hs5
        have HU := hid hu
        have HV4 := hid hv4l
        have HR4 := hid hr4
        have HKL := hid hkl
        have hs4' := hb4.size
        clear CT hk hr4 he4 hv4 hb4 hu hv4l hs5 ho5 hown5 hx5 hkl
        go_wp2_with (at_builtin; refine wpList_append_tr rfl _ _ rfl w.heap.size u4 R.length _ rfl HOWN5.out ⟨w4.heap.size + 1, 0, none⟩ 1 1 [X] rfl rfl (news_block HX5.out rfl) (by have := HLN.out; omega) (by rw [HS5.out]; omega) ?_)
        intro v6 w6 hown6 hgr6 hor6
        have hs6 : w4.heap.size + 2 ≤ w6.heap.size := by have := hgr6.size; rw [HS5.out] at this; exact this
        have hk6 : ∀ j, j < w4.heap.size → some j ≠ u4.ownBlock → w6.heap[j]? = w4.heap[j]? := fun j hj hne => (hgr6.block j (by rw [HS5.out]; omega) hne).trans (HO5.out j hj)
        have I6 : Hid (RaI w l w.heap.size (R ++ [X]) (oL l2 k) X.2.1 v4 v6 w6) := hid
          ⟨HR4.out.of fun j hj => hk6 j (HR4.out.vlt j hj) (fun e => by
            obtain ⟨q1, q2, q3⟩ := HU.out j e.symm
            rcases hj with z | z
            · exact q3 z
            · have := (HV4.out j z).1; omega),
           HB5.out.grown hgr6 (by rw [HS5.out]; omega) (fun j e => (HU.out j e).1),
           fun b hb => by have := (HV4.out b hb).1; have := HI.out.hb.size; omega,
           fun b hb e => by
            obtain ⟨z1, z2⟩ := HV4.out b hb
            rcases hor6 with q | ⟨q, _⟩
            · rw [q] at e
              have := (HU.out b e).2.1
              omega
            · rw [q] at e
              cases e
              have := HS5.out
              omega,
           fun e => by
            rcases hor6 with q | ⟨q, _⟩
            · rw [q] at e
              exact (HU.out _ e).2.2 rfl
            · rw [q] at e
              have e' := Option.some.inj e
              have := HS5.out
              omega,
           (by rw [List.length_append, List.length_singleton, flat_append]; exact hown6),
           (by rw [List.append_assoc]; exact (List.Perm.append_left R HPM.out).trans HI.out.perm),
           List.pairwise_append.2 ⟨HI.out.pw, List.pairwise_singleton _ _, fun a ha b hb => by rw [List.mem_singleton.1 hb]; exact HI.out.fst a ha X (HPM.out.subset List.mem_cons_self)⟩,
           fun a ha q hq => by
            rcases List.mem_append.1 ha with z | z
            · exact HI.out.fst a z q (HPM.out.subset (List.mem_cons_of_mem _ hq))
            · rw [List.mem_singleton.1 z]; exact HFS.out q hq,
           oL_inc HI.out.inc k⟩
        have hsl6 : slN3 v6 = R.length + 1 := by
          rcases hown6.2 with ⟨_, e⟩ | ⟨b', cap, cur, hv, _⟩
          · omega
          · rw [hv]; rfl
        have HSL6 := hid hsl6
        clear hown6 hgr6 hor6 hk6 hsl6
        go_wp2_with fail
        refine ⟨⟨R ++ [X], oL l2 k, _, _, I6⟩, ?_⟩
        have := HSL6.out
        have := HSL.out
        have := HLN.out
        omega
end
end Go.Proofs.Ytajdopmhdagehaa.Rc
