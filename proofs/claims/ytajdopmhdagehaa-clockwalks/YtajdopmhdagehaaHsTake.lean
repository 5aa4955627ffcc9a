/- take: the row at a place is taken out; the last one comes in its stead. -/
import Derived.Test.YtajdopmhdagehaaHsSink
import Derived.Test.YtajdopmhdagehaaHsMap
import Derived.Lib.SliceRun
set_option linter.unusedVariables false
set_option linter.unusedSimpArgs false
namespace Go.Proofs.Ytajdopmhdagehaa.Ds
open Go.Proofs.Ytajdopmhdagehaa
open Go Go.RowKit
section
variable {J : World → Prop} {U : Nat → Prop} {Dm : Pr → Prop} {fid : Nat} {fr : Array Value} {Ls : Pr → Pr → Bool → Prop} {ord : Prop} {key : Pr → Int}
variable {w : World} {g : Nat} {sf F : Value} {mp : Option Nat} {L : List (Rw Pr)} {nx : Nat} {lo : Int} {v : Value} {S : Nat → Prop}
theorem cut_perm {m1 : Nat} (hl : L.length = m1 + 1) : L.Perm (rat L m1 :: L.take m1) := by
  have e : L = L.take m1 ++ [rat L m1] := by
    apply List.ext_getElem?
    intro k
    by_cases hk : k < m1
    · rw [List.getElem?_append_left (by rw [List.length_take]; omega), List.getElem?_take, if_pos hk]
    · rw [List.getElem?_append_right (by rw [List.length_take]; omega), List.length_take]
      by_cases hk2 : k = m1
      · subst hk2
        rw [rat_some (by omega)]
        simp [show min k L.length = k by omega]
      · rw [List.getElem?_eq_none (by omega), List.getElem?_eq_none]
        simp
        omega
  have h1 : (L.take m1 ++ [rat L m1]).Perm (rat L m1 :: L.take m1) := List.perm_append_comm
  exact (List.Perm.of_eq e).trans h1
theorem HHp.cut0 (h : HHp w g sf F mp L nx lo v S) {b m1 cap : Nat} (hl : L.length = m1 + 1) (hv : v = .slice (some ⟨b, 0, none⟩) (m1 + 1) cap) : Ex S w (cutW w g b m1 cap) ∧ (∀ k, k ≠ b → k ≠ g → (cutW w g b m1 cap).heap[k]? = w.heap[k]?) ∧ (cutW w g b m1 cap).heap.size = w.heap.size :=
  ⟨((Ex.refl S w).setCell (h.sr b (by rw [hv]; rfl)) _).setCell h.sg _, fun k k1 k2 => (bk_other (Ne.symm k2) _ _).trans (bk_other (Ne.symm k1) _ _), by unfold cutW; rw [sz_set, sz_set]⟩
theorem HHp.cut (h : HHp w g sf F mp L nx lo v S) {b m1 cap : Nat} (hl : L.length = m1 + 1) (hv : v = .slice (some ⟨b, 0, none⟩) (m1 + 1) cap) {w5 : World}
    (hk : ∀ k, some k ≠ mp → k < w.heap.size → w5.heap[k]? = (cutW w g b m1 cap).heap[k]?) (hs : w5.heap.size = w.heap.size) (hm : ∀ m, mp = some m → HMr w5 m (L.take m1)) :
    HHp w5 g sf F mp (L.take m1) nx lo (.slice (some ⟨b, 0, none⟩) m1 cap) (fun k => S k ∧ k ≠ (rat L m1).b) ∧ HRow w5 (rat L m1) m1 := by
  obtain ⟨k1, k2, k3⟩ := h.kinds
  have hob : v.ownBlock = some b := by rw [hv]; rfl
  obtain ⟨hbg, hbr⟩ := k2 b hob
  obtain ⟨_, c2, _⟩ := h.cut0 hl hv
  have ml := rat_mem (L := L) (i := m1) (by omega)
  have hg5 : w5.heap[g]? = (cutW w g b m1 cap).heap[g]? := hk g (fun e => (k3 g e.symm).1 rfl) (h.lt g h.sg)
  have hb5 : w5.heap[b]? = (cutW w g b m1 cap).heap[b]? := hk b (fun e => (k3 b e.symm).2.2 hob) (h.lt b (h.sr b hob))
  have hr5 : ∀ r ∈ L, w5.heap[r.b]? = w.heap[r.b]? := fun r hr => (hk r.b (fun e => (k3 r.b e.symm).2.1 r hr rfl) (h.lt _ (h.se r hr))).trans (c2 _ (hbr r hr) (k1 r hr))
  have hlt : (L.take m1).length = m1 := by rw [List.length_take]; omega
  refine ⟨⟨?_, ?_, ?_, ?_, ?_, ?_, ?_, ?_, ?_, ?_, h.few, ?_⟩, (hr5 _ ml).trans (h.each m1 _ (rat_some (by omega)))⟩
  · rw [hg5]
    have := bk_set (w := w.setCell ⟨b, m1, none⟩ (.pointer none)) ((bk_other hbg _ _).trans h.top) 2 (.slice (some ⟨b, 0, none⟩) m1 cap)
    simpa [cutW] using this
  · refine ⟨by simp [List.length_take], ?_⟩
    rcases h.row.2 with ⟨q, _⟩ | ⟨b', cp, cur, q1, q2, q3, q4, q5, q6, q7⟩
    · rw [hv] at q; cases q
    · rw [hv] at q1
      simp only [Value.slice.injEq, Option.some.injEq, Addr.mk.injEq, and_true] at q1
      obtain ⟨rfl, q1, rfl⟩ := q1
      refine .inr ⟨b, cap, cur.setIfInBounds m1 (.pointer none), by rw [hlt], Nat.zero_le _, ?_, by rw [hlt]; omega, q5, by simpa using q6, ?_⟩
      · rw [hb5]
        unfold cutW
        rw [bk_other (Ne.symm hbg)]
        exact bk_set q3 _ _
      · rw [hlt]
        apply List.ext_getElem?
        intro k
        have q8 : (cur.toList.take (L.length * 1))[k]? = (L.map fun r => ptr r.b)[k]? := by rw [q7]
        rw [List.getElem?_take] at q8 ⊢
        rw [List.getElem?_map, List.getElem?_take]
        rw [List.getElem?_map] at q8
        by_cases hk : k < m1
        · rw [if_pos (by omega)] at q8
          rw [if_pos (by omega), if_pos hk, ← q8]
          simp only [Array.getElem?_toList, Array.getElem?_setIfInBounds]
          rw [if_neg (by omega)]
        · rw [if_neg (by omega), if_neg hk]
          rfl
  · intro i r hr
    rw [List.getElem?_take] at hr
    split at hr
    · exact (hr5 r (List.mem_of_getElem? hr)).trans (h.each i r hr)
    · cases hr
  · exact fun m hm' => ⟨hm m hm', (h.held m hm').2, fun e => (k3 m hm').2.1 _ ml e.symm⟩
  · exact fun r hr => h.tk r (List.mem_of_mem_take hr)
  · rw [List.map_take]
    exact h.one.sublist (List.take_sublist _ _)
  · exact ⟨h.sg, fun e => k1 _ ml e.symm⟩
  · intro b' hb'
    have : b' = b := by simpa [Value.ownBlock] using hb'.symm
    subst this
    exact ⟨h.sr b' hob, fun e => hbr _ ml e.symm⟩
  · intro r hr
    refine ⟨h.se r (List.mem_of_mem_take hr), fun e => ?_⟩
    obtain ⟨i, hi⟩ := List.mem_iff_getElem?.1 hr
    rw [List.getElem?_take] at hi
    split at hi
    · rename_i hlt'
      have := h.bne (i := i) (j := m1) (by omega) (by omega) (by omega)
      rw [rat_eq hi] at this
      exact this e
    · cases hi
  · intro k hk'
    rw [hs]
    exact h.lt k hk'.1
  · rw [hlt]
    have := h.len
    omega
/-- What take has come to: r is gone, its block reads as it did, and all else is a heap. -/
def TkQ (ord : Prop) (key : Pr → Int) (J : World → Prop) (U : Nat → Prop) (Dm : Pr → Prop) (fid : Nat) (fr : Array Value) (w : World) (g : Nat) (sf : Value) (mp : Option Nat) (L : List (Rw Pr)) (nx : Nat) (S : Nat → Prop) (r : Rw Pr) (w' : World) : Prop :=
  ∃ L' v' i, Lv J U Dm fid fr w' g sf mp L' nx (-1) v' (fun k => S k ∧ k ≠ r.b) ∧ HRow w' r i ∧ Ex (SU S U) w w' ∧ L.Perm (r :: L') ∧ (ord → hp key L → hp key L')
set_option maxRecDepth 100000 in
set_option maxHeartbeats 8000000 in
theorem take_any (O : Orc fid fr J U Dm Ls) (hO : Ord ord key Ls) (p : Nat) (h : Lv J U Dm fid fr w g sf mp L nx (-1) v S) (hp : p < L.length) :
    Calls Try.prog 88 #[ptr g, .int .i64 (p : Int)] w fun e w' => e = .returned (ptr (rat L p).b) ∧ TkQ ord key J U Dm fid fr w g sf mp L nx S (rat L p) w' := by
  obtain ⟨m1, hl⟩ : ∃ m1, L.length = m1 + 1 := ⟨L.length - 1, by omega⟩
  obtain ⟨b, cap, cur, rfl, -, hlc, hcm, -, -, -⟩ := h.hp.slc (by omega)
  have H0 := hid h
  have c2 := h.hp.cg.2.2.1
  have HL := hid hl
  have hp' : p ≤ m1 := by omega
  have CS := hid (swap_any h.hp p m1 hp (by omega))
  have hln := h.hp.len
  have hfw := h.hp.few
  clear h
  rw [hl] at c2 CS hlc hln
  have HP := hid hp
  clear hp hl
  go_enter Try.func88, Try.ntmps88
  go_wp2_with fail
  refine CS.out.mono ?_
  rintro e w2 ⟨rfl, h2, he2⟩
  clear CS c2
  have hl2 : (swp L p m1).length = m1 + 1 := by rw [swp_length]; exact HL.out
  obtain ⟨b', cap', cur, hv', hb2, -, -, hcs, hSb, hcu⟩ := h2.slc (by omega)
  rw [hl2] at hv'
  simp only [Value.slice.injEq, Option.some.injEq, Addr.mk.injEq, and_true, true_and] at hv'
  obtain ⟨rfl, rfl⟩ := hv'
  have c2 := h2.cg.2.2.1
  have f2 := free_of h2.top 2
  have er : rat (swp L p m1) m1 = rat L p := by rw [rat_swp HP.out (by have := HL.out; omega), if_pos rfl]
  have cl : w2.cell? ⟨b, m1, none⟩ = some (ptr (rat L p).b) := by rw [cell_of_row _ _ _ _ _ _ hb2, ← er]; exact hcu m1 (by omega)
  have fl := free_of hb2 m1
  obtain ⟨k1, k2, k3⟩ := h2.kinds
  have hbg : b ≠ g := (k2 b rfl).1
  have hcl : ∀ ty, (Builtin.clear_ #[142] ty #[.slice (some ⟨b, m1, none⟩) 1 (cap - m1)]).run Try.prog w2 = .ok (.tuple #[]) (w2.setCell ⟨b, m1, none⟩ (.pointer none)) := fun ty =>
    Lib.run_clear_slice w2 _ 146 ty (.pointer none) Try.underlying142 run_zero_prow rfl rfl b m1 1 (cap - m1) (by omega) (fun j hj => by rw [show m1 + j = m1 by omega, cl]; rfl) (fun j hj => by rw [show m1 + j = m1 by omega]; exact fl)
  have d2 : (w2.setCell ⟨b, m1, none⟩ (.pointer none)).cell? ⟨g, 2, none⟩ = some (.slice (some ⟨b, 0, none⟩) (m1 + 1) cap) := by
    rw [← c2]; exact World.cell?_of_block (a := ⟨g, 2, none⟩) (bk_other hbg _ _)
  have e2 : (w2.setCell ⟨b, m1, none⟩ (.pointer none)).frozen? ⟨g, 2, none⟩ = false := free_of ((bk_other hbg _ _).trans h2.top) 2
  have H2 := hid h2
  have HE2 := hid he2
  have HER := hid er
  obtain ⟨cut1, cut2, cut3⟩ := h2.cut0 hl2 rfl
  have mr : rat L p ∈ swp L p m1 := by rw [← er]; exact rat_mem (by omega)
  have rb := k1 _ mr
  have rg := (k2 b rfl).2 _ mr
  have K3 := hid k3
  have i3 : (cutW w2 g b m1 cap).cell? ⟨g, 3, none⟩ = some (.map mp) := by
    have := bk_set (w := w2.setCell ⟨b, m1, none⟩ (.pointer none)) ((bk_other hbg _ _).trans h2.top) 2 (.slice (some ⟨b, 0, none⟩) m1 cap)
    show ((w2.setCell ⟨b, m1, none⟩ (.pointer none)).setCell ⟨g, 2, none⟩ _).cell? _ = _
    rw [cell_of_row _ _ _ _ _ _ this]
    rfl
  have hrw : HRow w2 (rat L p) m1 := by rw [← er]; exact h2.each m1 _ (rat_some (by omega))
  have i4 : (cutW w2 g b m1 cap).cell? ⟨(rat L p).b, 0, none⟩ = some (.int .i64 ((rat L p).t : Int)) := by
    rw [← hrw.c.1]
    exact World.cell?_of_block (a := ⟨_, 0, none⟩) (cut2 _ rg rb)
  have CP := hid (cut_perm hl2)
  -- the map without the row
  have HD : Hid (∃ w5, (∀ ty, (Builtin.delete_ #[141, 3] ty #[.map mp, .int .i64 ((rat L p).t : Int)]).run Try.prog (cutW w2 g b m1 cap).drew = .ok (.tuple #[]) w5) ∧ (∀ k, some k ≠ mp → k < w2.heap.size → w5.heap[k]? = (cutW w2 g b m1 cap).heap[k]?) ∧ w5.heap.size = w2.heap.size ∧ (∀ m, mp = some m → HMr w5 m ((swp L p m1).take m1)) ∧ Ex S w2 w5) := by
    cases mp with
    | none => exact hid ⟨_, fun ty => run_delete_nil _ _ ty, fun k _ _ => rfl, cut3, (fun m hm => by cases hm), cut1.drew⟩
    | some m =>
      obtain ⟨z1, z2, z3⟩ := k3 m rfl
      have hm := (h2.held m rfl).1
      have hm4 : HMr (cutW w2 g b m1 cap).drew m (swp L p m1) := hm.of (cut2 m (fun e => z3 (by rw [e]; rfl)) z1)
      have hP := CP.out
      rw [er] at hP
      obtain ⟨w5, y1, y2, y3, y4⟩ := run_delete hm4 hP h2.one
      refine hid ⟨w5, y1, fun k hk hlt => y3.block k (by rw [show (cutW w2 g b m1 cap).drew.heap.size = w2.heap.size from cut3]; exact hlt) (fun e => hk e), y4.trans cut3, (fun m' hm' => by cases hm'; exact y2), cut1.drew.trans (Ex.grown (S := S) y3 (fun k hk => by cases hk; exact (h2.held m rfl).2)) (fun _ q => .inl q)⟩
  clear cut1 cut2 cut3 k1 k2 k3 hrw h2 he2 hb2 hcu hcs er mr
  go_wp2_with (simp only [hcl])
  change Code.wp _ _ _ _ (cutW w2 g b m1 cap)
  obtain ⟨w5, y1, y2, y3, y4, y5⟩ := HD.out
  have HY2 := hid y2
  have HY3 := hid y3
  have HY4 := hid y4
  have HY5 := hid y5
  have HC := hid (H2.out.cut hl2 rfl HY2.out HY3.out HY4.out)
  rw [HER.out] at HC
  have n3 : w5.cell? ⟨g, 3, none⟩ = some (.map mp) := by rw [cell_of_row _ _ _ _ _ _ HC.out.1.top]; rfl
  have n4 := HC.out.2.c.1
  generalize cutW w2 g b m1 cap = w4 at *
  clear y2 y3 y4 y5 HD hcl d2 e2 c2 f2 cl fl
  obtain ⟨A, HA⟩ : ∃ A, Hid (rat L p = A) := ⟨_, rfl⟩
  rw [HA.out] at i4 y1 n4 rb rg HC
  rw [HA.out]
  refine wp_region_held_drew (S := (fun W => W.cell? ⟨g, 3, none⟩ = some (.map mp) ∧ W.cell? ⟨A.b, 0, none⟩ = some (.int .i64 (A.t : Int)))) (by kernel_rfl) ⟨i3, i4⟩ (fun hHeld => ?_)
  have HS := hid hHeld
  clear hHeld
  change wpAnyH _ _ _ _ _ _ _ _ (World.drew _)
  refine wpAnyH_take (i := 0) (v := ?_) rfl (by kernel_rfl) (by kernel_rfl) (by kernel_rfl) (fun _ _ _ h => h) (Or.inl ⟨by rfl, ?q0⟩) HS.out ?_
  case q0 => intro w hSw; obtain ⟨z1, z2⟩ := hSw; go_simp; rfl
  simp only [Act.put, List.getElem_toArray, List.getElem_cons_zero, List.getElem_cons_succ, List.setIfInBounds_toArray, List.set_cons_zero, List.set_cons_succ]
  refine wpAnyH_take (i := 1) (v := ?_) rfl (by kernel_rfl) (by kernel_rfl) (by kernel_rfl) (fun _ _ _ h => h) (Or.inl ⟨by rfl, ?q1⟩) HS.out ?_
  case q1 => intro w hSw; obtain ⟨z1, z2⟩ := hSw; go_simp; rfl
  simp only [Act.put, List.getElem_toArray, List.getElem_cons_zero, List.getElem_cons_succ, List.setIfInBounds_toArray, List.set_cons_zero, List.set_cons_succ]
  refine wpAnyH_take (i := 2) (v := ?_) rfl (by kernel_rfl) (by kernel_rfl) (by kernel_rfl) (fun _ _ _ h => h) (Or.inl ⟨by rfl, ?q2⟩) HS.out ?_
  case q2 => intro w hSw; obtain ⟨z1, z2⟩ := hSw; go_simp; rfl
  simp only [Act.put, List.getElem_toArray, List.getElem_cons_zero, List.getElem_cons_succ, List.setIfInBounds_toArray, List.set_cons_zero, List.set_cons_succ]
  refine wpAnyH_take (i := 3) (v := ?_) rfl (by kernel_rfl) (by kernel_rfl) (by kernel_rfl) (fun _ _ _ h => h) (Or.inl ⟨by rfl, ?q3⟩) HS.out ?_
  case q3 => intro w hSw; obtain ⟨z1, z2⟩ := hSw; go_simp; rfl
  simp only [Act.put, List.getElem_toArray, List.getElem_cons_zero, List.getElem_cons_succ, List.setIfInBounds_toArray, List.set_cons_zero, List.set_cons_succ]
  refine wpAnyH_take (i := 4) (v := ?_) rfl (by kernel_rfl) (by kernel_rfl) (by kernel_rfl) (fun _ _ _ h => h) (Or.inl ⟨by rfl, ?q4⟩) HS.out ?_
  case q4 => intro w hSw; obtain ⟨z1, z2⟩ := hSw; go_simp; rfl
  simp only [Act.put, List.getElem_toArray, List.getElem_cons_zero, List.getElem_cons_succ, List.setIfInBounds_toArray, List.set_cons_zero, List.set_cons_succ]
  refine wpAnyH_take (i := 5) (v := ?_) rfl (by kernel_rfl) (by kernel_rfl) (by kernel_rfl) (fun _ _ _ h => h) (Or.inl ⟨by rfl, ?q5⟩) HS.out ?_
  case q5 => intro w hSw; obtain ⟨z1, z2⟩ := hSw; go_simp; rfl
  simp only [Act.put, List.getElem_toArray, List.getElem_cons_zero, List.getElem_cons_succ, List.setIfInBounds_toArray, List.set_cons_zero, List.set_cons_succ]
  refine wpAnyH_take (i := 6) (v := ?_) rfl (by kernel_rfl) (by kernel_rfl) (by kernel_rfl) (fun _ _ _ h => h) (Or.inl ⟨by rfl, ?q6⟩) HS.out ?_
  case q6 => intro w hSw; obtain ⟨z1, z2⟩ := hSw; go_simp; rfl
  simp only [Act.put, List.getElem_toArray, List.getElem_cons_zero, List.getElem_cons_succ, List.setIfInBounds_toArray, List.set_cons_zero, List.set_cons_succ]
  refine wpAnyH_take (i := 7) (v := ?_) rfl (by kernel_rfl) (by kernel_rfl) (by kernel_rfl) (fun _ _ _ h => h) (Or.inl ⟨by rfl, ?q7⟩) HS.out ?_
  case q7 => intro w hSw; obtain ⟨z1, z2⟩ := hSw; go_simp; rfl
  simp only [Act.put, List.getElem_toArray, List.getElem_cons_zero, List.getElem_cons_succ, List.setIfInBounds_toArray, List.set_cons_zero, List.set_cons_succ]
  refine wpAnyH_ready (rs := [8]) (by kernel_rfl) (by simp) ?_
  refine AllReadyH.cons rfl (fun K hK => ?_) AllReadyH.nil
  replace hK := hid hK
  go_simp
  refine hK.out _ _ ⟨n3, n4⟩ (fun _ => ?_)
  clear hK K
  refine wpAnyH_done (by kernel_rfl) ?_ _
  clear HS n3 n4 y1 i3 i4
  have EX5 : Hid (Ex S w w5) := hid (HE2.out.trans HY5.out (fun _ q => .inl q))
  have hlt : ((swp L p m1).take m1).length = m1 := by rw [List.length_take, hl2]; omega
  have pm : Hid (L.Perm (A :: (swp L p m1).take m1)) := hid (by
    have q := CP.out
    rw [HER.out, HA.out] at q
    exact (swp_perm HP.out (by have := HL.out; omega)).symm.trans q)
  have L3 : Hid (Lv J U Dm fid fr w5 g sf mp ((swp L p m1).take m1) nx (-1) (.slice (some ⟨b, 0, none⟩) m1 cap) (fun k => S k ∧ k ≠ A.b)) := hid
    ⟨HC.out.1, O.stay _ _ H0.out.j (fun k hk => EX5.out.block k (O.lt _ H0.out.j k hk) (fun q => H0.out.ap k q hk)), fun k hk => H0.out.ap k hk.1, fun r hr => H0.out.dm r (pm.out.symm.subset (List.mem_cons_of_mem _ hr))⟩
  have HR5 := hid HC.out.2
  have HLT := hid hlt
  have HSA : Hid (S A.b) := hid (by rw [← HA.out]; exact H0.out.hp.se _ (rat_mem HP.out))
  by_cases hpm : p < m1
  · have hpm' : (p : Int) < (m1 : Int) := by omega
    have CT := hid (settle_any O hO p L3.out (by rw [HLT.out]; exact hpm))
    clear hlt HC
    go_wp2_with fail
    refine CT.out.mono ?_
    rintro e w6 ⟨rfl, L', hL', hE', hP', hq'⟩
    have HL' := hid hL'
    have HE' := hid hE'
    have HP' := hid hP'
    have HQ' := hid hq'
    clear CT hL' hE' hP' hq'
    go_wp2_with fail
    go_ret
    rw [HA.out]
    refine ⟨rfl, L', _, m1, HL'.out, (HE'.out.block _ (L3.out.hp.lt g L3.out.hp.sg |> fun _ => ?_) ?_).trans HR5.out, EX5.out.mono (fun k hk => .inl hk) |>.trans HE'.out (fun k hk => ?_), pm.out.trans (HP'.out.symm.cons A), fun o q => HQ'.out o ?_⟩
    · exact (Array.getElem?_eq_some_iff.1 HR5.out).1
    · rintro (q | q)
      · exact q.2 rfl
      · exact H0.out.ap _ HSA.out q
    · rcases hk with q | q
      · exact .inl (.inl q.1)
      · exact .inl (.inr q)
    · have := q.took HP.out
      rw [HL.out] at this
      exact this
  · have hpm' : (m1 : Int) ≤ (p : Int) := by omega
    clear hlt HC
    go_wp2_with fail
    go_ret
    rw [HA.out]
    refine ⟨rfl, _, _, m1, L3.out, HR5.out, EX5.out.mono (fun k hk => .inl hk), pm.out, fun o q => ?_⟩
    have e : p = m1 := by omega
    have := q.took HP.out
    rw [HL.out, ← e] at this
    intro i i0 hi
    have hi' := hi
    rw [HLT.out] at hi'
    rw [← e] at hi ⊢
    have l := par_lt i0
    exact this.away i i0 hi (by omega) (by omega)
end
end Go.Proofs.Ytajdopmhdagehaa.Ds
