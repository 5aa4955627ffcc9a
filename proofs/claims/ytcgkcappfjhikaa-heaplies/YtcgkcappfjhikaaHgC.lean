/- take, ready, Push, Pop, Drop under an order that counts. -/
import Derived.Test.YtcgkcappfjhikaaHgB
set_option linter.unusedVariables false
set_option linter.unusedSimpArgs false
namespace Go.Proofs.Ytcgkcappfjhikaa
open Go Go.RowKit
section
variable {J : Nat → World → Prop} {U : Nat → Prop} {Dm : Int → Prop} {fid : Nat} {fr : Array Value} {Ls : Int → Int → Bool → Prop} {ord : Prop} {key : Int → Int}
variable {w : World} {g : Nat} {sf F : Value} {mp : Option Nat} {L : List (Rw Int)} {nx : Nat} {lo : Int} {v : Value} {S : Nat → Prop}
set_option maxRecDepth 100000 in
set_option maxHeartbeats 8000000 in
theorem take_f (O : OrcF fid fr J U Dm Ls) (hO : Ord ord key Ls) (c : Nat) (p : Nat) (h : Lv (J (c + 183)) U Dm fid fr w g sf mp L nx (-1) v S) (hp : p < L.length) :
    Calls Try.prog 49 #[ptr g, .int .i64 (p : Int)] w fun e w' => e = .returned (ptr (rat L p).b) ∧ TkQ ord key (J c) U Dm fid fr w g sf mp L nx S (rat L p) w' := by
  obtain ⟨m1, hl⟩ : ∃ m1, L.length = m1 + 1 := ⟨L.length - 1, by omega⟩
  obtain ⟨b, cap, cur, rfl, -, hlc, hcm, -, -, -⟩ := h.hp.slc (by omega)
  have H0 := hid h
  have c2 := h.hp.cg.2.2.1
  have HL := hid hl
  have hp' : p ≤ m1 := by omega
  have CS := hid (swap_any h.hp p m1 hp (by omega))
  have hln := h.hp.len
  have hfw := h.hp.few
  clear h
  rw [hl] at c2 CS hlc hln
  have HP := hid hp
  clear hp hl
  go_enter Try.func49, Try.ntmps49
  go_wp2_with fail
  refine CS.out.mono ?_
  rintro e w2 ⟨rfl, h2, he2⟩
  clear CS c2
  have hl2 : (swp L p m1).length = m1 + 1 := by rw [swp_length]; exact HL.out
  obtain ⟨b', cap', cur, hv', hb2, -, -, hcs, hSb, hcu⟩ := h2.slc (by omega)
  rw [hl2] at hv'
  simp only [Value.slice.injEq, Option.some.injEq, Addr.mk.injEq, and_true, true_and] at hv'
  obtain ⟨rfl, rfl⟩ := hv'
  have c2 := h2.cg.2.2.1
  have f2 := free_of h2.top 2
  have er : rat (swp L p m1) m1 = rat L p := by rw [rat_swp HP.out (by have := HL.out; omega), if_pos rfl]
  have cl : w2.cell? ⟨b, m1, none⟩ = some (ptr (rat L p).b) := by rw [cell_of_row _ _ _ _ _ _ hb2, ← er]; exact hcu m1 (by omega)
  have fl := free_of hb2 m1
  obtain ⟨k1, k2, k3⟩ := h2.kinds
  have hbg : b ≠ g := (k2 b rfl).1
  have hcl : ∀ ty, (Builtin.clear_ #[72] ty #[.slice (some ⟨b, m1, none⟩) 1 (cap - m1)]).run Try.prog w2 = .ok (.tuple #[]) (w2.setCell ⟨b, m1, none⟩ (.pointer none)) := fun ty =>
    Lib.run_clear_slice w2 _ 80 ty (.pointer none) Try.underlying72 run_zero_prow rfl rfl b m1 1 (cap - m1) (by omega) (fun j hj => by rw [show m1 + j = m1 by omega, cl]; rfl) (fun j hj => by rw [show m1 + j = m1 by omega]; exact fl)
  have d2 : (w2.setCell ⟨b, m1, none⟩ (.pointer none)).cell? ⟨g, 2, none⟩ = some (.slice (some ⟨b, 0, none⟩) (m1 + 1) cap) := by
    rw [← c2]; exact World.cell?_of_block (a := ⟨g, 2, none⟩) (bk_other hbg _ _)
  have e2 : (w2.setCell ⟨b, m1, none⟩ (.pointer none)).frozen? ⟨g, 2, none⟩ = false := free_of ((bk_other hbg _ _).trans h2.top) 2
  have H2 := hid h2
  have HE2 := hid he2
  have HER := hid er
  obtain ⟨cut1, cut2, cut3⟩ := h2.cut0 hl2 rfl
  have mr : rat L p ∈ swp L p m1 := by rw [← er]; exact rat_mem (by omega)
  have rb := k1 _ mr
  have rg := (k2 b rfl).2 _ mr
  have K3 := hid k3
  have i3 : (cutW w2 g b m1 cap).cell? ⟨g, 3, none⟩ = some (.map mp) := by
    have := bk_set (w := w2.setCell ⟨b, m1, none⟩ (.pointer none)) ((bk_other hbg _ _).trans h2.top) 2 (.slice (some ⟨b, 0, none⟩) m1 cap)
    show ((w2.setCell ⟨b, m1, none⟩ (.pointer none)).setCell ⟨g, 2, none⟩ _).cell? _ = _
    rw [cell_of_row _ _ _ _ _ _ this]
    rfl
  have hrw : HRow w2 (rat L p) m1 := by rw [← er]; exact h2.each m1 _ (rat_some (by omega))
  have i4 : (cutW w2 g b m1 cap).cell? ⟨(rat L p).b, 0, none⟩ = some (.int .i64 ((rat L p).t : Int)) := by
    rw [← hrw.c.1]
    exact World.cell?_of_block (a := ⟨_, 0, none⟩) (cut2 _ rg rb)
  have CP := hid (cut_perm hl2)
  -- the map without the row
  have HD : Hid (∃ w5, (∀ ty, (Builtin.delete_ #[73, 3] ty #[.map mp, .int .i64 ((rat L p).t : Int)]).run Try.prog (cutW w2 g b m1 cap).drew = .ok (.tuple #[]) w5) ∧ (∀ k, some k ≠ mp → k < w2.heap.size → w5.heap[k]? = (cutW w2 g b m1 cap).heap[k]?) ∧ w5.heap.size = w2.heap.size ∧ (∀ m, mp = some m → HMr w5 m ((swp L p m1).take m1)) ∧ Ex S w2 w5) := by
    cases mp with
    | none => exact hid ⟨_, fun ty => run_delete_nil _ _ ty, fun k _ _ => rfl, cut3, (fun m hm => by cases hm), cut1.drew⟩
    | some m =>
      obtain ⟨z1, z2, z3⟩ := k3 m rfl
      have hm := (h2.held m rfl).1
      have hm4 : HMr (cutW w2 g b m1 cap).drew m (swp L p m1) := hm.of (cut2 m (fun e => z3 (by rw [e]; rfl)) z1)
      have hP := CP.out
      rw [er] at hP
      obtain ⟨w5, y1, y2, y3, y4⟩ := run_delete hm4 hP h2.one
      refine hid ⟨w5, y1, fun k hk hlt => y3.block k (by rw [show (cutW w2 g b m1 cap).drew.heap.size = w2.heap.size from cut3]; exact hlt) (fun e => hk e), y4.trans cut3, (fun m' hm' => by cases hm'; exact y2), cut1.drew.trans (Ex.grown (S := S) y3 (fun k hk => by cases hk; exact (h2.held m rfl).2)) (fun _ q => .inl q)⟩
  clear cut1 cut2 cut3 k1 k2 k3 hrw h2 he2 hb2 hcu hcs er mr
  go_wp2_with (simp only [hcl])
  change Code.wp _ _ _ _ (cutW w2 g b m1 cap)
  obtain ⟨w5, y1, y2, y3, y4, y5⟩ := HD.out
  have HY2 := hid y2
  have HY3 := hid y3
  have HY4 := hid y4
  have HY5 := hid y5
  have HC := hid (H2.out.cut hl2 rfl HY2.out HY3.out HY4.out)
  rw [HER.out] at HC
  have n3 : w5.cell? ⟨g, 3, none⟩ = some (.map mp) := by rw [cell_of_row _ _ _ _ _ _ HC.out.1.top]; rfl
  have n4 := HC.out.2.c.1
  generalize cutW w2 g b m1 cap = w4 at *
  clear y2 y3 y4 y5 HD hcl d2 e2 c2 f2 cl fl
  obtain ⟨A, HA⟩ : ∃ A, Hid (rat L p = A) := ⟨_, rfl⟩
  rw [HA.out] at i4 y1 n4 rb rg HC
  rw [HA.out]
  refine wp_region_held_drew (S := (fun W => W.cell? ⟨g, 3, none⟩ = some (.map mp) ∧ W.cell? ⟨A.b, 0, none⟩ = some (.int .i64 (A.t : Int)))) (by kernel_rfl) ⟨i3, i4⟩ (fun hHeld => ?_)
  have HS := hid hHeld
  clear hHeld
  change wpAnyH _ _ _ _ _ _ _ _ (World.drew _)
  refine wpAnyH_take (i := 0) (v := ?_) rfl (by kernel_rfl) (by kernel_rfl) (by kernel_rfl) (fun _ _ _ h => h) (Or.inl ⟨by rfl, ?q0⟩) HS.out ?_
  case q0 => intro w hSw; obtain ⟨z1, z2⟩ := hSw; go_simp; rfl
  simp only [Act.put, List.getElem_toArray, List.getElem_cons_zero, List.getElem_cons_succ, List.setIfInBounds_toArray, List.set_cons_zero, List.set_cons_succ]
  refine wpAnyH_take (i := 1) (v := ?_) rfl (by kernel_rfl) (by kernel_rfl) (by kernel_rfl) (fun _ _ _ h => h) (Or.inl ⟨by rfl, ?q1⟩) HS.out ?_
  case q1 => intro w hSw; obtain ⟨z1, z2⟩ := hSw; go_simp; rfl
  simp only [Act.put, List.getElem_toArray, List.getElem_cons_zero, List.getElem_cons_succ, List.setIfInBounds_toArray, List.set_cons_zero, List.set_cons_succ]
  refine wpAnyH_take (i := 2) (v := ?_) rfl (by kernel_rfl) (by kernel_rfl) (by kernel_rfl) (fun _ _ _ h => h) (Or.inl ⟨by rfl, ?q2⟩) HS.out ?_
  case q2 => intro w hSw; obtain ⟨z1, z2⟩ := hSw; go_simp; rfl
  simp only [Act.put, List.getElem_toArray, List.getElem_cons_zero, List.getElem_cons_succ, List.setIfInBounds_toArray, List.set_cons_zero, List.set_cons_succ]
  refine wpAnyH_take (i := 3) (v := ?_) rfl (by kernel_rfl) (by kernel_rfl) (by kernel_rfl) (fun _ _ _ h => h) (Or.inl ⟨by rfl, ?q3⟩) HS.out ?_
  case q3 => intro w hSw; obtain ⟨z1, z2⟩ := hSw; go_simp; rfl
  simp only [Act.put, List.getElem_toArray, List.getElem_cons_zero, List.getElem_cons_succ, List.setIfInBounds_toArray, List.set_cons_zero, List.set_cons_succ]
  refine wpAnyH_take (i := 4) (v := ?_) rfl (by kernel_rfl) (by kernel_rfl) (by kernel_rfl) (fun _ _ _ h => h) (Or.inl ⟨by rfl, ?q4⟩) HS.out ?_
  case q4 => intro w hSw; obtain ⟨z1, z2⟩ := hSw; go_simp; rfl
  simp only [Act.put, List.getElem_toArray, List.getElem_cons_zero, List.getElem_cons_succ, List.setIfInBounds_toArray, List.set_cons_zero, List.set_cons_succ]
  refine wpAnyH_take (i := 5) (v := ?_) rfl (by kernel_rfl) (by kernel_rfl) (by kernel_rfl) (fun _ _ _ h => h) (Or.inl ⟨by rfl, ?q5⟩) HS.out ?_
  case q5 => intro w hSw; obtain ⟨z1, z2⟩ := hSw; go_simp; rfl
  simp only [Act.put, List.getElem_toArray, List.getElem_cons_zero, List.getElem_cons_succ, List.setIfInBounds_toArray, List.set_cons_zero, List.set_cons_succ]
  refine wpAnyH_take (i := 6) (v := ?_) rfl (by kernel_rfl) (by kernel_rfl) (by kernel_rfl) (fun _ _ _ h => h) (Or.inl ⟨by rfl, ?q6⟩) HS.out ?_
  case q6 => intro w hSw; obtain ⟨z1, z2⟩ := hSw; go_simp; rfl
  simp only [Act.put, List.getElem_toArray, List.getElem_cons_zero, List.getElem_cons_succ, List.setIfInBounds_toArray, List.set_cons_zero, List.set_cons_succ]
  refine wpAnyH_take (i := 7) (v := ?_) rfl (by kernel_rfl) (by kernel_rfl) (by kernel_rfl) (fun _ _ _ h => h) (Or.inl ⟨by rfl, ?q7⟩) HS.out ?_
  case q7 => intro w hSw; obtain ⟨z1, z2⟩ := hSw; go_simp; rfl
  simp only [Act.put, List.getElem_toArray, List.getElem_cons_zero, List.getElem_cons_succ, List.setIfInBounds_toArray, List.set_cons_zero, List.set_cons_succ]
  refine wpAnyH_ready (rs := [8]) (by kernel_rfl) (by simp) ?_
  refine AllReadyH.cons rfl (fun K hK => ?_) AllReadyH.nil
  replace hK := hid hK
  go_simp
  refine hK.out _ _ ⟨n3, n4⟩ (fun _ => ?_)
  clear hK K
  refine wpAnyH_done (by kernel_rfl) ?_ _
  clear HS n3 n4 y1 i3 i4
  have EX5 : Hid (Ex S w w5) := hid (HE2.out.trans HY5.out (fun _ q => .inl q))
  have hlt : ((swp L p m1).take m1).length = m1 := by rw [List.length_take, hl2]; omega
  have pm : Hid (L.Perm (A :: (swp L p m1).take m1)) := hid (by
    have q := CP.out
    rw [HER.out, HA.out] at q
    exact (swp_perm HP.out (by have := HL.out; omega)).symm.trans q)
  have L3 : Hid (Lv (J (c + 183)) U Dm fid fr w5 g sf mp ((swp L p m1).take m1) nx (-1) (.slice (some ⟨b, 0, none⟩) m1 cap) (fun k => S k ∧ k ≠ A.b)) := hid
    ⟨HC.out.1, O.stay _ _ _ H0.out.j (fun k hk => EX5.out.block k (O.lt _ _ H0.out.j k hk) (fun q => H0.out.ap k q hk)), fun k hk => H0.out.ap k hk.1, fun r hr => H0.out.dm r (pm.out.symm.subset (List.mem_cons_of_mem _ hr))⟩
  have HR5 := hid HC.out.2
  have HLT := hid hlt
  have HSA : Hid (S A.b) := hid (by rw [← HA.out]; exact H0.out.hp.se _ (rat_mem HP.out))
  by_cases hpm : p < m1
  · have hpm' : (p : Int) < (m1 : Int) := by omega
    have CT := hid (settle_f O hO c p L3.out (by rw [HLT.out]; exact hpm))
    clear hlt HC
    go_wp2_with fail
    refine CT.out.mono ?_
    rintro e w6 ⟨rfl, L', hL', hE', hP', hq'⟩
    have HL' := hid hL'
    have HE' := hid hE'
    have HP' := hid hP'
    have HQ' := hid hq'
    clear CT hL' hE' hP' hq'
    go_wp2_with fail
    go_ret
    rw [HA.out]
    refine ⟨rfl, L', _, m1, HL'.out, (HE'.out.block _ (L3.out.hp.lt g L3.out.hp.sg |> fun _ => ?_) ?_).trans HR5.out, EX5.out.mono (fun k hk => .inl hk) |>.trans HE'.out (fun k hk => ?_), pm.out.trans (HP'.out.symm.cons A), fun o q => HQ'.out o ?_⟩
    · exact (Array.getElem?_eq_some_iff.1 HR5.out).1
    · rintro (q | q)
      · exact q.2 rfl
      · exact H0.out.ap _ HSA.out q
    · rcases hk with q | q
      · exact .inl (.inl q.1)
      · exact .inl (.inr q)
    · have := q.took HP.out
      rw [HL.out] at this
      exact this
  · have hpm' : (m1 : Int) ≤ (p : Int) := by omega
    clear hlt HC
    go_wp2_with fail
    go_ret
    rw [HA.out]
    refine ⟨rfl, _, _, m1, L3.out.mono O (by omega), HR5.out, EX5.out.mono (fun k hk => .inl hk), pm.out, fun o q => ?_⟩
    have e : p = m1 := by omega
    have := q.took HP.out
    rw [HL.out, ← e] at this
    intro i i0 hi
    have hi' := hi
    rw [HLT.out] at hi'
    rw [← e] at hi ⊢
    have l := par_lt i0
    exact this.away i i0 hi (by omega) (by omega)
set_option maxRecDepth 100000 in
set_option maxHeartbeats 4000000 in
theorem ready_f (O : OrcF fid fr J U Dm Ls) {c : Nat} (h : Lv (J c) U Dm fid fr w g (ptr g) mp L nx (-1) v S) : Calls Try.prog 47 #[ptr g] w fun e w' => e = .returned (.bool true) ∧ Lv (J c) U Dm fid fr w' g (ptr g) mp L nx (-1) v S ∧ Ex S w w' := by
  have CM := hid (made_ok h.hp)
  have CS := hid (settle_none_f O h)
  have c5 := h.hp.cg.2.2.2.2.2
  clear h
  go_enter Try.func47, Try.ntmps47
  go_wp2_with fail
  refine CM.out.mono ?_
  rintro e w1 ⟨rfl, hw⟩
  rw [hw]
  clear hw
  go_wp2_with fail
  refine CS.out.mono ?_
  rintro e w2 ⟨rfl, h2, he2⟩
  have H2 := hid h2
  have HE2 := hid he2
  clear h2 he2
  go_wp2_with fail
  go_ret
  exact ⟨rfl, H2.out, HE2.out⟩
set_option maxRecDepth 100000 in
set_option maxHeartbeats 4000000 in
theorem push_f (O : OrcF fid fr J U Dm Ls) (hO : Ord ord key Ls) (c : Nat) (h : Lv (J (c + 183)) U Dm fid fr w g (ptr g) mp L nx (-1) v S) {m : Nat} (hmp : mp = some m) (x : Int) (hx : Dm x) (hroom : nx < 17592186044416) :
    Calls Try.prog 21 #[ptr g, .int .i64 x] w fun e w' => e = .returned (.tuple #[.int .i64 (nx : Int), .int .i64 0]) ∧ PuQ ord key (J c) U Dm fid fr w g mp L nx x S w' := by
  have CR := hid (ready_f O h)
  clear h
  have HX := hid hx
  clear hx
  subst hmp
  go_enter Try.func21, Try.ntmps21
  go_wp2_with fail
  refine CR.out.mono ?_
  rintro e w1 ⟨rfl, h1, he1⟩
  have H1 := hid h1
  have HE1 := hid he1
  have c2 := h1.hp.cg.2.2.1
  have c4 := h1.hp.cg.2.2.2.2.1
  have f4 := free_of h1.hp.top 4
  have lg := h1.hp.lt g h1.hp.sg
  have HK := hid h1.hp.kinds
  have hln := h1.hp.len
  have how : (pshW w1 g nx x L.length).ownsRow 0 80 1 v L.length (L.map fun r => ptr r.b) := by
    refine ⟨h1.hp.row.1, ?_⟩
    rcases h1.hp.row.2 with q | ⟨b, cap, cur, hv, hb, hw, q⟩
    · exact .inl q
    · refine .inr ⟨b, cap, cur, hv, hb, ?_, q⟩
      have hob : v.ownBlock = some b := by rw [hv]; rfl
      rw [psh_old _ _ _ _ _ (h1.hp.lt b (h1.hp.sr b hob)), bk_other (Ne.symm (HK.out.2.1 b hob).1)]
      exact hw
  have HOW := hid how
  have htop := bk_set h1.hp.top 4 (.int .i64 ((nx : Int) + 1))
  rw [← psh_old w1 g nx x L.length lg] at htop
  have HTOP := hid htop
  clear how htop
  obtain ⟨pp, cc, hv⟩ := own_slc h1.hp.row
  subst hv
  obtain ⟨n, hn⟩ : ∃ n, Hid (L.length = n) := ⟨_, rfl⟩
  rw [hn.out] at c2 hln HOW HTOP
  clear h1 he1 CR
  go_wp2_with fail
  go_region
  go_wp2_with (at_builtin; refine wpList_append_prow (w := pshW w1 g nx x n) rfl _ _ rfl 0 _ n _ rfl HOW.out ⟨w1.heap.size + 1, 0, none⟩ 1 w1.heap.size rfl (psh_lit _ _ _ _ _) ?q1 (Nat.zero_le _) ?_)
  case q1 => omega
  intro v0 w2 hown hgr hor
  obtain ⟨p', c', hv0⟩ := own_slc hown
  subst hv0
  have lt2 : w1.heap.size + 2 ≤ w2.heap.size := by have := hgr.size; rw [psh_size] at this; exact this
  have hvg : (Value.slice pp n cc).ownBlock ≠ some g := fun e => by
    have := (HK.out.2.1 g (by rw [hn.out]; exact e)).1
    exact this rfl
  have htop2 := (hgr.block g (by rw [psh_size]; omega) (Ne.symm hvg)).trans HTOP.out
  have d2 : w2.cell? ⟨g, 2, none⟩ = some (.slice pp n cc) := by rw [cell_of_row _ _ _ _ _ _ htop2]; rfl
  have g2 := free_of htop2 2
  have HOWN := hid hown
  have HGR := hid hgr
  have HOR := hid hor
  have HT2 := hid htop2
  clear hown hgr hor htop2 c2 c4 f4 HOW
  go_wp2_with fail
  -- behind the store of the new slice
  have hw3 : (w2.setCell ⟨g, 2, none⟩ (.slice p' (n + 1) c')).heap[g]? = some (.cells #[ptr g, .func (.func fid) #[] fr, (.slice p' (n + 1) c'), .map (some m), .int .i64 ((nx : Int) + 1), .int .i64 (-1)] 75 (0, 0)) := by
    have := bk_set HT2.out 2 (.slice p' (n + 1) c')
    simpa using this
  have hr3 : (w2.setCell ⟨g, 2, none⟩ (.slice p' (n + 1) c')).heap[w1.heap.size]? = some (.cells #[.int .i64 (nx : Int), .int .i64 x, .int .i64 (n : Int)] 82 (0, 0)) := by
    rw [bk_other (by omega), HGR.out.block _ (by rw [psh_size]; omega) (fun e => ?_), psh_row]
    have := H1.out.hp.lt _ (H1.out.hp.sr _ (by rw [hn.out]; exact e.symm))
    omega
  have hold : ∀ k, k < w1.heap.size → k ≠ g → some k ≠ (Value.slice pp n cc).ownBlock → (w2.setCell ⟨g, 2, none⟩ (.slice p' (n + 1) c')).heap[k]? = w1.heap[k]? := fun k hk hkg hkv => by
    rw [bk_other (Ne.symm hkg), HGR.out.block _ (by rw [psh_size]; omega) hkv, psh_old _ _ _ _ _ hk, bk_other (Ne.symm hkg)]
  have hm3 : HMr (w2.setCell ⟨g, 2, none⟩ (.slice p' (n + 1) c')) m L := by
    obtain ⟨z1, z2, z3⟩ := HK.out.2.2 m rfl
    rw [hn.out] at z3
    exact (H1.out.hp.held m rfl).1.of (hold m (H1.out.hp.lt m (H1.out.hp.held m rfl).2) z1 (Ne.symm z3))
  have hsz3 : (w2.setCell ⟨g, 2, none⟩ (.slice p' (n + 1) c')).heap.size = w2.heap.size := sz_set _ _ _ _
  have hown3 : (w2.setCell ⟨g, 2, none⟩ (.slice p' (n + 1) c')).ownsRow 0 80 1 (.slice p' (n + 1) c') (n + 1) ((L.map fun r => ptr r.b) ++ [ptr w1.heap.size]) := by
    refine ⟨HOWN.out.1, ?_⟩
    rcases HOWN.out.2 with q | ⟨b, cap, cur, hv, hb, hw, q⟩
    · exact .inl q
    · refine .inr ⟨b, cap, cur, hv, hb, ?_, q⟩
      rw [bk_other (fun e => ?_)]
      · exact hw
      · rw [← e, HT2.out] at hw
        simp only [Option.some.injEq, Obj.cells.injEq] at hw
        exact absurd hw.2.1 (by decide)
  have hex3 : Ex S w1 (w2.setCell ⟨g, 2, none⟩ (.slice p' (n + 1) c')) := by
    refine ⟨HGR.out.os, HGR.out.tape, HGR.out.output, by rw [hsz3]; omega, fun k hk hnS => hold k hk (fun e => hnS (e ▸ H1.out.hp.sg)) (fun e => hnS (H1.out.hp.sr k (by rw [hn.out]; exact e.symm)))⟩
  obtain ⟨w3, HW3⟩ : ∃ w3, Hid (w2.setCell ⟨g, 2, none⟩ (.slice p' (n + 1) c') = w3) := ⟨_, rfl⟩
  rw [HW3.out] at hw3 hr3 hold hm3 hsz3 hown3 hex3
  rw [HW3.out]
  clear HW3
  have e3 : w3.cell? ⟨g, 3, none⟩ = some (.map (some m)) := by rw [cell_of_row _ _ _ _ _ _ hw3]; rfl
  have e0 : w3.cell? ⟨w1.heap.size, 0, none⟩ = some (.int .i64 (nx : Int)) := by rw [cell_of_row _ _ _ _ _ _ hr3]; rfl
  obtain ⟨w4, y1, y2, y3, y4⟩ := run_store_new (w := w3.drew) (r := ⟨w1.heap.size, nx, x⟩) (hm3.of rfl) (fun q hq e => by have := H1.out.hp.tk q hq; simp at e; omega)
  have hm3l := hm3.lt
  have hmg : m ≠ g := (HK.out.2.2 m rfl).1
  have hms := (H1.out.hp.held m rfl).2
  have hmr : m ≠ w1.heap.size := by have := H1.out.hp.lt m hms; omega
  have hr4 : w4.heap[w1.heap.size]? = some (.cells #[.int .i64 (nx : Int), .int .i64 x, .int .i64 (n : Int)] 82 (0, 0)) := (y3.block w1.heap.size ((Array.getElem?_eq_some_iff.1 hr3).1) (fun e => hmr (by cases e; rfl))).trans hr3
  have hw4 := (y3.block g ((Array.getElem?_eq_some_iff.1 hw3).1) (fun e => hmg (by cases e; rfl))).trans hw3
  have n3 : w4.cell? ⟨g, 3, none⟩ = some (.map (some m)) := by rw [cell_of_row _ _ _ _ _ _ hw4]; rfl
  have n0 : w4.cell? ⟨w1.heap.size, 0, none⟩ = some (.int .i64 (nx : Int)) := by rw [cell_of_row _ _ _ _ _ _ hr4]; rfl
  have n2 : w4.cell? ⟨w1.heap.size, 2, none⟩ = some (.int .i64 (n : Int)) := by rw [cell_of_row _ _ _ _ _ _ hr4]; rfl
  have HP : HHp w4 g (ptr g) (.func (.func fid) #[] fr) (some m) (L ++ [⟨w1.heap.size, nx, x⟩]) (nx + 1) (-1) (.slice p' (n + 1) c') (fun k => S k ∨ (w1.heap.size ≤ k ∧ k < w4.heap.size)) := by
    refine H1.out.hp.pushed (x := x) (r := ⟨w1.heap.size, nx, x⟩) rfl rfl hw4 ?_ ?_ ?_ y2 ?_ ?_ (Nat.le_refl _) (by omega)
    · rw [hn.out]
      refine ⟨hown3.1, ?_⟩
      rcases hown3.2 with q | ⟨b, cap, cur, hv, hb, hw, q⟩
      · exact .inl q
      · refine .inr ⟨b, cap, cur, hv, hb, (y3.block b ((Array.getElem?_eq_some_iff.1 hw).1) (fun e => ?_)).trans hw, q⟩
        cases e
        obtain ⟨es, c, z, _⟩ := hm3
        rw [z] at hw
        cases hw
    · intro q hq
      have z := H1.out.hp.lt _ (H1.out.hp.se q hq)
      rw [y3.block q.b (by show q.b < w3.heap.size; omega) (fun e => (HK.out.2.2 m rfl).2.1 q hq (by cases e; rfl))]
      exact hold q.b z (HK.out.1 q hq) (fun e => (HK.out.2.1 q.b (by rw [hn.out]; exact e.symm)).2 q hq rfl)
    · rw [hn.out]; exact hr4
    · have := hex3.size
      rw [y4]
      exact this
    · intro b hb
      rcases HOR.out with q | ⟨q, _⟩
      · rw [q] at hb
        exact .inl (H1.out.hp.sr b (by rw [hn.out]; exact hb))
      · rw [q, psh_size] at hb
        cases hb
        refine .inr ⟨by omega, ?_⟩
        rw [y4]
        show w1.heap.size + 2 < w3.heap.size
        rcases HOWN.out.2 with ⟨z, _⟩ | ⟨b', cap, cur, hv, _, hw, _⟩
        · rw [z] at q; cases q
        · rw [hv] at q
          simp only [Value.ownBlock, Option.some.injEq, psh_size] at q
          rw [← q, hsz3]
          exact (Array.getElem?_eq_some_iff.1 hw).1
  have EX4 : Ex S w1 w4 := hex3.drew.trans (Ex.grown (S := S) y3 (fun k hk => by cases hk; exact hms)) (fun _ q => .inl q)
  have HL4 : Hid (Lv (J (c + 183)) U Dm fid fr w4 g (ptr g) (some m) (L ++ [⟨w1.heap.size, nx, x⟩]) (nx + 1) (-1) (.slice p' (n + 1) c') (fun k => S k ∨ (w1.heap.size ≤ k ∧ k < w4.heap.size))) := hid
    ⟨HP, O.stay _ _ _ H1.out.j (fun k hk => EX4.block k (O.lt _ _ H1.out.j k hk) (fun q => H1.out.ap k q hk)), fun k hk => by
      rcases hk with q | q
      · exact H1.out.ap k q
      · intro z
        have := O.lt _ _ H1.out.j k z
        omega, fun r hr => by
      rcases List.mem_append.1 hr with q | q
      · exact H1.out.dm r q
      · rw [List.mem_singleton.1 q]; exact HX.out⟩
  have HEX4 := hid EX4
  have CS := hid (settle_f O hO c n (HL4.out.mono O (by simp)) (by have := hn.out; simp; omega))
  have Y1 := hid y1
  clear hw3 hr3 hold hm3 hown3 hex3 hr4 hw4 HP EX4 y2 y3 y4 hm3l d2 g2 HGR HOWN HOR HT2
  refine wp_region_held_drew (S := (fun W => W.cell? ⟨g, 3, none⟩ = some (.map (some m)) ∧ W.cell? ⟨w1.heap.size, 0, none⟩ = some (.int .i64 (nx : Int)))) (by kernel_rfl) ⟨e3, e0⟩ (fun hHeld => ?_)
  have HS := hid hHeld
  clear hHeld
  change wpAnyH _ _ _ _ _ _ _ _ (World.drew _)
  refine wpAnyH_take (i := 0) (v := ?_) rfl (by kernel_rfl) (by kernel_rfl) (by kernel_rfl) (fun _ _ _ h => h) (Or.inl ⟨by rfl, ?q0⟩) HS.out ?_
  case q0 => intro w hSw; obtain ⟨z1, z2⟩ := hSw; go_simp; rfl
  simp only [Act.put, List.getElem_toArray, List.getElem_cons_zero, List.getElem_cons_succ, List.setIfInBounds_toArray, List.set_cons_zero, List.set_cons_succ]
  refine wpAnyH_take (i := 1) (v := ?_) rfl (by kernel_rfl) (by kernel_rfl) (by kernel_rfl) (fun _ _ _ h => h) (Or.inl ⟨by rfl, ?q1⟩) HS.out ?_
  case q1 => intro w hSw; obtain ⟨z1, z2⟩ := hSw; go_simp; rfl
  simp only [Act.put, List.getElem_toArray, List.getElem_cons_zero, List.getElem_cons_succ, List.setIfInBounds_toArray, List.set_cons_zero, List.set_cons_succ]
  refine wpAnyH_take (i := 2) (v := ?_) rfl (by kernel_rfl) (by kernel_rfl) (by kernel_rfl) (fun _ _ _ h => h) (Or.inl ⟨by rfl, ?q2⟩) HS.out ?_
  case q2 => intro w hSw; obtain ⟨z1, z2⟩ := hSw; go_simp; rfl
  simp only [Act.put, List.getElem_toArray, List.getElem_cons_zero, List.getElem_cons_succ, List.setIfInBounds_toArray, List.set_cons_zero, List.set_cons_succ]
  refine wpAnyH_take (i := 3) (v := ?_) rfl (by kernel_rfl) (by kernel_rfl) (by kernel_rfl) (fun _ _ _ h => h) (Or.inl ⟨by rfl, ?q3⟩) HS.out ?_
  case q3 => intro w hSw; obtain ⟨z1, z2⟩ := hSw; go_simp; rfl
  simp only [Act.put, List.getElem_toArray, List.getElem_cons_zero, List.getElem_cons_succ, List.setIfInBounds_toArray, List.set_cons_zero, List.set_cons_succ]
  refine wpAnyH_take (i := 4) (v := ?_) rfl (by kernel_rfl) (by kernel_rfl) (by kernel_rfl) (fun _ _ _ h => h) (Or.inl ⟨by rfl, ?q4⟩) HS.out ?_
  case q4 => intro w hSw; obtain ⟨z1, z2⟩ := hSw; go_simp; rfl
  simp only [Act.put, List.getElem_toArray, List.getElem_cons_zero, List.getElem_cons_succ, List.setIfInBounds_toArray, List.set_cons_zero, List.set_cons_succ]
  refine wpAnyH_take (i := 5) (v := ?_) rfl (by kernel_rfl) (by kernel_rfl) (by kernel_rfl) (fun _ _ _ h => h) (Or.inl ⟨by rfl, ?q5⟩) HS.out ?_
  case q5 => intro w hSw; obtain ⟨z1, z2⟩ := hSw; go_simp; rfl
  simp only [Act.put, List.getElem_toArray, List.getElem_cons_zero, List.getElem_cons_succ, List.setIfInBounds_toArray, List.set_cons_zero, List.set_cons_succ]
  refine wpAnyH_take (i := 6) (v := ?_) rfl (by kernel_rfl) (by kernel_rfl) (by kernel_rfl) (fun _ _ _ h => h) (Or.inl ⟨by rfl, ?q6⟩) HS.out ?_
  case q6 => intro w hSw; obtain ⟨z1, z2⟩ := hSw; go_simp; rfl
  simp only [Act.put, List.getElem_toArray, List.getElem_cons_zero, List.getElem_cons_succ, List.setIfInBounds_toArray, List.set_cons_zero, List.set_cons_succ]
  refine wpAnyH_take (i := 7) (v := ?_) rfl (by kernel_rfl) (by kernel_rfl) (by kernel_rfl) (fun _ _ _ h => h) (Or.inl ⟨by rfl, ?q7⟩) HS.out ?_
  case q7 => intro w hSw; obtain ⟨z1, z2⟩ := hSw; go_simp; rfl
  simp only [Act.put, List.getElem_toArray, List.getElem_cons_zero, List.getElem_cons_succ, List.setIfInBounds_toArray, List.set_cons_zero, List.set_cons_succ]
  refine wpAnyH_take (i := 8) (v := ?_) rfl (by kernel_rfl) (by kernel_rfl) (by kernel_rfl) (fun _ _ _ h => h) (Or.inl ⟨by rfl, ?q8⟩) HS.out ?_
  case q8 => intro w hSw; obtain ⟨z1, z2⟩ := hSw; go_simp; rfl
  simp only [Act.put, List.getElem_toArray, List.getElem_cons_zero, List.getElem_cons_succ, List.setIfInBounds_toArray, List.set_cons_zero, List.set_cons_succ]
  refine wpAnyH_ready (rs := [9]) (by kernel_rfl) (by simp) ?_
  refine AllReadyH.cons rfl (fun K hK => ?_) AllReadyH.nil
  replace hK := hid hK
  go_simp
  refine hK.out _ _ ⟨n3, n0⟩ (fun _ => ?_)
  clear hK K
  refine wpAnyH_done (by kernel_rfl) ?_ _
  clear HS e3 e0 y1 Y1
  go_wp2_with fail
  refine CS.out.mono ?_
  rintro e w5 ⟨rfl, L', hL', hE', hP', hq'⟩
  have HL' := hid hL'
  have HE' := hid hE'
  have HP' := hid hP'
  have HQ' := hid hq'
  have k0 : w5.cell? ⟨w1.heap.size, 0, none⟩ = some (.int .i64 (nx : Int)) := by
    have : (⟨w1.heap.size, nx, x⟩ : Rw Int) ∈ L' := hP'.symm.subset (by simp)
    obtain ⟨i, hi⟩ := List.mem_iff_getElem?.1 this
    exact (hL'.hp.each i _ hi).c.1
  clear CS hL' hE' hP' hq'
  go_wp2_with fail
  go_ret2
  refine ⟨rfl, L', _, _, w1.heap.size, HL'.out, (HE1.out.mono (fun k hk => .inl hk)).trans ((HEX4.out.mono (fun k hk => .inl hk) : Ex (SU S U) w1 w4).trans HE'.out (fun k hk => ?_)) (fun _ q => .inl q), HP'.out.trans List.perm_append_comm, fun o q => HQ'.out o ?_, fun k hk => ?_⟩
  · rcases hk with (q | q) | q
    · exact .inl (.inl q)
    · exact .inr q.1
    · exact .inl (.inr q)
  · have := q.push (r := ⟨w1.heap.size, nx, x⟩)
    rw [hn.out] at this
    exact this
  · rcases hk with q | q
    · exact .inl q
    · have := HE1.out.size
      exact .inr (by omega)
set_option maxRecDepth 100000 in
set_option maxHeartbeats 4000000 in
theorem pop_f (O : OrcF fid fr J U Dm Ls) (hO : Ord ord key Ls) (c : Nat) (h : Lv (J (c + 183)) U Dm fid fr w g (ptr g) mp L nx (-1) v S) (hl : 0 < L.length) :
    Calls Try.prog 22 #[ptr g] w fun e w' => e = .returned (.tuple #[.int .i64 (rat L 0).x, .bool true]) ∧ GoQ ord key (J c) U Dm fid fr w g (ptr g) mp L nx S (rat L 0) w' := by
  have CR := hid (ready_f O h)
  have HL := hid hl
  clear h
  go_enter Try.func22, Try.ntmps22
  go_wp2_with fail
  refine CR.out.mono ?_
  rintro e w1 ⟨rfl, h1, he1⟩
  have HE1 := hid he1
  have c2 := h1.hp.cg.2.2.1
  obtain ⟨pp, cc, hv⟩ := own_slc h1.hp.row
  have CT := hid (take_f O hO c 0 h1 hl)
  clear h1 he1 CR
  subst hv
  obtain ⟨n, hn⟩ : ∃ n, Hid (L.length = n) := ⟨_, rfl⟩
  rw [hn.out] at c2 hl
  have hne : (n == 0) = false := by simp; omega
  have hne' : ¬ (n : Int) = 0 := by omega
  go_wp2_with fail
  refine CT.out.mono ?_
  rintro e w2 ⟨rfl, L', v', i, hL', hr, hE', hP', hq'⟩
  have c1 := hr.c.2.1
  have HL' := hid hL'
  have HE' := hid hE'
  have HP' := hid hP'
  have HQ' := hid hq'
  clear CT hL' hE' hP' hq' hr c2
  go_wp2_with fail
  go_ret2
  exact ⟨rfl, L', v', HL'.out, (HE1.out.mono (fun k hk => .inl hk)).trans HE'.out (fun _ q => .inl q), HP'.out, HQ'.out⟩
set_option maxRecDepth 100000 in
set_option maxHeartbeats 4000000 in
theorem drop_f (O : OrcF fid fr J U Dm Ls) (hO : Ord ord key Ls) (c : Nat) (h : Lv (J (c + 183)) U Dm fid fr w g (ptr g) mp L nx (-1) v S) {m : Nat} (hmp : mp = some m) (a : Int) :
    Calls Try.prog 31 #[ptr g, .int .i64 a] w fun e w' =>
      ((∀ r ∈ L, (r.t : Int) ≠ a) ∧ e = .returned (.tuple #[.int .i64 0, .int .i64 171]) ∧ Lv (J (c + 183)) U Dm fid fr w' g (ptr g) mp L nx (-1) v S ∧ Ex S w w') ∨
      (∃ r ∈ L, (r.t : Int) = a ∧ e = .returned (.tuple #[.int .i64 r.x, .int .i64 0]) ∧ GoQ ord key (J c) U Dm fid fr w g (ptr g) mp L nx S r w') := by
  have CR := hid (ready_f O h)
  clear h
  subst hmp
  go_enter Try.func31, Try.ntmps31
  go_wp2_with fail
  refine CR.out.mono ?_
  rintro e w1 ⟨rfl, h1, he1⟩
  have H1 := hid h1
  have HE1 := hid he1
  have c3 := h1.hp.cg.2.2.2.1
  rcases run_look_ok (h1.hp.held m rfl).1 a with ⟨hn, hlk⟩ | ⟨r, hr, hra, hlk⟩
  · have HN := hid hn
    clear h1 he1 CR hn
    go_wp2_with fail
    go_ret2
    exact .inl ⟨HN.out, rfl, H1.out, HE1.out⟩
  · obtain ⟨i, hi⟩ := List.mem_iff_getElem?.1 hr
    have hil := (List.getElem?_eq_some_iff.1 hi).1
    have r2 := (h1.hp.each i r hi).c.2.2
    have CT := hid (take_f O hO c i h1 hil)
    rw [rat_eq hi] at CT
    have HR := hid hr
    have HRA := hid hra
    clear h1 he1 CR hr hra hi
    go_wp2_with fail
    refine CT.out.mono ?_
    rintro e w2 ⟨rfl, L', v', i', hL', hr', hE', hP', hq'⟩
    have c1 := hr'.c.2.1
    have HL' := hid hL'
    have HE' := hid hE'
    have HP' := hid hP'
    have HQ' := hid hq'
    clear CT hL' hE' hP' hq' hr' c3 hlk r2
    go_wp2_with fail
    go_ret2
    exact .inr ⟨r, HR.out, HRA.out, rfl, L', v', HL'.out, (HE1.out.mono (fun k hk => .inl hk)).trans HE'.out (fun _ q => .inl q), HP'.out, HQ'.out⟩
theorem nh_f (O : OrcF fid fr J U Dm Ls) {c : Nat} (w : World) (hj : J c w) : Lv (J c) U Dm fid fr (nhW w (.func (.func fid) #[] fr)) (w.heap.size + 1) (ptr (w.heap.size + 1)) (some w.heap.size) [] 0 (-1) (.slice none 0 0) (fun k => w.heap.size ≤ k ∧ k < (nhW w (.func (.func fid) #[] fr)).heap.size) :=
  ⟨nh_hp w _, O.stay _ _ _ hj (fun k hk => nh_old w _ (O.lt _ _ hj k hk)), fun k hk q => by have := O.lt _ _ hj k q; omega, fun r h => by cases h⟩
end
end Go.Proofs.Ytcgkcappfjhikaa
