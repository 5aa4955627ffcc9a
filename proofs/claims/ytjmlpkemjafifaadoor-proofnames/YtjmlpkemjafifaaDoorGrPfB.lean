/- Texts laid together: PfLay, PfRise, PfLoose, PfPut, PfUn, PfAsk. -/
import Derived.Test.YtjmlpkemjafifaaDoorGrPfA

/- lay of proof, walked. -/
set_option linter.unusedVariables false
set_option linter.unusedSimpArgs false
namespace Go.Proofs.YtjmlpkemjafifaaDoor
open Go.RowKit

/-- What a call leaves: an error, what is known and what was laid in. -/
def PsQ (w : World) (g b L W n : Nat) (r : Int × PS) (e : Ending) (w' : World) : Prop :=
  e = .returned (.int .i64 r.1) ∧ HPf w' g b L W r.2.K ∧ HIn w' n (2 * W) r.2.I ∧ Gr2 w w' b n
set_option maxRecDepth 100000 in
set_option maxHeartbeats 8000000 in
theorem lay_any (w : World) (g b L W n : Nat) (s : PS) (v : Value) (ns : List NdT) (h : HPf w g b L W s.K) (hi : HIn w n (2 * W) s.I) (hW : W ≤ 512) (hv : HNd w v ns) :
    Calls Tryd.prog 60 #[.pointer (some ⟨g, 0, none⟩), .slice (some ⟨n, 0, none⟩) (2 * W) (2 * W), v] w fun e w' => PsQ w g b L W n (layF W ns s) e w' := by
  obtain ⟨p, c, ev, hc1, hc2, hv4⟩ := hv.open
  unfold maxLen at hc2
  have ND := hid hv.get
  have HV := hid hv4
  have HP := hid h
  have HI := hid hi
  have hne := hi.ne h
  have hgb := h.ne
  have hgl := h.lt
  obtain ⟨m, HM⟩ : ∃ m, Hid (ns.length = m) := ⟨_, rfl⟩
  rw [HM.out] at ev hc1
  subst ev
  have ew : IntKind.i64.wrap (2 * (W : Int)) = 2 * (W : Int) := by rw [IntKind.wrap_i64]; omega
  obtain ⟨zn, HZN⟩ : ∃ z, Hid ((nc (0, zeros32)).toArray = z) := ⟨_, rfl⟩
  have HZ0 : Hid ((Tryd.prog.info? 60).map (·.zero) = some (some (.agg zn))) := by rw [← HZN.out]; exact zero_node
  have hzs : zn.size = 33 := by rw [← HZN.out]; simp [nc, dc_length, zeros32_length]
  have HZS := hid hzs
  clear h hi hv hv4 hzs
  go_enter Tryd.func60, Tryd.ntmps60
  go_wp2
  go_loopw [11] (fun i wr => ∃ (k : Nat) (s' : PS), k ≤ m ∧ i = .int .i64 k ∧ Hid (layF W (ns.drop k) s' = layF W ns s) ∧ Hid (HPf wr g b L W s'.K) ∧ Hid (HIn wr n (2 * W) s'.I) ∧ Hid (Gr2 w wr b n)) (fun i _ => m - (intOf i).toNat)
  case atStart => exact ⟨0, s, Nat.zero_le _, rfl, by rw [List.drop_zero]; exact rfl, HP, HI, Gr2.refl _ _ _⟩
  case round =>
    obtain ⟨k, s', hk, rfl, HL, HP', HI', HG⟩ := hrel
    by_cases hlt : k < m
    · obtain ⟨bn, off, rfl, hbn, hrg⟩ := HV.out (by rw [HM.out]; omega)
      have hap := HNd.apart (by rw [HM.out]; omega) hrg
      have hb1 := hap.1 HP.out.2
      have hb2 := hap.2 HI.out
      have hnd := ND.out k (by rw [HM.out]; exact hlt)
      have HR := hid (hrg k (by rw [HM.out]; exact hlt))
      have hdrop : ns.drop k = ns.getD k (0, []) :: ns.drop (k + 1) := by
        have hk2 : k < ns.length := by rw [HM.out]; exact hlt
        rw [List.drop_eq_getElem_cons hk2]
        simp [List.getD, List.getElem?_eq_getElem hk2]
      have HLW := hid HL.out
      rw [hdrop] at HLW
      generalize ns.getD k (0, []) = nd at hnd HR HLW
      obtain ⟨a, d⟩ := nd
      have HRw : Hid (wr.rangeAt bn (off + k * 33) (nc (a, d))) := fun j u hj => by
        have := HR.out j u hj
        rw [World.cell?_of_block (w := w) (HG.out.block bn hbn hb1 hb2)]
        exact this
      obtain ⟨yn, HYN⟩ : ∃ y, Hid ((nc (a, d)).toArray = y) := ⟨_, rfl⟩
      have HNS : Hid ((Tryd.prog.info? 60).map (·.size) = some (nc (a, d)).length) := size_nd hnd
      have hys : yn.size = 33 := by rw [← HYN.out, List.size_toArray, nc_length hnd]
      have HIy : Hid ((Tryd.prog.info? 60).map (·.size) = some yn.size) := by rw [hys]; exact size_node
      have H1y : Hid (yn.all (·.oneCell') = true) := by rw [← HYN.out]; exact nc_one _
      have HZY : Hid (zn.size = yn.size) := by rw [HZS.out, hys]; exact rfl
      obtain ⟨W1, hW1⟩ : ∃ W1, Hid (wr.alloc (.cells yn 60) = W1) := ⟨_, rfl⟩
      have HB1 : Hid (Below wr.heap.size wr W1) := by rw [← hW1.out]; exact (Below.refl _ wr).alloc (Nat.le_refl _) _
      have HX1 : Hid (W1.rangeAt wr.heap.size 0 (nc (a, d))) := fun j u hj => by
        rw [Nat.zero_add, ← hW1.out, cell_of_row _ wr.heap.size j _ _ _ (heap_alloc_new wr _), ← HYN.out, List.getElem?_toArray]
        exact hj
      have HP1 := hid (HP'.out.below HB1.out)
      have HI1 := hid (HI'.out.below HB1.out)
      have HG1 := hid (HG.out.trans (Gr2.ofBelow HB1.out b n))
      have ha1 := hnd.2.1
      have ha2 := hnd.2.2
      have HD := hid hnd.1
      simp only at ha1 ha2
      clear hys hnd hdrop hap
      go_wp2_with (first | (refine wpList_load_mid rfl 60 _ rfl bn (off + k * 33) rfl (nc (a, d)) _ HRw.out Tryd.underlying60 rfl HNS.out ?_; rw [HYN.out]) | (refine wpList_alloc_zero HZ0.out rfl rfl ?_) | (refine wpList_store_row rfl 60 _ _ rfl wr.heap.size yn rfl rfl 60 zn (heap_alloc_new wr _) HIy.out HZY.out H1y.out ?_; rw [setRow_alloc_new', hW1.out]))
      by_cases hlow : a < 1
      · have HE : Hid (layF W ns s = (120, s')) := by
          rw [← HLW.out]; unfold layF; rw [if_pos (Or.inl hlow)]; exact rfl
        refine wp_region_held_drew (S := fun W' => W'.cell? ⟨wr.heap.size, 0, none⟩ = some (.int .i64 a) ∧ W'.cell? ⟨g, 1, none⟩ = some (.int .i64 (W : Int))) (by kernel_rfl) ⟨HX1.out 0 _ rfl, HP1.out.c1⟩ (fun hHeld => ?_)
        have HS := hid hHeld
        clear hHeld
        change wpAnyH _ _ _ _ _ _ _ _ (World.drew _)
        refine wpAnyH_take (i := 0) (v := ?_) rfl (by kernel_rfl) (by kernel_rfl) (by kernel_rfl) (fun _ _ _ h => h) (Or.inl ⟨by rfl, ?q0⟩) HS.out ?_
        case q0 => intro w hSw; obtain ⟨s1, s2⟩ := hSw; go_simp; rfl
        simp only [Act.put, List.getElem_toArray, List.getElem_cons_zero, List.getElem_cons_succ, List.setIfInBounds_toArray, List.set_cons_zero, List.set_cons_succ]
        refine wpAnyH_take (i := 1) (v := .int .i64 a) rfl (by kernel_rfl) (by kernel_rfl) (by kernel_rfl) (fun _ _ _ h => h) (Or.inl ⟨by rfl, ?q1⟩) HS.out ?_
        case q1 => intro w hSw; obtain ⟨s1, s2⟩ := hSw; go_simp
        simp only [Act.put, List.getElem_toArray, List.getElem_cons_zero, List.getElem_cons_succ, List.setIfInBounds_toArray, List.set_cons_zero, List.set_cons_succ]
        refine wpAnyH_take (i := 2) (v := .bool true) rfl (by kernel_rfl) (by kernel_rfl) (by kernel_rfl) (fun _ _ _ h => h) (Or.inl ⟨by rfl, ?q2⟩) HS.out ?_
        case q2 => intro w hSw; obtain ⟨s1, s2⟩ := hSw; go_simp
        simp only [Act.put, List.getElem_toArray, List.getElem_cons_zero, List.getElem_cons_succ, List.setIfInBounds_toArray, List.set_cons_zero, List.set_cons_succ]
        refine wpAnyH_take (i := 3) (v := ?_) rfl (by kernel_rfl) (by kernel_rfl) (by kernel_rfl) (fun _ _ _ h => h) (Or.inl ⟨by rfl, ?q3⟩) HS.out ?_
        case q3 => intro w hSw; obtain ⟨s1, s2⟩ := hSw; go_simp; rfl
        simp only [Act.put, List.getElem_toArray, List.getElem_cons_zero, List.getElem_cons_succ, List.setIfInBounds_toArray, List.set_cons_zero, List.set_cons_succ]
        refine wpAnyH_take (i := 4) (v := undef) rfl (by kernel_rfl) (by kernel_rfl) (by kernel_rfl) (fun _ _ _ h => h) (Or.inr ⟨by rfl, rfl⟩) HS.out ?_
        simp only [Act.put, List.getElem_toArray, List.getElem_cons_zero, List.getElem_cons_succ, List.setIfInBounds_toArray, List.set_cons_zero, List.set_cons_succ]
        refine wpAnyH_take (i := 5) (v := undef) rfl (by kernel_rfl) (by kernel_rfl) (by kernel_rfl) (fun _ _ _ h => h) (Or.inr ⟨by rfl, rfl⟩) HS.out ?_
        simp only [Act.put, List.getElem_toArray, List.getElem_cons_zero, List.getElem_cons_succ, List.setIfInBounds_toArray, List.set_cons_zero, List.set_cons_succ]
        refine wpAnyH_take (i := 6) (v := undef) rfl (by kernel_rfl) (by kernel_rfl) (by kernel_rfl) (fun _ _ _ h => h) (Or.inr ⟨by rfl, rfl⟩) HS.out ?_
        simp only [Act.put, List.getElem_toArray, List.getElem_cons_zero, List.getElem_cons_succ, List.setIfInBounds_toArray, List.set_cons_zero, List.set_cons_succ]
        refine wpAnyH_take (i := 7) (v := undef) rfl (by kernel_rfl) (by kernel_rfl) (by kernel_rfl) (fun _ _ _ h => h) (Or.inr ⟨by rfl, rfl⟩) HS.out ?_
        simp only [Act.put, List.getElem_toArray, List.getElem_cons_zero, List.getElem_cons_succ, List.setIfInBounds_toArray, List.set_cons_zero, List.set_cons_succ]
        refine wpAnyH_take (i := 8) (v := undef) rfl (by kernel_rfl) (by kernel_rfl) (by kernel_rfl) (fun _ _ _ h => h) (Or.inr ⟨by rfl, rfl⟩) HS.out ?_
        simp only [Act.put, List.getElem_toArray, List.getElem_cons_zero, List.getElem_cons_succ, List.setIfInBounds_toArray, List.set_cons_zero, List.set_cons_succ]
        refine wpAnyH_take (i := 9) (v := undef) rfl (by kernel_rfl) (by kernel_rfl) (by kernel_rfl) (fun _ _ _ h => h) (Or.inr ⟨by rfl, rfl⟩) HS.out ?_
        simp only [Act.put, List.getElem_toArray, List.getElem_cons_zero, List.getElem_cons_succ, List.setIfInBounds_toArray, List.set_cons_zero, List.set_cons_succ]
        refine wpAnyH_take (i := 10) (v := undef) rfl (by kernel_rfl) (by kernel_rfl) (by kernel_rfl) (fun _ _ _ h => h) (Or.inr ⟨by rfl, rfl⟩) HS.out ?_
        simp only [Act.put, List.getElem_toArray, List.getElem_cons_zero, List.getElem_cons_succ, List.setIfInBounds_toArray, List.set_cons_zero, List.set_cons_succ]
        refine wpAnyH_take (i := 11) (v := undef) rfl (by kernel_rfl) (by kernel_rfl) (by kernel_rfl) (fun _ _ _ h => h) (Or.inr ⟨by rfl, rfl⟩) HS.out ?_
        simp only [Act.put, List.getElem_toArray, List.getElem_cons_zero, List.getElem_cons_succ, List.setIfInBounds_toArray, List.set_cons_zero, List.set_cons_succ]
        refine wpAnyH_take (i := 12) (v := ?_) rfl (by kernel_rfl) (by kernel_rfl) (by kernel_rfl) (fun _ _ _ h => h) (Or.inl ⟨by rfl, ?q12⟩) HS.out ?_
        case q12 => intro w hSw; obtain ⟨s1, s2⟩ := hSw; go_simp; rfl
        simp only [Act.put, List.getElem_toArray, List.getElem_cons_zero, List.getElem_cons_succ, List.setIfInBounds_toArray, List.set_cons_zero, List.set_cons_succ]
        refine wpAnyH_done (by kernel_rfl) ?_ _
        go_wp2
        go_ret
        rw [HE.out]
        exact ⟨rfl, HP1.out.of rfl rfl, HI1.out, HG1.out.drew⟩
      · by_cases hhigh : 2 * (W : Int) ≤ a
        · have HE : Hid (layF W ns s = (120, s')) := by
            rw [← HLW.out]; unfold layF; rw [if_pos (Or.inr hhigh)]; exact rfl
          refine wp_region_held_drew (S := fun W' => W'.cell? ⟨wr.heap.size, 0, none⟩ = some (.int .i64 a) ∧ W'.cell? ⟨g, 1, none⟩ = some (.int .i64 (W : Int))) (by kernel_rfl) ⟨HX1.out 0 _ rfl, HP1.out.c1⟩ (fun hHeld => ?_)
          have HS := hid hHeld
          clear hHeld
          change wpAnyH _ _ _ _ _ _ _ _ (World.drew _)
          refine wpAnyH_take (i := 0) (v := ?_) rfl (by kernel_rfl) (by kernel_rfl) (by kernel_rfl) (fun _ _ _ h => h) (Or.inl ⟨by rfl, ?q0⟩) HS.out ?_
          case q0 => intro w hSw; obtain ⟨s1, s2⟩ := hSw; go_simp; rfl
          simp only [Act.put, List.getElem_toArray, List.getElem_cons_zero, List.getElem_cons_succ, List.setIfInBounds_toArray, List.set_cons_zero, List.set_cons_succ]
          refine wpAnyH_take (i := 1) (v := .int .i64 a) rfl (by kernel_rfl) (by kernel_rfl) (by kernel_rfl) (fun _ _ _ h => h) (Or.inl ⟨by rfl, ?q1⟩) HS.out ?_
          case q1 => intro w hSw; obtain ⟨s1, s2⟩ := hSw; go_simp
          simp only [Act.put, List.getElem_toArray, List.getElem_cons_zero, List.getElem_cons_succ, List.setIfInBounds_toArray, List.set_cons_zero, List.set_cons_succ]
          refine wpAnyH_take (i := 2) (v := .bool false) rfl (by kernel_rfl) (by kernel_rfl) (by kernel_rfl) (fun _ _ _ h => h) (Or.inl ⟨by rfl, ?q2⟩) HS.out ?_
          case q2 => intro w hSw; obtain ⟨s1, s2⟩ := hSw; go_simp
          simp only [Act.put, List.getElem_toArray, List.getElem_cons_zero, List.getElem_cons_succ, List.setIfInBounds_toArray, List.set_cons_zero, List.set_cons_succ]
          refine wpAnyH_take (i := 3) (v := ?_) rfl (by kernel_rfl) (by kernel_rfl) (by kernel_rfl) (fun _ _ _ h => h) (Or.inl ⟨by rfl, ?q3⟩) HS.out ?_
          case q3 => intro w hSw; obtain ⟨s1, s2⟩ := hSw; go_simp; rfl
          simp only [Act.put, List.getElem_toArray, List.getElem_cons_zero, List.getElem_cons_succ, List.setIfInBounds_toArray, List.set_cons_zero, List.set_cons_succ]
          refine wpAnyH_take (i := 4) (v := ?_) rfl (by kernel_rfl) (by kernel_rfl) (by kernel_rfl) (fun _ _ _ h => h) (Or.inl ⟨by rfl, ?q4⟩) HS.out ?_
          case q4 => intro w hSw; obtain ⟨s1, s2⟩ := hSw; go_simp; rfl
          simp only [Act.put, List.getElem_toArray, List.getElem_cons_zero, List.getElem_cons_succ, List.setIfInBounds_toArray, List.set_cons_zero, List.set_cons_succ]
          refine wpAnyH_take (i := 5) (v := .int .i64 a) rfl (by kernel_rfl) (by kernel_rfl) (by kernel_rfl) (fun _ _ _ h => h) (Or.inl ⟨by rfl, ?q5⟩) HS.out ?_
          case q5 => intro w hSw; obtain ⟨s1, s2⟩ := hSw; go_simp
          simp only [Act.put, List.getElem_toArray, List.getElem_cons_zero, List.getElem_cons_succ, List.setIfInBounds_toArray, List.set_cons_zero, List.set_cons_succ]
          refine wpAnyH_take (i := 6) (v := ?_) rfl (by kernel_rfl) (by kernel_rfl) (by kernel_rfl) (fun _ _ _ h => h) (Or.inl ⟨by rfl, ?q6⟩) HS.out ?_
          case q6 => intro w hSw; obtain ⟨s1, s2⟩ := hSw; go_simp; rfl
          simp only [Act.put, List.getElem_toArray, List.getElem_cons_zero, List.getElem_cons_succ, List.setIfInBounds_toArray, List.set_cons_zero, List.set_cons_succ]
          refine wpAnyH_take (i := 7) (v := ?_) rfl (by kernel_rfl) (by kernel_rfl) (by kernel_rfl) (fun _ _ _ h => h) (Or.inl ⟨by rfl, ?q7⟩) HS.out ?_
          case q7 => intro w hSw; obtain ⟨s1, s2⟩ := hSw; go_simp; rfl
          simp only [Act.put, List.getElem_toArray, List.getElem_cons_zero, List.getElem_cons_succ, List.setIfInBounds_toArray, List.set_cons_zero, List.set_cons_succ]
          refine wpAnyH_take (i := 8) (v := ?_) rfl (by kernel_rfl) (by kernel_rfl) (by kernel_rfl) (fun _ _ _ h => h) (Or.inl ⟨by rfl, ?q8⟩) HS.out ?_
          case q8 => intro w hSw; obtain ⟨s1, s2⟩ := hSw; go_simp; rfl
          simp only [Act.put, List.getElem_toArray, List.getElem_cons_zero, List.getElem_cons_succ, List.setIfInBounds_toArray, List.set_cons_zero, List.set_cons_succ]
          refine wpAnyH_take (i := 9) (v := .int .i64 (W : Int)) rfl (by kernel_rfl) (by kernel_rfl) (by kernel_rfl) (fun _ _ _ h => h) (Or.inl ⟨by rfl, ?q9⟩) HS.out ?_
          case q9 => intro w hSw; obtain ⟨s1, s2⟩ := hSw; go_simp
          simp only [Act.put, List.getElem_toArray, List.getElem_cons_zero, List.getElem_cons_succ, List.setIfInBounds_toArray, List.set_cons_zero, List.set_cons_succ]
          refine wpAnyH_take (i := 10) (v := .int .i64 (2 * (W : Int))) rfl (by kernel_rfl) (by kernel_rfl) (by kernel_rfl) (fun _ _ _ h => h) (Or.inl ⟨by rfl, ?q10⟩) HS.out ?_
          case q10 => intro w hSw; obtain ⟨s1, s2⟩ := hSw; go_simp
          simp only [Act.put, List.getElem_toArray, List.getElem_cons_zero, List.getElem_cons_succ, List.setIfInBounds_toArray, List.set_cons_zero, List.set_cons_succ]
          refine wpAnyH_take (i := 11) (v := .bool true) rfl (by kernel_rfl) (by kernel_rfl) (by kernel_rfl) (fun _ _ _ h => h) (Or.inl ⟨by rfl, ?q11⟩) HS.out ?_
          case q11 => intro w hSw; obtain ⟨s1, s2⟩ := hSw; go_simp
          simp only [Act.put, List.getElem_toArray, List.getElem_cons_zero, List.getElem_cons_succ, List.setIfInBounds_toArray, List.set_cons_zero, List.set_cons_succ]
          refine wpAnyH_take (i := 12) (v := ?_) rfl (by kernel_rfl) (by kernel_rfl) (by kernel_rfl) (fun _ _ _ h => h) (Or.inl ⟨by rfl, ?q12⟩) HS.out ?_
          case q12 => intro w hSw; obtain ⟨s1, s2⟩ := hSw; go_simp; rfl
          simp only [Act.put, List.getElem_toArray, List.getElem_cons_zero, List.getElem_cons_succ, List.setIfInBounds_toArray, List.set_cons_zero, List.set_cons_succ]
          refine wpAnyH_done (by kernel_rfl) ?_ _
          go_wp2
          go_ret
          rw [HE.out]
          exact ⟨rfl, HP1.out.of rfl rfl, HI1.out, HG1.out.drew⟩
        · obtain ⟨a', ha'⟩ := Int.eq_ofNat_of_zero_le (show 0 ≤ a by omega)
          have ha'W : a' < 2 * W := by omega
          have HA := hid ha'
          have HE : Hid (layF W ns s = if holdB s' a' d = true then layF W (ns.drop (k + 1)) (holdS s' a' d) else (121, s')) := by
            rw [← HLW.out, layF, if_neg (by omega), ha']; exact rfl
          clear ha'
          refine wp_region_held_drew (S := fun W' => W'.cell? ⟨wr.heap.size, 0, none⟩ = some (.int .i64 a) ∧ W'.cell? ⟨g, 1, none⟩ = some (.int .i64 (W : Int))) (by kernel_rfl) ⟨HX1.out 0 _ rfl, HP1.out.c1⟩ (fun hHeld => ?_)
          have HS := hid hHeld
          clear hHeld
          change wpAnyH _ _ _ _ _ _ _ _ (World.drew _)
          refine wpAnyH_take (i := 0) (v := ?_) rfl (by kernel_rfl) (by kernel_rfl) (by kernel_rfl) (fun _ _ _ h => h) (Or.inl ⟨by rfl, ?q0⟩) HS.out ?_
          case q0 => intro w hSw; obtain ⟨s1, s2⟩ := hSw; go_simp; rfl
          simp only [Act.put, List.getElem_toArray, List.getElem_cons_zero, List.getElem_cons_succ, List.setIfInBounds_toArray, List.set_cons_zero, List.set_cons_succ]
          refine wpAnyH_take (i := 1) (v := .int .i64 a) rfl (by kernel_rfl) (by kernel_rfl) (by kernel_rfl) (fun _ _ _ h => h) (Or.inl ⟨by rfl, ?q1⟩) HS.out ?_
          case q1 => intro w hSw; obtain ⟨s1, s2⟩ := hSw; go_simp
          simp only [Act.put, List.getElem_toArray, List.getElem_cons_zero, List.getElem_cons_succ, List.setIfInBounds_toArray, List.set_cons_zero, List.set_cons_succ]
          refine wpAnyH_take (i := 2) (v := .bool false) rfl (by kernel_rfl) (by kernel_rfl) (by kernel_rfl) (fun _ _ _ h => h) (Or.inl ⟨by rfl, ?q2⟩) HS.out ?_
          case q2 => intro w hSw; obtain ⟨s1, s2⟩ := hSw; go_simp
          simp only [Act.put, List.getElem_toArray, List.getElem_cons_zero, List.getElem_cons_succ, List.setIfInBounds_toArray, List.set_cons_zero, List.set_cons_succ]
          refine wpAnyH_take (i := 3) (v := ?_) rfl (by kernel_rfl) (by kernel_rfl) (by kernel_rfl) (fun _ _ _ h => h) (Or.inl ⟨by rfl, ?q3⟩) HS.out ?_
          case q3 => intro w hSw; obtain ⟨s1, s2⟩ := hSw; go_simp; rfl
          simp only [Act.put, List.getElem_toArray, List.getElem_cons_zero, List.getElem_cons_succ, List.setIfInBounds_toArray, List.set_cons_zero, List.set_cons_succ]
          refine wpAnyH_take (i := 4) (v := ?_) rfl (by kernel_rfl) (by kernel_rfl) (by kernel_rfl) (fun _ _ _ h => h) (Or.inl ⟨by rfl, ?q4⟩) HS.out ?_
          case q4 => intro w hSw; obtain ⟨s1, s2⟩ := hSw; go_simp; rfl
          simp only [Act.put, List.getElem_toArray, List.getElem_cons_zero, List.getElem_cons_succ, List.setIfInBounds_toArray, List.set_cons_zero, List.set_cons_succ]
          refine wpAnyH_take (i := 5) (v := .int .i64 a) rfl (by kernel_rfl) (by kernel_rfl) (by kernel_rfl) (fun _ _ _ h => h) (Or.inl ⟨by rfl, ?q5⟩) HS.out ?_
          case q5 => intro w hSw; obtain ⟨s1, s2⟩ := hSw; go_simp
          simp only [Act.put, List.getElem_toArray, List.getElem_cons_zero, List.getElem_cons_succ, List.setIfInBounds_toArray, List.set_cons_zero, List.set_cons_succ]
          refine wpAnyH_take (i := 6) (v := ?_) rfl (by kernel_rfl) (by kernel_rfl) (by kernel_rfl) (fun _ _ _ h => h) (Or.inl ⟨by rfl, ?q6⟩) HS.out ?_
          case q6 => intro w hSw; obtain ⟨s1, s2⟩ := hSw; go_simp; rfl
          simp only [Act.put, List.getElem_toArray, List.getElem_cons_zero, List.getElem_cons_succ, List.setIfInBounds_toArray, List.set_cons_zero, List.set_cons_succ]
          refine wpAnyH_take (i := 7) (v := ?_) rfl (by kernel_rfl) (by kernel_rfl) (by kernel_rfl) (fun _ _ _ h => h) (Or.inl ⟨by rfl, ?q7⟩) HS.out ?_
          case q7 => intro w hSw; obtain ⟨s1, s2⟩ := hSw; go_simp; rfl
          simp only [Act.put, List.getElem_toArray, List.getElem_cons_zero, List.getElem_cons_succ, List.setIfInBounds_toArray, List.set_cons_zero, List.set_cons_succ]
          refine wpAnyH_take (i := 8) (v := ?_) rfl (by kernel_rfl) (by kernel_rfl) (by kernel_rfl) (fun _ _ _ h => h) (Or.inl ⟨by rfl, ?q8⟩) HS.out ?_
          case q8 => intro w hSw; obtain ⟨s1, s2⟩ := hSw; go_simp; rfl
          simp only [Act.put, List.getElem_toArray, List.getElem_cons_zero, List.getElem_cons_succ, List.setIfInBounds_toArray, List.set_cons_zero, List.set_cons_succ]
          refine wpAnyH_take (i := 9) (v := .int .i64 (W : Int)) rfl (by kernel_rfl) (by kernel_rfl) (by kernel_rfl) (fun _ _ _ h => h) (Or.inl ⟨by rfl, ?q9⟩) HS.out ?_
          case q9 => intro w hSw; obtain ⟨s1, s2⟩ := hSw; go_simp
          simp only [Act.put, List.getElem_toArray, List.getElem_cons_zero, List.getElem_cons_succ, List.setIfInBounds_toArray, List.set_cons_zero, List.set_cons_succ]
          refine wpAnyH_take (i := 10) (v := .int .i64 (2 * (W : Int))) rfl (by kernel_rfl) (by kernel_rfl) (by kernel_rfl) (fun _ _ _ h => h) (Or.inl ⟨by rfl, ?q10⟩) HS.out ?_
          case q10 => intro w hSw; obtain ⟨s1, s2⟩ := hSw; go_simp
          simp only [Act.put, List.getElem_toArray, List.getElem_cons_zero, List.getElem_cons_succ, List.setIfInBounds_toArray, List.set_cons_zero, List.set_cons_succ]
          refine wpAnyH_take (i := 11) (v := .bool false) rfl (by kernel_rfl) (by kernel_rfl) (by kernel_rfl) (fun _ _ _ h => h) (Or.inl ⟨by rfl, ?q11⟩) HS.out ?_
          case q11 => intro w hSw; obtain ⟨s1, s2⟩ := hSw; go_simp
          simp only [Act.put, List.getElem_toArray, List.getElem_cons_zero, List.getElem_cons_succ, List.setIfInBounds_toArray, List.set_cons_zero, List.set_cons_succ]
          refine wpAnyH_take (i := 12) (v := ?_) rfl (by kernel_rfl) (by kernel_rfl) (by kernel_rfl) (fun _ _ _ h => h) (Or.inl ⟨by rfl, ?q12⟩) HS.out ?_
          case q12 => intro w hSw; obtain ⟨s1, s2⟩ := hSw; go_simp; rfl
          simp only [Act.put, List.getElem_toArray, List.getElem_cons_zero, List.getElem_cons_succ, List.setIfInBounds_toArray, List.set_cons_zero, List.set_cons_succ]
          refine wpAnyH_done (by kernel_rfl) ?_ _
          have HXd : Hid (W1.drew.rangeAt wr.heap.size 1 (dc d)) := fun j u hj => by
            have := HX1.out (j + 1) u (by simp only [nc, List.getElem?_cons_succ]; exact hj)
            rw [show 1 + j = 0 + (j + 1) by omega]
            exact this
          have hca : W1.drew.cell? ⟨wr.heap.size, 0, none⟩ = some (.int .i64 a) := HX1.out 0 _ rfl
          have CH := hid (hold_any W1.drew g b L W n s' a' d (HP1.out.of rfl rfl) HI1.out ha'W hW HD.out)
          rw [← HA.out] at CH
          have HSD := hid (size_dig HD.out)
          go_wp2_with (first | (refine wpList_load_mid rfl 28 _ rfl wr.heap.size 1 rfl (dc d) _ HXd.out Tryd.underlying28 rfl HSD.out ?_; rw [dc_arr]) | fail)
          refine CH.out.mono ?_
          rintro e w2 ⟨rfl, hP2, hI2, hG2⟩
          have HP2 := hid hP2
          have HI2 := hid hI2
          have HG2 := hid (HG1.out.drew.trans hG2)
          clear hP2 hI2 hG2 CH hca
          cases hB : holdB s' a' d with
          | false =>
            have HE2 : Hid (layF W ns s = (121, s')) := by rw [HE.out, hB]; exact rfl
            have HS2 : Hid (holdS s' a' d = s') := by
              unfold holdB at hB
              unfold holdS
              cases hx : s'.K a' with
              | none => rw [hx] at hB; cases hB
              | some e => exact rfl
            clear hB
            go_wp2
            go_ret
            rw [HE2.out]
            refine ⟨rfl, ?_, ?_, HG2.out⟩
            · have := HP2.out; rw [HS2.out] at this; exact this
            · have := HI2.out; rw [HS2.out] at this; exact this
          | true =>
            have HE2 : Hid (layF W (ns.drop (k + 1)) (holdS s' a' d) = layF W ns s) := by rw [HE.out, hB]; exact rfl
            clear hB
            go_wp2
            exact ⟨⟨k + 1, _, by omega, by go_num, HE2, HP2, HI2, HG2⟩, by simp [intOf]; omega⟩
    · have hkm : k = m := by omega
      have HE : Hid (layF W ns s = (0, s')) := by
        rw [← HL.out, List.drop_of_length_le (by rw [HM.out]; omega)]; exact rfl
      go_wp2
      go_ret
      rw [HE.out]
      exact ⟨rfl, HP'.out, HI'.out, HG.out⟩
end Go.Proofs.YtjmlpkemjafifaaDoor

/- rise of proof, walked. -/
set_option linter.unusedVariables false
set_option linter.unusedSimpArgs false
namespace Go.Proofs.YtjmlpkemjafifaaDoor
open Go.RowKit

theorem KC.gr2 {w w' : World} {b n m : Nat} {K : Kn} {I : Nat → Bool} (h : KC w) (hb : HMp w b K) (hn : HIn w n m I) (hG : Gr2 w w' b n) : KC w' := by
  have h0 := h 0 (by decide)
  have hlt := World.block_lt_of_cell? w _ h0
  have hb0 : 0 ≠ b := by
    rintro rfl
    obtain ⟨es, c, h1, _⟩ := hb
    simp [World.cell?, h1] at h0
  have hn0 : 0 ≠ n := by
    rintro rfl
    rw [cell_of_row w 0 _ _ _ _ hn] at h0
    simp only [List.getElem?_toArray, List.getElem?_map] at h0
    cases hx : (List.range m)[0]? with
    | none => rw [hx] at h0; cases h0
    | some x => rw [hx] at h0; cases h0
  exact fun t ht => (World.cell?_of_block (hG.block 0 hlt hb0 hn0)).trans (h t ht)
theorem knows_nat (w : World) (g b L W : Nat) (K : Kn) (h : HPf w g b L W K) (a : Int) (x : Nat) (hx : a = (x : Int)) : Calls Tryd.prog 56 #[.pointer (some ⟨g, 0, none⟩), .int .i64 a] w fun e w' => e = .returned (.bool (K x).isSome) ∧ Below w.heap.size w w' := by
  have := knows_any w g b L W K h a
  subst hx
  rw [kIs_nat] at this
  exact this
theorem kAt_some {K : Kn} {a : Int} {x : Nat} {d : List Int} (h : K x = some d) (ha : a = (x : Int)) : kAt K a = d := by
  subst ha
  rw [kAt_nat, h]
  rfl
set_option maxRecDepth 100000 in
set_option maxHeartbeats 8000000 in
theorem rise_any (w : World) (g b L W n : Nat) (s : PS) (h : HPf w g b L W s.K) (hi : HIn w n (2 * W) s.I) (hW : W ≤ 512) (hW1 : 1 ≤ W) (hkc : KC w) :
    Calls Tryd.prog 53 #[.pointer (some ⟨g, 0, none⟩), .slice (some ⟨n, 0, none⟩) (2 * W) (2 * W)] w fun e w' => PsQ w g b L W n (riseF (W - 1) s) e w' := by
  have HP := hid h
  have HI := hid hi
  have hne := hi.ne h
  have hgb := h.ne
  have hgl := h.lt
  have HKC := hid hkc
  have hc1 := h.c1
  have ew0 : IntKind.i64.wrap ((W : Int) - 1) = (W : Int) - 1 := by rw [IntKind.wrap_i64]; omega
  clear h hi hkc
  go_enter Tryd.func53, Tryd.ntmps53
  go_wp2
  go_loopw [5] (fun i wr => ∃ (x : Nat) (s' : PS), x ≤ W - 1 ∧ i = .int .i64 x ∧ Hid (riseF x s' = riseF (W - 1) s) ∧ Hid (HPf wr g b L W s'.K) ∧ Hid (HIn wr n (2 * W) s'.I) ∧ Hid (Gr2 w wr b n)) (fun i _ => (intOf i).toNat)
  case atStart => exact ⟨W - 1, s, Nat.le_refl _, by congr 1; omega, rfl, HP, HI, Gr2.refl _ _ _⟩
  case round =>
    clear hc1
    obtain ⟨x, s', hx, rfl, HR, HP', HI', HG⟩ := hrel
    cases x with
    | zero =>
      have HE : Hid (riseF (W - 1) s = (0, s')) := by rw [← HR.out]; exact rfl
      go_wp2
      go_ret
      rw [HE.out]
      exact ⟨rfl, HP'.out, HI'.out, HG.out⟩
    | succ y =>
      have ew1 : IntKind.i64.wrap (2 * ((y + 1 : Nat) : Int)) = 2 * ((y + 1 : Nat) : Int) := by rw [IntKind.wrap_i64]; omega
      have ew2 : IntKind.i64.wrap (2 * ((y + 1 : Nat) : Int) + 1) = 2 * ((y + 1 : Nat) : Int) + 1 := by rw [IntKind.wrap_i64]; omega
      have ew3 : IntKind.i64.wrap (((y + 1 : Nat) : Int) - 1) = (y : Int) := by rw [IntKind.wrap_i64]; omega
      obtain ⟨x, HX⟩ : ∃ x, Hid (y + 1 = x) := ⟨_, rfl⟩
      rw [HX.out] at ew1 ew2 ew3 HR hx ⊢
      have hx1 : 1 ≤ x := by have := HX.out; omega
      have hxy : Hid (x - 1 = y) := by have := HX.out; refine hid ?_; omega
      have hx1i : (1 : Int) ≤ (x : Int) := by omega
      have HRS : Hid (riseF x s' = if askB s' x = true then (if holdB s' x (kidD s' x) = true then riseF y (holdS s' x (kidD s' x)) else (123, s')) else riseF y s') := by
        rw [← HX.out]; exact rfl
      have CK1 := hid (knows_nat wr g b L W s'.K HP'.out (2 * (x : Int)) (2 * x) (by omega))
      go_wp2_with fail
      refine CK1.out.mono ?_
      rintro e w1 ⟨rfl, hB1⟩
      have HP1 := hid (HP'.out.below hB1)
      have HI1 := hid (HI'.out.below hB1)
      have HG1 := hid (HG.out.trans (Gr2.ofBelow hB1 b n))
      clear hB1 CK1
      cases hk1 : s'.K (2 * x) with
      | none =>
        have HE : Hid (riseF y s' = riseF (W - 1) s) := by
          rw [← HR.out, HRS.out, if_neg (by unfold askB; rw [hk1]; simp)]; exact rfl
        rw [Option.isSome_none]
        clear hk1
        go_wp2
        exact ⟨⟨y, s', by have := HX.out; omega, rfl, HE, HP1, HI1, HG1⟩, by simp [intOf]; have := HX.out; omega⟩
      | some l =>
        rw [Option.isSome_some]
        have HK1 := hid hk1
        clear hk1
        have CK2 := hid (knows_nat w1 g b L W s'.K HP1.out (2 * (x : Int) + 1) (2 * x + 1) (by omega))
        go_wp2_with fail
        refine CK2.out.mono ?_
        rintro e w2 ⟨rfl, hB2⟩
        have HP2 := hid (HP1.out.below hB2)
        have HI2 := hid (HI1.out.below hB2)
        have HG2 := hid (HG1.out.trans (Gr2.ofBelow hB2 b n))
        clear hB2 CK2
        cases hk2 : s'.K (2 * x + 1) with
        | none =>
          have HE : Hid (riseF y s' = riseF (W - 1) s) := by
            rw [← HR.out, HRS.out, if_neg (by unfold askB; rw [hk2]; simp)]; exact rfl
          rw [Option.isSome_none]
          clear hk2
          go_wp2
          exact ⟨⟨y, s', by have := HX.out; omega, rfl, HE, HP2, HI2, HG2⟩, by simp [intOf]; have := HX.out; omega⟩
        | some r =>
          rw [Option.isSome_some]
          have HK2 := hid hk2
          clear hk2
          have CK3 := hid (knows_nat w2 g b L W s'.K HP2.out (x : Int) x rfl)
          go_wp2_with fail
          refine CK3.out.mono ?_
          rintro e w3 ⟨rfl, hB3⟩
          have HP3 := hid (HP2.out.below hB3)
          have HI3 := hid (HI2.out.below hB3)
          have HG3 := hid (HG2.out.trans (Gr2.ofBelow hB3 b n))
          clear hB3 CK3
          have hcx := HI3.out.cell x (by omega)
          have hcl := HI3.out.cell (2 * x) (by omega)
          have hcr := HI3.out.cell (2 * x + 1) (by omega)
          have et1 : (2 * (x : Int)).toNat = 2 * x := by omega
          have et2 : (2 * (x : Int) + 1).toNat = 2 * x + 1 := by omega
          have et3 : ((x : Int)).toNat = x := by omega
          have hcast : ((2 * W : Nat) : Int) = 2 * (W : Int) := by omega
          obtain ⟨c3, H3⟩ : ∃ c, Hid ((s'.K x).isSome = c) := ⟨_, rfl⟩
          obtain ⟨ix, HIX⟩ : ∃ c, Hid (s'.I x = c) := ⟨_, rfl⟩
          obtain ⟨il, HIL⟩ : ∃ c, Hid (s'.I (2 * x) = c) := ⟨_, rfl⟩
          obtain ⟨ir, HIR⟩ : ∃ c, Hid (s'.I (2 * x + 1) = c) := ⟨_, rfl⟩
          rw [HIX.out] at hcx
          rw [HIL.out] at hcl
          rw [HIR.out] at hcr
          rw [H3.out]
          have HA : Hid (askB s' x = !(c3 && !ix && !il && !ir)) := by
            unfold askB
            rw [HK1.out, HK2.out, H3.out, HIX.out, HIL.out, HIR.out]
            exact rfl
          have HD : Hid (kidD s' x = ndL l r) := by unfold kidD; rw [HK1.out, HK2.out]; exact rfl
          have HDl := hid (HP3.out.2.D HK1.out)
          have HDr := hid (HP3.out.2.D HK2.out)
          have HE1 : Hid ((c3 && !ix && !il && !ir) = true → riseF y s' = riseF (W - 1) s) := fun q => by
            rw [← HR.out, HRS.out, HA.out, q]; exact rfl
          have HE2 : Hid ((c3 && !ix && !il && !ir) = false → riseF (W - 1) s = if holdB s' x (ndL l r) = true then riseF y (holdS s' x (ndL l r)) else (123, s')) := fun q => by
            rw [← HR.out, HRS.out, HA.out, q, HD.out]; exact rfl
          have HKC3 := hid (HKC.out.gr2 HP.out.2 HI.out HG3.out)
          have HN : Hid (∀ (w4 : World), Gr2 w w4 b n → HPf w4 g b L W s'.K → HIn w4 n (2 * W) s'.I → _) := fun w4 h1 h2 h3 => node_any w4 l r HDl.out HDr.out (HKC.out.gr2 HP.out.2 HI.out h1)
          have HH : Hid (∀ (w5 : World), HPf w5 g b L W s'.K → HIn w5 n (2 * W) s'.I → _) := fun w5 h2 h3 => hold_any w5 g b L W n s' x (ndL l r) h2 h3 (by omega) hW (ndL_D l r)
          clear HR HRS HA HD
          have hfin : (c3 && !ix && !il && !ir) = true ∨ (c3 && !ix && !il && !ir) = false := by cases (c3 && !ix && !il && !ir) <;> simp
          rcases hfin with hq | hq
          · have HE := hid (HE1.out hq)
            obtain ⟨rfl, rfl, rfl, rfl⟩ : c3 = true ∧ ix = false ∧ il = false ∧ ir = false := by revert hq; cases c3 <;> cases ix <;> cases il <;> cases ir <;> simp
            clear hq HE1 HE2
            go_wp2
            exact ⟨⟨y, s', by have := HX.out; omega, rfl, HE, HP3, HI3, HG3⟩, by simp [intOf]; have := HX.out; omega⟩
          · have HE := hid (HE2.out hq)
            clear HE1 HE2
            have hcases : c3 = false ∨ (c3 = true ∧ ix = true) ∨ (c3 = true ∧ ix = false ∧ il = true) ∨ (c3 = true ∧ ix = false ∧ il = false ∧ ir = true) := by revert hq; cases c3 <;> cases ix <;> cases il <;> cases ir <;> simp
            clear hq H3 HIX HIL HIR
            rcases hcases with rfl | ⟨rfl, rfl⟩ | ⟨rfl, rfl, rfl⟩ | ⟨rfl, rfl, rfl, rfl⟩
            all_goals
              go_wp2
              clear hcx hcl hcr
              refine wp_region_held_drew (S := fun W' => W'.cell? ⟨g, 2, none⟩ = some (.map (some b)) ∧ ∃ K', HMp W' b K' ∧ K' (2 * x) = some l ∧ K' (2 * x + 1) = some r) (by kernel_rfl) ⟨HP3.out.c2, _, HP3.out.2, HK1.out, HK2.out⟩ (fun hHeld => ?_)
              have HS := hid hHeld
              clear hHeld
              change wpAnyH _ _ _ _ _ _ _ _ (World.drew _)
              refine wpAnyH_take (i := 0) (v := ?_) rfl (by kernel_rfl) (by kernel_rfl) (by kernel_rfl) (fun _ _ _ h => h) (Or.inl ⟨by rfl, ?q0⟩) HS.out ?_
              case q0 => intro w hSw; obtain ⟨s1, K', s2, s3, s4⟩ := hSw; go_simp; rfl
              simp only [Act.put, List.getElem_toArray, List.getElem_cons_zero, List.getElem_cons_succ, List.setIfInBounds_toArray, List.set_cons_zero, List.set_cons_succ]
              refine wpAnyH_take (i := 1) (v := ?_) rfl (by kernel_rfl) (by kernel_rfl) (by kernel_rfl) (fun _ _ _ h => h) (Or.inl ⟨by rfl, ?q1⟩) HS.out ?_
              case q1 => intro w hSw; obtain ⟨s1, K', s2, s3, s4⟩ := hSw; go_simp; rfl
              simp only [Act.put, List.getElem_toArray, List.getElem_cons_zero, List.getElem_cons_succ, List.setIfInBounds_toArray, List.set_cons_zero, List.set_cons_succ]
              refine wpAnyH_take (i := 2) (v := ?_) rfl (by kernel_rfl) (by kernel_rfl) (by kernel_rfl) (fun _ _ _ h => h) (Or.inl ⟨by rfl, ?q2⟩) HS.out ?_
              case q2 => intro w hSw; obtain ⟨s1, K', s2, s3, s4⟩ := hSw; go_simp; rfl
              simp only [Act.put, List.getElem_toArray, List.getElem_cons_zero, List.getElem_cons_succ, List.setIfInBounds_toArray, List.set_cons_zero, List.set_cons_succ]
              refine wpAnyH_take (i := 3) (v := ?_) rfl (by kernel_rfl) (by kernel_rfl) (by kernel_rfl) (fun _ _ _ h => h) (Or.inl ⟨by rfl, ?q3⟩) HS.out ?_
              case q3 => intro w hSw; obtain ⟨s1, K', s2, s3, s4⟩ := hSw; go_simp; rfl
              simp only [Act.put, List.getElem_toArray, List.getElem_cons_zero, List.getElem_cons_succ, List.setIfInBounds_toArray, List.set_cons_zero, List.set_cons_succ]
              refine wpAnyH_take (i := 4) (v := ?_) rfl (by kernel_rfl) (by kernel_rfl) (by kernel_rfl) (fun _ _ _ h => h) (Or.inl ⟨by rfl, ?q4⟩) HS.out ?_
              case q4 => intro w hSw; obtain ⟨s1, K', s2, s3, s4⟩ := hSw; go_simp; rfl
              simp only [Act.put, List.getElem_toArray, List.getElem_cons_zero, List.getElem_cons_succ, List.setIfInBounds_toArray, List.set_cons_zero, List.set_cons_succ]
              refine wpAnyH_take (i := 5) (v := ?_) rfl (by kernel_rfl) (by kernel_rfl) (by kernel_rfl) (fun _ _ _ h => h) (Or.inl ⟨by rfl, ?q5⟩) HS.out ?_
              case q5 => intro w hSw; obtain ⟨s1, K', s2, s3, s4⟩ := hSw; go_simp; rfl
              simp only [Act.put, List.getElem_toArray, List.getElem_cons_zero, List.getElem_cons_succ, List.setIfInBounds_toArray, List.set_cons_zero, List.set_cons_succ]
              refine wpAnyH_take (i := 6) (v := .map (some b)) rfl (by kernel_rfl) (by kernel_rfl) (by kernel_rfl) (fun _ _ _ h => h) (Or.inl ⟨by rfl, ?q6⟩) HS.out ?_
              case q6 => intro w hSw; obtain ⟨s1, K', s2, s3, s4⟩ := hSw; go_simp
              simp only [Act.put, List.getElem_toArray, List.getElem_cons_zero, List.getElem_cons_succ, List.setIfInBounds_toArray, List.set_cons_zero, List.set_cons_succ]
              refine wpAnyH_take (i := 7) (v := ?_) rfl (by kernel_rfl) (by kernel_rfl) (by kernel_rfl) (fun _ _ _ h => h) (Or.inl ⟨by rfl, ?q7⟩) HS.out ?_
              case q7 => intro w hSw; obtain ⟨s1, K', s2, s3, s4⟩ := hSw; go_simp; rfl
              simp only [Act.put, List.getElem_toArray, List.getElem_cons_zero, List.getElem_cons_succ, List.setIfInBounds_toArray, List.set_cons_zero, List.set_cons_succ]
              refine wpAnyH_take (i := 8) (v := .agg (cellsB l)) rfl (by kernel_rfl) (by kernel_rfl) (by kernel_rfl) (fun _ _ _ h => h) (Or.inl ⟨by rfl, ?q8⟩) HS.out ?_
              case q8 => intro w hSw; obtain ⟨s1, K', s2, s3, s4⟩ := hSw; have hl := run_look s2 (2 * (x : Int)); rw [kAt_some s3 (by omega)] at hl; go_simp
              simp only [Act.put, List.getElem_toArray, List.getElem_cons_zero, List.getElem_cons_succ, List.setIfInBounds_toArray, List.set_cons_zero, List.set_cons_succ]
              refine wpAnyH_take (i := 9) (v := ?_) rfl (by kernel_rfl) (by kernel_rfl) (by kernel_rfl) (fun _ _ _ h => h) (Or.inl ⟨by rfl, ?q9⟩) HS.out ?_
              case q9 => intro w hSw; obtain ⟨s1, K', s2, s3, s4⟩ := hSw; go_simp; rfl
              simp only [Act.put, List.getElem_toArray, List.getElem_cons_zero, List.getElem_cons_succ, List.setIfInBounds_toArray, List.set_cons_zero, List.set_cons_succ]
              refine wpAnyH_take (i := 10) (v := ?_) rfl (by kernel_rfl) (by kernel_rfl) (by kernel_rfl) (fun _ _ _ h => h) (Or.inl ⟨by rfl, ?q10⟩) HS.out ?_
              case q10 => intro w hSw; obtain ⟨s1, K', s2, s3, s4⟩ := hSw; go_simp; rfl
              simp only [Act.put, List.getElem_toArray, List.getElem_cons_zero, List.getElem_cons_succ, List.setIfInBounds_toArray, List.set_cons_zero, List.set_cons_succ]
              refine wpAnyH_take (i := 11) (v := ?_) rfl (by kernel_rfl) (by kernel_rfl) (by kernel_rfl) (fun _ _ _ h => h) (Or.inl ⟨by rfl, ?q11⟩) HS.out ?_
              case q11 => intro w hSw; obtain ⟨s1, K', s2, s3, s4⟩ := hSw; go_simp; rfl
              simp only [Act.put, List.getElem_toArray, List.getElem_cons_zero, List.getElem_cons_succ, List.setIfInBounds_toArray, List.set_cons_zero, List.set_cons_succ]
              refine wpAnyH_take (i := 12) (v := .map (some b)) rfl (by kernel_rfl) (by kernel_rfl) (by kernel_rfl) (fun _ _ _ h => h) (Or.inl ⟨by rfl, ?q12⟩) HS.out ?_
              case q12 => intro w hSw; obtain ⟨s1, K', s2, s3, s4⟩ := hSw; go_simp
              simp only [Act.put, List.getElem_toArray, List.getElem_cons_zero, List.getElem_cons_succ, List.setIfInBounds_toArray, List.set_cons_zero, List.set_cons_succ]
              refine wpAnyH_take (i := 13) (v := ?_) rfl (by kernel_rfl) (by kernel_rfl) (by kernel_rfl) (fun _ _ _ h => h) (Or.inl ⟨by rfl, ?q13⟩) HS.out ?_
              case q13 => intro w hSw; obtain ⟨s1, K', s2, s3, s4⟩ := hSw; go_simp; rfl
              simp only [Act.put, List.getElem_toArray, List.getElem_cons_zero, List.getElem_cons_succ, List.setIfInBounds_toArray, List.set_cons_zero, List.set_cons_succ]
              refine wpAnyH_take (i := 14) (v := .agg (cellsB r)) rfl (by kernel_rfl) (by kernel_rfl) (by kernel_rfl) (fun _ _ _ h => h) (Or.inl ⟨by rfl, ?q14⟩) HS.out ?_
              case q14 => intro w hSw; obtain ⟨s1, K', s2, s3, s4⟩ := hSw; have hl := run_look s2 (2 * (x : Int) + 1); rw [kAt_some s4 (by omega)] at hl; go_simp
              simp only [Act.put, List.getElem_toArray, List.getElem_cons_zero, List.getElem_cons_succ, List.setIfInBounds_toArray, List.set_cons_zero, List.set_cons_succ]
              refine wpAnyH_ready (rs := [15]) (by kernel_rfl) (by simp) ?_
              refine AllReadyH.cons rfl (fun K hK => ?_) AllReadyH.nil
              go_simp
              refine (HN.out _ HG3.out.drew (HP3.out.of rfl rfl) HI3.out).mono ?_
              rintro e w5 ⟨rfl, hB5⟩
              have HP5 := hid ((show HPf w3.drew g b L W s'.K from HP3.out.of rfl rfl).below hB5)
              have HI5 := hid ((show HIn w3.drew n (2 * W) s'.I from HI3.out).below hB5)
              have HG5 := hid (HG3.out.drew.trans (Gr2.ofBelow hB5 b n))
              clear hB5
              refine hK.out _ _ ⟨HP5.out.c2, _, HP5.out.2, HK1.out, HK2.out⟩ (fun _ => ?_)
              clear hK K
              clear HS
              refine wpAnyH_ready (rs := [16]) (by kernel_rfl) (by simp) ?_
              refine AllReadyH.cons rfl (fun K hK => ?_) AllReadyH.nil
              go_simp
              refine (HH.out _ HP5.out HI5.out).mono ?_
              rintro e w6 ⟨rfl, hP6, hI6, hG6⟩
              have HP6 := hid hP6
              have HI6 := hid hI6
              have HG6 := hid (HG5.out.trans hG6)
              clear hP6 hI6 hG6
              have HS6 : Hid (w6.cell? ⟨g, 2, none⟩ = some (.map (some b)) ∧ ∃ K', HMp w6 b K' ∧ K' (2 * x) = some l ∧ K' (2 * x + 1) = some r) := ⟨HP6.out.c2, _, HP6.out.2, holdS_keeps HK1.out, holdS_keeps HK2.out⟩
              refine hK.out _ _ HS6.out (fun _ => ?_)
              clear hK K
              have HS := hid HS6.out
              clear HS6
              obtain ⟨hb, HHB⟩ : ∃ c, Hid (holdB s' x (ndL l r) = c) := ⟨_, rfl⟩
              rw [HHB.out]
              rw [HHB.out] at HE
              refine wpAnyH_take (i := 17) (v := .bool (!hb)) rfl (by kernel_rfl) (by kernel_rfl) (by kernel_rfl) (fun _ _ _ h => h) (Or.inl ⟨by rfl, ?q17⟩) HS.out ?_
              case q17 => intro w hSw; obtain ⟨s1, K', s2, s3, s4⟩ := hSw; go_simp
              simp only [Act.put, List.getElem_toArray, List.getElem_cons_zero, List.getElem_cons_succ, List.setIfInBounds_toArray, List.set_cons_zero, List.set_cons_succ]
              refine wpAnyH_done (by kernel_rfl) ?_ _
              cases hb with
              | true =>
                have HE2 : Hid (riseF y (holdS s' x (ndL l r)) = riseF (W - 1) s) := by rw [HE.out]; exact rfl
                go_wp2
                exact ⟨⟨y, _, by have := HX.out; omega, rfl, HE2, HP6, HI6, HG6⟩, by simp [intOf]; have := HX.out; omega⟩
              | false =>
                have HE2 : Hid (riseF (W - 1) s = (123, s')) := by rw [HE.out]; exact rfl
                have HS2 : Hid (holdS s' x (ndL l r) = s') := by
                  have hB := HHB.out
                  unfold holdB at hB
                  unfold holdS
                  cases hx : s'.K x with
                  | none => rw [hx] at hB; cases hB
                  | some e => exact rfl
                go_wp2
                go_ret
                rw [HE2.out]
                refine ⟨rfl, ?_, ?_, HG6.out⟩
                · have := HP6.out; rw [HS2.out] at this; exact this
                · have := HI6.out; rw [HS2.out] at this; exact this
end Go.Proofs.YtjmlpkemjafifaaDoor

/- none, loose of proof, and what Put defers, walked. -/
set_option linter.unusedVariables false
set_option linter.unusedSimpArgs false
namespace Go.Proofs.YtjmlpkemjafifaaDoor
open Go.RowKit

theorem info_bool : (Tryd.prog.info? 4).map (fun i => (i.zero, i.size, i.bytes)) = some (some (.bool false), 1, 1) := by kernel_rfl
theorem run_make_laid (w : World) (m : Nat) (hm : m ≤ 1024) : ∃ C, (Instr.makeSlice 96 (.int .i64 (m : Int)) (.int .i64 (m : Int))).run Tryd.prog w = .ok (.slice (some ⟨w.heap.size, 0, none⟩) m m) (w.alloc (.cells C 4)) ∧ HIn (w.alloc (.cells C 4)) w.heap.size m emptyI := by
  obtain ⟨i0, hi, hz0, hz1, hz2⟩ := info_parts info_bool
  have hr := run_make (P := Tryd.prog) w 96 4 i0 _ Tryd.underlying96 hi hz0 .i64 .i64 m m (by omega) (Int.le_refl _) (by rw [hz2]; omega) (by omega)
  simp only [Int.toNat_natCast] at hr
  have e : madeCells (Value.bool false).cells (m * i0.size) = ((List.range m).map fun i => Value.bool (emptyI i)).toArray := by
    rw [hz1]
    apply Array.ext
    · simp [madeCells]
    · intro i h1 h2
      simp [madeCells, Value.cells, emptyI, Nat.mod_one]
  rw [e] at hr
  exact ⟨_, hr, heap_alloc_new w _⟩
set_option maxRecDepth 100000 in
theorem none_any (w : World) (g b L W : Nat) (K : Kn) (h : HPf w g b L W K) (hW : W ≤ 512) : Calls Tryd.prog 54 #[.pointer (some ⟨g, 0, none⟩)] w fun e w' => e = .returned (.slice (some ⟨w.heap.size, 0, none⟩) (2 * W) (2 * W)) ∧ HIn w' w.heap.size (2 * W) emptyI ∧ Below w.heap.size w w' ∧ w'.heap.size = w.heap.size + 1 := by
  have hc := h.c1
  obtain ⟨C, hmk, hI⟩ := run_make_laid w (2 * W) (by omega)
  have HI := hid hI
  have ew : IntKind.i64.wrap (2 * (W : Int)) = 2 * (W : Int) := by rw [IntKind.wrap_i64]; omega
  rw [show ((2 * W : Nat) : Int) = 2 * (W : Int) by omega] at hmk
  clear h hI
  go_enter Tryd.func54, Tryd.ntmps54
  go_wp2
  go_ret
  exact ⟨rfl, HI.out, (Below.refl _ w).alloc (Nat.le_refl _) _, by simp⟩
theorem bits_xor1 (y : Nat) (h : y < 1024) : bits .xor .i64 (y : Int) 1 = ((y ^^^ 1 : Nat) : Int) := by
  have e : ∀ y, y < 1024 → bits .xor .i64 ((y : Nat) : Int) 1 = ((y ^^^ 1 : Nat) : Int) := by decide +kernel
  exact e y h
theorem loose_mono {s : PS} : ∀ {b a : Nat}, a ≤ b → looseF s a = true → looseF s b = true
  | 0, a, h, hl => by
    obtain rfl : a = 0 := by omega
    exact hl
  | b + 1, a, h, hl => by
    by_cases e : a = b + 1
    · subst e; exact hl
    · unfold looseF
      rw [loose_mono (b := b) (by omega) hl]
      rfl
set_option maxRecDepth 100000 in
set_option maxHeartbeats 2000000 in
theorem loose_any (w : World) (g b L W n : Nat) (s : PS) (h : HPf w g b L W s.K) (hi : HIn w n (2 * W) s.I) (hW : W ≤ 512) :
    Calls Tryd.prog 61 #[.pointer (some ⟨g, 0, none⟩), .slice (some ⟨n, 0, none⟩) (2 * W) (2 * W)] w fun e w' => e = .returned (.bool (looseF s (2 * W))) ∧ Below w.heap.size w w' := by
  have HP := hid h
  have HI := hid hi
  obtain ⟨m, HM⟩ : ∃ m, Hid (2 * W = m) := ⟨_, rfl⟩
  have hm : m ≤ 1024 := by rw [← HM.out]; omega
  rw [HM.out] at HI ⊢
  clear h hi
  go_enter Tryd.func61, Tryd.ntmps61
  go_wp2
  go_loopw [9] (fun i wr => ∃ k : Nat, k ≤ m ∧ i = .int .i64 k ∧ Hid (looseF s k = false) ∧ Hid (Below w.heap.size w wr)) (fun i _ => m - (intOf i).toNat)
  case atStart => exact ⟨0, Nat.zero_le _, rfl, rfl, Below.refl _ _⟩
  case round =>
    obtain ⟨k, hk, rfl, HL, HB⟩ := hrel
    by_cases hlt : k < m
    · have hc := (HI.out.below HB.out).cell k hlt
      have hx1 := bits_xor1 k (by omega)
      have CK := hid (knows_nat wr g b L W s.K (HP.out.below HB.out) (((k ^^^ 1 : Nat) : Int)) (k ^^^ 1) rfl)
      have HLS : Hid (looseF s (k + 1) = (s.I k && (s.K (k ^^^ 1)).isNone)) := by
        have := HL.out
        unfold looseF
        rw [this]
        exact Bool.false_or _
      generalize s.I k = ik at hc HLS
      generalize k ^^^ 1 = y at hx1 CK HLS
      cases ik with
      | false =>
        go_wp2
        exact ⟨⟨k + 1, by omega, by go_num, HLS.out, HB⟩, by simp [intOf]; omega⟩
      | true =>
        go_wp2_with fail
        refine CK.out.mono ?_
        rintro e w1 ⟨rfl, hB1⟩
        have HB1 := hid (HB.out.trans (hB1.mono HB.out.size))
        clear hB1 CK hc
        obtain ⟨kk, HKK⟩ : ∃ c, Hid ((s.K y).isSome = c) := ⟨_, rfl⟩
        rw [HKK.out]
        cases kk with
        | true =>
          have HLT : Hid (looseF s (k + 1) = false) := by
            rw [HLS.out]
            have := HKK.out
            cases hx : s.K y with
            | none => rw [hx] at this; cases this
            | some _ => exact rfl
          go_wp2
          exact ⟨⟨k + 1, by omega, by go_num, HLT, HB1⟩, by simp [intOf]; omega⟩
        | false =>
          have HLT : Hid (looseF s m = true) := by
            refine loose_mono (show k + 1 ≤ m by omega) ?_
            rw [HLS.out]
            have := HKK.out
            cases hx : s.K y with
            | none => rfl
            | some _ => rw [hx] at this; cases this
          go_wp2
          go_ret
          exact ⟨by rw [HLT.out]; rfl, HB1.out⟩
    · have hkm : k = m := by omega
      have HLT : Hid (looseF s m = false) := by rw [← hkm]; exact HL
      clear hkm
      go_wp2
      go_ret
      exact ⟨by rw [HLT.out]; rfl, HB.out⟩
/-- What was laid in, taken out again. -/
def undoK (K : Kn) (I : Nat → Bool) (m : Nat) : Kn := fun x => if x < m ∧ I x = true then none else K x
theorem undo_zero (K : Kn) (I : Nat → Bool) : undoK K I 0 = K := by funext x; unfold undoK; rw [if_neg (by omega)]
theorem undo_step_in (K : Kn) (I : Nat → Bool) (k : Nat) (h : I k = true) : kdel (undoK K I k) k = undoK K I (k + 1) := by
  funext x
  unfold kdel undoK
  by_cases e : x = k
  · subst e; simp [h]
  · rw [if_neg e]
    by_cases q : x < k ∧ I x = true
    · rw [if_pos q, if_pos ⟨by omega, q.2⟩]
    · rw [if_neg q, if_neg (fun z => q ⟨by omega, z.2⟩)]
theorem undo_step_out (K : Kn) (I : Nat → Bool) (k : Nat) (h : I k = false) : undoK K I k = undoK K I (k + 1) := by
  funext x
  unfold undoK
  by_cases q : x < k ∧ I x = true
  · rw [if_pos q, if_pos ⟨by omega, q.2⟩]
  · rw [if_neg q, if_neg (fun z => q ⟨by
      by_cases e : x = k
      · subst e; rw [h] at z; cases z.2
      · omega, z.2⟩)]
theorem undo_all {W : Nat} {K0 : Kn} {s : PS} (h : InvS W K0 s) : undoK s.K s.I (2 * W) = K0 := by
  funext x
  unfold undoK
  cases hi : s.I x with
  | true => rw [if_pos ⟨(h.inn x hi).2.2.2, rfl⟩, (h.inn x hi).1]
  | false => rw [if_neg (fun q => by cases q.2)]; exact h.out x hi
/-- .. if it is refused. -/
def undoR (r : Bool) (K : Kn) (I : Nat → Bool) (m : Nat) : Kn := if r then undoK K I m else K
set_option maxRecDepth 100000 in
set_option maxHeartbeats 2000000 in
theorem undo_any (w : World) (u : FrameMode) (g b L W n ci cr cp : Nat) (s : PS) (r : Bool) (h : HPf w g b L W s.K) (hi : HIn w n (2 * W) s.I) (hW : W ≤ 512)
    (h1 : w.cell? ⟨ci, 0, none⟩ = some (.slice (some ⟨n, 0, none⟩) (2 * W) (2 * W))) (h2 : w.cell? ⟨cr, 0, none⟩ = some (.bool r)) (h3 : w.cell? ⟨cp, 0, none⟩ = some (.pointer (some ⟨g, 0, none⟩))) :
    CallsD Tryd.prog 59 #[.pointer (some ⟨ci, 0, none⟩), .pointer (some ⟨cr, 0, none⟩), .pointer (some ⟨cp, 0, none⟩)] u w fun e u' w' => u' = u ∧ e = .returned (.tuple #[]) ∧ HPf w' g b L W (undoR r s.K s.I (2 * W)) ∧ w.grownBy w' (some b) := by
  have HP := hid h
  have HI := hid hi
  have hne := hi.ne h
  have hgb := h.ne
  have hnb : ∀ (c : Nat) (v : Value), w.cell? ⟨c, 0, none⟩ = some v → c ≠ b := fun c v hc e => by
    obtain ⟨es, cl, q, _⟩ := h.2
    subst e
    simp [World.cell?, q] at hc
  have hb2 := hnb cr _ h2
  have hb3 := hnb cp _ h3
  have H2 := hid h2
  have H3 := hid h3
  obtain ⟨m, HM⟩ : ∃ m, Hid (2 * W = m) := ⟨_, rfl⟩
  have hm : m ≤ 1024 := by rw [← HM.out]; omega
  rw [HM.out] at HI h1 ⊢
  clear h hi h2 h3 hnb
  go_enter_d Tryd.func59, Tryd.ntmps59
  go_wp2
  clear h1
  go_loopw [7] (fun i wr => ∃ k : Nat, k ≤ m ∧ i = .int .i64 k ∧ Hid (HPf wr g b L W (undoR r s.K s.I k)) ∧ Hid (w.grownBy wr (some b))) (fun i _ => m - (intOf i).toNat)
  case atStart => exact ⟨0, Nat.zero_le _, rfl, by unfold undoR; rw [undo_zero, ite_self]; exact HP, ⟨rfl, rfl, rfl, Nat.le_refl _, fun _ _ _ => rfl⟩⟩
  case round =>
    obtain ⟨k, hk, rfl, HK, HG⟩ := hrel
    by_cases hlt : k < m
    · have hc : wr.cell? ⟨n, k, none⟩ = some (.bool (s.I k)) := HG.out.cell (HI.out.cell k hlt) (by simp; omega)
      have hcr : wr.cell? ⟨cr, 0, none⟩ = some (.bool r) := HG.out.cell H2.out (by simp; omega)
      obtain ⟨ik, HIK⟩ : ∃ c, Hid (s.I k = c) := ⟨_, rfl⟩
      rw [HIK.out] at hc
      cases ik with
      | false =>
        go_wp2
        refine ⟨⟨k + 1, by omega, by go_num, ?_, HG⟩, by simp [intOf]; omega⟩
        unfold undoR
        rw [← undo_step_out s.K s.I k HIK.out]
        exact HK
      | true =>
        cases r with
        | false =>
          go_wp2
          exact ⟨⟨k + 1, by omega, by go_num, HK, HG⟩, by simp [intOf]; omega⟩
        | true =>
          have hcp : wr.cell? ⟨cp, 0, none⟩ = some (.pointer (some ⟨g, 0, none⟩)) := HG.out.cell H3.out (by simp; omega)
          have hc2 := HK.out.c2
          obtain ⟨w', hdel, hM', hG', hs'⟩ := run_delete HK.out.2 k 0
          have HM' := hid hM'
          have HG' := hid hG'
          clear hM' hG'
          go_wp2
          have HG2 : Hid (w.grownBy w' (some b)) := ⟨HG'.out.os.trans HG.out.os, HG'.out.tape.trans HG.out.tape, HG'.out.output.trans HG.out.output, Nat.le_trans HG.out.size HG'.out.size, fun q q1 q2 => (HG'.out.block q (Nat.lt_of_lt_of_le q1 HG.out.size) q2).trans (HG.out.block q q1 q2)⟩
          refine ⟨⟨k + 1, by omega, by go_num, ?_, HG2⟩, by simp [intOf]; omega⟩
          refine hid ⟨(HG'.out.block g HK.out.lt (by simp; omega)).trans HK.out.1, ?_⟩
          have := HM'.out
          unfold undoR at this ⊢
          simp only [if_true] at this ⊢
          rw [undo_step_in s.K s.I k HIK.out] at this
          exact this
    · have hkm : k = m := by omega
      subst hkm
      go_wp2
      go_end0
      exact ⟨rfl, HK.out, HG.out⟩
end Go.Proofs.YtjmlpkemjafifaaDoor

/- Put of proof, walked. -/
set_option linter.unusedVariables false
set_option linter.unusedSimpArgs false
namespace Go.Proofs.YtjmlpkemjafifaaDoor
open Go.RowKit

/-- What Put leaves. -/
def PutQ (w : World) (g b L W : Nat) (K : Kn) (ns : List NdT) (e : Ending) (w' : World) : Prop :=
  e = .returned (.int .i64 (putF W K ns).1) ∧ HPf w' g b L W (putF W K ns).2 ∧ w.grownBy w' (some b)
set_option maxRecDepth 100000 in
set_option maxHeartbeats 4000000 in
theorem put_any (w : World) (g b L W : Nat) (K : Kn) (v : Value) (ns : List NdT) (h : HPf w g b L W K) (hW : W ≤ 512) (hW1 : 1 ≤ W) (hv : HNd w v ns) (hkc : KC w) :
    Calls Tryd.prog 31 #[.pointer (some ⟨g, 0, none⟩), v] w fun e w' => PutQ w g b L W K ns e w' := by
  obtain ⟨p, c, ev, _, _, _⟩ := hv.open
  have HV := hid hv
  have HP := hid h
  have HKC := hid hkc
  have hgl := h.lt
  have hbl := h.2.lt
  obtain ⟨W0, hW0⟩ : ∃ W0, Hid (w.alloc (.cells #[.pointer (some ⟨g, 0, none⟩)] 46) = W0) := ⟨_, rfl⟩
  have HB0 : Hid (Below w.heap.size w W0) := by rw [← hW0.out]; exact (Below.refl _ w).alloc (Nat.le_refl _) _
  have hc0 : W0.cell? ⟨w.heap.size, 0, none⟩ = some (.pointer (some ⟨g, 0, none⟩)) := by
    rw [← hW0.out, cell_of_row _ w.heap.size 0 _ _ _ (heap_alloc_new w _)]; rfl
  have CM := hid (pmade_ok W0 g b L W K (h.below HB0.out))
  subst ev
  clear h hv hkc
  go_enter_defers Tryd.func31, Tryd.ntmps31
  go_wp2_with fail
  rw [hW0.out]
  have HC0 := hid hc0
  refine CM.out.mono ?_
  rintro e w1 ⟨rfl, hB1⟩
  have BL1 := hid (HB0.out.trans (hB1.mono HB0.out.size))
  have hc1 : w1.cell? ⟨w.heap.size, 0, none⟩ = some (.pointer (some ⟨g, 0, none⟩)) := (hB1.cell (World.block_lt_of_cell? W0 _ HC0.out)).trans HC0.out
  have CN := hid (none_any w1 g b L W K (HP.out.below BL1.out) hW)
  clear hB1 CM hc0
  go_wp2_with fail
  refine CN.out.mono ?_
  rintro e w2 ⟨rfl, hI2, hB2, hs2⟩
  have BL2 := hid hB2
  have HI2 := hid hI2
  have HC1 := hid hc1
  have HS2 := hid hs2
  clear hI2 hB2 hs2 CN hc1
  obtain ⟨n, HN⟩ : ∃ n, Hid (w1.heap.size = n) := ⟨_, rfl⟩
  rw [HN.out] at HI2 BL2 HS2 ⊢
  have hnw : w.heap.size < n := by
    have := World.block_lt_of_cell? w1 _ HC1.out
    rw [HN.out] at this
    exact this
  obtain ⟨ci, HCI⟩ : ∃ n, Hid (w2.heap.size = n) := ⟨_, rfl⟩
  have hci : n < ci := by have := HS2.out; have := HCI.out; omega
  obtain ⟨W3, hW3⟩ : ∃ W3, (w2.alloc (.cells #[.slice (some ⟨n, 0, none⟩) (2 * W) (2 * W)] 96)).alloc (.cells #[.bool true] 4) = W3 := ⟨_, rfl⟩
  have HB3 : Hid (Below w2.heap.size w2 W3) := by rw [← hW3]; exact ((Below.refl _ w2).alloc (Nat.le_refl _) _).alloc (by simp) _
  have hc5 : W3.cell? ⟨ci, 0, none⟩ = some (.slice (some ⟨n, 0, none⟩) (2 * W) (2 * W)) := by
    rw [← hW3, ← HCI.out, cell_of_row _ w2.heap.size 0 _ _ _ (by rw [heap_alloc_old _ _ (by simp)]; exact heap_alloc_new w2 _)]; rfl
  have hc6 : W3.cell? ⟨ci + 1, 0, none⟩ = some (.bool true) := by
    rw [← hW3, ← HCI.out, cell_of_row _ (w2.heap.size + 1) 0 _ _ _ (by rw [show w2.heap.size + 1 = (w2.alloc (.cells #[.slice (some ⟨n, 0, none⟩) (2 * W) (2 * W)] 96)).heap.size by simp]; exact heap_alloc_new _ _)]; rfl
  have HB6 : Hid (W3.heap[ci + 1]? = some (.cells #[.bool true] 4 (0, 0))) := by
    rw [← hW3, ← HCI.out, show w2.heap.size + 1 = (w2.alloc (.cells #[.slice (some ⟨n, 0, none⟩) (2 * W) (2 * W)] 96)).heap.size by simp]; exact heap_alloc_new _ _
  have hc2 : W3.cell? ⟨w.heap.size, 0, none⟩ = some (.pointer (some ⟨g, 0, none⟩)) := by
    rw [HB3.out.cell (by show w.heap.size < w2.heap.size; rw [HCI.out]; omega), BL2.out.cell (by show w.heap.size < n; omega)]
    exact HC1.out
  have BL3 : Hid (Below w.heap.size w W3) := (BL1.out.trans (BL2.out.mono (by omega))).trans (HB3.out.mono (by rw [HCI.out]; omega))
  have HP3 := hid (HP.out.below BL3.out)
  have HI3 := hid (HI2.out.below HB3.out)
  have HS3 : Hid (W3.heap.size = ci + 2) := by rw [← hW3, ← HCI.out]; refine hid ?_; simp
  have CL := hid (lay_any W3 g b L W n ⟨K, emptyI⟩ _ ns HP3.out HI3.out hW (HV.out.below BL3.out))
  have HINV0 := hid (InvS.begin W K)
  have hsz : w2.heap.size = ci := HCI.out
  have HF2 := hid hc2
  have HF5 := hid hc5
  have HF6 := hid hc6
  have HKEEP : Hid (∀ (u : World), Gr2 W3 u b n → u.cell? ⟨w.heap.size, 0, none⟩ = some (.pointer (some ⟨g, 0, none⟩)) ∧ u.cell? ⟨ci, 0, none⟩ = some (.slice (some ⟨n, 0, none⟩) (2 * W) (2 * W)) ∧ u.cell? ⟨ci + 1, 0, none⟩ = some (.bool true)) := fun u hu => by
    have q := HS3.out
    refine ⟨?_, ?_, ?_⟩
    · rw [World.cell?_of_block (w := W3) (hu.block w.heap.size (by omega) (by omega) (by omega))]; exact HF2.out
    · rw [World.cell?_of_block (w := W3) (hu.block ci (by omega) (by omega) (by omega))]; exact HF5.out
    · rw [World.cell?_of_block (w := W3) (hu.block (ci + 1) (by omega) (by omega) (by omega))]; exact HF6.out
  have FIN : Hid (∀ (u wf : World), Gr2 W3 u b n → u.grownBy wf (some b) → w.grownBy wf (some b)) := fun u wf h1 h2 =>
    ⟨h2.os.trans (h1.os.trans BL3.out.os), h2.tape.trans (h1.tape.trans BL3.out.tape), h2.output.trans (h1.output.trans BL3.out.output), Nat.le_trans BL3.out.size (Nat.le_trans h1.size h2.size), fun k hk hne => by
      have hk3 : k < W3.heap.size := Nat.lt_of_lt_of_le hk BL3.out.size
      have hkb : k ≠ b := fun e => hne (by rw [e])
      exact (h2.block k (Nat.lt_of_lt_of_le hk3 h1.size) hne).trans ((h1.block k hk3 hkb (by omega)).trans (BL3.out.block k hk))⟩
  clear HB3 HS2
  go_wp2_with fail
  refine CL.out.mono ?_
  rintro e w4 ⟨rfl, hP4, hI4, hG4⟩
  have HPF : Hid (putF W K ns = (if (layF W ns ⟨K, emptyI⟩).1 ≠ 0 then ((layF W ns ⟨K, emptyI⟩).1, K) else
      if (riseF (W - 1) (layF W ns ⟨K, emptyI⟩).2).1 ≠ 0 then ((riseF (W - 1) (layF W ns ⟨K, emptyI⟩).2).1, K)
      else if looseF (riseF (W - 1) (layF W ns ⟨K, emptyI⟩).2).2 (2 * W) = true then (122, K) else (0, (riseF (W - 1) (layF W ns ⟨K, emptyI⟩).2).2.K))) := rfl
  have HIV := hid (InvS.lay ns _ HINV0.out)
  have HIR : Hid (InvS W K (riseF (W - 1) (layF W ns ⟨K, emptyI⟩).2).2) := InvS.rise (W - 1) _ (by omega) HIV.out
  generalize layF W ns ⟨K, emptyI⟩ = rL at hP4 hI4 HPF HIV HIR ⊢
  obtain ⟨eL, sL⟩ := rL
  simp only at hP4 hI4 HPF HIV HIR ⊢
  have HP4 := hid hP4
  have HI4 := hid hI4
  have HG4 := hid hG4
  clear hP4 hI4 hG4 CL hW3 hsz hc2 hc5 hc6 HF2 HF5 HF6
  have HF2 := hid (HKEEP.out w4 HG4.out).1
  have HF5 := hid (HKEEP.out w4 HG4.out).2.1
  have HF6 := hid (HKEEP.out w4 HG4.out).2.2
  by_cases heL : eL = 0
  case neg =>
    have HE : Hid (putF W K ns = (eL, K)) := by rw [HPF.out, if_pos heL]; exact rfl
    go_wp2
    refine leaves_cons (f := 59) (args := #[.pointer (some ⟨ci, 0, none⟩), .pointer (some ⟨ci + 1, 0, none⟩), .pointer (some ⟨w.heap.size, 0, none⟩)]) (by simp) (by simp [go_sem]) ?_
    refine (undo_any w4 .returning g b L W n ci (ci + 1) w.heap.size sL true HP4.out HI4.out hW HF5.out HF6.out HF2.out).mono ?_
    rintro e u' wf ⟨rfl, rfl, hPf, hGf⟩
    refine ⟨_, results_tmp rfl _ _ _, by rw [HE.out]; rfl, ?_, FIN.out _ wf HG4.out hGf⟩
    rw [HE.out]
    have := hPf
    unfold undoR at this
    rw [if_pos rfl, undo_all HIV.out] at this
    exact this
  case pos =>
    subst heL
    rw [if_neg (by simp)] at HPF
    have CR := hid (rise_any w4 g b L W n sL HP4.out HI4.out hW hW1 ((HKC.out.below BL3.out).gr2 HP3.out.2 HI3.out HG4.out))
    have hc2 := HF2.out
    have hc5 := HF5.out
    go_wp2_with fail
    clear hc2 hc5
    refine CR.out.mono ?_
    rintro e w5 ⟨rfl, hP5, hI5, hG5⟩
    generalize riseF (W - 1) sL = rR at hP5 hI5 HPF HIR ⊢
    obtain ⟨eR, sR⟩ := rR
    simp only at hP5 hI5 HPF HIR ⊢
    have HP5 := hid hP5
    have HI5 := hid hI5
    have HG5 := hid (HG4.out.trans hG5)
    clear hP5 hI5 hG5 CR HF2 HF5 HF6
    have HF2 := hid (HKEEP.out w5 HG5.out).1
    have HF5 := hid (HKEEP.out w5 HG5.out).2.1
    have HF6 := hid (HKEEP.out w5 HG5.out).2.2
    by_cases heR : eR = 0
    case neg =>
      have HE : Hid (putF W K ns = (eR, K)) := by rw [HPF.out, if_pos heR]; exact rfl
      go_wp2
      refine leaves_cons (f := 59) (args := #[.pointer (some ⟨ci, 0, none⟩), .pointer (some ⟨ci + 1, 0, none⟩), .pointer (some ⟨w.heap.size, 0, none⟩)]) (by simp) (by simp [go_sem]) ?_
      refine (undo_any w5 .returning g b L W n ci (ci + 1) w.heap.size sR true HP5.out HI5.out hW HF5.out HF6.out HF2.out).mono ?_
      rintro e u' wf ⟨rfl, rfl, hPf, hGf⟩
      refine ⟨_, results_tmp rfl _ _ _, by rw [HE.out]; rfl, ?_, FIN.out _ wf HG5.out hGf⟩
      rw [HE.out]
      have := hPf
      unfold undoR at this
      rw [if_pos rfl, undo_all HIR.out] at this
      exact this
    case pos =>
      subst heR
      rw [if_neg (by simp)] at HPF
      have CO := hid (loose_any w5 g b L W n sR HP5.out HI5.out hW)
      have hc2 := HF2.out
      have hc5 := HF5.out
      go_wp2_with fail
      clear hc2 hc5
      refine CO.out.mono ?_
      rintro e w6 ⟨rfl, hB6⟩
      have HP6 := hid (HP5.out.below hB6)
      have HI6 := hid (HI5.out.below hB6)
      have HG6 := hid (HG5.out.trans (Gr2.ofBelow hB6 b n))
      clear hB6 CO HF2 HF5 HF6
      have HF2 := hid (HKEEP.out w6 HG6.out).1
      have HF5 := hid (HKEEP.out w6 HG6.out).2.1
      have HF6 := hid (HKEEP.out w6 HG6.out).2.2
      generalize looseF sR (2 * W) = lo at HPF ⊢
      cases lo with
      | true =>
        have HE : Hid (putF W K ns = (122, K)) := by rw [HPF.out]; exact rfl
        go_wp2
        refine leaves_cons (f := 59) (args := #[.pointer (some ⟨ci, 0, none⟩), .pointer (some ⟨ci + 1, 0, none⟩), .pointer (some ⟨w.heap.size, 0, none⟩)]) (by simp) (by simp [go_sem]) ?_
        refine (undo_any w6 .returning g b L W n ci (ci + 1) w.heap.size sR true HP6.out HI6.out hW HF5.out HF6.out HF2.out).mono ?_
        rintro e u' wf ⟨rfl, rfl, hPf, hGf⟩
        refine ⟨_, results_tmp rfl _ _ _, by rw [HE.out]; rfl, ?_, FIN.out _ wf HG6.out hGf⟩
        rw [HE.out]
        have := hPf
        unfold undoR at this
        rw [if_pos rfl, undo_all HIR.out] at this
        exact this
      | false =>
        have HE : Hid (putF W K ns = (0, sR.K)) := by rw [HPF.out]; exact rfl
        have hc6 := HF6.out
        have hs6 : ci + 1 < w6.heap.size := World.block_lt_of_cell? w6 _ HF6.out
        have hfr6 : w6.frozen? ⟨ci + 1, 0, none⟩ = false := by
          have e1 := (HG6.out.block (ci + 1) (by have := HS3.out; omega) (by omega) (by omega)).trans HB6.out
          exact frozen_of_row w6 (ci + 1) 0 _ _ e1
        go_wp2
        have HF2' : Hid ((w6.setCell ⟨ci + 1, 0, none⟩ (.bool false)).cell? ⟨w.heap.size, 0, none⟩ = some (.pointer (some ⟨g, 0, none⟩))) := by
          rw [World.cell?_of_block (w := w6) (Below.heap_setCell w6 _ _ _ (by show w.heap.size ≠ ci + 1; omega))]; exact HF2
        have HF5' : Hid ((w6.setCell ⟨ci + 1, 0, none⟩ (.bool false)).cell? ⟨ci, 0, none⟩ = some (.slice (some ⟨n, 0, none⟩) (2 * W) (2 * W))) := by
          rw [World.cell?_of_block (w := w6) (Below.heap_setCell w6 _ _ _ (by show ci ≠ ci + 1; omega))]; exact HF5
        have HB7 := (HG6.out.block (ci + 1) (by have := HS3.out; omega) (by omega) (by omega)).trans HB6.out
        have HF6' : Hid ((w6.setCell ⟨ci + 1, 0, none⟩ (.bool false)).cell? ⟨ci + 1, 0, none⟩ = some (.bool false)) := by
          rw [cell_of_row _ (ci + 1) 0 _ _ _ (heap_setCell_same w6 (ci + 1) 0 _ _ _ HB7)]; exact rfl
        obtain ⟨w7, HW7⟩ : ∃ w7, Hid (w6.setCell ⟨ci + 1, 0, none⟩ (.bool false) = w7) := ⟨_, rfl⟩
        have HO7 : Hid (∀ k, k ≠ ci + 1 → w7.heap[k]? = w6.heap[k]?) := fun k hk => by rw [← HW7.out]; exact Below.heap_setCell w6 _ _ _ hk
        have HG7 : Hid (w7.os = w6.os ∧ w7.tape = w6.tape ∧ w7.output = w6.output ∧ w6.heap.size ≤ w7.heap.size) := by rw [← HW7.out]; exact ⟨rfl, rfl, rfl, by simp [World.setCell]⟩
        rw [HW7.out] at HF2' HF5' HF6' ⊢
        clear HF2 HF5 HF6
        have HF2 := hid HF2'.out
        have HF5 := hid HF5'.out
        have HF6 := hid HF6'.out
        have HP7 : Hid (HPf w7 g b L W sR.K) := HP6.out.of (HO7.out g (by omega)) (HO7.out b (by omega))
        have HI7 : Hid (HIn w7 n (2 * W) sR.I) := (HO7.out n (by omega)).trans HI6.out
        have FIN7 : Hid (∀ wf : World, w7.grownBy wf (some b) → w.grownBy wf (some b)) := fun wf h2 =>
          ⟨h2.os.trans (HG7.out.1.trans (HG6.out.os.trans BL3.out.os)), h2.tape.trans (HG7.out.2.1.trans (HG6.out.tape.trans BL3.out.tape)), h2.output.trans (HG7.out.2.2.1.trans (HG6.out.output.trans BL3.out.output)), Nat.le_trans BL3.out.size (Nat.le_trans HG6.out.size (Nat.le_trans HG7.out.2.2.2 h2.size)), fun k hk hne => by
            have hk3 : k < W3.heap.size := Nat.lt_of_lt_of_le hk BL3.out.size
            have hkb : k ≠ b := fun e => hne (by rw [e])
            exact (h2.block k (Nat.lt_of_lt_of_le (Nat.lt_of_lt_of_le hk3 HG6.out.size) HG7.out.2.2.2) hne).trans ((HO7.out k (by omega)).trans ((HG6.out.block k hk3 hkb (by omega)).trans (BL3.out.block k hk)))⟩
        refine leaves_cons (f := 59) (args := #[.pointer (some ⟨ci, 0, none⟩), .pointer (some ⟨ci + 1, 0, none⟩), .pointer (some ⟨w.heap.size, 0, none⟩)]) (by simp) (by simp [go_sem]) ?_
        refine (undo_any w7 .returning g b L W n ci (ci + 1) w.heap.size sR false HP7.out HI7.out hW HF5.out HF6.out HF2.out).mono ?_
        rintro e u' wf ⟨rfl, rfl, hPf, hGf⟩
        refine ⟨_, results_tmp rfl _ _ _, by rw [HE.out]; rfl, ?_, FIN7.out wf hGf⟩
        rw [HE.out]
        have := hPf
        unfold undoR at this
        rw [if_neg (by simp)] at this
        exact this
end Go.Proofs.YtjmlpkemjafifaaDoor

/- What is asked of a proof that is none, walked. -/
set_option linter.unusedVariables false
set_option linter.unusedSimpArgs false
namespace Go.Proofs.YtjmlpkemjafifaaDoor
open Go.RowKit

/-- v points to no proof, or to one that nobody made. -/
def Unm (w : World) (v : Value) : Prop := v = .pointer none ∨ ∃ g, v = .pointer (some ⟨g, 0, none⟩) ∧ w.cell? ⟨g, 2, none⟩ = some (.map none)
theorem Unm.below {w w' : World} {v : Value} (h : Unm w v) (hB : Below w.heap.size w w') : Unm w' v := by
  rcases h with h | ⟨g, h1, h2⟩
  · exact Or.inl h
  · exact Or.inr ⟨g, h1, (hB.cell (World.block_lt_of_cell? w _ h2)).trans h2⟩
theorem Unm.made {w : World} {v : Value} (h : Unm w v) : Calls Tryd.prog 55 #[v] w fun e w' => e = .returned (.bool false) ∧ Below w.heap.size w w' := by
  rcases h with rfl | ⟨g, rfl, h2⟩
  · exact pmade_nil w
  · exact pmade_zero w g h2
set_option maxRecDepth 100000 in
theorem kn_un (w : World) (v : Value) (h : Unm w v) (i : Int) : Calls Tryd.prog 27 #[v, .int .i64 i] w fun e w' => e = .returned (.tuple #[.agg (cellsB zeros32), .bool false]) ∧ Below w.heap.size w w' := by
  obtain ⟨zd, HZD⟩ : ∃ zd, Hid (cellsB zeros32 = zd) := ⟨_, rfl⟩
  obtain ⟨W0, hW0⟩ : ∃ W0, Hid (w.alloc (.cells zd 28) = W0) := ⟨_, rfl⟩
  have HB0 : Hid (Below w.heap.size w W0) := by rw [← hW0.out]; exact (Below.refl _ w).alloc (Nat.le_refl _) _
  have HR0 : Hid (W0.heap[w.heap.size]? = some (.cells zd 28 (0, 0))) := by rw [← hW0.out]; exact heap_alloc_new w _
  have CM := hid (h.below HB0.out).made
  have hzs : zd.size = 32 := by rw [← HZD.out, cellsB_size, zeros32_length]
  have SZ : Hid ((Tryd.prog.info? 28).map (·.size) = some zd.size) := by rw [hzs]; exact size_digest
  have H1 : Hid (zd.all (·.oneCell') = true) := by rw [← HZD.out]; exact cellsB_one _
  clear h hzs
  go_enter Tryd.func27, Tryd.ntmps27
  go_wp2_with (first | (refine wpList_alloc_digest rfl rfl ?_; rw [HZD.out, hW0.out]) | fail)
  refine CM.out.mono ?_
  rintro e w1 ⟨rfl, hB1⟩
  have HR1 : Hid (w1.heap[w.heap.size]? = some (.cells zd 28 (0, 0))) := (hB1.block _ (Array.getElem?_eq_some_iff.1 HR0.out).1).trans HR0.out
  have BL := hid (HB0.out.trans (hB1.mono HB0.out.size))
  clear hB1 CM
  go_wp2_with (first | (refine wpList_build_digest rfl rfl ?_; rw [HZD.out]) | (refine wpList_store_row rfl 28 _ _ rfl w.heap.size zd rfl rfl 28 zd HR1.out SZ.out rfl H1.out ?_))
  refine bodyPost_ret (v := .tuple #[.agg zd, .bool false]) (results_cellt (p := 4) (u := 5) (ty := 28) rfl _ _ w.heap.size 28 zd (0, 0) _ rfl (setRow_heap _ _ _ _ _ _ HR1.out) Tryd.underlying28 rfl SZ.out _ rfl) rfl ?_
  rw [HZD.out]
  exact ⟨rfl, below_setRow BL.out (Nat.le_refl _) _⟩
set_option maxRecDepth 100000 in
theorem lf_un (w : World) (v : Value) (h : Unm w v) (i : Int) : Calls Tryd.prog 32 #[v, .int .i64 i] w fun e w' => e = .returned (.tuple #[.agg (cellsB zeros32), .bool false]) ∧ Below w.heap.size w w' := by
  obtain ⟨zd, HZD⟩ : ∃ zd, Hid (cellsB zeros32 = zd) := ⟨_, rfl⟩
  obtain ⟨W0, hW0⟩ : ∃ W0, Hid (w.alloc (.cells zd 28) = W0) := ⟨_, rfl⟩
  have HB0 : Hid (Below w.heap.size w W0) := by rw [← hW0.out]; exact (Below.refl _ w).alloc (Nat.le_refl _) _
  have HR0 : Hid (W0.heap[w.heap.size]? = some (.cells zd 28 (0, 0))) := by rw [← hW0.out]; exact heap_alloc_new w _
  have CM := hid (h.below HB0.out).made
  have hzs : zd.size = 32 := by rw [← HZD.out, cellsB_size, zeros32_length]
  have SZ : Hid ((Tryd.prog.info? 28).map (·.size) = some zd.size) := by rw [hzs]; exact size_digest
  have H1 : Hid (zd.all (·.oneCell') = true) := by rw [← HZD.out]; exact cellsB_one _
  clear h hzs
  go_enter Tryd.func32, Tryd.ntmps32
  go_wp2_with (first | (refine wpList_alloc_digest rfl rfl ?_; rw [HZD.out, hW0.out]) | fail)
  refine CM.out.mono ?_
  rintro e w1 ⟨rfl, hB1⟩
  have HR1 : Hid (w1.heap[w.heap.size]? = some (.cells zd 28 (0, 0))) := (hB1.block _ (Array.getElem?_eq_some_iff.1 HR0.out).1).trans HR0.out
  have BL := hid (HB0.out.trans (hB1.mono HB0.out.size))
  clear hB1 CM
  go_wp2_with (first | (refine wpList_build_digest rfl rfl ?_; rw [HZD.out]) | (refine wpList_store_row rfl 28 _ _ rfl w.heap.size zd rfl rfl 28 zd HR1.out SZ.out rfl H1.out ?_))
  refine bodyPost_ret (v := .tuple #[.agg zd, .bool false]) (results_cellt (p := 4) (u := 5) (ty := 28) rfl _ _ w.heap.size 28 zd (0, 0) _ rfl (setRow_heap _ _ _ _ _ _ HR1.out) Tryd.underlying28 rfl SZ.out _ rfl) rfl ?_
  rw [HZD.out]
  exact ⟨rfl, below_setRow BL.out (Nat.le_refl _) _⟩
set_option maxRecDepth 100000 in
theorem ne_un (w : World) (v : Value) (h : Unm w v) (i : Int) : Calls Tryd.prog 28 #[v, .int .i64 i] w fun e w' => e = .returned (.tuple #[.slice none 0 0, .int .i64 1]) ∧ Below w.heap.size w w' := by
  have CM := hid h.made
  clear h
  go_enter Tryd.func28, Tryd.ntmps28
  go_wp2_with fail
  refine CM.out.mono ?_
  rintro e w1 ⟨rfl, hB1⟩
  have BL := hid hB1
  clear hB1 CM
  go_wp2
  go_ret2
  exact ⟨rfl, BL.out⟩
set_option maxRecDepth 100000 in
theorem ch_un (w : World) (v : Value) (h : Unm w v) (i : Int) : Calls Tryd.prog 29 #[v, .int .i64 i] w fun e w' => e = .returned (.tuple #[.slice none 0 0, .int .i64 1]) ∧ Below w.heap.size w w' := by
  have CM := hid h.made
  clear h
  go_enter Tryd.func29, Tryd.ntmps29
  go_wp2_with fail
  refine CM.out.mono ?_
  rintro e w1 ⟨rfl, hB1⟩
  have BL := hid hB1
  clear hB1 CM
  go_wp2
  go_ret2
  exact ⟨rfl, BL.out⟩
set_option maxRecDepth 100000 in
theorem le_un (w : World) (v : Value) (h : Unm w v)  : Calls Tryd.prog 23 #[v] w fun e w' => e = .returned (.int .i64 0) ∧ Below w.heap.size w w' := by
  have CM := hid h.made
  clear h
  go_enter Tryd.func23, Tryd.ntmps23
  go_wp2_with fail
  refine CM.out.mono ?_
  rintro e w1 ⟨rfl, hB1⟩
  have BL := hid hB1
  clear hB1 CM
  go_wp2
  go_ret
  exact ⟨rfl, BL.out⟩
set_option maxRecDepth 100000 in
theorem wi_un (w : World) (v : Value) (h : Unm w v)  : Calls Tryd.prog 24 #[v] w fun e w' => e = .returned (.int .i64 0) ∧ Below w.heap.size w w' := by
  have CM := hid h.made
  clear h
  go_enter Tryd.func24, Tryd.ntmps24
  go_wp2_with fail
  refine CM.out.mono ?_
  rintro e w1 ⟨rfl, hB1⟩
  have BL := hid hB1
  clear hB1 CM
  go_wp2
  go_ret
  exact ⟨rfl, BL.out⟩
set_option maxRecDepth 100000 in
theorem cl_un (w : World) (v : Value) (h : Unm w v)  : Calls Tryd.prog 33 #[v] w fun e w' => e = .returned (.pointer none) ∧ Below w.heap.size w w' := by
  have CM := hid h.made
  clear h
  go_enter Tryd.func33, Tryd.ntmps33
  go_wp2_with fail
  refine CM.out.mono ?_
  rintro e w1 ⟨rfl, hB1⟩
  have BL := hid hB1
  clear hB1 CM
  go_wp2
  go_ret
  exact ⟨rfl, BL.out⟩
set_option maxRecDepth 100000 in
theorem pu_un (w : World) (v u : Value) (h : Unm w v) : Calls Tryd.prog 31 #[v, u] w fun e w' => e = .returned (.int .i64 1) ∧ Below w.heap.size w w' := by
  have hv : ∃ q, v = .pointer q := by rcases h with rfl | ⟨g, rfl, _⟩ <;> exact ⟨_, rfl⟩
  obtain ⟨q, rfl⟩ := hv
  obtain ⟨W0, hW0⟩ : ∃ W0, Hid (w.alloc (.cells #[.pointer q] 46) = W0) := ⟨_, rfl⟩
  have HB0 : Hid (Below w.heap.size w W0) := by rw [← hW0.out]; exact (Below.refl _ w).alloc (Nat.le_refl _) _
  have hc0 : W0.cell? ⟨w.heap.size, 0, none⟩ = some (.pointer q) := by
    rw [← hW0.out, cell_of_row _ w.heap.size 0 _ _ _ (heap_alloc_new w _)]; rfl
  have CM := hid (h.below HB0.out).made
  clear h
  go_enter Tryd.func31, Tryd.ntmps31
  go_wp2_with fail
  rw [hW0.out]
  refine CM.out.mono ?_
  rintro e w1 ⟨rfl, hB1⟩
  have BL := hid (HB0.out.trans (hB1.mono HB0.out.size))
  clear hB1 CM
  go_wp2
  go_ret
  exact ⟨rfl, BL.out⟩
set_option maxRecDepth 100000 in
theorem wh_un (w : World) (v : Value) (h : Unm w v) : Calls Tryd.prog 25 #[v] w fun e w' => e = .returned (.bool false) ∧ Below w.heap.size w w' := by
  have HU := hid h
  clear h
  go_enter Tryd.func25, Tryd.ntmps25
  go_wp2
  refine wp_region_held_drew (S := Below w.heap.size w) (by kernel_rfl) (Below.refl _ _).drew (fun hHeld => ?_)
  have HS := hid hHeld
  clear hHeld
  change wpAnyH _ _ _ _ _ _ _ _ (World.drew _)
  refine wpAnyH_take (i := 0) (v := ?_) rfl (by kernel_rfl) (by kernel_rfl) (by kernel_rfl) (fun _ _ _ h => h) (Or.inl ⟨by rfl, ?q0⟩) HS.out ?_
  case q0 => intro w hSw; go_simp; rfl
  simp only [Act.put, List.getElem_toArray, List.getElem_cons_zero, List.getElem_cons_succ, List.setIfInBounds_toArray, List.set_cons_zero, List.set_cons_succ]
  refine wpAnyH_ready (rs := [1]) (by kernel_rfl) (by simp) ?_
  refine AllReadyH.cons rfl (fun K hK => ?_) AllReadyH.nil
  go_simp
  refine ((HU.out.below HS.out).made).mono ?_
  rintro e w1 ⟨rfl, hB1⟩
  have HS1 := hid (HS.out.trans (hB1.mono HS.out.size))
  refine hK.out _ _ HS1.out (fun _ => ?_)
  clear hK K
  have HS := hid HS1.out
  clear HS1 hB1
  refine wpAnyH_take (i := 2) (v := ?_) rfl (by kernel_rfl) (by kernel_rfl) (by kernel_rfl) (fun _ _ _ h => h) (Or.inl ⟨by rfl, ?q2⟩) HS.out ?_
  case q2 => intro w hSw; go_simp; rfl
  simp only [Act.put, List.getElem_toArray, List.getElem_cons_zero, List.getElem_cons_succ, List.setIfInBounds_toArray, List.set_cons_zero, List.set_cons_succ]
  refine wpAnyH_take (i := 3) (v := undef) rfl (by kernel_rfl) (by kernel_rfl) (by kernel_rfl) (fun _ _ _ h => h) (Or.inr ⟨by rfl, rfl⟩) HS.out ?_
  simp only [Act.put, List.getElem_toArray, List.getElem_cons_zero, List.getElem_cons_succ, List.setIfInBounds_toArray, List.set_cons_zero, List.set_cons_succ]
  refine wpAnyH_take (i := 4) (v := undef) rfl (by kernel_rfl) (by kernel_rfl) (by kernel_rfl) (fun _ _ _ h => h) (Or.inr ⟨by rfl, rfl⟩) HS.out ?_
  simp only [Act.put, List.getElem_toArray, List.getElem_cons_zero, List.getElem_cons_succ, List.setIfInBounds_toArray, List.set_cons_zero, List.set_cons_succ]
  refine wpAnyH_take (i := 5) (v := undef) rfl (by kernel_rfl) (by kernel_rfl) (by kernel_rfl) (fun _ _ _ h => h) (Or.inr ⟨by rfl, rfl⟩) HS.out ?_
  simp only [Act.put, List.getElem_toArray, List.getElem_cons_zero, List.getElem_cons_succ, List.setIfInBounds_toArray, List.set_cons_zero, List.set_cons_succ]
  refine wpAnyH_take (i := 6) (v := undef) rfl (by kernel_rfl) (by kernel_rfl) (by kernel_rfl) (fun _ _ _ h => h) (Or.inr ⟨by rfl, rfl⟩) HS.out ?_
  simp only [Act.put, List.getElem_toArray, List.getElem_cons_zero, List.getElem_cons_succ, List.setIfInBounds_toArray, List.set_cons_zero, List.set_cons_succ]
  refine wpAnyH_take (i := 7) (v := undef) rfl (by kernel_rfl) (by kernel_rfl) (by kernel_rfl) (fun _ _ _ h => h) (Or.inr ⟨by rfl, rfl⟩) HS.out ?_
  simp only [Act.put, List.getElem_toArray, List.getElem_cons_zero, List.getElem_cons_succ, List.setIfInBounds_toArray, List.set_cons_zero, List.set_cons_succ]
  refine wpAnyH_take (i := 8) (v := undef) rfl (by kernel_rfl) (by kernel_rfl) (by kernel_rfl) (fun _ _ _ h => h) (Or.inr ⟨by rfl, rfl⟩) HS.out ?_
  simp only [Act.put, List.getElem_toArray, List.getElem_cons_zero, List.getElem_cons_succ, List.setIfInBounds_toArray, List.set_cons_zero, List.set_cons_succ]
  refine wpAnyH_take (i := 9) (v := undef) rfl (by kernel_rfl) (by kernel_rfl) (by kernel_rfl) (fun _ _ _ h => h) (Or.inr ⟨by rfl, rfl⟩) HS.out ?_
  simp only [Act.put, List.getElem_toArray, List.getElem_cons_zero, List.getElem_cons_succ, List.setIfInBounds_toArray, List.set_cons_zero, List.set_cons_succ]
  refine wpAnyH_take (i := 10) (v := undef) rfl (by kernel_rfl) (by kernel_rfl) (by kernel_rfl) (fun _ _ _ h => h) (Or.inr ⟨by rfl, rfl⟩) HS.out ?_
  simp only [Act.put, List.getElem_toArray, List.getElem_cons_zero, List.getElem_cons_succ, List.setIfInBounds_toArray, List.set_cons_zero, List.set_cons_succ]
  refine wpAnyH_take (i := 11) (v := undef) rfl (by kernel_rfl) (by kernel_rfl) (by kernel_rfl) (fun _ _ _ h => h) (Or.inr ⟨by rfl, rfl⟩) HS.out ?_
  simp only [Act.put, List.getElem_toArray, List.getElem_cons_zero, List.getElem_cons_succ, List.setIfInBounds_toArray, List.set_cons_zero, List.set_cons_succ]
  refine wpAnyH_take (i := 12) (v := undef) rfl (by kernel_rfl) (by kernel_rfl) (by kernel_rfl) (fun _ _ _ h => h) (Or.inr ⟨by rfl, rfl⟩) HS.out ?_
  simp only [Act.put, List.getElem_toArray, List.getElem_cons_zero, List.getElem_cons_succ, List.setIfInBounds_toArray, List.set_cons_zero, List.set_cons_succ]
  refine wpAnyH_take (i := 13) (v := undef) rfl (by kernel_rfl) (by kernel_rfl) (by kernel_rfl) (fun _ _ _ h => h) (Or.inr ⟨by rfl, rfl⟩) HS.out ?_
  simp only [Act.put, List.getElem_toArray, List.getElem_cons_zero, List.getElem_cons_succ, List.setIfInBounds_toArray, List.set_cons_zero, List.set_cons_succ]
  refine wpAnyH_take (i := 14) (v := undef) rfl (by kernel_rfl) (by kernel_rfl) (by kernel_rfl) (fun _ _ _ h => h) (Or.inr ⟨by rfl, rfl⟩) HS.out ?_
  simp only [Act.put, List.getElem_toArray, List.getElem_cons_zero, List.getElem_cons_succ, List.setIfInBounds_toArray, List.set_cons_zero, List.set_cons_succ]
  refine wpAnyH_take (i := 15) (v := ?_) rfl (by kernel_rfl) (by kernel_rfl) (by kernel_rfl) (fun _ _ _ h => h) (Or.inl ⟨by rfl, ?q15⟩) HS.out ?_
  case q15 => intro w hSw; go_simp; rfl
  simp only [Act.put, List.getElem_toArray, List.getElem_cons_zero, List.getElem_cons_succ, List.setIfInBounds_toArray, List.set_cons_zero, List.set_cons_succ]
  refine wpAnyH_take (i := 16) (v := ?_) rfl (by kernel_rfl) (by kernel_rfl) (by kernel_rfl) (fun _ _ _ h => h) (Or.inl ⟨by rfl, ?q16⟩) HS.out ?_
  case q16 => intro w hSw; go_simp; rfl
  simp only [Act.put, List.getElem_toArray, List.getElem_cons_zero, List.getElem_cons_succ, List.setIfInBounds_toArray, List.set_cons_zero, List.set_cons_succ]
  refine wpAnyH_done (by kernel_rfl) ?_ _
  go_wp2
  go_ret
  exact ⟨rfl, HS.out⟩
end Go.Proofs.YtjmlpkemjafifaaDoor

/- Known, Leaf, Leaves, Width of a proof, walked. -/
set_option linter.unusedVariables false
set_option linter.unusedSimpArgs false
namespace Go.Proofs.YtjmlpkemjafifaaDoor
open Go.RowKit

set_option maxRecDepth 100000 in
theorem le_any (w : World) (g b L W : Nat) (K : Kn) (h : HPf w g b L W K) : Calls Tryd.prog 23 #[.pointer (some ⟨g, 0, none⟩)] w fun e w' => e = .returned (.int .i64 (L : Int)) ∧ Below w.heap.size w w' := by
  have CM := hid (pmade_ok w g b L W K h)
  have HP := hid h
  clear h
  go_enter Tryd.func23, Tryd.ntmps23
  go_wp2_with fail
  refine CM.out.mono ?_
  rintro e w1 ⟨rfl, hB1⟩
  have hc := (HP.out.below hB1).c0
  have BL := hid hB1
  clear hB1 CM
  go_wp2
  go_ret
  exact ⟨rfl, BL.out⟩
set_option maxRecDepth 100000 in
theorem wi_any (w : World) (g b L W : Nat) (K : Kn) (h : HPf w g b L W K) : Calls Tryd.prog 24 #[.pointer (some ⟨g, 0, none⟩)] w fun e w' => e = .returned (.int .i64 (W : Int)) ∧ Below w.heap.size w w' := by
  have CM := hid (pmade_ok w g b L W K h)
  have HP := hid h
  clear h
  go_enter Tryd.func24, Tryd.ntmps24
  go_wp2_with fail
  refine CM.out.mono ?_
  rintro e w1 ⟨rfl, hB1⟩
  have hc := (HP.out.below hB1).c1
  have BL := hid hB1
  clear hB1 CM
  go_wp2
  go_ret
  exact ⟨rfl, BL.out⟩
set_option maxRecDepth 100000 in
set_option maxHeartbeats 1000000 in
theorem kn_any (w : World) (g b L W : Nat) (K : Kn) (h : HPf w g b L W K) (a : Int) : Calls Tryd.prog 27 #[.pointer (some ⟨g, 0, none⟩), .int .i64 a] w fun e w' => e = .returned (.tuple #[.agg (cellsB (kAt K a)), .bool (kIs K a)]) ∧ Below w.heap.size w w' := by
  obtain ⟨zd, HZD⟩ : ∃ zd, Hid (cellsB zeros32 = zd) := ⟨_, rfl⟩
  obtain ⟨W0, hW0⟩ : ∃ W0, Hid (w.alloc (.cells zd 28) = W0) := ⟨_, rfl⟩
  have HB0 : Hid (Below w.heap.size w W0) := by rw [← hW0.out]; exact (Below.refl _ w).alloc (Nat.le_refl _) _
  have HR0 : Hid (W0.heap[w.heap.size]? = some (.cells zd 28 (0, 0))) := by rw [← hW0.out]; exact heap_alloc_new w _
  have CM := hid (pmade_ok W0 g b L W K (h.below HB0.out))
  have HP := hid h
  have hzs : zd.size = 32 := by rw [← HZD.out, cellsB_size, zeros32_length]
  have hD := kAt_D h.2 a
  obtain ⟨yd, HYD⟩ : ∃ yd, Hid (cellsB (kAt K a) = yd) := ⟨_, rfl⟩
  have hys : yd.size = 32 := by rw [← HYD.out, cellsB_size, hD.1]
  have HIy : Hid ((Tryd.prog.info? 28).map (·.size) = some yd.size) := by rw [hys]; exact size_digest
  have H1y : Hid (yd.all (·.oneCell') = true) := by rw [← HYD.out]; exact cellsB_one _
  have HZY : Hid (zd.size = yd.size) := by refine hid ?_; rw [hzs, hys]
  obtain ⟨z, HZ⟩ : ∃ z, Hid (kIs K a = z) := ⟨_, rfl⟩
  rw [HYD.out, HZ.out]
  clear h hzs hys hD
  go_enter Tryd.func27, Tryd.ntmps27
  go_wp2_with (first | (refine wpList_alloc_digest rfl rfl ?_; rw [HZD.out, hW0.out]) | fail)
  refine CM.out.mono ?_
  rintro e w1 ⟨rfl, hB1⟩
  have HR1 : Hid (w1.heap[w.heap.size]? = some (.cells zd 28 (0, 0))) := (hB1.block _ (Array.getElem?_eq_some_iff.1 HR0.out).1).trans HR0.out
  have BL := hid (HB0.out.trans (hB1.mono HB0.out.size))
  have hc := (HP.out.below BL.out).c2
  have hl := run_look_ok (HP.out.below BL.out).2 a
  rw [HYD.out, HZ.out] at hl
  have hws : w.heap.size < w1.heap.size := (Array.getElem?_eq_some_iff.1 HR1.out).1
  have HR2 : Hid ((w1.alloc (.cells yd 28)).heap[w.heap.size]? = some (.cells zd 28 (0, 0))) := by
    rw [heap_alloc_old _ _ hws]; exact HR1
  have HR3 : Hid ((w1.alloc (.cells yd 28)).heap[w1.heap.size]? = some (.cells yd 28 (0, 0))) := heap_alloc_new _ _
  clear hB1 CM
  go_wp2_with (first | (refine wpList_alloc_digest rfl rfl ?_; rw [HZD.out]) | (refine wpList_store_row rfl 28 _ _ rfl w1.heap.size yd rfl rfl 28 zd (heap_alloc_new w1 _) HIy.out HZY.out H1y.out ?_; rw [setRow_alloc_new']) | (refine wpList_load_row rfl 28 _ rfl w1.heap.size rfl 28 yd (0, 0) _ HR3.out Tryd.underlying28 rfl HIy.out ?_) | (refine wpList_store_row rfl 28 _ _ rfl w.heap.size yd rfl rfl 28 zd HR2.out HIy.out HZY.out H1y.out ?_))
  refine bodyPost_ret (v := .tuple #[.agg yd, .bool z]) (results_cellt (p := 4) (u := 5) (ty := 28) rfl _ _ w.heap.size 28 yd (0, 0) _ rfl (setRow_heap _ _ _ _ _ _ HR2.out) Tryd.underlying28 rfl HIy.out _ rfl) rfl ?_
  exact ⟨rfl, below_setRow (BL.out.trans ((Below.refl _ w1).alloc (Nat.le_of_lt hws) _)) (Nat.le_refl _) _⟩
/-- What Leaf tells. -/
def lfAt (K : Kn) (L W : Nat) (i : Int) : List Int := if 0 ≤ i ∧ i < L then kAt K ((W : Int) + i) else zeros32
def lfIs (K : Kn) (L W : Nat) (i : Int) : Bool := if 0 ≤ i ∧ i < L then kIs K ((W : Int) + i) else false
set_option maxRecDepth 100000 in
set_option maxHeartbeats 1000000 in
theorem lf_any (w : World) (g b L W : Nat) (K : Kn) (h : HPf w g b L W K) (hW : W ≤ 512) (hL : L ≤ W) (i : Int) : Calls Tryd.prog 32 #[.pointer (some ⟨g, 0, none⟩), .int .i64 i] w fun e w' => e = .returned (.tuple #[.agg (cellsB (lfAt K L W i)), .bool (lfIs K L W i)]) ∧ Below w.heap.size w w' := by
  obtain ⟨zd, HZD⟩ : ∃ zd, Hid (cellsB zeros32 = zd) := ⟨_, rfl⟩
  obtain ⟨W0, hW0⟩ : ∃ W0, Hid (w.alloc (.cells zd 28) = W0) := ⟨_, rfl⟩
  have HB0 : Hid (Below w.heap.size w W0) := by rw [← hW0.out]; exact (Below.refl _ w).alloc (Nat.le_refl _) _
  have HR0 : Hid (W0.heap[w.heap.size]? = some (.cells zd 28 (0, 0))) := by rw [← hW0.out]; exact heap_alloc_new w _
  have CM := hid (pmade_ok W0 g b L W K (h.below HB0.out))
  have HP := hid h
  have hzs : zd.size = 32 := by rw [← HZD.out, cellsB_size, zeros32_length]
  have SZ : Hid ((Tryd.prog.info? 28).map (·.size) = some zd.size) := by rw [hzs]; exact size_digest
  have H1 : Hid (zd.all (·.oneCell') = true) := by rw [← HZD.out]; exact cellsB_one _
  have HZS := hid hzs
  have HDD := hid (kAt_D h.2)
  clear h hzs
  go_enter Tryd.func32, Tryd.ntmps32
  go_wp2_with (first | (refine wpList_alloc_digest rfl rfl ?_; rw [HZD.out, hW0.out]) | fail)
  refine CM.out.mono ?_
  rintro e w1 ⟨rfl, hB1⟩
  have HR1 : Hid (w1.heap[w.heap.size]? = some (.cells zd 28 (0, 0))) := (hB1.block _ (Array.getElem?_eq_some_iff.1 HR0.out).1).trans HR0.out
  have BL := hid (HB0.out.trans (hB1.mono HB0.out.size))
  have HP1 := hid (HP.out.below BL.out)
  clear hB1 CM
  by_cases hi : 0 ≤ i ∧ i < L
  · have HA : Hid (lfAt K L W i = kAt K ((W : Int) + i)) := if_pos hi
    have HS : Hid (lfIs K L W i = kIs K ((W : Int) + i)) := if_pos hi
    obtain ⟨hi0, hi1⟩ := hi
    have hc0 := HP1.out.c0
    have hc1 := HP1.out.c1
    have ew : IntKind.i64.wrap ((W : Int) + i) = (W : Int) + i := by rw [IntKind.wrap_i64]; omega
    have CK := hid (kn_any w1 g b L W K HP1.out ((W : Int) + i))
    have hD := HDD.out ((W : Int) + i)
    obtain ⟨yd, HYD⟩ : ∃ yd, Hid (cellsB (kAt K ((W : Int) + i)) = yd) := ⟨_, rfl⟩
    have hys : yd.size = 32 := by rw [← HYD.out, cellsB_size, hD.1]
    have HIy : Hid ((Tryd.prog.info? 28).map (·.size) = some yd.size) := by rw [hys]; exact size_digest
    have H1y : Hid (yd.all (·.oneCell') = true) := by rw [← HYD.out]; exact cellsB_one _
    have HZY : Hid (zd.size = yd.size) := by refine hid ?_; rw [HZS.out, hys]
    rw [HYD.out] at CK
    obtain ⟨z, HZ⟩ : ∃ z, Hid (kIs K ((W : Int) + i) = z) := ⟨_, rfl⟩
    rw [HZ.out] at CK
    clear hys hD
    go_wp2_with fail
    refine CK.out.mono ?_
    rintro e w2 ⟨rfl, hB2⟩
    have HR2 : Hid (w2.heap[w.heap.size]? = some (.cells zd 28 (0, 0))) := (hB2.block _ (Array.getElem?_eq_some_iff.1 HR1.out).1).trans HR1.out
    have BL2 := hid (BL.out.trans (hB2.mono BL.out.size))
    clear hB2 CK
    go_wp2_with (refine wpList_store_row rfl 28 _ _ rfl w.heap.size yd rfl rfl 28 zd HR2.out HIy.out HZY.out H1y.out ?_)
    refine bodyPost_ret (v := .tuple #[.agg yd, .bool z]) (results_cellt (p := 4) (u := 5) (ty := 28) rfl _ _ w.heap.size 28 yd (0, 0) _ rfl (setRow_heap _ _ _ _ _ _ HR2.out) Tryd.underlying28 rfl HIy.out _ rfl) rfl ?_
    rw [HA.out, HS.out, HYD.out, HZ.out]
    exact ⟨rfl, below_setRow BL2.out (Nat.le_refl _) _⟩
  · have HA : Hid (lfAt K L W i = zeros32) := if_neg hi
    have HS : Hid (lfIs K L W i = false) := if_neg hi
    have hc0 := HP1.out.c0
    by_cases hi0 : i < 0
    · clear hi
      go_wp2_with (first | (refine wpList_build_digest rfl rfl ?_; rw [HZD.out]) | (refine wpList_store_row rfl 28 _ _ rfl w.heap.size zd rfl rfl 28 zd HR1.out SZ.out rfl H1.out ?_))
      refine bodyPost_ret (v := .tuple #[.agg zd, .bool false]) (results_cellt (p := 4) (u := 5) (ty := 28) rfl _ _ w.heap.size 28 zd (0, 0) _ rfl (setRow_heap _ _ _ _ _ _ HR1.out) Tryd.underlying28 rfl SZ.out _ rfl) rfl ?_
      rw [HA.out, HS.out, HZD.out]
      exact ⟨rfl, below_setRow BL.out (Nat.le_refl _) _⟩
    · have hi2 : (L : Int) ≤ i := by omega
      have hi3 : 0 ≤ i := by omega
      clear hi
      go_wp2_with (first | (refine wpList_build_digest rfl rfl ?_; rw [HZD.out]) | (refine wpList_store_row rfl 28 _ _ rfl w.heap.size zd rfl rfl 28 zd HR1.out SZ.out rfl H1.out ?_))
      refine bodyPost_ret (v := .tuple #[.agg zd, .bool false]) (results_cellt (p := 4) (u := 5) (ty := 28) rfl _ _ w.heap.size 28 zd (0, 0) _ rfl (setRow_heap _ _ _ _ _ _ HR1.out) Tryd.underlying28 rfl SZ.out _ rfl) rfl ?_
      rw [HA.out, HS.out, HZD.out]
      exact ⟨rfl, below_setRow BL.out (Nat.le_refl _) _⟩
end Go.Proofs.YtjmlpkemjafifaaDoor
