/- wire: the index of a request is taken. -/
import Derived.Test.YtmegeogfpkdodaaWrF
import Derived.Laws.CopyRow
import Derived.Laws.IdiomCopy
import Derived.Deep.MidRow
import Derived.Deep.RegionHeld
import Derived.Deep.RegionHeld3
import Derived.OrdersHeld
set_option linter.unusedVariables false
set_option linter.unusedSimpArgs false
namespace Go.Proofs.Ytmegeogfpkdodaa
open Go Go.RowKit

def indexF (s : QS) : QS × Bool := ({ s.adv 16 with r := { s.r with ix := if okTake s.l 16 then taken s.l 16 else s.r.ix } }, true)
theorem size_u8q : (Try.prog.info? 5).map (·.size) = some 1 := by kernel_rfl
theorem qrL_ix (g n : Nat) (r : Rq) (v : Value) (sz : Int) (L : List Int) (h : L.length = 16) (hr : r.ix.length = 16) :
    (qrL g n r v sz).take 3 ++ L.map (Value.int .u8) ++ (qrL g n r v sz).drop (3 + (L.map (Value.int .u8)).length) = qrL g n { r with ix := L } v sz := by
  obtain ⟨k, ix, nb, pl, ln, who, til⟩ := r
  simp only at hr
  simp [qrL, rqL, h, List.drop_append, hr]
/-- A copy of what was taken into the index. -/
theorem run_copy_ix (w : World) (R g n : Nat) (f : Bool) (l : List Int) (r : Rq) (sz : Int) (hB : BR w R g TQ (qrL g n r (.slice none 0 0) sz) f l) (hok : r.ok) (ty : TypeId) (u : Value) (m : List Int) (hb : HB w u (taken m 16)) :
    ∃ w', (Builtin.copy_ #[36, 36] ty #[.slice (some ⟨R, 3, none⟩) 16 16, u]).run Try.prog w = .ok (.int .i64 ((taken m 16).length : Int)) w' ∧
      BR w' R g TQ (qrL g n { r with ix := if okTake m 16 then taken m 16 else r.ix } (.slice none 0 0) sz) f l ∧ Ex (RG R g) w w' := by
  obtain ⟨⟨p, c, rfl, hlc, hm, hpc, hcell⟩, hby⟩ := hb
  by_cases hk : okTake m 16 = true
  · have hl : (taken m 16).length = 16 := by
      have := (okTake_iff.1 hk).2
      simp only [taken, hk, if_true, List.length_take]
      omega
    obtain ⟨bb, off, rfl, hh⟩ := hcell (by intro e; rw [e] at hl; simp at hl)
    have hsz : (qrL g n r (.slice none 0 0) sz).length = 26 := by simp [qrL, rqL, hok.1]
    have hr := run_copy_row Try.prog w 36 36 ty 5 R 3 16 16 ⟨bb, off, none⟩ (taken m 16).length c _ TQ ((taken m 16).map (Value.int .u8)) Try.underlying36 size_u8q hB.blk (by rw [List.length_map, hl]; rfl) (fun j v hv => by
      have hj : j < (taken m 16).length := by have := (List.getElem?_eq_some_iff.1 hv).1; simpa using this
      rw [Go.WideShapes.add_plain, hh j hj]
      simp only [List.getElem?_map, List.getElem?_eq_getElem hj, Option.map_some] at hv
      rw [getD_of_lt hj]
      exact hv) (by simp [hsz, hl]) (fun v hv => by obtain ⟨x, _, rfl⟩ := List.mem_map.1 hv; rfl)
    have e2 := qrL_ix g n r (.slice none 0 0) sz (taken m 16) hl hok.1
    simp only [List.toList_toArray] at hr
    rw [e2] at hr
    refine ⟨w.setRow R (qrL g n { r with ix := taken m 16 } (.slice none 0 0) sz).toArray, ?_, ?_, ?_⟩
    · rw [hr]; simp [goInt]
    · rw [if_pos hk]
      refine ⟨setRow_heap w R _ _ TQ _ hB.blk, hB.rd.ex (S := fun k => k = R) ⟨rfl, rfl, rfl, by simp [World.setRow], fun k hk hn => ?_⟩ (fun e => hB.ne TQ_ok e.symm) (fun k e _ => by subst e; exact ⟨_, _, _, hB.blk, by decide⟩)⟩
      simp [World.setRow, Array.getElem?_modify, Ne.symm hn]
    · exact ⟨rfl, rfl, rfl, by simp [World.setRow], fun k hk hn => by simp [World.setRow, Array.getElem?_modify, show R ≠ k from fun e => hn (.inl e.symm)]⟩
  · have hk' : okTake m 16 = false := by simpa using hk
    have ht : taken m 16 = [] := by simp [taken, hk']
    refine ⟨w, ?_, ?_, Ex.refl _ _⟩
    · have := run_copy_none (P := Try.prog) w 36 36 ty 5 (some ⟨R, 3, none⟩) p 16 16 (taken m 16).length c Try.underlying36 size_u8q (by rw [ht]; rfl)
      rw [this, ht]
      rfl
    · rw [if_neg hk]
      exact hB
set_option maxRecDepth 100000 in
set_option maxHeartbeats 4000000 in
theorem index_any (w : World) (R g n : Nat) (s : QS) (h : QR w R g n s) (hbig : s.l.length ≤ 140737488355328) :
    Calls Try.prog 78 #[.pointer (some ⟨R, 0, none⟩)] w fun e w' => e = .returned (.bool (indexF s).2) ∧ QR w' R g n (indexF s).1 ∧ Ex (RG R g) w w' := by
  obtain ⟨f, l, r, sz⟩ := s
  obtain ⟨hB, hok, hsz⟩ := h
  simp only at hB hok hbig hsz
  have HZ := hid hsz
  simp only [indexF, QS.adv]
  obtain ⟨IX, HIX⟩ : ∃ L, Hid ((if okTake l 16 = true then taken l 16 else r.ix) = L) := ⟨_, hid rfl⟩
  obtain ⟨FF, HFF⟩ : ∃ b, Hid ((f || !okTake l 16) = b) := ⟨_, hid rfl⟩
  rw [HIX.out, HFF.out]
  have HB := hid hB
  have HO := hid hok
  have C1 := hid (fun q => bytes_any (w.drewN q) g f l 16 (hB.dr q).rd hbig)
  have hd : w.drew = w.drewN 1 := rfl
  have K0 : Hid (∀ W, Ex (RG R g) w W → W.heap[R]? = w.heap[R]? → W.cell? ⟨R, 0, none⟩ = some (.pointer (some ⟨g, 0, none⟩))) := hid (fun W _ he => by
    have := hB.cell (i := 0) (v := .pointer (some ⟨g, 0, none⟩)) rfl
    simpa only [World.cell?, he] using this)
  clear hB hok hsz
  go_enter Try.func78, Try.ntmps78
  go_wp2_with fail
  refine wp_region_held_drew (S := (fun W => W.cell? ⟨R, 0, none⟩ = some (.pointer (some ⟨g, 0, none⟩)))) (by kernel_rfl) (K0.out _ ((Ex.refl _ w).drewN 1) rfl) (fun hHeld => ?_)
  have HS := hid hHeld
  clear hHeld
  change wpAnyH _ _ _ _ _ _ _ _ (World.drew _)
  refine wpAnyH_take (i := 0) (v := ?_) rfl (by kernel_rfl) (by kernel_rfl) (by kernel_rfl) (fun _ _ _ h => h) (Or.inl ⟨by rfl, ?q0⟩) HS.out ?_
  case q0 => intro w hSw; have q0 : _ = _ := hSw; go_simp; rfl
  simp only [Act.put, List.getElem_toArray, List.getElem_cons_zero, List.getElem_cons_succ, List.setIfInBounds_toArray, List.set_cons_zero, List.set_cons_succ]
  refine wpAnyH_take (i := 1) (v := ?_) rfl (by kernel_rfl) (by kernel_rfl) (by kernel_rfl) (fun _ _ _ h => h) (Or.inl ⟨by rfl, ?q1⟩) HS.out ?_
  case q1 => intro w hSw; have q0 : _ = _ := hSw; go_simp; rfl
  simp only [Act.put, List.getElem_toArray, List.getElem_cons_zero, List.getElem_cons_succ, List.setIfInBounds_toArray, List.set_cons_zero, List.set_cons_succ]
  refine wpAnyH_take (i := 2) (v := ?_) rfl (by kernel_rfl) (by kernel_rfl) (by kernel_rfl) (fun _ _ _ h => h) (Or.inl ⟨by rfl, ?q2⟩) HS.out ?_
  case q2 => intro w hSw; have q0 : _ = _ := hSw; go_simp; rfl
  simp only [Act.put, List.getElem_toArray, List.getElem_cons_zero, List.getElem_cons_succ, List.setIfInBounds_toArray, List.set_cons_zero, List.set_cons_succ]
  refine wpAnyH_take (i := 3) (v := ?_) rfl (by kernel_rfl) (by kernel_rfl) (by kernel_rfl) (fun _ _ _ h => h) (Or.inl ⟨by rfl, ?q3⟩) HS.out ?_
  case q3 => intro w hSw; have q0 : _ = _ := hSw; go_simp; rfl
  simp only [Act.put, List.getElem_toArray, List.getElem_cons_zero, List.getElem_cons_succ, List.setIfInBounds_toArray, List.set_cons_zero, List.set_cons_succ]
  refine wpAnyH_take (i := 4) (v := ?_) rfl (by kernel_rfl) (by kernel_rfl) (by kernel_rfl) (fun _ _ _ h => h) (Or.inl ⟨by rfl, ?q4⟩) HS.out ?_
  case q4 => intro w hSw; have q0 : _ = _ := hSw; go_simp; rfl
  simp only [Act.put, List.getElem_toArray, List.getElem_cons_zero, List.getElem_cons_succ, List.setIfInBounds_toArray, List.set_cons_zero, List.set_cons_succ]
  refine wpAnyH_take (i := 5) (v := ?_) rfl (by kernel_rfl) (by kernel_rfl) (by kernel_rfl) (fun _ _ _ h => h) (Or.inl ⟨by rfl, ?q5⟩) HS.out ?_
  case q5 => intro w hSw; have q0 : _ = _ := hSw; go_simp; rfl
  simp only [Act.put, List.getElem_toArray, List.getElem_cons_zero, List.getElem_cons_succ, List.setIfInBounds_toArray, List.set_cons_zero, List.set_cons_succ]
  refine wpAnyH_take (i := 6) (v := ?_) rfl (by kernel_rfl) (by kernel_rfl) (by kernel_rfl) (fun _ _ _ h => h) (Or.inl ⟨by rfl, ?q6⟩) HS.out ?_
  case q6 => intro w hSw; have q0 : _ = _ := hSw; go_simp; rfl
  simp only [Act.put, List.getElem_toArray, List.getElem_cons_zero, List.getElem_cons_succ, List.setIfInBounds_toArray, List.set_cons_zero, List.set_cons_succ]
  refine wpAnyH_take (i := 7) (v := ?_) rfl (by kernel_rfl) (by kernel_rfl) (by kernel_rfl) (fun _ _ _ h => h) (Or.inl ⟨by rfl, ?q7⟩) HS.out ?_
  case q7 => intro w hSw; have q0 : _ = _ := hSw; go_simp; rfl
  simp only [Act.put, List.getElem_toArray, List.getElem_cons_zero, List.getElem_cons_succ, List.setIfInBounds_toArray, List.set_cons_zero, List.set_cons_succ]
  refine wpAnyH_take (i := 8) (v := ?_) rfl (by kernel_rfl) (by kernel_rfl) (by kernel_rfl) (fun _ _ _ h => h) (Or.inl ⟨by rfl, ?q8⟩) HS.out ?_
  case q8 => intro w hSw; have q0 : _ = _ := hSw; go_simp; rfl
  simp only [Act.put, List.getElem_toArray, List.getElem_cons_zero, List.getElem_cons_succ, List.setIfInBounds_toArray, List.set_cons_zero, List.set_cons_succ]
  refine wpAnyH_take (i := 9) (v := ?_) rfl (by kernel_rfl) (by kernel_rfl) (by kernel_rfl) (fun _ _ _ h => h) (Or.inl ⟨by rfl, ?q9⟩) HS.out ?_
  case q9 => intro w hSw; have q0 : _ = _ := hSw; go_simp; rfl
  simp only [Act.put, List.getElem_toArray, List.getElem_cons_zero, List.getElem_cons_succ, List.setIfInBounds_toArray, List.set_cons_zero, List.set_cons_succ]
  refine wpAnyH_ready (rs := [10]) (by kernel_rfl) (by simp) ?_
  refine AllReadyH.cons rfl (fun K hK => ?_) AllReadyH.nil
  replace hK := hid hK
  go_simp
  refine (C1.out 1).mono ?_
  rintro e w1 ⟨v1, B1, rfl, hown, hB1, hb1, hr1, hg1⟩
  have hB2 := (HB.out.dr 1).still TQ_ok hg1 hr1
  have E2 : Ex (RG R g) w w1 := ((Ex.refl _ w).drewN 1).trans (Ex.grown (S := RG R g) hg1 (fun k e => .inr (by simpa using e.symm))) (fun _ q => .inl q)
  obtain ⟨w2, hcp, hB3, E3⟩ := run_copy_ix w1 R g n _ _ r sz hB2 HO.out 3 v1 l hb1
  rw [HIX.out, HFF.out] at hB3
  have HB3 := hid hB3
  have HE3 := hid (E2.trans E3 (fun _ q => .inl q))
  have HBT := hid hb1.2
  have hs2 : w2.cell? ⟨R, 0, none⟩ = some (.pointer (some ⟨g, 0, none⟩)) := hB3.cell rfl
  have HS2 := hid hs2
  have hs1 : w1.cell? ⟨R, 0, none⟩ = some (.pointer (some ⟨g, 0, none⟩)) := hB2.cell rfl
  have HS1 := hid hs1
  clear hown hB1 hr1 hg1 hB2 E2 hB3 E3 hs2 hs1 C1 K0
  obtain ⟨p1, c1, e1, -, -⟩ := hb1.open
  clear hb1
  subst e1
  refine hK.out _ _ HS1.out (fun _ => ?_)
  clear hK K
  refine wpAnyH_ready (rs := [11]) (by kernel_rfl) (by simp) ?_
  refine AllReadyH.cons rfl (fun K hK => ?_) AllReadyH.nil
  replace hK := hid hK
  go_simp
  refine hK.out _ _ HS2.out (fun _ => ?_)
  clear hK K
  refine wpAnyH_done (by kernel_rfl) ?_ _
  go_wp2
  go_ret
  refine ⟨rfl, ⟨HB3.out, ?_, HZ.out⟩, HE3.out⟩
  refine ⟨?_, ?_⟩
  · show IX.length = 16
    rw [← HIX.out]
    split
    · rename_i hk
      have := (okTake_iff.1 hk).2
      simp only [taken, hk, if_true, List.length_take]
      omega
    · exact HO.out.1
  · show ∀ x ∈ IX, _
    rw [← HIX.out]
    split
    · exact HBT.out
    · exact HO.out.2
end Go.Proofs.Ytmegeogfpkdodaa
