/- Of the road to uebWriteCard_holds: UbRMay. -/
import Derived.Test.YtklklldmhoofnaaDoorG18
set_option linter.unusedVariables false
set_option linter.unusedSimpArgs false
namespace Go.Proofs.YtklklldmhoofnaaDoor
open Go Go.RowKit
theorem leS_pos {s t : ByteArray} (h : leS s t = false) : ¬ s.size = 0 := by
  intro h0
  have e : s.toList = [] := by
    rw [ByteArray.toList_eq]
    exact List.length_eq_zero_iff.1 (by simpa using h0)
  unfold leS at h
  rw [e] at h
  cases ht : t.toList with
  | nil => rw [ht] at h; simp [Op.bytesLess] at h
  | cons a l => rw [ht] at h; simp [Op.bytesLess] at h
set_option maxRecDepth 100000 in
set_option maxHeartbeats 8000000 in
theorem rmay_ok (w : World) (v : Value) (rs : List Rw) (h : HRw w v rs) (hm : mayT rs) :
    Calls Tryd.prog 31 #[v] w fun e w' => e = .returned (.bool true) ∧ Below w.heap.size w w' := by
  obtain ⟨p, c, rfl, hlc, hcm, hrow⟩ := h.open
  have HR := hid hrow
  have HM := hid hm
  clear hrow h
  have hm63 : rs.length ≤ 9223372036854775807 := by unfold maxLen at hcm; omega
  obtain ⟨n, HN⟩ : ∃ n, Hid (rs.length = n) := ⟨_, rfl⟩
  have h64 : n ≤ 64 := by rw [← HN.out]; exact hm.1
  rw [HN.out] at hlc hm63
  rw [HN.out]
  clear hm
  go_enter Tryd.func31, Tryd.ntmps31
  go_wp2
  go_loopw [3] (fun i wr => ∃ k : Nat, k ≤ n ∧ i = .int .i64 (k : Int) ∧ Hid (Below w.heap.size w wr)) (fun i _ => n - (intOf i).toNat)
  case atStart => exact ⟨0, Nat.zero_le _, rfl, Below.refl _ _⟩
  case round =>
    obtain ⟨k, hk, rfl, HB0⟩ := hrel
    have hsz := HB0.out.size
    by_cases hlt : k < n
    · obtain ⟨b, off, rfl, hbl, hcell⟩ := HR.out (by have := HN.out; omega)
      obtain ⟨u, hu, hv⟩ := hcell k (by have := HN.out; omega)
      have hok := okRows_take HM.out.2 (k + 1)
      rw [take_snoc (by have := HN.out; omega), okRows_snoc] at hok
      obtain ⟨_, hle, hs64, hl64⟩ := hok
      obtain ⟨⟨s, l⟩, Hx⟩ : ∃ x, Hid (rs.getD k rw0 = x) := ⟨_, rfl⟩
      rw [Hx.out] at hu hv hle hs64 hl64
      obtain ⟨pu, cu, rfl, hlu, hcu⟩ := hv.open
      have r1 := range_below2 hu HB0.out hbl
      have cN : wr.cell? ⟨b, off + k * 2, none⟩ = some (.string s) := by have := r1 0 _ rfl; simpa using this
      have cV : wr.cell? ⟨b, off + k * 2 + 1, none⟩ = some (.slice pu l.length cu) := r1 1 _ rfl
      have hs0 : ¬ s.size = 0 := leS_pos hle
      have hs1 : ¬ (s.size : Int) < 1 := by omega
      have hs64 : s.size ≤ 64 := hs64
      have hs2 : ¬ (64 : Int) < (s.size : Int) := by omega
      have hl64 : l.length ≤ 65536 := hl64
      have hl2 : ¬ (65536 : Int) < (l.length : Int) := by omega
      rcases Nat.eq_zero_or_pos k with hk0 | hk0
      · subst hk0
        rw [show off + 0 * 2 = off by omega] at cN cV
        have FC : Hid (∀ W, Below wr.heap.size wr W → W.cell? ⟨b, off, none⟩ = some (.string s) ∧ W.cell? ⟨b, off + 1, none⟩ = some (.slice pu l.length cu)) := hid fun W hW => ⟨(hW.cell (p := ⟨b, off, none⟩) (by show b < _; omega)).trans cN, (hW.cell (p := ⟨b, off + 1, none⟩) (by show b < _; omega)).trans cV⟩
        clear hu hv hcell r1 hle hs0 hs64 hl64 cN cV
        go_wp2
        refine wp_region_held_drew (S := Below wr.heap.size wr) (by kernel_rfl) (Below.refl _ _).drew (fun hHeld => ?_)
        have HS := hid hHeld
        clear hHeld
        change wpAnyH _ _ _ _ _ _ _ _ (World.drew _)
        refine wpAnyH_take (i := 0) (v := .slice (some ⟨b, off, none⟩) n c) rfl (by kernel_rfl) (by kernel_rfl) (by kernel_rfl) (fun _ _ _ h => h) (Or.inl ⟨by rfl, ?q0⟩) HS.out ?_
        case q0 => intro W hSw; obtain ⟨z1, z2⟩ := FC.out W hSw; first | (go_simp; done) | (go_simp; rfl) | (go_simp; omega) | (go_simp; intro hq; exfalso; omega)
        simp only [Act.put, List.getElem_toArray, List.getElem_cons_zero, List.getElem_cons_succ, List.setIfInBounds_toArray, List.set_cons_zero, List.set_cons_succ]
        refine wpAnyH_take (i := 1) (v := .int .i64 0) rfl (by kernel_rfl) (by kernel_rfl) (by kernel_rfl) (fun _ _ _ h => h) (Or.inl ⟨by rfl, ?q1⟩) HS.out ?_
        case q1 => intro W hSw; obtain ⟨z1, z2⟩ := FC.out W hSw; first | (go_simp; done) | (go_simp; rfl) | (go_simp; omega) | (go_simp; intro hq; exfalso; omega)
        simp only [Act.put, List.getElem_toArray, List.getElem_cons_zero, List.getElem_cons_succ, List.setIfInBounds_toArray, List.set_cons_zero, List.set_cons_succ]
        refine wpAnyH_take (i := 2) (v := .pointer (some ⟨b, off, none⟩)) rfl (by kernel_rfl) (by kernel_rfl) (by kernel_rfl) (fun _ _ _ h => h) (Or.inl ⟨by rfl, ?q2⟩) HS.out ?_
        case q2 => intro W hSw; obtain ⟨z1, z2⟩ := FC.out W hSw; first | (go_simp; done) | (go_simp; rfl) | (go_simp; omega) | (go_simp; intro hq; exfalso; omega)
        simp only [Act.put, List.getElem_toArray, List.getElem_cons_zero, List.getElem_cons_succ, List.setIfInBounds_toArray, List.set_cons_zero, List.set_cons_succ]
        refine wpAnyH_take (i := 3) (v := .pointer (some ⟨b, off, none⟩)) rfl (by kernel_rfl) (by kernel_rfl) (by kernel_rfl) (fun _ _ _ h => h) (Or.inl ⟨by rfl, ?q3⟩) HS.out ?_
        case q3 => intro W hSw; obtain ⟨z1, z2⟩ := FC.out W hSw; first | (go_simp; done) | (go_simp; rfl) | (go_simp; omega) | (go_simp; intro hq; exfalso; omega)
        simp only [Act.put, List.getElem_toArray, List.getElem_cons_zero, List.getElem_cons_succ, List.setIfInBounds_toArray, List.set_cons_zero, List.set_cons_succ]
        refine wpAnyH_take (i := 4) (v := .string s) rfl (by kernel_rfl) (by kernel_rfl) (by kernel_rfl) (fun _ _ _ h => h) (Or.inl ⟨by rfl, ?q4⟩) HS.out ?_
        case q4 => intro W hSw; obtain ⟨z1, z2⟩ := FC.out W hSw; first | (go_simp; done) | (go_simp; rfl) | (go_simp; omega) | (go_simp; intro hq; exfalso; omega)
        simp only [Act.put, List.getElem_toArray, List.getElem_cons_zero, List.getElem_cons_succ, List.setIfInBounds_toArray, List.set_cons_zero, List.set_cons_succ]
        refine wpAnyH_take (i := 5) (v := .int .i64 (s.size : Int)) rfl (by kernel_rfl) (by kernel_rfl) (by kernel_rfl) (fun _ _ _ h => h) (Or.inl ⟨by rfl, ?q5⟩) HS.out ?_
        case q5 => intro W hSw; obtain ⟨z1, z2⟩ := FC.out W hSw; first | (go_simp; done) | (go_simp; rfl) | (go_simp; omega) | (go_simp; intro hq; exfalso; omega)
        simp only [Act.put, List.getElem_toArray, List.getElem_cons_zero, List.getElem_cons_succ, List.setIfInBounds_toArray, List.set_cons_zero, List.set_cons_succ]
        refine wpAnyH_take (i := 6) (v := .bool false) rfl (by kernel_rfl) (by kernel_rfl) (by kernel_rfl) (fun _ _ _ h => h) (Or.inl ⟨by rfl, ?q6⟩) HS.out ?_
        case q6 => intro W hSw; obtain ⟨z1, z2⟩ := FC.out W hSw; first | (go_simp; done) | (go_simp; rfl) | (go_simp; omega) | (go_simp; intro hq; exfalso; omega)
        simp only [Act.put, List.getElem_toArray, List.getElem_cons_zero, List.getElem_cons_succ, List.setIfInBounds_toArray, List.set_cons_zero, List.set_cons_succ]
        refine wpAnyH_take (i := 7) (v := .bool false) rfl (by kernel_rfl) (by kernel_rfl) (by kernel_rfl) (fun _ _ _ h => h) (Or.inl ⟨by rfl, ?q7⟩) HS.out ?_
        case q7 => intro W hSw; obtain ⟨z1, z2⟩ := FC.out W hSw; first | (go_simp; done) | (go_simp; rfl) | (go_simp; omega) | (go_simp; intro hq; exfalso; omega)
        simp only [Act.put, List.getElem_toArray, List.getElem_cons_zero, List.getElem_cons_succ, List.setIfInBounds_toArray, List.set_cons_zero, List.set_cons_succ]
        refine wpAnyH_take (i := 8) (v := .slice (some ⟨b, off, none⟩) n c) rfl (by kernel_rfl) (by kernel_rfl) (by kernel_rfl) (fun _ _ _ h => h) (Or.inl ⟨by rfl, ?q8⟩) HS.out ?_
        case q8 => intro W hSw; obtain ⟨z1, z2⟩ := FC.out W hSw; first | (go_simp; done) | (go_simp; rfl) | (go_simp; omega) | (go_simp; intro hq; exfalso; omega)
        simp only [Act.put, List.getElem_toArray, List.getElem_cons_zero, List.getElem_cons_succ, List.setIfInBounds_toArray, List.set_cons_zero, List.set_cons_succ]
        refine wpAnyH_take (i := 9) (v := .int .i64 0) rfl (by kernel_rfl) (by kernel_rfl) (by kernel_rfl) (fun _ _ _ h => h) (Or.inl ⟨by rfl, ?q9⟩) HS.out ?_
        case q9 => intro W hSw; obtain ⟨z1, z2⟩ := FC.out W hSw; first | (go_simp; done) | (go_simp; rfl) | (go_simp; omega) | (go_simp; intro hq; exfalso; omega)
        simp only [Act.put, List.getElem_toArray, List.getElem_cons_zero, List.getElem_cons_succ, List.setIfInBounds_toArray, List.set_cons_zero, List.set_cons_succ]
        refine wpAnyH_take (i := 10) (v := .pointer (some ⟨b, off, none⟩)) rfl (by kernel_rfl) (by kernel_rfl) (by kernel_rfl) (fun _ _ _ h => h) (Or.inl ⟨by rfl, ?q10⟩) HS.out ?_
        case q10 => intro W hSw; obtain ⟨z1, z2⟩ := FC.out W hSw; first | (go_simp; done) | (go_simp; rfl) | (go_simp; omega) | (go_simp; intro hq; exfalso; omega)
        simp only [Act.put, List.getElem_toArray, List.getElem_cons_zero, List.getElem_cons_succ, List.setIfInBounds_toArray, List.set_cons_zero, List.set_cons_succ]
        refine wpAnyH_take (i := 11) (v := .pointer (some ⟨b, off, none⟩)) rfl (by kernel_rfl) (by kernel_rfl) (by kernel_rfl) (fun _ _ _ h => h) (Or.inl ⟨by rfl, ?q11⟩) HS.out ?_
        case q11 => intro W hSw; obtain ⟨z1, z2⟩ := FC.out W hSw; first | (go_simp; done) | (go_simp; rfl) | (go_simp; omega) | (go_simp; intro hq; exfalso; omega)
        simp only [Act.put, List.getElem_toArray, List.getElem_cons_zero, List.getElem_cons_succ, List.setIfInBounds_toArray, List.set_cons_zero, List.set_cons_succ]
        refine wpAnyH_take (i := 12) (v := .string s) rfl (by kernel_rfl) (by kernel_rfl) (by kernel_rfl) (fun _ _ _ h => h) (Or.inl ⟨by rfl, ?q12⟩) HS.out ?_
        case q12 => intro W hSw; obtain ⟨z1, z2⟩ := FC.out W hSw; first | (go_simp; done) | (go_simp; rfl) | (go_simp; omega) | (go_simp; intro hq; exfalso; omega)
        simp only [Act.put, List.getElem_toArray, List.getElem_cons_zero, List.getElem_cons_succ, List.setIfInBounds_toArray, List.set_cons_zero, List.set_cons_succ]
        refine wpAnyH_take (i := 13) (v := .int .i64 (s.size : Int)) rfl (by kernel_rfl) (by kernel_rfl) (by kernel_rfl) (fun _ _ _ h => h) (Or.inl ⟨by rfl, ?q13⟩) HS.out ?_
        case q13 => intro W hSw; obtain ⟨z1, z2⟩ := FC.out W hSw; first | (go_simp; done) | (go_simp; rfl) | (go_simp; omega) | (go_simp; intro hq; exfalso; omega)
        simp only [Act.put, List.getElem_toArray, List.getElem_cons_zero, List.getElem_cons_succ, List.setIfInBounds_toArray, List.set_cons_zero, List.set_cons_succ]
        refine wpAnyH_take (i := 14) (v := .bool false) rfl (by kernel_rfl) (by kernel_rfl) (by kernel_rfl) (fun _ _ _ h => h) (Or.inl ⟨by rfl, ?q14⟩) HS.out ?_
        case q14 => intro W hSw; obtain ⟨z1, z2⟩ := FC.out W hSw; first | (go_simp; done) | (go_simp; rfl) | (go_simp; omega) | (go_simp; intro hq; exfalso; omega)
        simp only [Act.put, List.getElem_toArray, List.getElem_cons_zero, List.getElem_cons_succ, List.setIfInBounds_toArray, List.set_cons_zero, List.set_cons_succ]
        refine wpAnyH_take (i := 15) (v := .bool false) rfl (by kernel_rfl) (by kernel_rfl) (by kernel_rfl) (fun _ _ _ h => h) (Or.inl ⟨by rfl, ?q15⟩) HS.out ?_
        case q15 => intro W hSw; obtain ⟨z1, z2⟩ := FC.out W hSw; first | (go_simp; done) | (go_simp; rfl) | (go_simp; omega) | (go_simp; intro hq; exfalso; omega)
        simp only [Act.put, List.getElem_toArray, List.getElem_cons_zero, List.getElem_cons_succ, List.setIfInBounds_toArray, List.set_cons_zero, List.set_cons_succ]
        refine wpAnyH_take (i := 16) (v := .bool false) rfl (by kernel_rfl) (by kernel_rfl) (by kernel_rfl) (fun _ _ _ h => h) (Or.inl ⟨by rfl, ?q16⟩) HS.out ?_
        case q16 => intro W hSw; obtain ⟨z1, z2⟩ := FC.out W hSw; first | (go_simp; done) | (go_simp; rfl) | (go_simp; omega) | (go_simp; intro hq; exfalso; omega)
        simp only [Act.put, List.getElem_toArray, List.getElem_cons_zero, List.getElem_cons_succ, List.setIfInBounds_toArray, List.set_cons_zero, List.set_cons_succ]
        refine wpAnyH_take (i := 17) (v := .slice (some ⟨b, off, none⟩) n c) rfl (by kernel_rfl) (by kernel_rfl) (by kernel_rfl) (fun _ _ _ h => h) (Or.inl ⟨by rfl, ?q17⟩) HS.out ?_
        case q17 => intro W hSw; obtain ⟨z1, z2⟩ := FC.out W hSw; first | (go_simp; done) | (go_simp; rfl) | (go_simp; omega) | (go_simp; intro hq; exfalso; omega)
        simp only [Act.put, List.getElem_toArray, List.getElem_cons_zero, List.getElem_cons_succ, List.setIfInBounds_toArray, List.set_cons_zero, List.set_cons_succ]
        refine wpAnyH_take (i := 18) (v := .int .i64 0) rfl (by kernel_rfl) (by kernel_rfl) (by kernel_rfl) (fun _ _ _ h => h) (Or.inl ⟨by rfl, ?q18⟩) HS.out ?_
        case q18 => intro W hSw; obtain ⟨z1, z2⟩ := FC.out W hSw; first | (go_simp; done) | (go_simp; rfl) | (go_simp; omega) | (go_simp; intro hq; exfalso; omega)
        simp only [Act.put, List.getElem_toArray, List.getElem_cons_zero, List.getElem_cons_succ, List.setIfInBounds_toArray, List.set_cons_zero, List.set_cons_succ]
        refine wpAnyH_take (i := 19) (v := .pointer (some ⟨b, off, none⟩)) rfl (by kernel_rfl) (by kernel_rfl) (by kernel_rfl) (fun _ _ _ h => h) (Or.inl ⟨by rfl, ?q19⟩) HS.out ?_
        case q19 => intro W hSw; obtain ⟨z1, z2⟩ := FC.out W hSw; first | (go_simp; done) | (go_simp; rfl) | (go_simp; omega) | (go_simp; intro hq; exfalso; omega)
        simp only [Act.put, List.getElem_toArray, List.getElem_cons_zero, List.getElem_cons_succ, List.setIfInBounds_toArray, List.set_cons_zero, List.set_cons_succ]
        refine wpAnyH_take (i := 20) (v := .pointer (some ⟨b, off + 1, none⟩)) rfl (by kernel_rfl) (by kernel_rfl) (by kernel_rfl) (fun _ _ _ h => h) (Or.inl ⟨by rfl, ?q20⟩) HS.out ?_
        case q20 => intro W hSw; obtain ⟨z1, z2⟩ := FC.out W hSw; first | (go_simp; done) | (go_simp; rfl) | (go_simp; omega) | (go_simp; intro hq; exfalso; omega)
        simp only [Act.put, List.getElem_toArray, List.getElem_cons_zero, List.getElem_cons_succ, List.setIfInBounds_toArray, List.set_cons_zero, List.set_cons_succ]
        refine wpAnyH_take (i := 21) (v := .slice pu l.length cu) rfl (by kernel_rfl) (by kernel_rfl) (by kernel_rfl) (fun _ _ _ h => h) (Or.inl ⟨by rfl, ?q21⟩) HS.out ?_
        case q21 => intro W hSw; obtain ⟨z1, z2⟩ := FC.out W hSw; first | (go_simp; done) | (go_simp; rfl) | (go_simp; omega) | (go_simp; intro hq; exfalso; omega)
        simp only [Act.put, List.getElem_toArray, List.getElem_cons_zero, List.getElem_cons_succ, List.setIfInBounds_toArray, List.set_cons_zero, List.set_cons_succ]
        refine wpAnyH_take (i := 22) (v := .int .i64 (l.length : Int)) rfl (by kernel_rfl) (by kernel_rfl) (by kernel_rfl) (fun _ _ _ h => h) (Or.inl ⟨by rfl, ?q22⟩) HS.out ?_
        case q22 => intro W hSw; obtain ⟨z1, z2⟩ := FC.out W hSw; first | (go_simp; done) | (go_simp; rfl) | (go_simp; omega) | (go_simp; intro hq; exfalso; omega)
        simp only [Act.put, List.getElem_toArray, List.getElem_cons_zero, List.getElem_cons_succ, List.setIfInBounds_toArray, List.set_cons_zero, List.set_cons_succ]
        refine wpAnyH_take (i := 23) (v := .bool false) rfl (by kernel_rfl) (by kernel_rfl) (by kernel_rfl) (fun _ _ _ h => h) (Or.inl ⟨by rfl, ?q23⟩) HS.out ?_
        case q23 => intro W hSw; obtain ⟨z1, z2⟩ := FC.out W hSw; first | (go_simp; done) | (go_simp; rfl) | (go_simp; omega) | (go_simp; intro hq; exfalso; omega)
        simp only [Act.put, List.getElem_toArray, List.getElem_cons_zero, List.getElem_cons_succ, List.setIfInBounds_toArray, List.set_cons_zero, List.set_cons_succ]
        refine wpAnyH_take (i := 24) (v := .bool false) rfl (by kernel_rfl) (by kernel_rfl) (by kernel_rfl) (fun _ _ _ h => h) (Or.inl ⟨by rfl, ?q24⟩) HS.out ?_
        case q24 => intro W hSw; obtain ⟨z1, z2⟩ := FC.out W hSw; first | (go_simp; done) | (go_simp; rfl) | (go_simp; omega) | (go_simp; intro hq; exfalso; omega)
        simp only [Act.put, List.getElem_toArray, List.getElem_cons_zero, List.getElem_cons_succ, List.setIfInBounds_toArray, List.set_cons_zero, List.set_cons_succ]
        refine wpAnyH_take (i := 25) (v := .bool false) rfl (by kernel_rfl) (by kernel_rfl) (by kernel_rfl) (fun _ _ _ h => h) (Or.inl ⟨by rfl, ?q25⟩) HS.out ?_
        case q25 => intro W hSw; obtain ⟨z1, z2⟩ := FC.out W hSw; first | (go_simp; done) | (go_simp; rfl) | (go_simp; omega) | (go_simp; intro hq; exfalso; omega)
        simp only [Act.put, List.getElem_toArray, List.getElem_cons_zero, List.getElem_cons_succ, List.setIfInBounds_toArray, List.set_cons_zero, List.set_cons_succ]
        refine wpAnyH_take (i := 26) (v := .int .i64 0) rfl (by kernel_rfl) (by kernel_rfl) (by kernel_rfl) (fun _ _ _ h => h) (Or.inl ⟨by rfl, ?q26⟩) HS.out ?_
        case q26 => intro W hSw; obtain ⟨z1, z2⟩ := FC.out W hSw; first | (go_simp; done) | (go_simp; rfl) | (go_simp; omega) | (go_simp; intro hq; exfalso; omega)
        simp only [Act.put, List.getElem_toArray, List.getElem_cons_zero, List.getElem_cons_succ, List.setIfInBounds_toArray, List.set_cons_zero, List.set_cons_succ]
        refine wpAnyH_take (i := 27) (v := .bool false) rfl (by kernel_rfl) (by kernel_rfl) (by kernel_rfl) (fun _ _ _ h => h) (Or.inl ⟨by rfl, ?q27⟩) HS.out ?_
        case q27 => intro W hSw; obtain ⟨z1, z2⟩ := FC.out W hSw; first | (go_simp; done) | (go_simp; rfl) | (go_simp; omega) | (go_simp; intro hq; exfalso; omega)
        simp only [Act.put, List.getElem_toArray, List.getElem_cons_zero, List.getElem_cons_succ, List.setIfInBounds_toArray, List.set_cons_zero, List.set_cons_succ]
        refine wpAnyH_take (i := 28) (v := .bool false) rfl (by kernel_rfl) (by kernel_rfl) (by kernel_rfl) (fun _ _ _ h => h) (Or.inl ⟨by rfl, ?q28⟩) HS.out ?_
        case q28 => intro W hSw; obtain ⟨z1, z2⟩ := FC.out W hSw; first | (go_simp; done) | (go_simp; rfl) | (go_simp; omega) | (go_simp; intro hq; exfalso; omega)
        simp only [Act.put, List.getElem_toArray, List.getElem_cons_zero, List.getElem_cons_succ, List.setIfInBounds_toArray, List.set_cons_zero, List.set_cons_succ]
        refine wpAnyH_take (i := 29) (v := undef) rfl (by kernel_rfl) (by kernel_rfl) (by kernel_rfl) (fun _ _ _ h => h) (Or.inr ⟨by rfl, rfl⟩) HS.out ?_
        simp only [Act.put, List.getElem_toArray, List.getElem_cons_zero, List.getElem_cons_succ, List.setIfInBounds_toArray, List.set_cons_zero, List.set_cons_succ]
        refine wpAnyH_take (i := 30) (v := undef) rfl (by kernel_rfl) (by kernel_rfl) (by kernel_rfl) (fun _ _ _ h => h) (Or.inr ⟨by rfl, rfl⟩) HS.out ?_
        simp only [Act.put, List.getElem_toArray, List.getElem_cons_zero, List.getElem_cons_succ, List.setIfInBounds_toArray, List.set_cons_zero, List.set_cons_succ]
        refine wpAnyH_take (i := 31) (v := undef) rfl (by kernel_rfl) (by kernel_rfl) (by kernel_rfl) (fun _ _ _ h => h) (Or.inr ⟨by rfl, rfl⟩) HS.out ?_
        simp only [Act.put, List.getElem_toArray, List.getElem_cons_zero, List.getElem_cons_succ, List.setIfInBounds_toArray, List.set_cons_zero, List.set_cons_succ]
        refine wpAnyH_take (i := 32) (v := undef) rfl (by kernel_rfl) (by kernel_rfl) (by kernel_rfl) (fun _ _ _ h => h) (Or.inr ⟨by rfl, rfl⟩) HS.out ?_
        simp only [Act.put, List.getElem_toArray, List.getElem_cons_zero, List.getElem_cons_succ, List.setIfInBounds_toArray, List.set_cons_zero, List.set_cons_succ]
        refine wpAnyH_take (i := 33) (v := undef) rfl (by kernel_rfl) (by kernel_rfl) (by kernel_rfl) (fun _ _ _ h => h) (Or.inr ⟨by rfl, rfl⟩) HS.out ?_
        simp only [Act.put, List.getElem_toArray, List.getElem_cons_zero, List.getElem_cons_succ, List.setIfInBounds_toArray, List.set_cons_zero, List.set_cons_succ]
        refine wpAnyH_take (i := 34) (v := undef) rfl (by kernel_rfl) (by kernel_rfl) (by kernel_rfl) (fun _ _ _ h => h) (Or.inr ⟨by rfl, rfl⟩) HS.out ?_
        simp only [Act.put, List.getElem_toArray, List.getElem_cons_zero, List.getElem_cons_succ, List.setIfInBounds_toArray, List.set_cons_zero, List.set_cons_succ]
        refine wpAnyH_take (i := 35) (v := undef) rfl (by kernel_rfl) (by kernel_rfl) (by kernel_rfl) (fun _ _ _ h => h) (Or.inr ⟨by rfl, rfl⟩) HS.out ?_
        simp only [Act.put, List.getElem_toArray, List.getElem_cons_zero, List.getElem_cons_succ, List.setIfInBounds_toArray, List.set_cons_zero, List.set_cons_succ]
        refine wpAnyH_take (i := 36) (v := undef) rfl (by kernel_rfl) (by kernel_rfl) (by kernel_rfl) (fun _ _ _ h => h) (Or.inr ⟨by rfl, rfl⟩) HS.out ?_
        simp only [Act.put, List.getElem_toArray, List.getElem_cons_zero, List.getElem_cons_succ, List.setIfInBounds_toArray, List.set_cons_zero, List.set_cons_succ]
        refine wpAnyH_take (i := 37) (v := undef) rfl (by kernel_rfl) (by kernel_rfl) (by kernel_rfl) (fun _ _ _ h => h) (Or.inr ⟨by rfl, rfl⟩) HS.out ?_
        simp only [Act.put, List.getElem_toArray, List.getElem_cons_zero, List.getElem_cons_succ, List.setIfInBounds_toArray, List.set_cons_zero, List.set_cons_succ]
        refine wpAnyH_take (i := 38) (v := undef) rfl (by kernel_rfl) (by kernel_rfl) (by kernel_rfl) (fun _ _ _ h => h) (Or.inr ⟨by rfl, rfl⟩) HS.out ?_
        simp only [Act.put, List.getElem_toArray, List.getElem_cons_zero, List.getElem_cons_succ, List.setIfInBounds_toArray, List.set_cons_zero, List.set_cons_succ]
        refine wpAnyH_take (i := 39) (v := undef) rfl (by kernel_rfl) (by kernel_rfl) (by kernel_rfl) (fun _ _ _ h => h) (Or.inr ⟨by rfl, rfl⟩) HS.out ?_
        simp only [Act.put, List.getElem_toArray, List.getElem_cons_zero, List.getElem_cons_succ, List.setIfInBounds_toArray, List.set_cons_zero, List.set_cons_succ]
        refine wpAnyH_take (i := 40) (v := undef) rfl (by kernel_rfl) (by kernel_rfl) (by kernel_rfl) (fun _ _ _ h => h) (Or.inr ⟨by rfl, rfl⟩) HS.out ?_
        simp only [Act.put, List.getElem_toArray, List.getElem_cons_zero, List.getElem_cons_succ, List.setIfInBounds_toArray, List.set_cons_zero, List.set_cons_succ]
        refine wpAnyH_take (i := 41) (v := .bool false) rfl (by kernel_rfl) (by kernel_rfl) (by kernel_rfl) (fun _ _ _ h => h) (Or.inl ⟨by rfl, ?q41⟩) HS.out ?_
        case q41 => intro W hSw; obtain ⟨z1, z2⟩ := FC.out W hSw; first | (go_simp; done) | (go_simp; rfl) | (go_simp; omega) | (go_simp; intro hq; exfalso; omega)
        simp only [Act.put, List.getElem_toArray, List.getElem_cons_zero, List.getElem_cons_succ, List.setIfInBounds_toArray, List.set_cons_zero, List.set_cons_succ]
        refine wpAnyH_take (i := 42) (v := .bool false) rfl (by kernel_rfl) (by kernel_rfl) (by kernel_rfl) (fun _ _ _ h => h) (Or.inl ⟨by rfl, ?q42⟩) HS.out ?_
        case q42 => intro W hSw; obtain ⟨z1, z2⟩ := FC.out W hSw; first | (go_simp; done) | (go_simp; rfl) | (go_simp; omega) | (go_simp; intro hq; exfalso; omega)
        simp only [Act.put, List.getElem_toArray, List.getElem_cons_zero, List.getElem_cons_succ, List.setIfInBounds_toArray, List.set_cons_zero, List.set_cons_succ]
        refine wpAnyH_done (by kernel_rfl) ?_ _
        have B5 := hid (HB0.out.trans (HS.out.mono hsz))
        go_wp2
        exact ⟨⟨1, by omega, by go_num, B5⟩, by simp [intOf]; omega⟩
      · obtain ⟨q, rfl⟩ : ∃ q, k = q + 1 := ⟨k - 1, by omega⟩
        obtain ⟨u2, hu2, _⟩ := hcell q (by have := HN.out; omega)
        obtain ⟨s2, Hs2⟩ : ∃ x, Hid ((rs.getD q rw0).1 = x) := ⟨_, rfl⟩
        rw [Hs2.out] at hu2
        have hls : lastN noS (rs.take (q + 1)) = s2 := by rw [take_snoc (by have := HN.out; omega), lastN_snoc]; exact Hs2.out
        rw [hls] at hle
        unfold leS at hle
        have cP : wr.cell? ⟨b, off + q * 2, none⟩ = some (.string s2) := by have := range_below2 hu2 HB0.out hbl 0 _ rfl; simpa using this
        have FC : Hid (∀ W, Below wr.heap.size wr W → W.cell? ⟨b, off + (q + 1) * 2, none⟩ = some (.string s) ∧ W.cell? ⟨b, off + (q + 1) * 2 + 1, none⟩ = some (.slice pu l.length cu) ∧ W.cell? ⟨b, off + q * 2, none⟩ = some (.string s2)) := hid fun W hW => ⟨(hW.cell (p := ⟨b, off + (q + 1) * 2, none⟩) (by show b < _; omega)).trans cN, (hW.cell (p := ⟨b, off + (q + 1) * 2 + 1, none⟩) (by show b < _; omega)).trans cV, (hW.cell (p := ⟨b, off + q * 2, none⟩) (by show b < _; omega)).trans cP⟩
        have ek : IntKind.i64.wrap (((q + 1 : Nat) : Int) - 1) = (q : Int) := by rw [IntKind.wrap_i64]; omega
        have ek2 : IntKind.i64.wrap ((q : Int) + 1 - 1) = (q : Int) := by rw [IntKind.wrap_i64]; omega
        have ek3 : IntKind.i64.wrap (q : Int) = (q : Int) := by rw [IntKind.wrap_i64]; omega
        have et : ((q : Int) + 1).toNat = q + 1 := by omega
        clear hu hu2 hv hcell r1 hs0 hs64 hl64 cN cV cP hls
        go_wp2
        refine wp_region_held_drew (S := Below wr.heap.size wr) (by kernel_rfl) (Below.refl _ _).drew (fun hHeld => ?_)
        have HS := hid hHeld
        clear hHeld
        change wpAnyH _ _ _ _ _ _ _ _ (World.drew _)
        refine wpAnyH_take (i := 0) (v := .slice (some ⟨b, off, none⟩) n c) rfl (by kernel_rfl) (by kernel_rfl) (by kernel_rfl) (fun _ _ _ h => h) (Or.inl ⟨by rfl, ?q0⟩) HS.out ?_
        case q0 => intro W hSw; obtain ⟨z1, z2, z3⟩ := FC.out W hSw; first | (go_simp; done) | (go_simp; rfl) | (go_simp; omega) | (go_simp; intro hq; exfalso; omega)
        simp only [Act.put, List.getElem_toArray, List.getElem_cons_zero, List.getElem_cons_succ, List.setIfInBounds_toArray, List.set_cons_zero, List.set_cons_succ]
        refine wpAnyH_take (i := 1) (v := .int .i64 (((q + 1) : Nat) : Int)) rfl (by kernel_rfl) (by kernel_rfl) (by kernel_rfl) (fun _ _ _ h => h) (Or.inl ⟨by rfl, ?q1⟩) HS.out ?_
        case q1 => intro W hSw; obtain ⟨z1, z2, z3⟩ := FC.out W hSw; first | (go_simp; done) | (go_simp; rfl) | (go_simp; omega) | (go_simp; intro hq; exfalso; omega)
        simp only [Act.put, List.getElem_toArray, List.getElem_cons_zero, List.getElem_cons_succ, List.setIfInBounds_toArray, List.set_cons_zero, List.set_cons_succ]
        refine wpAnyH_take (i := 2) (v := .pointer (some ⟨b, off + (q + 1) * 2, none⟩)) rfl (by kernel_rfl) (by kernel_rfl) (by kernel_rfl) (fun _ _ _ h => h) (Or.inl ⟨by rfl, ?q2⟩) HS.out ?_
        case q2 => intro W hSw; obtain ⟨z1, z2, z3⟩ := FC.out W hSw; first | (go_simp; done) | (go_simp; rfl) | (go_simp; omega) | (go_simp; intro hq; exfalso; omega)
        simp only [Act.put, List.getElem_toArray, List.getElem_cons_zero, List.getElem_cons_succ, List.setIfInBounds_toArray, List.set_cons_zero, List.set_cons_succ]
        refine wpAnyH_take (i := 3) (v := .pointer (some ⟨b, off + (q + 1) * 2, none⟩)) rfl (by kernel_rfl) (by kernel_rfl) (by kernel_rfl) (fun _ _ _ h => h) (Or.inl ⟨by rfl, ?q3⟩) HS.out ?_
        case q3 => intro W hSw; obtain ⟨z1, z2, z3⟩ := FC.out W hSw; first | (go_simp; done) | (go_simp; rfl) | (go_simp; omega) | (go_simp; intro hq; exfalso; omega)
        simp only [Act.put, List.getElem_toArray, List.getElem_cons_zero, List.getElem_cons_succ, List.setIfInBounds_toArray, List.set_cons_zero, List.set_cons_succ]
        refine wpAnyH_take (i := 4) (v := .string s) rfl (by kernel_rfl) (by kernel_rfl) (by kernel_rfl) (fun _ _ _ h => h) (Or.inl ⟨by rfl, ?q4⟩) HS.out ?_
        case q4 => intro W hSw; obtain ⟨z1, z2, z3⟩ := FC.out W hSw; first | (go_simp; done) | (go_simp; rfl) | (go_simp; omega) | (go_simp; intro hq; exfalso; omega)
        simp only [Act.put, List.getElem_toArray, List.getElem_cons_zero, List.getElem_cons_succ, List.setIfInBounds_toArray, List.set_cons_zero, List.set_cons_succ]
        refine wpAnyH_take (i := 5) (v := .int .i64 (s.size : Int)) rfl (by kernel_rfl) (by kernel_rfl) (by kernel_rfl) (fun _ _ _ h => h) (Or.inl ⟨by rfl, ?q5⟩) HS.out ?_
        case q5 => intro W hSw; obtain ⟨z1, z2, z3⟩ := FC.out W hSw; first | (go_simp; done) | (go_simp; rfl) | (go_simp; omega) | (go_simp; intro hq; exfalso; omega)
        simp only [Act.put, List.getElem_toArray, List.getElem_cons_zero, List.getElem_cons_succ, List.setIfInBounds_toArray, List.set_cons_zero, List.set_cons_succ]
        refine wpAnyH_take (i := 6) (v := .bool false) rfl (by kernel_rfl) (by kernel_rfl) (by kernel_rfl) (fun _ _ _ h => h) (Or.inl ⟨by rfl, ?q6⟩) HS.out ?_
        case q6 => intro W hSw; obtain ⟨z1, z2, z3⟩ := FC.out W hSw; first | (go_simp; done) | (go_simp; rfl) | (go_simp; omega) | (go_simp; intro hq; exfalso; omega)
        simp only [Act.put, List.getElem_toArray, List.getElem_cons_zero, List.getElem_cons_succ, List.setIfInBounds_toArray, List.set_cons_zero, List.set_cons_succ]
        refine wpAnyH_take (i := 7) (v := .bool false) rfl (by kernel_rfl) (by kernel_rfl) (by kernel_rfl) (fun _ _ _ h => h) (Or.inl ⟨by rfl, ?q7⟩) HS.out ?_
        case q7 => intro W hSw; obtain ⟨z1, z2, z3⟩ := FC.out W hSw; first | (go_simp; done) | (go_simp; rfl) | (go_simp; omega) | (go_simp; intro hq; exfalso; omega)
        simp only [Act.put, List.getElem_toArray, List.getElem_cons_zero, List.getElem_cons_succ, List.setIfInBounds_toArray, List.set_cons_zero, List.set_cons_succ]
        refine wpAnyH_take (i := 8) (v := .slice (some ⟨b, off, none⟩) n c) rfl (by kernel_rfl) (by kernel_rfl) (by kernel_rfl) (fun _ _ _ h => h) (Or.inl ⟨by rfl, ?q8⟩) HS.out ?_
        case q8 => intro W hSw; obtain ⟨z1, z2, z3⟩ := FC.out W hSw; first | (go_simp; done) | (go_simp; rfl) | (go_simp; omega) | (go_simp; intro hq; exfalso; omega)
        simp only [Act.put, List.getElem_toArray, List.getElem_cons_zero, List.getElem_cons_succ, List.setIfInBounds_toArray, List.set_cons_zero, List.set_cons_succ]
        refine wpAnyH_take (i := 9) (v := .int .i64 (((q + 1) : Nat) : Int)) rfl (by kernel_rfl) (by kernel_rfl) (by kernel_rfl) (fun _ _ _ h => h) (Or.inl ⟨by rfl, ?q9⟩) HS.out ?_
        case q9 => intro W hSw; obtain ⟨z1, z2, z3⟩ := FC.out W hSw; first | (go_simp; done) | (go_simp; rfl) | (go_simp; omega) | (go_simp; intro hq; exfalso; omega)
        simp only [Act.put, List.getElem_toArray, List.getElem_cons_zero, List.getElem_cons_succ, List.setIfInBounds_toArray, List.set_cons_zero, List.set_cons_succ]
        refine wpAnyH_take (i := 10) (v := .pointer (some ⟨b, off + (q + 1) * 2, none⟩)) rfl (by kernel_rfl) (by kernel_rfl) (by kernel_rfl) (fun _ _ _ h => h) (Or.inl ⟨by rfl, ?q10⟩) HS.out ?_
        case q10 => intro W hSw; obtain ⟨z1, z2, z3⟩ := FC.out W hSw; first | (go_simp; done) | (go_simp; rfl) | (go_simp; omega) | (go_simp; intro hq; exfalso; omega)
        simp only [Act.put, List.getElem_toArray, List.getElem_cons_zero, List.getElem_cons_succ, List.setIfInBounds_toArray, List.set_cons_zero, List.set_cons_succ]
        refine wpAnyH_take (i := 11) (v := .pointer (some ⟨b, off + (q + 1) * 2, none⟩)) rfl (by kernel_rfl) (by kernel_rfl) (by kernel_rfl) (fun _ _ _ h => h) (Or.inl ⟨by rfl, ?q11⟩) HS.out ?_
        case q11 => intro W hSw; obtain ⟨z1, z2, z3⟩ := FC.out W hSw; first | (go_simp; done) | (go_simp; rfl) | (go_simp; omega) | (go_simp; intro hq; exfalso; omega)
        simp only [Act.put, List.getElem_toArray, List.getElem_cons_zero, List.getElem_cons_succ, List.setIfInBounds_toArray, List.set_cons_zero, List.set_cons_succ]
        refine wpAnyH_take (i := 12) (v := .string s) rfl (by kernel_rfl) (by kernel_rfl) (by kernel_rfl) (fun _ _ _ h => h) (Or.inl ⟨by rfl, ?q12⟩) HS.out ?_
        case q12 => intro W hSw; obtain ⟨z1, z2, z3⟩ := FC.out W hSw; first | (go_simp; done) | (go_simp; rfl) | (go_simp; omega) | (go_simp; intro hq; exfalso; omega)
        simp only [Act.put, List.getElem_toArray, List.getElem_cons_zero, List.getElem_cons_succ, List.setIfInBounds_toArray, List.set_cons_zero, List.set_cons_succ]
        refine wpAnyH_take (i := 13) (v := .int .i64 (s.size : Int)) rfl (by kernel_rfl) (by kernel_rfl) (by kernel_rfl) (fun _ _ _ h => h) (Or.inl ⟨by rfl, ?q13⟩) HS.out ?_
        case q13 => intro W hSw; obtain ⟨z1, z2, z3⟩ := FC.out W hSw; first | (go_simp; done) | (go_simp; rfl) | (go_simp; omega) | (go_simp; intro hq; exfalso; omega)
        simp only [Act.put, List.getElem_toArray, List.getElem_cons_zero, List.getElem_cons_succ, List.setIfInBounds_toArray, List.set_cons_zero, List.set_cons_succ]
        refine wpAnyH_take (i := 14) (v := .bool false) rfl (by kernel_rfl) (by kernel_rfl) (by kernel_rfl) (fun _ _ _ h => h) (Or.inl ⟨by rfl, ?q14⟩) HS.out ?_
        case q14 => intro W hSw; obtain ⟨z1, z2, z3⟩ := FC.out W hSw; first | (go_simp; done) | (go_simp; rfl) | (go_simp; omega) | (go_simp; intro hq; exfalso; omega)
        simp only [Act.put, List.getElem_toArray, List.getElem_cons_zero, List.getElem_cons_succ, List.setIfInBounds_toArray, List.set_cons_zero, List.set_cons_succ]
        refine wpAnyH_take (i := 15) (v := .bool false) rfl (by kernel_rfl) (by kernel_rfl) (by kernel_rfl) (fun _ _ _ h => h) (Or.inl ⟨by rfl, ?q15⟩) HS.out ?_
        case q15 => intro W hSw; obtain ⟨z1, z2, z3⟩ := FC.out W hSw; first | (go_simp; done) | (go_simp; rfl) | (go_simp; omega) | (go_simp; intro hq; exfalso; omega)
        simp only [Act.put, List.getElem_toArray, List.getElem_cons_zero, List.getElem_cons_succ, List.setIfInBounds_toArray, List.set_cons_zero, List.set_cons_succ]
        refine wpAnyH_take (i := 16) (v := .bool false) rfl (by kernel_rfl) (by kernel_rfl) (by kernel_rfl) (fun _ _ _ h => h) (Or.inl ⟨by rfl, ?q16⟩) HS.out ?_
        case q16 => intro W hSw; obtain ⟨z1, z2, z3⟩ := FC.out W hSw; first | (go_simp; done) | (go_simp; rfl) | (go_simp; omega) | (go_simp; intro hq; exfalso; omega)
        simp only [Act.put, List.getElem_toArray, List.getElem_cons_zero, List.getElem_cons_succ, List.setIfInBounds_toArray, List.set_cons_zero, List.set_cons_succ]
        refine wpAnyH_take (i := 17) (v := .slice (some ⟨b, off, none⟩) n c) rfl (by kernel_rfl) (by kernel_rfl) (by kernel_rfl) (fun _ _ _ h => h) (Or.inl ⟨by rfl, ?q17⟩) HS.out ?_
        case q17 => intro W hSw; obtain ⟨z1, z2, z3⟩ := FC.out W hSw; first | (go_simp; done) | (go_simp; rfl) | (go_simp; omega) | (go_simp; intro hq; exfalso; omega)
        simp only [Act.put, List.getElem_toArray, List.getElem_cons_zero, List.getElem_cons_succ, List.setIfInBounds_toArray, List.set_cons_zero, List.set_cons_succ]
        refine wpAnyH_take (i := 18) (v := .int .i64 (((q + 1) : Nat) : Int)) rfl (by kernel_rfl) (by kernel_rfl) (by kernel_rfl) (fun _ _ _ h => h) (Or.inl ⟨by rfl, ?q18⟩) HS.out ?_
        case q18 => intro W hSw; obtain ⟨z1, z2, z3⟩ := FC.out W hSw; first | (go_simp; done) | (go_simp; rfl) | (go_simp; omega) | (go_simp; intro hq; exfalso; omega)
        simp only [Act.put, List.getElem_toArray, List.getElem_cons_zero, List.getElem_cons_succ, List.setIfInBounds_toArray, List.set_cons_zero, List.set_cons_succ]
        refine wpAnyH_take (i := 19) (v := .pointer (some ⟨b, off + (q + 1) * 2, none⟩)) rfl (by kernel_rfl) (by kernel_rfl) (by kernel_rfl) (fun _ _ _ h => h) (Or.inl ⟨by rfl, ?q19⟩) HS.out ?_
        case q19 => intro W hSw; obtain ⟨z1, z2, z3⟩ := FC.out W hSw; first | (go_simp; done) | (go_simp; rfl) | (go_simp; omega) | (go_simp; intro hq; exfalso; omega)
        simp only [Act.put, List.getElem_toArray, List.getElem_cons_zero, List.getElem_cons_succ, List.setIfInBounds_toArray, List.set_cons_zero, List.set_cons_succ]
        refine wpAnyH_take (i := 20) (v := .pointer (some ⟨b, off + (q + 1) * 2 + 1, none⟩)) rfl (by kernel_rfl) (by kernel_rfl) (by kernel_rfl) (fun _ _ _ h => h) (Or.inl ⟨by rfl, ?q20⟩) HS.out ?_
        case q20 => intro W hSw; obtain ⟨z1, z2, z3⟩ := FC.out W hSw; first | (go_simp; done) | (go_simp; rfl) | (go_simp; omega) | (go_simp; intro hq; exfalso; omega)
        simp only [Act.put, List.getElem_toArray, List.getElem_cons_zero, List.getElem_cons_succ, List.setIfInBounds_toArray, List.set_cons_zero, List.set_cons_succ]
        refine wpAnyH_take (i := 21) (v := .slice pu l.length cu) rfl (by kernel_rfl) (by kernel_rfl) (by kernel_rfl) (fun _ _ _ h => h) (Or.inl ⟨by rfl, ?q21⟩) HS.out ?_
        case q21 => intro W hSw; obtain ⟨z1, z2, z3⟩ := FC.out W hSw; first | (go_simp; done) | (go_simp; rfl) | (go_simp; omega) | (go_simp; intro hq; exfalso; omega)
        simp only [Act.put, List.getElem_toArray, List.getElem_cons_zero, List.getElem_cons_succ, List.setIfInBounds_toArray, List.set_cons_zero, List.set_cons_succ]
        refine wpAnyH_take (i := 22) (v := .int .i64 (l.length : Int)) rfl (by kernel_rfl) (by kernel_rfl) (by kernel_rfl) (fun _ _ _ h => h) (Or.inl ⟨by rfl, ?q22⟩) HS.out ?_
        case q22 => intro W hSw; obtain ⟨z1, z2, z3⟩ := FC.out W hSw; first | (go_simp; done) | (go_simp; rfl) | (go_simp; omega) | (go_simp; intro hq; exfalso; omega)
        simp only [Act.put, List.getElem_toArray, List.getElem_cons_zero, List.getElem_cons_succ, List.setIfInBounds_toArray, List.set_cons_zero, List.set_cons_succ]
        refine wpAnyH_take (i := 23) (v := .bool false) rfl (by kernel_rfl) (by kernel_rfl) (by kernel_rfl) (fun _ _ _ h => h) (Or.inl ⟨by rfl, ?q23⟩) HS.out ?_
        case q23 => intro W hSw; obtain ⟨z1, z2, z3⟩ := FC.out W hSw; first | (go_simp; done) | (go_simp; rfl) | (go_simp; omega) | (go_simp; intro hq; exfalso; omega)
        simp only [Act.put, List.getElem_toArray, List.getElem_cons_zero, List.getElem_cons_succ, List.setIfInBounds_toArray, List.set_cons_zero, List.set_cons_succ]
        refine wpAnyH_take (i := 24) (v := .bool false) rfl (by kernel_rfl) (by kernel_rfl) (by kernel_rfl) (fun _ _ _ h => h) (Or.inl ⟨by rfl, ?q24⟩) HS.out ?_
        case q24 => intro W hSw; obtain ⟨z1, z2, z3⟩ := FC.out W hSw; first | (go_simp; done) | (go_simp; rfl) | (go_simp; omega) | (go_simp; intro hq; exfalso; omega)
        simp only [Act.put, List.getElem_toArray, List.getElem_cons_zero, List.getElem_cons_succ, List.setIfInBounds_toArray, List.set_cons_zero, List.set_cons_succ]
        refine wpAnyH_take (i := 25) (v := .bool false) rfl (by kernel_rfl) (by kernel_rfl) (by kernel_rfl) (fun _ _ _ h => h) (Or.inl ⟨by rfl, ?q25⟩) HS.out ?_
        case q25 => intro W hSw; obtain ⟨z1, z2, z3⟩ := FC.out W hSw; first | (go_simp; done) | (go_simp; rfl) | (go_simp; omega) | (go_simp; intro hq; exfalso; omega)
        simp only [Act.put, List.getElem_toArray, List.getElem_cons_zero, List.getElem_cons_succ, List.setIfInBounds_toArray, List.set_cons_zero, List.set_cons_succ]
        refine wpAnyH_take (i := 26) (v := .int .i64 (((q + 1) : Nat) : Int)) rfl (by kernel_rfl) (by kernel_rfl) (by kernel_rfl) (fun _ _ _ h => h) (Or.inl ⟨by rfl, ?q26⟩) HS.out ?_
        case q26 => intro W hSw; obtain ⟨z1, z2, z3⟩ := FC.out W hSw; first | (go_simp; done) | (go_simp; rfl) | (go_simp; omega) | (go_simp; intro hq; exfalso; omega)
        simp only [Act.put, List.getElem_toArray, List.getElem_cons_zero, List.getElem_cons_succ, List.setIfInBounds_toArray, List.set_cons_zero, List.set_cons_succ]
        refine wpAnyH_take (i := 27) (v := .bool true) rfl (by kernel_rfl) (by kernel_rfl) (by kernel_rfl) (fun _ _ _ h => h) (Or.inl ⟨by rfl, ?q27⟩) HS.out ?_
        case q27 => intro W hSw; obtain ⟨z1, z2, z3⟩ := FC.out W hSw; first | (go_simp; done) | (go_simp; rfl) | (go_simp; omega) | (go_simp; intro hq; exfalso; omega)
        simp only [Act.put, List.getElem_toArray, List.getElem_cons_zero, List.getElem_cons_succ, List.setIfInBounds_toArray, List.set_cons_zero, List.set_cons_succ]
        refine wpAnyH_take (i := 28) (v := .bool true) rfl (by kernel_rfl) (by kernel_rfl) (by kernel_rfl) (fun _ _ _ h => h) (Or.inl ⟨by rfl, ?q28⟩) HS.out ?_
        case q28 => intro W hSw; obtain ⟨z1, z2, z3⟩ := FC.out W hSw; first | (go_simp; done) | (go_simp; rfl) | (go_simp; omega) | (go_simp; intro hq; exfalso; omega)
        simp only [Act.put, List.getElem_toArray, List.getElem_cons_zero, List.getElem_cons_succ, List.setIfInBounds_toArray, List.set_cons_zero, List.set_cons_succ]
        refine wpAnyH_take (i := 29) (v := .slice (some ⟨b, off, none⟩) n c) rfl (by kernel_rfl) (by kernel_rfl) (by kernel_rfl) (fun _ _ _ h => h) (Or.inl ⟨by rfl, ?q29⟩) HS.out ?_
        case q29 => intro W hSw; obtain ⟨z1, z2, z3⟩ := FC.out W hSw; first | (go_simp; done) | (go_simp; rfl) | (go_simp; omega) | (go_simp; intro hq; exfalso; omega)
        simp only [Act.put, List.getElem_toArray, List.getElem_cons_zero, List.getElem_cons_succ, List.setIfInBounds_toArray, List.set_cons_zero, List.set_cons_succ]
        refine wpAnyH_take (i := 30) (v := .int .i64 (((q + 1) : Nat) : Int)) rfl (by kernel_rfl) (by kernel_rfl) (by kernel_rfl) (fun _ _ _ h => h) (Or.inl ⟨by rfl, ?q30⟩) HS.out ?_
        case q30 => intro W hSw; obtain ⟨z1, z2, z3⟩ := FC.out W hSw; first | (go_simp; done) | (go_simp; rfl) | (go_simp; omega) | (go_simp; intro hq; exfalso; omega)
        simp only [Act.put, List.getElem_toArray, List.getElem_cons_zero, List.getElem_cons_succ, List.setIfInBounds_toArray, List.set_cons_zero, List.set_cons_succ]
        refine wpAnyH_take (i := 31) (v := .pointer (some ⟨b, off + (q + 1) * 2, none⟩)) rfl (by kernel_rfl) (by kernel_rfl) (by kernel_rfl) (fun _ _ _ h => h) (Or.inl ⟨by rfl, ?q31⟩) HS.out ?_
        case q31 => intro W hSw; obtain ⟨z1, z2, z3⟩ := FC.out W hSw; first | (go_simp; done) | (go_simp; rfl) | (go_simp; omega) | (go_simp; intro hq; exfalso; omega)
        simp only [Act.put, List.getElem_toArray, List.getElem_cons_zero, List.getElem_cons_succ, List.setIfInBounds_toArray, List.set_cons_zero, List.set_cons_succ]
        refine wpAnyH_take (i := 32) (v := .pointer (some ⟨b, off + (q + 1) * 2, none⟩)) rfl (by kernel_rfl) (by kernel_rfl) (by kernel_rfl) (fun _ _ _ h => h) (Or.inl ⟨by rfl, ?q32⟩) HS.out ?_
        case q32 => intro W hSw; obtain ⟨z1, z2, z3⟩ := FC.out W hSw; first | (go_simp; done) | (go_simp; rfl) | (go_simp; omega) | (go_simp; intro hq; exfalso; omega)
        simp only [Act.put, List.getElem_toArray, List.getElem_cons_zero, List.getElem_cons_succ, List.setIfInBounds_toArray, List.set_cons_zero, List.set_cons_succ]
        refine wpAnyH_take (i := 33) (v := .string s) rfl (by kernel_rfl) (by kernel_rfl) (by kernel_rfl) (fun _ _ _ h => h) (Or.inl ⟨by rfl, ?q33⟩) HS.out ?_
        case q33 => intro W hSw; obtain ⟨z1, z2, z3⟩ := FC.out W hSw; first | (go_simp; done) | (go_simp; rfl) | (go_simp; omega) | (go_simp; intro hq; exfalso; omega)
        simp only [Act.put, List.getElem_toArray, List.getElem_cons_zero, List.getElem_cons_succ, List.setIfInBounds_toArray, List.set_cons_zero, List.set_cons_succ]
        refine wpAnyH_take (i := 34) (v := .slice (some ⟨b, off, none⟩) n c) rfl (by kernel_rfl) (by kernel_rfl) (by kernel_rfl) (fun _ _ _ h => h) (Or.inl ⟨by rfl, ?q34⟩) HS.out ?_
        case q34 => intro W hSw; obtain ⟨z1, z2, z3⟩ := FC.out W hSw; first | (go_simp; done) | (go_simp; rfl) | (go_simp; omega) | (go_simp; intro hq; exfalso; omega)
        simp only [Act.put, List.getElem_toArray, List.getElem_cons_zero, List.getElem_cons_succ, List.setIfInBounds_toArray, List.set_cons_zero, List.set_cons_succ]
        refine wpAnyH_take (i := 35) (v := .int .i64 (((q + 1) : Nat) : Int)) rfl (by kernel_rfl) (by kernel_rfl) (by kernel_rfl) (fun _ _ _ h => h) (Or.inl ⟨by rfl, ?q35⟩) HS.out ?_
        case q35 => intro W hSw; obtain ⟨z1, z2, z3⟩ := FC.out W hSw; first | (go_simp; done) | (go_simp; rfl) | (go_simp; omega) | (go_simp; intro hq; exfalso; omega)
        simp only [Act.put, List.getElem_toArray, List.getElem_cons_zero, List.getElem_cons_succ, List.setIfInBounds_toArray, List.set_cons_zero, List.set_cons_succ]
        refine wpAnyH_take (i := 36) (v := .int .i64 (q : Int)) rfl (by kernel_rfl) (by kernel_rfl) (by kernel_rfl) (fun _ _ _ h => h) (Or.inl ⟨by rfl, ?q36⟩) HS.out ?_
        case q36 => intro W hSw; obtain ⟨z1, z2, z3⟩ := FC.out W hSw; first | (go_simp; done) | (go_simp; rfl) | (go_simp; omega) | (go_simp; intro hq; exfalso; omega)
        simp only [Act.put, List.getElem_toArray, List.getElem_cons_zero, List.getElem_cons_succ, List.setIfInBounds_toArray, List.set_cons_zero, List.set_cons_succ]
        refine wpAnyH_take (i := 37) (v := .pointer (some ⟨b, off + q * 2, none⟩)) rfl (by kernel_rfl) (by kernel_rfl) (by kernel_rfl) (fun _ _ _ h => h) (Or.inl ⟨by rfl, ?q37⟩) HS.out ?_
        case q37 => intro W hSw; obtain ⟨z1, z2, z3⟩ := FC.out W hSw; first | (go_simp; done) | (go_simp; rfl) | (go_simp; omega) | (go_simp; intro hq; exfalso; omega)
        simp only [Act.put, List.getElem_toArray, List.getElem_cons_zero, List.getElem_cons_succ, List.setIfInBounds_toArray, List.set_cons_zero, List.set_cons_succ]
        refine wpAnyH_take (i := 38) (v := .pointer (some ⟨b, off + q * 2, none⟩)) rfl (by kernel_rfl) (by kernel_rfl) (by kernel_rfl) (fun _ _ _ h => h) (Or.inl ⟨by rfl, ?q38⟩) HS.out ?_
        case q38 => intro W hSw; obtain ⟨z1, z2, z3⟩ := FC.out W hSw; first | (go_simp; done) | (go_simp; rfl) | (go_simp; omega) | (go_simp; intro hq; exfalso; omega)
        simp only [Act.put, List.getElem_toArray, List.getElem_cons_zero, List.getElem_cons_succ, List.setIfInBounds_toArray, List.set_cons_zero, List.set_cons_succ]
        refine wpAnyH_take (i := 39) (v := .string s2) rfl (by kernel_rfl) (by kernel_rfl) (by kernel_rfl) (fun _ _ _ h => h) (Or.inl ⟨by rfl, ?q39⟩) HS.out ?_
        case q39 => intro W hSw; obtain ⟨z1, z2, z3⟩ := FC.out W hSw; first | (go_simp; done) | (go_simp; rfl) | (go_simp; omega) | (go_simp; intro hq; exfalso; omega)
        simp only [Act.put, List.getElem_toArray, List.getElem_cons_zero, List.getElem_cons_succ, List.setIfInBounds_toArray, List.set_cons_zero, List.set_cons_succ]
        refine wpAnyH_take (i := 40) (v := .bool false) rfl (by kernel_rfl) (by kernel_rfl) (by kernel_rfl) (fun _ _ _ h => h) (Or.inl ⟨by rfl, ?q40⟩) HS.out ?_
        case q40 => intro W hSw; obtain ⟨z1, z2, z3⟩ := FC.out W hSw; first | (go_simp; done) | (go_simp; rfl) | (go_simp; omega) | (go_simp; intro hq; exfalso; omega)
        simp only [Act.put, List.getElem_toArray, List.getElem_cons_zero, List.getElem_cons_succ, List.setIfInBounds_toArray, List.set_cons_zero, List.set_cons_succ]
        refine wpAnyH_take (i := 41) (v := .bool false) rfl (by kernel_rfl) (by kernel_rfl) (by kernel_rfl) (fun _ _ _ h => h) (Or.inl ⟨by rfl, ?q41⟩) HS.out ?_
        case q41 => intro W hSw; obtain ⟨z1, z2, z3⟩ := FC.out W hSw; first | (go_simp; done) | (go_simp; rfl) | (go_simp; omega) | (go_simp; intro hq; exfalso; omega)
        simp only [Act.put, List.getElem_toArray, List.getElem_cons_zero, List.getElem_cons_succ, List.setIfInBounds_toArray, List.set_cons_zero, List.set_cons_succ]
        refine wpAnyH_take (i := 42) (v := .bool false) rfl (by kernel_rfl) (by kernel_rfl) (by kernel_rfl) (fun _ _ _ h => h) (Or.inl ⟨by rfl, ?q42⟩) HS.out ?_
        case q42 => intro W hSw; obtain ⟨z1, z2, z3⟩ := FC.out W hSw; first | (go_simp; done) | (go_simp; rfl) | (go_simp; omega) | (go_simp; intro hq; exfalso; omega)
        simp only [Act.put, List.getElem_toArray, List.getElem_cons_zero, List.getElem_cons_succ, List.setIfInBounds_toArray, List.set_cons_zero, List.set_cons_succ]
        refine wpAnyH_done (by kernel_rfl) ?_ _
        have B5 := hid (HB0.out.trans (HS.out.mono hsz))
        go_wp2
        exact ⟨⟨q + 1 + 1, by omega, by go_num, B5⟩, by simp [intOf]; omega⟩
    · go_wp2
      go_ret
      exact ⟨rfl, HB0.out⟩
end Go.Proofs.YtklklldmhoofnaaDoor
