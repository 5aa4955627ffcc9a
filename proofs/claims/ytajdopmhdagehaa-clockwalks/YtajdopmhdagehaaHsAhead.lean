/- ahead: which of two rows comes out first, by one question to the order. -/
import Derived.Test.YtajdopmhdagehaaHsS
import Derived.Deep.RegionHeld
set_option linter.unusedVariables false
set_option linter.unusedSimpArgs false
namespace Go.Proofs.Ytajdopmhdagehaa.Ds
open Go.Proofs.Ytajdopmhdagehaa
open Go Go.RowKit

/-- What 'ahead' may answer of two rows. -/
def AhQ (Ls : Pr → Pr → Bool → Prop) (a b : Rw Pr) (r : Bool) : Prop := if a.t < b.t then Ls b.x a.x (!r) else Ls a.x b.x r
set_option maxRecDepth 100000 in
set_option maxHeartbeats 4000000 in
theorem ahead_any {fid : Nat} {fr : Array Value} {J : World → Prop} {U : Nat → Prop} {Dm : Pr → Prop} {Ls : Pr → Pr → Bool → Prop} (O : Orc fid fr J U Dm Ls)
    {w : World} {g : Nat} {sf : Value} {mp : Option Nat} {L : List (Rw Pr)} {nx : Nat} {lo : Int} {v : Value} {S : Nat → Prop}
    (h : HHp w g sf (.func (.func fid) #[] fr) mp L nx lo v S) (hJ : J w) (hd : ∀ k, S k → ¬ U k) (hD : ∀ r ∈ L, Dm r.x) (i j : Nat) (hi : i < L.length) (hj : j < L.length) :
    Calls Try.prog 109 #[ptr g, .int .i64 (i : Int), .int .i64 (j : Int)] w fun e w' => ∃ r : Bool, e = .returned (.bool r) ∧ AhQ Ls (rat L i) (rat L j) r ∧ J w' ∧ Ex U w w' := by
  obtain ⟨b, cap, cur, rfl, hb, hlc, hcm, hcs, hSb, hcu⟩ := h.slc (by omega)
  obtain ⟨-, c1, c2, -, -, -⟩ := h.cg
  obtain ⟨a0, ⟨a1, a2, a3⟩, -⟩ := (h.each i _ (rat_some hi)).c
  obtain ⟨b0, ⟨b1, b2, b3⟩, -⟩ := (h.each j _ (rat_some hj)).c
  have ri : w.cell? ⟨b, i, none⟩ = some (ptr (rat L i).b) := by rw [cell_of_row _ _ _ _ _ _ hb]; exact hcu i hi
  have rj : w.cell? ⟨b, j, none⟩ = some (ptr (rat L j).b) := by rw [cell_of_row _ _ _ _ _ _ hb]; exact hcu j hj
  have Da := hD _ (rat_mem hi)
  have Db := hD _ (rat_mem hj)
  have sa := h.se _ (rat_mem hi)
  have sb := h.se _ (rat_mem hj)
  have la := h.lt _ sa
  have lb := h.lt _ sb
  have lg := h.lt _ h.sg
  have hsm := h.len
  have hfw := h.few
  have K1 : Hid (∀ w', Ex U w w' → w'.cell? ⟨g, 1, none⟩ = some (.func (.func fid) #[] fr) ∧ w'.cell? ⟨(rat L i).b, 1, none⟩ = some (.int .i64 (rat L i).x.1) ∧ w'.cell? ⟨(rat L j).b, 1, none⟩ = some (.int .i64 (rat L j).x.1) ∧ w'.cell? ⟨(rat L i).b, 2, none⟩ = some (.int .i64 (rat L i).x.2.1) ∧ w'.cell? ⟨(rat L j).b, 2, none⟩ = some (.int .i64 (rat L j).x.2.1) ∧ w'.cell? ⟨(rat L i).b, 3, none⟩ = some (.string (rat L i).x.2.2) ∧ w'.cell? ⟨(rat L j).b, 3, none⟩ = some (.string (rat L j).x.2.2)) := hid fun w' hE => by
    refine ⟨?_, ?_, ?_, ?_, ?_, ?_, ?_⟩
    · rw [← c1]; exact World.cell?_of_block (a := ⟨g, 1, none⟩) (hE.block g lg (hd g h.sg))
    · rw [← a1]; exact World.cell?_of_block (a := ⟨_, 1, none⟩) (hE.block _ la (hd _ sa))
    · rw [← b1]; exact World.cell?_of_block (a := ⟨_, 1, none⟩) (hE.block _ lb (hd _ sb))
    · rw [← a2]; exact World.cell?_of_block (a := ⟨_, 2, none⟩) (hE.block _ la (hd _ sa))
    · rw [← b2]; exact World.cell?_of_block (a := ⟨_, 2, none⟩) (hE.block _ lb (hd _ sb))
    · rw [← a3]; exact World.cell?_of_block (a := ⟨_, 3, none⟩) (hE.block _ la (hd _ sa))
    · rw [← b3]; exact World.cell?_of_block (a := ⟨_, 3, none⟩) (hE.block _ lb (hd _ sb))
  clear h hb hcu hSb hd hD sa sb la lb lg hcs
  obtain ⟨A, HA⟩ : ∃ A, Hid (rat L i = A) := ⟨_, rfl⟩
  obtain ⟨B, HB⟩ : ∃ A, Hid (rat L j = A) := ⟨_, rfl⟩
  rw [HA.out] at a0 a1 a2 a3 ri Da K1
  rw [HB.out] at b0 b1 b2 b3 rj Db K1
  rw [HA.out, HB.out]
  clear HA HB
  obtain ⟨n, hn⟩ : ∃ n, Hid (L.length = n) := ⟨_, rfl⟩
  rw [hn.out] at c2 hi hj hlc hsm
  clear hn
  have q1 : (i : Int) < (n : Int) := by omega
  have q2 : (j : Int) < (n : Int) := by omega
  have HJ := hid hJ
  have HDa := hid Da
  have HDb := hid Db
  clear hJ Da Db
  go_enter Try.func109, Try.ntmps109
  go_wp2_with fail
  go_quiet (fail)
  go_wp2_with fail
  by_cases hlt : A.t < B.t
  · have hlt' : (A.t : Int) < (B.t : Int) := by omega
    have HQ : Hid (∀ r, Ls B.x A.x r → AhQ Ls A B (!r)) := hid fun r hr => by unfold AhQ; rw [if_pos hlt, Bool.not_not]; exact hr
    clear hlt
    go_quiet (fail)
    go_wp2_with fail
    generalize hw2 : World.drewN _ _ = w2
    have E2 : Hid (Ex U w w2) := hid (by rw [← hw2]; exact ((Ex.refl _ _).drewN _).drewN _)
    have J2 : Hid (J w2) := hid (by rw [← hw2]; exact O.drewN (O.drewN HJ.out _) _)
    clear hw2
    refine wp_region_held_drew (S := (fun W => W.cell? ⟨g, 1, none⟩ = some (.func (.func fid) #[] fr) ∧ W.cell? ⟨A.b, 1, none⟩ = some (.int .i64 A.x.1) ∧ W.cell? ⟨B.b, 1, none⟩ = some (.int .i64 B.x.1) ∧ W.cell? ⟨A.b, 2, none⟩ = some (.int .i64 A.x.2.1) ∧ W.cell? ⟨B.b, 2, none⟩ = some (.int .i64 B.x.2.1) ∧ W.cell? ⟨A.b, 3, none⟩ = some (.string A.x.2.2) ∧ W.cell? ⟨B.b, 3, none⟩ = some (.string B.x.2.2))) (by kernel_rfl) (K1.out _ E2.out.drew) (fun hHeld => ?_)
    have HS := hid hHeld
    clear hHeld
    change wpAnyH _ _ _ _ _ _ _ _ (World.drew _)
    refine wpAnyH_take (i := 0) (v := ?_) rfl (by kernel_rfl) (by kernel_rfl) (by kernel_rfl) (fun _ _ _ h => h) (Or.inl ⟨by rfl, ?q0⟩) HS.out ?_
    case q0 => intro w hSw; obtain ⟨z1, z2, z3, z4, z5, z6, z7⟩ := hSw; go_simp; rfl
    simp only [Act.put, List.getElem_toArray, List.getElem_cons_zero, List.getElem_cons_succ, List.setIfInBounds_toArray, List.set_cons_zero, List.set_cons_succ]
    refine wpAnyH_take (i := 1) (v := ?_) rfl (by kernel_rfl) (by kernel_rfl) (by kernel_rfl) (fun _ _ _ h => h) (Or.inl ⟨by rfl, ?q1⟩) HS.out ?_
    case q1 => intro w hSw; obtain ⟨z1, z2, z3, z4, z5, z6, z7⟩ := hSw; go_simp; rfl
    simp only [Act.put, List.getElem_toArray, List.getElem_cons_zero, List.getElem_cons_succ, List.setIfInBounds_toArray, List.set_cons_zero, List.set_cons_succ]
    refine wpAnyH_take (i := 2) (v := ?_) rfl (by kernel_rfl) (by kernel_rfl) (by kernel_rfl) (fun _ _ _ h => h) (Or.inl ⟨by rfl, ?q2⟩) HS.out ?_
    case q2 => intro w hSw; obtain ⟨z1, z2, z3, z4, z5, z6, z7⟩ := hSw; go_simp; rfl
    simp only [Act.put, List.getElem_toArray, List.getElem_cons_zero, List.getElem_cons_succ, List.setIfInBounds_toArray, List.set_cons_zero, List.set_cons_succ]
    refine wpAnyH_take (i := 3) (v := ?_) rfl (by kernel_rfl) (by kernel_rfl) (by kernel_rfl) (fun _ _ _ h => h) (Or.inl ⟨by rfl, ?q3⟩) HS.out ?_
    case q3 => intro w hSw; obtain ⟨z1, z2, z3, z4, z5, z6, z7⟩ := hSw; go_simp; rfl
    simp only [Act.put, List.getElem_toArray, List.getElem_cons_zero, List.getElem_cons_succ, List.setIfInBounds_toArray, List.set_cons_zero, List.set_cons_succ]
    refine wpAnyH_take (i := 4) (v := ?_) rfl (by kernel_rfl) (by kernel_rfl) (by kernel_rfl) (fun _ _ _ h => h) (Or.inl ⟨by rfl, ?q4⟩) HS.out ?_
    case q4 => intro w hSw; obtain ⟨z1, z2, z3, z4, z5, z6, z7⟩ := hSw; go_simp; rfl
    simp only [Act.put, List.getElem_toArray, List.getElem_cons_zero, List.getElem_cons_succ, List.setIfInBounds_toArray, List.set_cons_zero, List.set_cons_succ]
    refine wpAnyH_take (i := 5) (v := ?_) rfl (by kernel_rfl) (by kernel_rfl) (by kernel_rfl) (fun _ _ _ h => h) (Or.inl ⟨by rfl, ?q5⟩) HS.out ?_
    case q5 => intro w hSw; obtain ⟨z1, z2, z3, z4, z5, z6, z7⟩ := hSw; go_simp; rfl
    simp only [Act.put, List.getElem_toArray, List.getElem_cons_zero, List.getElem_cons_succ, List.setIfInBounds_toArray, List.set_cons_zero, List.set_cons_succ]
    refine wpAnyH_take (i := 6) (v := ?_) rfl (by kernel_rfl) (by kernel_rfl) (by kernel_rfl) (fun _ _ _ h => h) (Or.inl ⟨by rfl, ?q6⟩) HS.out ?_
    case q6 => intro w hSw; obtain ⟨z1, z2, z3, z4, z5, z6, z7⟩ := hSw; go_simp; rfl
    simp only [Act.put, List.getElem_toArray, List.getElem_cons_zero, List.getElem_cons_succ, List.setIfInBounds_toArray, List.set_cons_zero, List.set_cons_succ]
    refine wpAnyH_take (i := 7) (v := ?_) rfl (by kernel_rfl) (by kernel_rfl) (by kernel_rfl) (fun _ _ _ h => h) (Or.inl ⟨by rfl, ?q7⟩) HS.out ?_
    case q7 => intro w hSw; obtain ⟨z1, z2, z3, z4, z5, z6, z7⟩ := hSw; go_simp; rfl
    simp only [Act.put, List.getElem_toArray, List.getElem_cons_zero, List.getElem_cons_succ, List.setIfInBounds_toArray, List.set_cons_zero, List.set_cons_succ]
    refine wpAnyH_take (i := 8) (v := ?_) rfl (by kernel_rfl) (by kernel_rfl) (by kernel_rfl) (fun _ _ _ h => h) (Or.inl ⟨by rfl, ?q8⟩) HS.out ?_
    case q8 => intro w hSw; obtain ⟨z1, z2, z3, z4, z5, z6, z7⟩ := hSw; go_simp; rfl
    simp only [Act.put, List.getElem_toArray, List.getElem_cons_zero, List.getElem_cons_succ, List.setIfInBounds_toArray, List.set_cons_zero, List.set_cons_succ]
    refine wpAnyH_take (i := 9) (v := ?_) rfl (by kernel_rfl) (by kernel_rfl) (by kernel_rfl) (fun _ _ _ h => h) (Or.inl ⟨by rfl, ?q9⟩) HS.out ?_
    case q9 => intro w hSw; obtain ⟨z1, z2, z3, z4, z5, z6, z7⟩ := hSw; go_simp; rfl
    simp only [Act.put, List.getElem_toArray, List.getElem_cons_zero, List.getElem_cons_succ, List.setIfInBounds_toArray, List.set_cons_zero, List.set_cons_succ]
    refine wpAnyH_take (i := 10) (v := ?_) rfl (by kernel_rfl) (by kernel_rfl) (by kernel_rfl) (fun _ _ _ h => h) (Or.inl ⟨by rfl, ?q10⟩) HS.out ?_
    case q10 => intro w hSw; obtain ⟨z1, z2, z3, z4, z5, z6, z7⟩ := hSw; go_simp; rfl
    simp only [Act.put, List.getElem_toArray, List.getElem_cons_zero, List.getElem_cons_succ, List.setIfInBounds_toArray, List.set_cons_zero, List.set_cons_succ]
    refine wpAnyH_take (i := 11) (v := ?_) rfl (by kernel_rfl) (by kernel_rfl) (by kernel_rfl) (fun _ _ _ h => h) (Or.inl ⟨by rfl, ?q11⟩) HS.out ?_
    case q11 => intro w hSw; obtain ⟨z1, z2, z3, z4, z5, z6, z7⟩ := hSw; go_simp; rfl
    simp only [Act.put, List.getElem_toArray, List.getElem_cons_zero, List.getElem_cons_succ, List.setIfInBounds_toArray, List.set_cons_zero, List.set_cons_succ]
    refine wpAnyH_ready (rs := [12]) (by kernel_rfl) (by simp) ?_
    refine AllReadyH.cons rfl (fun K hK => ?_) AllReadyH.nil
    have CC := O.ask w2.drew B.x A.x (O.stay _ _ J2.out fun _ _ => rfl) HDb.out HDa.out
    replace hK := hid hK
    go_simp
    rw [O.ent, Oper.upon_enter]
    refine CC.mono ?_
    rintro e w3 ⟨r, rfl, hr, hJ3, hE3⟩
    have E3 : Ex U w w3 := (E2.out.drew.trans hE3 (fun _ q => .inl q))
    have HR := HQ.out r hr
    have HJ3 := hid hJ3
    clear hr hJ3 hE3
    clear HS
    have HS := hid (K1.out _ E3)
    refine hK.out _ _ HS.out (fun _ => ?_)
    clear hK K
    refine wpAnyH_take (i := 13) (v := ?_) rfl (by kernel_rfl) (by kernel_rfl) (by kernel_rfl) (fun _ _ _ h => h) (Or.inl ⟨by rfl, ?q13⟩) HS.out ?_
    case q13 => intro w hSw; obtain ⟨z1, z2, z3, z4, z5, z6, z7⟩ := hSw; go_simp; rfl
    simp only [Act.put, List.getElem_toArray, List.getElem_cons_zero, List.getElem_cons_succ, List.setIfInBounds_toArray, List.set_cons_zero, List.set_cons_succ]
    refine wpAnyH_take (i := 14) (v := ?_) rfl (by kernel_rfl) (by kernel_rfl) (by kernel_rfl) (fun _ _ _ h => h) (Or.inl ⟨by rfl, ?q14⟩) HS.out ?_
    case q14 => intro w hSw; obtain ⟨z1, z2, z3, z4, z5, z6, z7⟩ := hSw; go_simp; rfl
    simp only [Act.put, List.getElem_toArray, List.getElem_cons_zero, List.getElem_cons_succ, List.setIfInBounds_toArray, List.set_cons_zero, List.set_cons_succ]
    refine wpAnyH_done (by kernel_rfl) ?_ _
    go_wp2
    go_ret
    exact ⟨_, rfl, HR, HJ3.out, E3⟩
  · have hlt' : (B.t : Int) ≤ (A.t : Int) := by omega
    have HQ : Hid (∀ r, Ls A.x B.x r → AhQ Ls A B r) := hid fun r hr => by unfold AhQ; rw [if_neg hlt]; exact hr
    clear hlt
    go_quiet (fail)
    go_wp2_with fail
    generalize hw2 : World.drewN _ _ = w2
    have E2 : Hid (Ex U w w2) := hid (by rw [← hw2]; exact ((Ex.refl _ _).drewN _).drewN _)
    have J2 : Hid (J w2) := hid (by rw [← hw2]; exact O.drewN (O.drewN HJ.out _) _)
    clear hw2
    refine wp_region_held_drew (S := (fun W => W.cell? ⟨g, 1, none⟩ = some (.func (.func fid) #[] fr) ∧ W.cell? ⟨A.b, 1, none⟩ = some (.int .i64 A.x.1) ∧ W.cell? ⟨B.b, 1, none⟩ = some (.int .i64 B.x.1) ∧ W.cell? ⟨A.b, 2, none⟩ = some (.int .i64 A.x.2.1) ∧ W.cell? ⟨B.b, 2, none⟩ = some (.int .i64 B.x.2.1) ∧ W.cell? ⟨A.b, 3, none⟩ = some (.string A.x.2.2) ∧ W.cell? ⟨B.b, 3, none⟩ = some (.string B.x.2.2))) (by kernel_rfl) (K1.out _ E2.out.drew) (fun hHeld => ?_)
    have HS := hid hHeld
    clear hHeld
    change wpAnyH _ _ _ _ _ _ _ _ (World.drew _)
    refine wpAnyH_take (i := 0) (v := ?_) rfl (by kernel_rfl) (by kernel_rfl) (by kernel_rfl) (fun _ _ _ h => h) (Or.inl ⟨by rfl, ?q0⟩) HS.out ?_
    case q0 => intro w hSw; obtain ⟨z1, z2, z3, z4, z5, z6, z7⟩ := hSw; go_simp; rfl
    simp only [Act.put, List.getElem_toArray, List.getElem_cons_zero, List.getElem_cons_succ, List.setIfInBounds_toArray, List.set_cons_zero, List.set_cons_succ]
    refine wpAnyH_take (i := 1) (v := ?_) rfl (by kernel_rfl) (by kernel_rfl) (by kernel_rfl) (fun _ _ _ h => h) (Or.inl ⟨by rfl, ?q1⟩) HS.out ?_
    case q1 => intro w hSw; obtain ⟨z1, z2, z3, z4, z5, z6, z7⟩ := hSw; go_simp; rfl
    simp only [Act.put, List.getElem_toArray, List.getElem_cons_zero, List.getElem_cons_succ, List.setIfInBounds_toArray, List.set_cons_zero, List.set_cons_succ]
    refine wpAnyH_take (i := 2) (v := ?_) rfl (by kernel_rfl) (by kernel_rfl) (by kernel_rfl) (fun _ _ _ h => h) (Or.inl ⟨by rfl, ?q2⟩) HS.out ?_
    case q2 => intro w hSw; obtain ⟨z1, z2, z3, z4, z5, z6, z7⟩ := hSw; go_simp; rfl
    simp only [Act.put, List.getElem_toArray, List.getElem_cons_zero, List.getElem_cons_succ, List.setIfInBounds_toArray, List.set_cons_zero, List.set_cons_succ]
    refine wpAnyH_take (i := 3) (v := ?_) rfl (by kernel_rfl) (by kernel_rfl) (by kernel_rfl) (fun _ _ _ h => h) (Or.inl ⟨by rfl, ?q3⟩) HS.out ?_
    case q3 => intro w hSw; obtain ⟨z1, z2, z3, z4, z5, z6, z7⟩ := hSw; go_simp; rfl
    simp only [Act.put, List.getElem_toArray, List.getElem_cons_zero, List.getElem_cons_succ, List.setIfInBounds_toArray, List.set_cons_zero, List.set_cons_succ]
    refine wpAnyH_take (i := 4) (v := ?_) rfl (by kernel_rfl) (by kernel_rfl) (by kernel_rfl) (fun _ _ _ h => h) (Or.inl ⟨by rfl, ?q4⟩) HS.out ?_
    case q4 => intro w hSw; obtain ⟨z1, z2, z3, z4, z5, z6, z7⟩ := hSw; go_simp; rfl
    simp only [Act.put, List.getElem_toArray, List.getElem_cons_zero, List.getElem_cons_succ, List.setIfInBounds_toArray, List.set_cons_zero, List.set_cons_succ]
    refine wpAnyH_take (i := 5) (v := ?_) rfl (by kernel_rfl) (by kernel_rfl) (by kernel_rfl) (fun _ _ _ h => h) (Or.inl ⟨by rfl, ?q5⟩) HS.out ?_
    case q5 => intro w hSw; obtain ⟨z1, z2, z3, z4, z5, z6, z7⟩ := hSw; go_simp; rfl
    simp only [Act.put, List.getElem_toArray, List.getElem_cons_zero, List.getElem_cons_succ, List.setIfInBounds_toArray, List.set_cons_zero, List.set_cons_succ]
    refine wpAnyH_take (i := 6) (v := ?_) rfl (by kernel_rfl) (by kernel_rfl) (by kernel_rfl) (fun _ _ _ h => h) (Or.inl ⟨by rfl, ?q6⟩) HS.out ?_
    case q6 => intro w hSw; obtain ⟨z1, z2, z3, z4, z5, z6, z7⟩ := hSw; go_simp; rfl
    simp only [Act.put, List.getElem_toArray, List.getElem_cons_zero, List.getElem_cons_succ, List.setIfInBounds_toArray, List.set_cons_zero, List.set_cons_succ]
    refine wpAnyH_take (i := 7) (v := ?_) rfl (by kernel_rfl) (by kernel_rfl) (by kernel_rfl) (fun _ _ _ h => h) (Or.inl ⟨by rfl, ?q7⟩) HS.out ?_
    case q7 => intro w hSw; obtain ⟨z1, z2, z3, z4, z5, z6, z7⟩ := hSw; go_simp; rfl
    simp only [Act.put, List.getElem_toArray, List.getElem_cons_zero, List.getElem_cons_succ, List.setIfInBounds_toArray, List.set_cons_zero, List.set_cons_succ]
    refine wpAnyH_take (i := 8) (v := ?_) rfl (by kernel_rfl) (by kernel_rfl) (by kernel_rfl) (fun _ _ _ h => h) (Or.inl ⟨by rfl, ?q8⟩) HS.out ?_
    case q8 => intro w hSw; obtain ⟨z1, z2, z3, z4, z5, z6, z7⟩ := hSw; go_simp; rfl
    simp only [Act.put, List.getElem_toArray, List.getElem_cons_zero, List.getElem_cons_succ, List.setIfInBounds_toArray, List.set_cons_zero, List.set_cons_succ]
    refine wpAnyH_take (i := 9) (v := ?_) rfl (by kernel_rfl) (by kernel_rfl) (by kernel_rfl) (fun _ _ _ h => h) (Or.inl ⟨by rfl, ?q9⟩) HS.out ?_
    case q9 => intro w hSw; obtain ⟨z1, z2, z3, z4, z5, z6, z7⟩ := hSw; go_simp; rfl
    simp only [Act.put, List.getElem_toArray, List.getElem_cons_zero, List.getElem_cons_succ, List.setIfInBounds_toArray, List.set_cons_zero, List.set_cons_succ]
    refine wpAnyH_take (i := 10) (v := ?_) rfl (by kernel_rfl) (by kernel_rfl) (by kernel_rfl) (fun _ _ _ h => h) (Or.inl ⟨by rfl, ?q10⟩) HS.out ?_
    case q10 => intro w hSw; obtain ⟨z1, z2, z3, z4, z5, z6, z7⟩ := hSw; go_simp; rfl
    simp only [Act.put, List.getElem_toArray, List.getElem_cons_zero, List.getElem_cons_succ, List.setIfInBounds_toArray, List.set_cons_zero, List.set_cons_succ]
    refine wpAnyH_take (i := 11) (v := ?_) rfl (by kernel_rfl) (by kernel_rfl) (by kernel_rfl) (fun _ _ _ h => h) (Or.inl ⟨by rfl, ?q11⟩) HS.out ?_
    case q11 => intro w hSw; obtain ⟨z1, z2, z3, z4, z5, z6, z7⟩ := hSw; go_simp; rfl
    simp only [Act.put, List.getElem_toArray, List.getElem_cons_zero, List.getElem_cons_succ, List.setIfInBounds_toArray, List.set_cons_zero, List.set_cons_succ]
    refine wpAnyH_ready (rs := [12]) (by kernel_rfl) (by simp) ?_
    refine AllReadyH.cons rfl (fun K hK => ?_) AllReadyH.nil
    have CC := O.ask w2.drew A.x B.x (O.stay _ _ J2.out fun _ _ => rfl) HDa.out HDb.out
    replace hK := hid hK
    go_simp
    rw [O.ent, Oper.upon_enter]
    refine CC.mono ?_
    rintro e w3 ⟨r, rfl, hr, hJ3, hE3⟩
    have E3 : Ex U w w3 := (E2.out.drew.trans hE3 (fun _ q => .inl q))
    have HR := HQ.out r hr
    have HJ3 := hid hJ3
    clear hr hJ3 hE3
    clear HS
    have HS := hid (K1.out _ E3)
    refine hK.out _ _ HS.out (fun _ => ?_)
    clear hK K
    refine wpAnyH_take (i := 13) (v := ?_) rfl (by kernel_rfl) (by kernel_rfl) (by kernel_rfl) (fun _ _ _ h => h) (Or.inl ⟨by rfl, ?q13⟩) HS.out ?_
    case q13 => intro w hSw; obtain ⟨z1, z2, z3, z4, z5, z6, z7⟩ := hSw; go_simp; rfl
    simp only [Act.put, List.getElem_toArray, List.getElem_cons_zero, List.getElem_cons_succ, List.setIfInBounds_toArray, List.set_cons_zero, List.set_cons_succ]
    refine wpAnyH_done (by kernel_rfl) ?_ _
    go_wp2
    go_ret
    exact ⟨_, rfl, HR, HJ3.out, E3⟩
end Go.Proofs.Ytajdopmhdagehaa.Ds
