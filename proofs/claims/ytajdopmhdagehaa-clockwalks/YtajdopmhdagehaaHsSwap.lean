/- swap: two rows change their places. -/
import Derived.Test.YtajdopmhdagehaaHsS
import Derived.BigRegion
set_option linter.unusedVariables false
set_option linter.unusedSimpArgs false
namespace Go.Proofs.Ytajdopmhdagehaa.Ds
open Go.Proofs.Ytajdopmhdagehaa
open Go Go.RowKit

theorem HRow.set {w : World} {r : Rw Pr} {i : Nat} (h : HRow w r i) (k : Nat) : HRow (w.setCell ⟨r.b, 4, none⟩ (.int .i64 (k : Int))) r k := by
  have := bk_set h 4 (.int .i64 (k : Int))
  simpa [HRow, rwA] using this
theorem HRow.other {w : World} {r : Rw Pr} {i y o : Nat} {v : Value} (h : HRow w r i) (hne : y ≠ r.b) : HRow (w.setCell ⟨y, o, none⟩ v) r i := (bk_other hne o v).trans h
section
variable {w : World} {g : Nat} {sf F : Value} {mp : Option Nat} {L : List (Rw Pr)} {nx : Nat} {lo : Int} {v : Value} {S : Nat → Prop}
/-- The world behind an exchange. -/
def swW (w : World) (b i j : Nat) (A B : Rw Pr) : World :=
  (((w.setCell ⟨b, i, none⟩ (ptr B.b)).setCell ⟨b, j, none⟩ (ptr A.b)).setCell ⟨B.b, 4, none⟩ (.int .i64 (i : Int))).setCell ⟨A.b, 4, none⟩ (.int .i64 (j : Int))
theorem HHp.swap (h : HHp w g sf F mp L nx lo v S) {b n cap : Nat} (hv : v = .slice (some ⟨b, 0, none⟩) n cap) {i j : Nat} (hi : i < L.length) (hj : j < L.length) :
    HHp (swW w b i j (rat L i) (rat L j)) g sf F mp (swp L i j) nx lo v S ∧ Ex S w (swW w b i j (rat L i) (rat L j)) := by
  obtain ⟨hk1, hk2, hk3⟩ := h.kinds
  have hob : v.ownBlock = some b := by rw [hv]; rfl
  obtain ⟨hbg, hbr⟩ := hk2 b hob
  have mi := rat_mem hi
  have mj := rat_mem hj
  have hE : Ex S w (swW w b i j (rat L i) (rat L j)) := (((((Ex.refl S w).setCell (h.sr b hob) _).setCell (h.sr b hob) _).setCell (h.se _ mj) _).setCell (h.se _ mi) _)
  have hsz : (swW w b i j (rat L i) (rat L j)).heap.size = w.heap.size := by unfold swW; rw [sz_set, sz_set, sz_set, sz_set]
  have other : ∀ x, x ≠ b → (∀ r ∈ L, r.b ≠ x) → (swW w b i j (rat L i) (rat L j)).heap[x]? = w.heap[x]? := fun x hx hr => by
    unfold swW
    rw [bk_other (hr _ mi), bk_other (hr _ mj), bk_other (Ne.symm hx), bk_other (Ne.symm hx)]
  refine ⟨⟨?_, ?_, ?_, ?_, ?_, ?_, h.sg, h.sr, ?_, ?_, h.few, ?_⟩, hE⟩
  · rw [other g (Ne.symm hbg) hk1]; exact h.top
  · refine ⟨by simp [swp_length], ?_⟩
    rcases h.row.2 with ⟨q, _⟩ | ⟨b', cp, cur, q1, q2, q3, q4, q5, q6, q7⟩
    · rw [hv] at q; cases q
    · rw [hv] at q1
      simp only [Value.slice.injEq, Option.some.injEq, Addr.mk.injEq, and_true] at q1
      obtain ⟨rfl, rfl, rfl⟩ := q1
      refine .inr ⟨b, cap, (cur.setIfInBounds i (ptr (rat L j).b)).setIfInBounds j (ptr (rat L i).b), by rw [hv, swp_length], Nat.zero_le _, ?_, by rw [swp_length]; exact q4, q5, by simpa using q6, ?_⟩
      · unfold swW
        rw [bk_other (hbr _ mi), bk_other (hbr _ mj)]
        exact bk_set (bk_set q3 _ _) _ _
      · rw [swp_length]
        have q6' : cur.size = cap := by simpa using q6
        apply List.ext_getElem?
        intro k
        have q8 : (cur.toList.take (L.length * 1))[k]? = (L.map fun r => ptr r.b)[k]? := by rw [q7]
        rw [List.getElem?_take] at q8 ⊢
        rw [List.getElem?_map, swp_get hi hj]
        rw [List.getElem?_map] at q8
        by_cases hk : k < L.length * 1
        · rw [if_pos hk] at q8 ⊢
          simp only [Array.getElem?_toList, Array.getElem?_setIfInBounds]
          by_cases e1 : k = j
          · subst e1
            simp [show k < cur.size by omega]
          · rw [if_neg (Ne.symm e1), if_neg e1]
            by_cases e2 : k = i
            · subst e2
              simp [show k < cur.size by omega]
            · rw [if_neg (Ne.symm e2), if_neg e2, ← q8]
              simp
        · rw [if_neg hk, if_neg (by omega), if_neg (by omega), List.getElem?_eq_none (by omega)]
          rfl
  · intro k r hr
    rw [swp_get hi hj] at hr
    have row0 : ∀ x r', HRow w r' x → b ≠ r'.b → HRow ((w.setCell ⟨b, i, none⟩ (ptr (rat L j).b)).setCell ⟨b, j, none⟩ (ptr (rat L i).b)) r' x := fun x r' q hb => (q.other hb).other hb
    by_cases e1 : k = j
    · subst e1
      rw [if_pos rfl] at hr
      cases hr
      by_cases e2 : i = k
      · subst e2
        unfold swW
        exact ((row0 _ _ (h.each _ _ (rat_some hi)) (Ne.symm (hbr _ mi))).set i).set i
      · unfold swW
        exact ((row0 _ _ (h.each _ _ (rat_some hi)) (Ne.symm (hbr _ mi))).other (h.bne hj hi (Ne.symm e2))).set k
    · rw [if_neg e1] at hr
      by_cases e2 : k = i
      · subst e2
        rw [if_pos rfl] at hr
        cases hr
        unfold swW
        exact ((row0 _ _ (h.each _ _ (rat_some hj)) (Ne.symm (hbr _ mj))).set k).other (h.bne hi hj e1)
      · rw [if_neg e2] at hr
        have hkl := (List.getElem?_eq_some_iff.1 hr).1
        have er := rat_eq hr
        have n1 := h.bne hi hkl (Ne.symm e2)
        have n2 := h.bne hj hkl (Ne.symm e1)
        rw [er] at n1 n2
        unfold swW
        exact ((row0 _ _ (h.each _ _ hr) (Ne.symm (hbr _ (List.mem_of_getElem? hr)))).other n2).other n1
  · intro m hm
    obtain ⟨z1, z2, z3⟩ := hk3 m hm
    refine ⟨((h.held m hm).1.of (other m (fun e => z3 (by rw [hob, e])) z2)).perm (swp_perm hi hj), (h.held m hm).2⟩
  · exact fun r hr => h.tk r ((swp_perm hi hj).subset hr)
  · exact ((swp_perm hi hj).map (·.t)).nodup_iff.2 h.one
  · exact fun r hr => h.se r ((swp_perm hi hj).subset hr)
  · intro k hk
    rw [hsz]
    exact h.lt k hk
  · rw [swp_length]; exact h.len
end
set_option maxRecDepth 100000 in
set_option maxHeartbeats 4000000 in
theorem swap_any {w : World} {g : Nat} {sf F : Value} {mp : Option Nat} {L : List (Rw Pr)} {nx : Nat} {lo : Int} {v : Value} {S : Nat → Prop}
    (h : HHp w g sf F mp L nx lo v S) (i j : Nat) (hi : i < L.length) (hj : j < L.length) :
    Calls Try.prog 102 #[ptr g, .int .i64 (i : Int), .int .i64 (j : Int)] w fun e w' => e = .returned (.tuple #[]) ∧ HHp w' g sf F mp (swp L i j) nx lo v S ∧ Ex S w w' := by
  have HH := hid h
  obtain ⟨b, cap, cur, rfl, hb, hlc, hcm, hcs, hSb, hcu⟩ := h.slc (by omega)
  obtain ⟨hk1, hk2, hk3⟩ := h.kinds
  obtain ⟨hbg, hbr⟩ := hk2 b rfl
  obtain ⟨-, -, c2, -, -, -⟩ := h.cg
  have ra := h.each i _ (rat_some hi)
  have rb := h.each j _ (rat_some hj)
  have ri : w.cell? ⟨b, i, none⟩ = some (ptr (rat L i).b) := by rw [cell_of_row _ _ _ _ _ _ hb]; exact hcu i hi
  have rj : w.cell? ⟨b, j, none⟩ = some (ptr (rat L j).b) := by rw [cell_of_row _ _ _ _ _ _ hb]; exact hcu j hj
  have fi := free_of hb i
  have fj := free_of hb j
  have mi := rat_mem hi
  have mj := rat_mem hj
  have HNA := hid (hbr _ mi)
  have HNB := hid (hbr _ mj)
  have HGA := hid (hk1 _ mi)
  have HGB := hid (hk1 _ mj)
  have hsm := h.len
  have hfw := h.few
  have HAB : Hid (i ≠ j → (rat L i).b ≠ (rat L j).b) := hid fun q => h.bne hi hj q
  have HE : Hid (i = j → rat L i = rat L j) := hid fun q => by rw [q]
  have HC := hid hcs
  have HCU := hid hcu
  have HBG := hid hbg
  clear h hk1 hk2 hk3 hbg hbr mi mj hcu
  have HRA := hid ra
  have HRB := hid rb
  have HBB := hid hb
  have HTOP := hid HH.out.top
  obtain ⟨A, HA⟩ : ∃ A, Hid (rat L i = A) := ⟨_, rfl⟩
  obtain ⟨B, HB⟩ : ∃ A, Hid (rat L j = A) := ⟨_, rfl⟩
  have HF := hid (HH.out.swap rfl hi hj)
  rw [HA.out] at ri HRA HNA HGA HAB HE HF
  rw [HB.out] at rj HRB HNB HGB HAB HE HF
  obtain ⟨n, hn⟩ : ∃ n, Hid (L.length = n) := ⟨_, rfl⟩
  rw [hn.out] at c2 hlc hsm
  have q1 : (i : Int) < (n : Int) := by have := hn.out; omega
  have q2 : (j : Int) < (n : Int) := by have := hn.out; omega
  clear ra rb hb hcs hcm
  have hx : (w.setCell ⟨b, i, none⟩ (.pointer (some ⟨B.b, 0, none⟩))).cell? ⟨b, j, none⟩ = some (.pointer (some ⟨B.b, 0, none⟩)) := by
    rw [cell_of_row _ _ _ _ _ _ (bk_set HBB.out _ _), Array.getElem?_setIfInBounds]
    have hjc : j < cur.size := by have := HC.out; have := hn.out; omega
    split
    · rw [if_pos (by omega)]
    · have := HCU.out j hj
      rw [HB.out] at this
      exact this
  have fx : (w.setCell ⟨b, i, none⟩ (.pointer (some ⟨B.b, 0, none⟩))).frozen? ⟨b, j, none⟩ = false := free_of (bk_set HBB.out _ _) j
  go_enter Try.func102, Try.ntmps102
  go_wp2_with fail
  go_region
  generalize hw1 : World.drew _ = w1
  have hb1 : w1.heap[b]? = some (.cells ((cur.setIfInBounds i (ptr B.b)).setIfInBounds j (ptr A.b)) 146 (0, 0)) := by rw [← hw1]; exact bk_set (bk_set HBB.out _ _) _ _
  have k2 : w1.cell? ⟨g, 2, none⟩ = some (.slice (some ⟨b, 0, none⟩) n cap) := by
    rw [← c2, ← hw1]
    exact World.cell?_of_block (a := ⟨g, 2, none⟩) ((bk_other HBG.out _ _).trans (bk_other HBG.out _ _))
  have hic : i < cur.size := by have := HC.out; have := hn.out; omega
  have hjc : j < cur.size := by have := HC.out; have := hn.out; omega
  have ki : w1.cell? ⟨b, i, none⟩ = some (ptr B.b) := by
    rw [cell_of_row _ _ _ _ _ _ hb1, Array.getElem?_setIfInBounds]
    split
    · rename_i e
      rw [if_pos (by simpa using hjc), HE.out e.symm]
    · rw [Array.getElem?_setIfInBounds, if_pos rfl, if_pos hic]
  have kj : w1.cell? ⟨b, j, none⟩ = some (ptr A.b) := by
    rw [cell_of_row _ _ _ _ _ _ hb1, Array.getElem?_setIfInBounds, if_pos rfl, if_pos (by simpa using hjc)]
  have KA : HRow w1 A i := by rw [← hw1]; exact (HRA.out.other (Ne.symm HNA.out)).other (Ne.symm HNA.out)
  have KB : HRow w1 B j := by rw [← hw1]; exact (HRB.out.other (Ne.symm HNB.out)).other (Ne.symm HNB.out)
  have a2 := KA.c.2.2
  have b2 := KB.c.2.2
  have fa := free_of KA 4
  have fb := free_of KB 4
  have hy : (w1.setCell ⟨B.b, 4, none⟩ (.int .i64 (i : Int))).cell? ⟨A.b, 4, none⟩ = some (.int .i64 (i : Int)) := by
    by_cases e : A.b = B.b
    · rw [e, cell_of_row _ _ _ _ _ _ (bk_set KB _ _)]; rfl
    · rw [cell_of_row _ _ _ _ _ _ ((bk_other (Ne.symm e) _ _).trans KA)]; rfl
  have fy : (w1.setCell ⟨B.b, 4, none⟩ (.int .i64 (i : Int))).frozen? ⟨A.b, 4, none⟩ = false := by
    by_cases e : A.b = B.b
    · rw [e]; exact free_of (bk_set KB _ _) 4
    · exact free_of ((bk_other (Ne.symm e) _ _).trans KA) 4
  have HW1 := hid hw1
  clear hw1 hb1 hic hjc KA KB hx fx c2 ri rj fi fj
  go_wp2_with fail
  go_region
  go_wp2_with fail
  go_end0
  refine ⟨rfl, HF.out.1.of (fun k _ => ?_), ?_⟩
  · rw [← HW1.out]; rfl
  · rw [← HW1.out]
    exact ⟨HF.out.2.os, HF.out.2.tape, HF.out.2.output, HF.out.2.size, HF.out.2.block⟩
end Go.Proofs.Ytajdopmhdagehaa.Ds
