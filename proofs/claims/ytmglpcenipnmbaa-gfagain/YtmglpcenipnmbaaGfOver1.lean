/- gf.Over's step, walked. -/
import Derived.Test.YtmglpcenipnmbaaGfTimes
import Derived.Test.YtmglpcenipnmbaaGfFun
import Derived.Test.YtmglpcenipnmbaaFresh
import Derived.Test.YtmglpcenipnmbaaClone
set_option linter.unusedSimpArgs false
set_option linter.unusedVariables false
namespace Go.Proofs.Ytmglpcenipnmbaa
open Go Go.RowKit

/-- The sum of the first k coefficients' products. -/
def cvF (f : Nat → Nat) (P : List Int) : Nat → Nat → Nat
  | 0, _ => 0
  | k + 1, i => cvF f P k i ^^^ sh P (f k) k i
theorem list_tab {l : List Int} (hl : ∀ x ∈ l, 0 ≤ x ∧ x < 256) : l = tabL l.length (gN l) := by
  refine List.ext_getElem (by simp [tabL]) fun j h1 h2 => ?_
  have := hl l[j] (List.getElem_mem h1)
  simp only [tabL, List.getElem_map, List.getElem_range, gN, List.getD, List.getElem?_eq_getElem h1, Option.getD_some]
  omega
/-- What Over answers, of polynomials without noughts behind. -/
def OverPost (w : World) (A P : List Int) (e : Ending) (w' : World) : Prop :=
  (¬ (A.length ≤ 256 ∧ P.length ≤ 256) → e = .returned (.tuple #[.slice none 0 0, .slice none 0 0, .int .i64 61])) ∧
  ((A.length ≤ 256 ∧ P.length ≤ 256) → P.length = 0 → e = .returned (.tuple #[.slice none 0 0, .slice none 0 0, .int .i64 60])) ∧
  ((A.length ≤ 256 ∧ P.length ≤ 256) → P.length ≠ 0 → ∃ (vq vr : Value) (fq fr : Nat → Nat), e = .returned (.tuple #[vq, vr, .int .i64 0]) ∧ (∀ i, fq i < 256) ∧ (∀ i, fr i < 256) ∧
    w'.ownsRow w.heap.size 5 1 vq (cutL (tabL A.length fq)).length ((cutL (tabL A.length fq)).map (Value.int .u8)) ∧ w'.ownsRow w.heap.size 5 1 vr (cutL (tabL A.length fr)).length ((cutL (tabL A.length fr)).map (Value.int .u8)) ∧
    ((vq.ownBlock = none ∨ vq.ownBlock ≠ vr.ownBlock) ∧ (vr.ownBlock = none ∨ vr.ownBlock ≠ vq.ownBlock)) ∧
    (∀ i, gN A i = fr i ^^^ cvF fq P A.length i) ∧ (∀ i, P.length - 1 ≤ i → fr i = 0) ∧ (∀ k, A.length < k + P.length → fq k = 0)) ∧
  Below w.heap.size w w'

theorem cvF_lt {f : Nat → Nat} {P : List Int} (hP : ∀ k, gN P k < 256) : ∀ k i, cvF f P k i < 256
  | 0, _ => by show 0 < 256; decide
  | k + 1, i => xor8 (cvF_lt hP k i) (sh_lt hP _ _ _)
theorem sh_zero (P : List Int) (s i : Nat) : sh P 0 s i = 0 := by unfold sh; split <;> simp [prod_zero]
theorem cvF_congr {f g : Nat → Nat} (P : List Int) : ∀ (n : Nat) (i : Nat), (∀ k, k < n → f k = g k) → cvF f P n i = cvF g P n i
  | 0, _, _ => rfl
  | n + 1, i, h => by rw [cvF, cvF, cvF_congr P n i fun k hk => h k (by omega), h n (by omega)]
theorem cvF_upd {f : Nat → Nat} (P : List Int) (j v : Nat) (h0 : f j = 0) : ∀ (n : Nat) (i : Nat), j < n → cvF (fun k => if k = j then v else f k) P n i = cvF f P n i ^^^ sh P v j i
  | 0, _, h => absurd h (by omega)
  | n + 1, i, h => by
    rw [cvF, cvF]
    by_cases e : j = n
    · subst e
      rw [if_pos rfl, cvF_congr P j i (g := f) (fun k hk => if_neg (by omega)), h0, sh_zero, Nat.xor_zero]
    · rw [cvF_upd P j v h0 n i (by omega), if_neg (fun h => e h.symm), Nat.xor_assoc, Nat.xor_assoc, Nat.xor_comm (sh P v j i)]

set_option maxRecDepth 100000 in
set_option maxHeartbeats 4000000 in
theorem over1_skip (w : World) (k c t : Nat) (b1 b2 b3 b4 b5 : Nat) (h1 : w.heap[b1]? = some (.cells #[.int .i64 (t : Int)] 3 (0, 0))) (hkt : k < t) :
    Calls Try.prog 57 #[.int .i64 (k : Int), .int .u8 (c : Int), .pointer (some ⟨b1, 0, none⟩), .pointer (some ⟨b2, 0, none⟩), .pointer (some ⟨b3, 0, none⟩), .pointer (some ⟨b4, 0, none⟩), .pointer (some ⟨b5, 0, none⟩)] w fun e w' => e = .returned (.tuple #[]) ∧ w' = w := by
  have q1 : w.cell? ⟨b1, 0, none⟩ = some (.int .i64 (t : Int)) := by rw [cell_of_row w b1 0 _ _ _ h1]; rfl
  clear h1
  go_enter Try.func57, Try.ntmps57
  go_wp2
  refine bodyPost_ret (results_none rfl _ _ _) rfl ?_
  exact ⟨rfl, rfl⟩
set_option maxRecDepth 100000 in
set_option maxHeartbeats 4000000 in
theorem over1_go (w : World) (B k c t iv n gq gr cq cr cb : Nat) (p : Option Addr) (P : List Int) (fq fr : Nat → Nat) (b1 b2 b3 b4 b5 : Nat) (h1 : w.heap[b1]? = some (.cells #[.int .i64 (t : Int)] 3 (0, 0))) (h2 : w.heap[b2]? = some (.cells #[.int .u8 (iv : Int)] 5 (0, 0))) (h3 : w.heap[b3]? = some (.cells #[.slice (some ⟨gq, 0, none⟩) n cq] 38 (0, 0))) (h4 : w.heap[b4]? = some (.cells #[.slice (some ⟨gr, 0, none⟩) n cr] 38 (0, 0))) (h5 : w.heap[b5]? = some (.cells #[.slice p P.length cb] 38 (0, 0)))
    (hq : w.ownsRow B 5 1 (.slice (some ⟨gq, 0, none⟩) n cq) n ((tabL n fq).map (Value.int .u8))) (hr : w.ownsRow B 5 1 (.slice (some ⟨gr, 0, none⟩) n cr) n ((tabL n fr).map (Value.int .u8))) (hP : HB w (.slice p P.length cb) P) (hne : 0 < P.length → ∀ b off, p = some ⟨b, off, none⟩ → b ≠ gr ∧ b ≠ gq) (hqr : gq ≠ gr) (d1 : b1 ≠ gq) (d2 : b2 ≠ gq) (d3 : b3 ≠ gq) (d4 : b4 ≠ gq) (d5 : b5 ≠ gq)
    (hc : c < 256) (hiv : iv < 256) (hfr : ∀ i, fr i < 256) (hn : n ≤ 9223372036854775807) (htk : t ≤ k) (hPl : P.length = t + 1) (hk : k < n) :
    Calls Try.prog 57 #[.int .i64 (k : Int), .int .u8 (c : Int), .pointer (some ⟨b1, 0, none⟩), .pointer (some ⟨b2, 0, none⟩), .pointer (some ⟨b3, 0, none⟩), .pointer (some ⟨b4, 0, none⟩), .pointer (some ⟨b5, 0, none⟩)] w fun e w' => e = .returned (.tuple #[]) ∧
      w'.ownsRow B 5 1 (.slice (some ⟨gq, 0, none⟩) n cq) n ((tabL n (fun j => if j = k - t then prod c iv else fq j)).map (Value.int .u8)) ∧ w'.ownsRow B 5 1 (.slice (some ⟨gr, 0, none⟩) n cr) n ((tabL n (fun i => fr i ^^^ sh P (prod c iv) (k - t) i)).map (Value.int .u8)) ∧ (∀ b, b < w.heap.size → b ≠ gq → b ≠ gr → w'.heap[b]? = w.heap[b]?) ∧ Below B w w' := by
  have q1 : w.cell? ⟨b1, 0, none⟩ = some (.int .i64 (t : Int)) := by rw [cell_of_row w b1 0 _ _ _ h1]; rfl
  have q2 : w.cell? ⟨b2, 0, none⟩ = some (.int .u8 (iv : Int)) := by rw [cell_of_row w b2 0 _ _ _ h2]; rfl
  have q3 : w.cell? ⟨b3, 0, none⟩ = some (.slice (some ⟨gq, 0, none⟩) n cq) := by rw [cell_of_row w b3 0 _ _ _ h3]; rfl
  have q4 : w.cell? ⟨b4, 0, none⟩ = some (.slice (some ⟨gr, 0, none⟩) n cr) := by rw [cell_of_row w b4 0 _ _ _ h4]; rfl
  have q5 : w.cell? ⟨b5, 0, none⟩ = some (.slice p P.length cb) := by rw [cell_of_row w b5 0 _ _ _ h5]; rfl
  have C := hid (mul_any w c iv hc hiv)
  have hpl := prod_lt iv hc
  obtain ⟨m, HM⟩ : ∃ m, Hid (prod c iv = m) := ⟨_, rfl⟩
  rw [HM.out] at C hpl ⊢
  obtain ⟨s, HS⟩ : ∃ s, Hid (k - t = s) := ⟨_, rfl⟩
  have hks : (k : Int) - (t : Int) = (s : Int) := by have := HS.out; omega
  rw [HS.out]
  have hsn : s < n := by have := HS.out; omega
  have hcx := hq.cellAt s (by omega)
  have hfz := hq.frozenAt s
  obtain ⟨zz, hzz⟩ : ∃ zz, ((tabL n fq).map (Value.int .u8))[s]? = some zz := ⟨_, List.getElem?_eq_getElem (by rw [List.length_map, tabL_length]; exact hsn)⟩
  rw [hzz] at hcx
  obtain ⟨w1, hw1⟩ : ∃ w1, Hid (w.setCell ⟨gq, s, none⟩ (.int .u8 (m : Int)) = w1) := ⟨_, rfl⟩
  have hst := hq.stored s (.int .u8 (m : Int))
  have hBq := hq.lt gq rfl
  have hBr := hr.lt gr rfl
  have HQ1 : Hid (w1.ownsRow B 5 1 (.slice (some ⟨gq, 0, none⟩) n cq) n ((tabL n (fun j => if j = s then m else fq j)).map (Value.int .u8))) := by
    have := hst.1
    rw [← List.map_set, tabL_set, hw1.out] at this
    exact this
  have G1 : Hid (w.grownBy w1 (some gq)) := by rw [← hw1.out]; exact hst.2
  have HR1 := hid (hr.kept G1.out (.inr (by simp [Value.ownBlock]; exact fun e => hqr e.symm)))
  have HP1 := hid (hP.aside G1.out (fun h0 b off e => (hne h0 b off e).2))
  have r1 : w1.cell? ⟨b1, 0, none⟩ = some (.int .i64 (t : Int)) := G1.out.cell q1 (by simp; exact d1)
  have r4 : w1.cell? ⟨b4, 0, none⟩ = some (.slice (some ⟨gr, 0, none⟩) n cr) := G1.out.cell q4 (by simp; exact d4)
  have r5 : w1.cell? ⟨b5, 0, none⟩ = some (.slice p P.length cb) := G1.out.cell q5 (by simp; exact d5)
  rw [← hw1.out] at r1 r4 r5
  have D := hid (addShifted_any w1 B n cr gr s m cb p P fr hfr hn HR1.out HP1.out (fun h0 b off e => (hne h0 b off e).1) hpl (by have := HS.out; omega))
  clear hPl
  have HQR := hid hqr
  have HSZ := hid hBq.2
  have HSB := hid hBq.1
  have HSR := hid hBr.1
  clear hst h1 h2 h3 h4 h5 hq hr hP hne hzz HR1 HP1 hqr hBq hBr hfr d1 d2 d3 d4 d5
  have hkt : ¬ (k : Int) < (t : Int) := by omega
  go_enter Try.func57, Try.ntmps57
  go_wp2_with fail
  refine C.out.mono ?_
  rintro e w' ⟨rfl, hw⟩
  subst hw
  clear C
  go_wp2_with fail
  rw [hw1.out]
  refine D.out.mono ?_
  rintro e w2 ⟨rfl, h1, h2⟩
  have HF : Hid (w2.ownsRow B 5 1 (.slice (some ⟨gq, 0, none⟩) n cq) n ((tabL n (fun j => if j = s then m else fq j)).map (Value.int .u8))) := HQ1.out.kept h2 (.inr (by simp [Value.ownBlock]; exact HQR.out))
  have HG := hid h1
  have HH : Hid (∀ b, b < w'.heap.size → b ≠ gq → b ≠ gr → w2.heap[b]? = w'.heap[b]?) := fun b hb n1 n2 => (h2.block b (Nat.lt_of_lt_of_le hb G1.out.size) (by simp; exact n2)).trans (G1.out.block b hb (by simp; exact n1))
  have HBe : Hid (Below B w' w2) := ((Below.refl B w').grown G1.out (Nat.le_trans HSB.out (Nat.le_of_lt HSZ.out)) (fun k e => by cases e; exact HSB.out)).grown h2 (Nat.le_trans (Nat.le_trans HSB.out (Nat.le_of_lt HSZ.out)) G1.out.size) (fun k e => by cases e; exact HSR.out)
  clear h1 h2 D r1 r4 r5
  go_wp2
  go_end0
  exact ⟨rfl, HF.out, HG.out, HH.out, HBe.out⟩

end Go.Proofs.Ytmglpcenipnmbaa
