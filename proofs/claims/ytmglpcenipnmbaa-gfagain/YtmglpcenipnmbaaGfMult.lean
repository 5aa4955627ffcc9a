/- gf.multiplied, gf.Times, walked. -/
import Derived.Test.YtmglpcenipnmbaaGfShift
import Derived.Test.YtmglpcenipnmbaaGfTrim
set_option linter.unusedSimpArgs false
set_option linter.unusedVariables false
namespace Go.Proofs.Ytmglpcenipnmbaa
open Go Go.RowKit

/-- The sum of the j highest powers' products. -/
def cv (A B : List Int) : Nat → Nat → Nat
  | 0, _ => 0
  | j + 1, i => cv A B j i ^^^ sh B (gN A (A.length - (j + 1))) (A.length - (j + 1)) i
theorem sh_lt {P : List Int} (hP : ∀ k, gN P k < 256) (c s i : Nat) : sh P c s i < 256 := by
  unfold sh
  split
  · exact prod_lt _ (hP _)
  · decide
theorem cv_lt {A B : List Int} (hB : ∀ k, gN B k < 256) : ∀ j i, cv A B j i < 256
  | 0, _ => by show 0 < 256; decide
  | j + 1, i => xor8 (cv_lt hB j i) (sh_lt hB _ _ _)

set_option maxRecDepth 100000 in
set_option maxHeartbeats 4000000 in
theorem mult1_any (w : World) (B n cap g k c pc bs bb : Nat) (p : Option Addr) (P : List Int) (f : Nat → Nat) (hf : ∀ i, f i < 256) (hn : n ≤ 9223372036854775807) (hbs : w.heap[bs]? = some (.cells #[.slice (some ⟨g, 0, none⟩) n cap] 38 (0, 0))) (hbb : w.heap[bb]? = some (.cells #[.slice p P.length pc] 38 (0, 0))) (ho : w.ownsRow B 5 1 (.slice (some ⟨g, 0, none⟩) n cap) n ((tabL n f).map (Value.int .u8))) (hP : HB w (.slice p P.length pc) P) (hne : 0 < P.length → ∀ b off, p = some ⟨b, off, none⟩ → b ≠ g) (hc : c < 256) (hs : k + P.length ≤ n) :
    Calls Try.prog 62 #[.int .i64 (k : Int), .int .u8 (c : Int), .pointer (some ⟨bs, 0, none⟩), .pointer (some ⟨bb, 0, none⟩)] w fun e w' => e = .returned (.tuple #[]) ∧ w'.ownsRow B 5 1 (.slice (some ⟨g, 0, none⟩) n cap) n ((tabL n (fun i => f i ^^^ sh P c k i)).map (Value.int .u8)) ∧ w.grownBy w' (some g) := by
  have q1 : w.cell? ⟨bs, 0, none⟩ = some (.slice (some ⟨g, 0, none⟩) n cap) := by rw [cell_of_row w bs 0 _ _ _ hbs]; rfl
  have q2 : w.cell? ⟨bb, 0, none⟩ = some (.slice p P.length pc) := by rw [cell_of_row w bb 0 _ _ _ hbb]; rfl
  have C := hid (addShifted_any w B n cap g k c pc p P f hf hn ho hP hne hc hs)
  clear ho hP hne hbs hbb hf
  go_enter Try.func62, Try.ntmps62
  go_wp2_with fail
  refine C.out.mono ?_
  rintro e w1 ⟨rfl, h1, h2⟩
  have H1 := hid h1
  have H2 := hid h2
  clear h1 h2 C
  go_wp2
  go_end0
  exact ⟨rfl, H1.out, H2.out⟩

set_option maxRecDepth 100000 in
set_option maxHeartbeats 4000000 in
theorem multiplied_any (w : World) (pa pb : Option Addr) (ca cb : Nat) (A P : List Int) (hA : HB w (.slice pa A.length ca) A) (hP : HB w (.slice pb P.length cb) P) (hn : A.length + P.length ≤ 140737488355328) :
    Calls Try.prog 55 #[.slice pa A.length ca, .slice pb P.length cb] w fun e w' => ∃ g, e = .returned (.slice (some ⟨g, 0, none⟩) (A.length + P.length) (A.length + P.length)) ∧ w'.ownsRow w.heap.size 5 1 (.slice (some ⟨g, 0, none⟩) (A.length + P.length) (A.length + P.length)) (A.length + P.length) ((tabL (A.length + P.length) (cv A P A.length)).map (Value.int .u8)) ∧ Below w.heap.size w w' := by
  obtain ⟨i0, hi, hz0, hz1, hz2⟩ := info_parts info_u8
  have HA := hid hA
  have HP := hid hP
  clear hA hP
  have HGA : Hid (∀ k, gN A k < 256) := fun k => (HA.out.gN k).2
  have HGP : Hid (∀ k, gN P k < 256) := fun k => (HP.out.gN k).2
  obtain ⟨n, HN⟩ : ∃ n, Hid (A.length + P.length = n) := ⟨_, rfl⟩
  have hnn : (A.length : Int) + (P.length : Int) = (n : Int) := by have := HN.out; omega
  rw [HN.out] at hn ⊢
  obtain ⟨w1, hw1⟩ : ∃ w1, Hid (w.alloc (.cells #[.slice pb P.length cb] 38) = w1) := ⟨_, rfl⟩
  have B1 : Hid (Below w.heap.size w w1) := by rw [← hw1.out]; exact (Below.refl _ w).alloc (Nat.le_refl _) _
  have hs1 : w1.heap.size = w.heap.size + 1 := by rw [← hw1.out]; simp
  have K1 : Hid (w1.heap[w.heap.size]? = some (.cells #[.slice pb P.length cb] 38 (0, 0))) := by rw [← hw1.out]; exact heap_alloc_new w _
  have q1 : w1.cell? ⟨w.heap.size, 0, none⟩ = some (.slice pb P.length cb) := by rw [cell_of_row w1 w.heap.size 0 _ _ _ K1.out]; rfl
  obtain ⟨w2, hmk, hown, hgr⟩ := run_make_full (P := Try.prog) w1 w.heap.size 38 5 i0 (.int .u8 0) 1 Try.underlying38 hi hz0 hz1 .i64 .i64 n (by rw [hz2]; omega) (by unfold maxLen; omega) (by omega)
  have hmk2 : (Instr.makeSlice 38 (.int .i64 (n : Int)) (.int .i64 (n : Int))).run Try.prog w1 = .ok (.slice (some ⟨w1.heap.size, 0, none⟩) n n) w2 := hmk
  have HSZ2 := hid hgr.size
  have B2 : Hid (Below w1.heap.size w1 w2) := ⟨hgr.os, hgr.tape, hgr.output, hgr.size, fun k hk => hgr.block k hk (by simp)⟩
  have HO2 : Hid (w2.ownsRow w.heap.size 5 1 (.slice (some ⟨w1.heap.size, 0, none⟩) n n) n ((tabL n (cv A P 0)).map (Value.int .u8))) := by
    have e : (madeCells (Value.int IntKind.u8 0).cells (n * 1)).toList = (tabL n (cv A P 0)).map (Value.int .u8) := by
      rw [show (Value.int IntKind.u8 0).cells = #[Value.int .u8 0] from rfl, toList_madeCells_one, Nat.mul_one]
      refine List.ext_getElem (by simp [tabL]) fun j h1 h2 => ?_
      simp [tabL, cv]
    rw [← e]
    exact hown
  clear hmk hown hgr
  go_enter Try.func55, Try.ntmps55
  go_wp2
  rw [hw1.out, hmk2]
  go_wp2_with fail
  rw [hs1] at HO2
  obtain ⟨g, hg⟩ : ∃ g, g = w.heap.size + 1 := ⟨_, rfl⟩
  rw [← hg] at HO2 ⊢
  obtain ⟨W3, hW3⟩ : ∃ W3, Hid (w2.alloc (.cells #[.slice (some ⟨g, 0, none⟩) n n] 38) = W3) := ⟨_, rfl⟩
  rw [hW3.out]
  have hsz2 : g + 1 ≤ w2.heap.size := by have := HO2.out.lt g rfl; omega
  have B12 : Hid (Below w.heap.size w w2) := B1.out.trans (B2.out.mono (by omega))
  have B3 : Hid (Below w.heap.size w W3) := by rw [← hW3.out]; exact B12.out.alloc (by omega) _
  have M0 : Hid (W3.heap[w2.heap.size]? = some (.cells #[.slice (some ⟨g, 0, none⟩) n n] 38 (0, 0))) := by rw [← hW3.out]; exact heap_alloc_new w2 _
  have M1 : Hid (W3.heap[w.heap.size]? = some (.cells #[.slice pb P.length cb] 38 (0, 0))) := by
    rw [← hW3.out]
    exact (Below.heap_alloc _ _ _ (by omega)).trans ((B2.out.block _ (by omega)).trans K1.out)
  have HO3 : Hid (W3.ownsRow w.heap.size 5 1 (.slice (some ⟨g, 0, none⟩) n n) n ((tabL n (cv A P 0)).map (Value.int .u8))) := by rw [← hW3.out]; exact own_below HO2.out ((Below.refl _ w2).alloc (Nat.le_refl _) _)
  obtain ⟨bs, hbs⟩ : ∃ bs, bs = w2.heap.size := ⟨_, rfl⟩
  rw [← hbs] at M0 ⊢
  clear K1 B2 HO2 B12 B1 hW3 q1
  refine (down_mlt _ pa A.length ca (by omega) _ _ undef undef undef (fun K wr => (wr.heap[bs]? = some (.cells #[.slice (some ⟨g, 0, none⟩) n n] 38 (0, 0)) ∧ wr.heap[w.heap.size]? = some (.cells #[.slice pb P.length cb] 38 (0, 0))) ∧ wr.ownsRow w.heap.size 5 1 (.slice (some ⟨g, 0, none⟩) n n) n ((tabL n (cv A P (A.length - K))).map (Value.int .u8)) ∧ W3.grownBy wr (some g)) ?_ ?_).mono ?_
  · refine ⟨⟨M0.out, M1.out⟩, ?_, grown_rfl _ _⟩
    rw [Nat.sub_self]
    exact HO3.out
  · rintro k wr hk ⟨⟨i1, i2⟩, i4, i5⟩
    obtain ⟨b1, o1, c1, e1, _, _, hc1⟩ := HA.out.ne (by omega)
    simp only [Value.slice.injEq] at e1
    obtain ⟨rfl, _, rfl⟩ := e1
    have q0 := hc1 k hk
    have hbl := World.block_lt_of_cell? w _ q0
    have q1 : W3.cell? ⟨b1, o1 + k, none⟩ = some (.int .u8 (A.getD k 0)) := (B3.out.cell hbl).trans q0
    have q2 : wr.cell? ⟨b1, o1 + k, none⟩ = some (.int .u8 (A.getD k 0)) := i5.cell q1 (by simp at hbl ⊢; omega)
    obtain ⟨g1, l1⟩ := HA.out.gN k
    rw [g1] at q2
    refine ⟨b1, o1, gN A k, rfl, q2, ?_⟩
    have hpn : 0 < P.length → ∀ b off, pb = some ⟨b, off, none⟩ → b ≠ g := fun h0 b off e => by
      have := HP.out.old h0 b off e
      omega
    have hPr : HB wr (.slice pb P.length cb) P := (HP.out.below B3.out).aside i5 hpn
    refine (mult1_any wr w.heap.size n n g k (gN A k) cb bs w.heap.size pb P _ (fun i => cv_lt HGP.out _ i) (by omega) i1 i2 i4 hPr hpn l1 (by have := HN.out; omega)).mono ?_
    · rintro e w' ⟨rfl, h1, h2⟩
      refine ⟨rfl, ⟨?_, ?_⟩, ?_, grown_tr i5 h2⟩
      · exact (h2.block bs (by have := (Array.getElem?_eq_some_iff.1 i1).1; exact this) (by simp; omega)).trans i1
      · exact (h2.block w.heap.size (by have := (Array.getElem?_eq_some_iff.1 i2).1; exact this) (by simp; omega)).trans i2
      · rw [show A.length - k = (A.length - (k + 1)) + 1 by omega]
        rw [tabL_congr n (f := cv A P (A.length - (k + 1) + 1)) (g := fun i => cv A P (A.length - (k + 1)) i ^^^ sh P (gN A k) k i) fun i hi => ?_]
        · exact h1
        · show cv A P (A.length - (k + 1)) i ^^^ sh P (gN A (A.length - (A.length - (k + 1) + 1))) (A.length - (A.length - (k + 1) + 1)) i = _
          rw [show A.length - (A.length - (k + 1) + 1) = k by omega]
  · rintro e w4 ⟨rfl, ⟨i1, i2⟩, i4, i5⟩
    rw [Nat.sub_zero] at i4
    have q1 : w4.cell? ⟨bs, 0, none⟩ = some (.slice (some ⟨g, 0, none⟩) n n) := by rw [cell_of_row w4 bs 0 _ _ _ i1]; rfl
    have HR := hid i4
    have HBl := hid (B3.out.grown i5 B3.out.size (fun k e => by cases e; omega))
    clear i1 i2 i4 i5
    subst hbs
    subst hg
    go_wp2
    go_ret
    exact ⟨_, rfl, HR.out, HBl.out⟩
end Go.Proofs.Ytmglpcenipnmbaa
