/- BaseOne, walked. -/
import Derived.Test.YtmfamecadomipaaDoorBsOneM
import Derived.Test.YtmfamecadomipaaDoorBsBytesW
import Derived.Test.YtmfamecadomipaaDoorBsLettersW
import Derived.Test.YtmfamecadomipaaDoorBsUn
import Derived.Test.YtmfamecadomipaaDoorBsNum
import Derived.Lib.SlBytesConst
set_option linter.unusedSimpArgs false
set_option linter.unusedVariables false
namespace Go.Proofs.YtmfamecadomipaaDoor
open Go Go.RowKit

theorem rd_one {s : ByteArray} {most : Int} (h : rdE s.data.toList most = 0) : nS (rdV s.data.toList most) = s ∧ nE (rdV s.data.toList most) = 0 ∧ rdV s.data.toList most ≤ most ∧ 0 ≤ rdV s.data.toList most := by
  by_cases hk : rdOk s.data.toList most
  · obtain ⟨e1, _⟩ := rd_ok hk
    rw [e1]
    have h0 : ¬ ((valD s.data.toList : Int) < 0) := by omega
    refine ⟨?_, by unfold nE; rw [if_neg h0], hk.2, by omega⟩
    unfold nS
    rw [if_neg h0, Int.toNat_natCast, canon_dec _ _ rfl hk.1]
  · obtain ⟨_, e2⟩ := rd_no hk
    rw [e2] at h
    omega
theorem rd_err {l : List UInt8} {most : Int} (h : rdE l most ≠ 0) : rdV l most = 0 := by
  by_cases hk : rdOk l most
  · exact absurd (rd_ok hk).2 h
  · exact (rd_no hk).1
set_option maxRecDepth 100000 in
set_option maxHeartbeats 8000000 in
theorem one_walk (w : World) (s : ByteArray) (most : Int) (hm : -9223372036854775808 ≤ most ∧ most ≤ 9223372036854775807) (hs : s.size ≤ 140737488351232) (hk : KD w) :
    Calls Tryd.prog 5 #[.string s, .int .i64 most] w fun r w' => r = .returned (.bool true) ∧ Below w.heap.size w w' := by
  have hone : HB (w.alloc (.cells #[.int .u8 102, .int .u8 111, .int .u8 111, .int .u8 98, .int .u8 97, .int .u8 114] 5 (6, 7))) (.slice (some ⟨w.heap.size, 0, none⟩) 6 6) [102, 111, 111, 98, 97, 114] := by
    refine ⟨⟨_, 6, rfl, by simp, by decide, (fun e => by cases e), fun _ => ⟨w.heap.size, 0, rfl, fun j hj => ?_⟩⟩, by intro x hx; simp at hx; omega⟩
    simp at hj
    rw [Nat.zero_add, World.cell?_alloc_mark]
    match j, hj with
    | 0, _ => rfl
    | 1, _ => rfl
    | 2, _ => rfl
    | 3, _ => rfl
    | 4, _ => rfl
    | 5, _ => rfl
  have C0 := letters_any _ _ _ hone (by simp)
  have e74 : bS (lettersL [102, 111, 111, 98, 97, 114]) = ⟨#[109, 122, 120, 119, 54, 121, 116, 98, 111, 105]⟩ := by decide
  rw [e74] at C0
  have CH := hid C0
  clear C0 e74 hone
  have hsl := byL_length (sB s)
  have hBB := one_letters (sB s)
  have hUU := one_escape (sB_byt s)
  have hUL := one_escape_len (sB_byt s)
  have hby1 := byL_byt (sB s)
  rw [sB_length] at hsl hUL
  have hBB2 : byE (sB s) = 0 → bS (lettersL (byL (sB s))) = s := fun h => by rw [hBB h, bS_sB]
  have hUU2 : (unA (sB s)).2.2 = 0 → bS (escL (unA (sB s)).1) = s := fun h => by rw [hUU h, bS_sB]
  have CB := hid (fun W => bytes_any W s (by omega))
  have CU := hid (fun W => unescape_any W s hs)
  have CR := hid (fun W (h : KD W) => read_any W s most (by omega) hm.1 hm.2 h)
  have hun : ∀ x ∈ (unA (sB s)).1, 0 ≤ x ∧ x < 256 := unA_byt (sB_byt s)
  have hR1 := @rd_one s most
  have hR2 := @rd_err s.data.toList most
  obtain ⟨BL, eBL⟩ : ∃ x, byL (sB s) = x := ⟨_, rfl⟩
  obtain ⟨BP, eBP⟩ : ∃ x, byP (sB s) = x := ⟨_, rfl⟩
  obtain ⟨BE, eBE⟩ : ∃ x, byE (sB s) = x := ⟨_, rfl⟩
  obtain ⟨UL, eUL⟩ : ∃ x, (unA (sB s)).1 = x := ⟨_, rfl⟩
  obtain ⟨UP, eUP⟩ : ∃ x, (unA (sB s)).2.1 = x := ⟨_, rfl⟩
  obtain ⟨UE, eUE⟩ : ∃ x, (unA (sB s)).2.2 = x := ⟨_, rfl⟩
  obtain ⟨V, eV⟩ : ∃ x, rdV s.data.toList most = x := ⟨_, rfl⟩
  obtain ⟨R, eR⟩ : ∃ x, rdE s.data.toList most = x := ⟨_, rfl⟩
  simp only [eBL, eBP, eBE] at CB hsl hBB2 hby1
  simp only [eUL, eUP, eUE] at CU hUL hUU2 hun
  simp only [eV, eR] at CR hR1 hR2
  have HUN := hid hun
  have HBN := hid hby1
  have HUL := hid hUL
  have HUU := hid hUU2
  have HBB := hid hBB2
  have RD1 : Hid (R = 0 → nS V = s ∧ nE V = 0 ∧ V ≤ most ∧ 0 ≤ V) := hid hR1
  have RD2 : Hid (R ≠ 0 → V = 0) := hid hR2
  have HSL := hid hsl
  have K0 := hid hk
  obtain ⟨hm0, hm1⟩ := hm
  clear hun hby1 hUL hUU2 hBB2 hR1 hR2 hsl hk hBB hUU eBL eBP eBE eUL eUP eUE eV eR
  have hcv : (convert 28 28 (.slice (some ⟨w.heap.size, 0, none⟩) 6 6)).run Tryd.prog (w.alloc (.cells #[.int .u8 102, .int .u8 111, .int .u8 111, .int .u8 98, .int .u8 97, .int .u8 114] 5)) = .ok (.slice (some ⟨w.heap.size, 0, none⟩) 6 6) (w.alloc (.cells #[.int .u8 102, .int .u8 111, .int .u8 111, .int .u8 98, .int .u8 97, .int .u8 114] 5 (6, 7))) := Go.Lib.run_convert_bytes_const w 28 5 #[.int .u8 102, .int .u8 111, .int .u8 111, .int .u8 98, .int .u8 97, .int .u8 114] 6 6 Tryd.underlying28 Tryd.underlying5
  go_enter Tryd.func5, Tryd.ntmps5
  go_wp2_with fail
  refine CH.out.mono ?_
  rintro e1 x1 ⟨rfl, hB1⟩
  have B1 := hid (((Below.refl w.heap.size w).alloc (Nat.le_refl _) (.cells #[.int .u8 102, .int .u8 111, .int .u8 111, .int .u8 98, .int .u8 97, .int .u8 114] 5 (6, 7))).trans (hB1.mono (by simp)))
  clear hB1 CH
  go_wp2_with fail
  refine (CB.out x1).mono ?_
  rintro e2 y2 ⟨vb, rfl, hb, hB2⟩
  obtain ⟨pb, cb, rfl⟩ := own_slc hb
  have HBr := hid (HB.of_own hb HBN.out)
  have B1b := hid (B1.out.trans (hB2.mono B1.out.size))
  clear hb hB2
  by_cases hbe : BE = 0
  · have CL := letters_any y2 _ BL HBr.out (by have := HSL.out; omega)
    rw [HBB.out hbe] at CL
    have CLh := hid CL
    have heq : (s.toList == s.toList) = true := by simp
    subst hbe
    clear CL
    go_wp2_with fail
    refine CLh.out.mono ?_
    rintro e21 x2 ⟨rfl, hB21⟩
    have B2 := hid (B1b.out.trans (hB21.mono B1b.out.size))
    clear hB21 CLh heq
    go_wp2_with fail
    refine (CU.out x2).mono ?_
    rintro e3 y3 ⟨vu, rfl, hu, hB3⟩
    obtain ⟨pu, cu, rfl⟩ := own_slc hu
    have HU := hid (HB.of_own hu HUN.out)
    have B2u := hid (B2.out.trans (hB3.mono B2.out.size))
    clear hu hB3
    by_cases hue : UE = 0
    · have CE := escape_any y3 _ UL HU.out (Nat.le_trans (HUL.out hue) (by omega))
      rw [HUU.out hue] at CE
      have CEh := hid CE
      have heq : (s.toList == s.toList) = true := by simp
      subst hue
      clear CE
      go_wp2_with fail
      refine CEh.out.mono ?_
      rintro e31 x3 ⟨rfl, hB31⟩
      have B3 := hid (B2u.out.trans (hB31.mono B2u.out.size))
      clear hB31 CEh heq
      go_wp2_with fail
      refine (CR.out x3 (K0.out.below B3.out)).mono ?_
      rintro e4 x4 ⟨rfl, hB4⟩
      have B4 := hid (B3.out.trans (hB4.mono B3.out.size))
      clear hB4
      by_cases hr : R = 0
      · obtain ⟨r1, r2, r3, r4⟩ := RD1.out hr
        have CN := number_any x4 V (by omega) (by omega) (K0.out.below B4.out)
        rw [r1, r2] at CN
        have CNh := hid CN
        have heq : (s.toList == s.toList) = true := by simp
        subst hr
        clear CN r1 r2
        go_wp2_with fail
        refine CNh.out.mono ?_
        rintro e5 x5 ⟨rfl, hB5⟩
        have B5 := hid (B4.out.trans (hB5.mono B4.out.size))
        clear hB5
        go_wp2
        go_ret
        exact ⟨by simp [r3, r4], B5.out⟩
      · have hV := RD2.out hr
        have hrb : (R != 0) = true := by simpa using hr
        subst hV
        clear hr
        go_wp2
        go_ret
        exact ⟨rfl, B4.out⟩
    · have hueb : (UE == 0) = false := by simpa using hue
      obtain ⟨x3, hx3⟩ : ∃ x3, x3 = y3 := ⟨_, rfl⟩
      subst hx3
      have B3 := B2u
      clear hue
      go_wp2_with fail
      refine (CR.out x3 (K0.out.below B3.out)).mono ?_
      rintro e4 x4 ⟨rfl, hB4⟩
      have B4 := hid (B3.out.trans (hB4.mono B3.out.size))
      clear hB4
      by_cases hr : R = 0
      · obtain ⟨r1, r2, r3, r4⟩ := RD1.out hr
        have CN := number_any x4 V (by omega) (by omega) (K0.out.below B4.out)
        rw [r1, r2] at CN
        have CNh := hid CN
        have heq : (s.toList == s.toList) = true := by simp
        subst hr
        clear CN r1 r2
        go_wp2_with fail
        refine CNh.out.mono ?_
        rintro e5 x5 ⟨rfl, hB5⟩
        have B5 := hid (B4.out.trans (hB5.mono B4.out.size))
        clear hB5
        go_wp2
        go_ret
        exact ⟨by simp [r3, r4], B5.out⟩
      · have hV := RD2.out hr
        have hrb : (R != 0) = true := by simpa using hr
        subst hV
        clear hr
        go_wp2
        go_ret
        exact ⟨rfl, B4.out⟩
  · have hbeb : (BE == 0) = false := by simpa using hbe
    obtain ⟨x2, hx2⟩ : ∃ x2, x2 = y2 := ⟨_, rfl⟩
    subst hx2
    have B2 := B1b
    clear hbe
    go_wp2_with fail
    refine (CU.out x2).mono ?_
    rintro e3 y3 ⟨vu, rfl, hu, hB3⟩
    obtain ⟨pu, cu, rfl⟩ := own_slc hu
    have HU := hid (HB.of_own hu HUN.out)
    have B2u := hid (B2.out.trans (hB3.mono B2.out.size))
    clear hu hB3
    by_cases hue : UE = 0
    · have CE := escape_any y3 _ UL HU.out (Nat.le_trans (HUL.out hue) (by omega))
      rw [HUU.out hue] at CE
      have CEh := hid CE
      have heq : (s.toList == s.toList) = true := by simp
      subst hue
      clear CE
      go_wp2_with fail
      refine CEh.out.mono ?_
      rintro e31 x3 ⟨rfl, hB31⟩
      have B3 := hid (B2u.out.trans (hB31.mono B2u.out.size))
      clear hB31 CEh heq
      go_wp2_with fail
      refine (CR.out x3 (K0.out.below B3.out)).mono ?_
      rintro e4 x4 ⟨rfl, hB4⟩
      have B4 := hid (B3.out.trans (hB4.mono B3.out.size))
      clear hB4
      by_cases hr : R = 0
      · obtain ⟨r1, r2, r3, r4⟩ := RD1.out hr
        have CN := number_any x4 V (by omega) (by omega) (K0.out.below B4.out)
        rw [r1, r2] at CN
        have CNh := hid CN
        have heq : (s.toList == s.toList) = true := by simp
        subst hr
        clear CN r1 r2
        go_wp2_with fail
        refine CNh.out.mono ?_
        rintro e5 x5 ⟨rfl, hB5⟩
        have B5 := hid (B4.out.trans (hB5.mono B4.out.size))
        clear hB5
        go_wp2
        go_ret
        exact ⟨by simp [r3, r4], B5.out⟩
      · have hV := RD2.out hr
        have hrb : (R != 0) = true := by simpa using hr
        subst hV
        clear hr
        go_wp2
        go_ret
        exact ⟨rfl, B4.out⟩
    · have hueb : (UE == 0) = false := by simpa using hue
      obtain ⟨x3, hx3⟩ : ∃ x3, x3 = y3 := ⟨_, rfl⟩
      subst hx3
      have B3 := B2u
      clear hue
      go_wp2_with fail
      refine (CR.out x3 (K0.out.below B3.out)).mono ?_
      rintro e4 x4 ⟨rfl, hB4⟩
      have B4 := hid (B3.out.trans (hB4.mono B3.out.size))
      clear hB4
      by_cases hr : R = 0
      · obtain ⟨r1, r2, r3, r4⟩ := RD1.out hr
        have CN := number_any x4 V (by omega) (by omega) (K0.out.below B4.out)
        rw [r1, r2] at CN
        have CNh := hid CN
        have heq : (s.toList == s.toList) = true := by simp
        subst hr
        clear CN r1 r2
        go_wp2_with fail
        refine CNh.out.mono ?_
        rintro e5 x5 ⟨rfl, hB5⟩
        have B5 := hid (B4.out.trans (hB5.mono B4.out.size))
        clear hB5
        go_wp2
        go_ret
        exact ⟨by simp [r3, r4], B5.out⟩
      · have hV := RD2.out hr
        have hrb : (R != 0) = true := by simpa using hr
        subst hV
        clear hr
        go_wp2
        go_ret
        exact ⟨rfl, B4.out⟩
end Go.Proofs.YtmfamecadomipaaDoor
