/- cutField of ueb, walked: the name or the value with which bytes begin. -/
import Derived.Test.YthcdefidoibopabDoorUbApp
import Derived.Test.YthcdefidoibopabDoorUbShelf
import Derived.Test.YthcdefidoibopabDoorBsIdx
import Derived.Test.YthcdefidoibopabDoorSlices
set_option linter.unusedSimpArgs false
set_option linter.unusedVariables false
namespace Go.Proofs.YthcdefidoibopabDoor
open Go Go.RowKit

/-- What cutField answers of the bytes l. -/
def CfQ (l : List Int) (most : Nat) (w' : World) (vf : Value) (n : Int) (is : Bool) : Prop :=
  (is = true ∧ ∃ f x, l = fld f ++ x ∧ f.length ≤ most ∧ n = (fld f).length ∧ HB w' vf f) ∨ (is = false ∧ ∀ f x, f.length ≤ most → l ≠ fld f ++ x)
theorem bS_bytes (l : List Int) : (bS l).data.toList = Lib.bytesOf l := by unfold bS Lib.bytesOf; simp

theorem getD_app_right {a b : List Int} (j : Nat) : (a ++ b).getD (a.length + j) 0 = b.getD j 0 := by
  simp [List.getD, List.getElem?_append_right (Nat.le_add_right _ _)]
theorem HB.preC {w : World} {a : Addr} {c : Nat} {l : List Int} (h : HB w (.slice (some a) l.length c) l) (n : Nat) (hn : n ≤ l.length) : HB w (.slice (some a) n c) (l.take n) := by
  obtain ⟨⟨p, c', h1, h2, h3, h6, h4⟩, h5⟩ := h
  injection h1 with e1 e2 e3
  subst e1 e3
  have hl : (l.take n).length = n := by rw [List.length_take]; omega
  refine ⟨⟨some a, c, by rw [hl], by rw [hl]; omega, h3, h6, fun hne => ?_⟩, fun x hx => h5 x (List.mem_of_mem_take hx)⟩
  obtain ⟨b, off, e, hc⟩ := h4 (fun e => hne (by rw [e]; simp))
  refine ⟨b, off, e, fun j hj => ?_⟩
  rw [hl] at hj
  rw [hc j (by omega)]
  simp [List.getD, List.getElem?_take, hj]

set_option maxRecDepth 100000 in
set_option maxHeartbeats 4000000 in
theorem cutField_any (w0 w : World) (hB0 : Below w0.heap.size w0 w) (b off c : Nat) (l : List Int) (most : Nat) (h0 : HB w0 (.slice (some ⟨b, off, none⟩) l.length c) l) (hm : most ≤ 65536) (hk : KD w) :
    Calls Tryd.prog 17 #[.slice (some ⟨b, off, none⟩) l.length c, .int .i64 (most : Int)] w fun e w' => ∃ vf n is, e = .returned (.tuple #[vf, .int .i64 n, .bool is]) ∧ CfQ l most w0 vf n is ∧ Below w.heap.size w w' := by
  have h := h0.below hB0
  have C := number_any w (most : Int) (by omega) (by omega) hk
  have e2 : nE (most : Int) = 0 := by unfold nE; rw [if_neg (by omega)]
  have hsz := nS_size most
  have hd5 := dec_len_small most (by omega)
  obtain ⟨G, HG⟩ : ∃ D, Hid (nS (most : Int) = D) := ⟨_, rfl⟩
  obtain ⟨D, HD⟩ : ∃ D, Hid ((dgL most).length = D) := ⟨_, rfl⟩
  rw [HG.out, e2] at C
  rw [HG.out, HD.out] at hsz
  rw [HD.out] at hd5
  have C := hid C
  have hbyt : Byt8 l := h.2
  have hlc : l.length ≤ c ∧ c ≤ maxLen := by
    obtain ⟨p, c', e, h1, h2⟩ := h.open
    injection e with e1 e2 e3
    subst e3
    exact ⟨h1, h2⟩
  have hm63 : l.length ≤ 9223372036854775807 := by have := hlc.2; unfold maxLen at this; omega
  have hcells : ∀ j, j < l.length → w.cell? ⟨b, off + j, none⟩ = some (.int .u8 (l.getD j 0)) := by
    intro j hj
    obtain ⟨b', o', c', e, _, _, hc⟩ := h.ne (by omega)
    injection e with e1 e2 e3
    injection e1 with e1
    injection e1 with e1 e4
    subst e1 e4
    exact hc j hj
  have hcells0 : ∀ j, j < l.length → w0.cell? ⟨b, off + j, none⟩ = some (.int .u8 (l.getD j 0)) := by
    intro j hj
    obtain ⟨b', o', c', e, _, _, hc⟩ := h0.ne (by omega)
    injection e with e1 e2 e3
    injection e1 with e1
    injection e1 with e1 e4
    subst e1 e4
    exact hc j hj
  have HC0 := hid hcells0
  have HK := hid hk
  have HH := hid h
  have HBY := hid hbyt
  have HCE := hid hcells
  obtain ⟨n, HN⟩ : ∃ n, Hid (l.length = n) := ⟨_, rfl⟩
  rw [HN.out] at hlc hm63
  rw [HN.out]
  obtain ⟨m, HM⟩ : ∃ m, Hid (min n (D + 1) = m) := ⟨_, rfl⟩
  have hmn : m ≤ n := by rw [← HM.out]; omega
  have hmin : min (n : Int) ((D : Int) + 1) = (m : Int) := by rw [← HM.out]; omega
  have HT : Hid (l.take m = l.take (D + 1)) := by
    refine hid ?_
    rw [← HM.out, ← HN.out]
    by_cases q : l.length ≤ D + 1
    · rw [Nat.min_eq_left q, List.take_of_length_le (Nat.le_refl _), List.take_of_length_le q]
    · rw [Nat.min_eq_right (by omega)]
  clear hbyt hcells h hk e2 hcells0 h0 hB0
  go_enter Tryd.func17, Tryd.ntmps17
  go_wp2_with fail
  refine C.out.mono ?_
  rintro e w1 ⟨rfl, hb1⟩
  have B1 := hid hb1
  have H1 := hid (HH.out.below hb1)
  have C2 := Tryd.bytes_IndexByte b off m c (l.take m) 58 w1 (by rw [List.length_take, HN.out]; omega) (by
    intro i hi
    rw [hb1.cell (World.block_lt_of_cell? w _ (HCE.out i (by have := HN.out; omega))), HCE.out i (by have := HN.out; omega)]
    simp [List.getD, List.getElem?_take, hi])
  have C2 := hid C2
  clear hb1 C
  go_wp2_with fail
  refine C2.out.mono ?_
  rintro e w1' ⟨rfl, hw⟩
  rw [hw]
  clear C2 hw w1'
  rcases idx58 (l.take m) (fun x hx => HBY.out x (List.mem_of_mem_take hx)) with ⟨hi, hno⟩ | ⟨pre, suf, hsp, hno, hi⟩
  · have hi2 : Lib.indexByte (Lib.bytesOf (l.take m)) (58 : Int).toNat.toUInt8 = -1 := hi
    rw [hi2]
    have HQ : Hid (∀ f x : List Int, f.length ≤ most → l ≠ fld f ++ x) := by
      refine hid fun f x hf => fld_none (most := most) ?_ f x hf
      rw [HD.out, ← HT.out]
      exact hno
    clear hi hi2 hno
    go_wp2
    go_ret3
    exact ⟨_, _, _, rfl, Or.inr ⟨rfl, HQ.out⟩, B1.out⟩
  · have hi2 : Lib.indexByte (Lib.bytesOf (l.take m)) (58 : Int).toNat.toUInt8 = (pre.length : Int) := hi
    rw [hi2]
    obtain ⟨l', hl', hpl⟩ := take_colon hsp
    have HL := hid hl'
    have hpn : pre.length + 1 ≤ n := by rw [← HN.out, hl']; simp
    have HNO := hid hno
    have hpb : Byt8 pre := fun x hx => HBY.out x (by rw [hl']; simp [hx])
    have HPB := hid hpb
    have hpre : l.take pre.length = pre := by rw [hl']; simp
    have hH2 := H1.out.preC pre.length (by rw [HN.out]; omega)
    rw [hpre] at hH2
    have qc := conv_str hH2
    have C3 := read_any w1 (bS pre) (most : Int) (by rw [bS_size]; omega) (by omega) (by omega) (HK.out.below B1.out)
    rw [bS_bytes] at C3
    have HP := hid hpre
    clear hi hi2 hno hsp hl' hpb hpre hH2
    by_cases hr : rdOk (Lib.bytesOf pre) (most : Int)
    · obtain ⟨r1, r2⟩ := rd_ok hr
      have hvle := hr.2
      have hpd := pre_dgL HPB.out hr
      obtain ⟨v, HV⟩ : ∃ v, Hid (valD (Lib.bytesOf pre) = v) := ⟨_, rfl⟩
      rw [HV.out] at r1 hvle hpd
      rw [r1, r2] at C3
      have HPD := hid hpd
      have C3 := hid C3
      clear r1 r2 hr hpd
      obtain ⟨cl, HCL⟩ : ∃ x, Hid (pre.length = x) := ⟨_, rfl⟩
      rw [HCL.out] at hpn hpl qc
      rw [HCL.out]
      go_wp2_with fail
      refine C3.out.mono ?_
      rintro e w2 ⟨rfl, hb2⟩
      have B2 := hid (B1.out.trans (hb2.mono B1.out.size))
      have H2 := hid (H1.out.below hb2)
      have HCE2 : Hid (∀ j, j < n → w2.cell? ⟨b, off + j, none⟩ = some (.int .u8 (l.getD j 0))) := by
        refine hid fun j hj => ?_
        have hj2 := HCE.out j (by have := HN.out; omega)
        rw [B2.out.cell (World.block_lt_of_cell? w _ hj2), hj2]
      clear hb2 C3
      have hlen : Hid (cl + 1 + l'.length = n) := by
        refine hid ?_
        rw [← HN.out, HL.out, ← HCL.out]
        simp
        omega
      have hg : ∀ j, l.getD (cl + 1 + j) 0 = l'.getD j 0 := by
        intro j
        rw [HL.out, ← HCL.out, show pre.length + 1 + j = pre.length + (j + 1) by omega, getD_app_right]
        rfl
      have HPL : Hid (l = dgL v ++ 58 :: l') := by
        refine hid ?_
        rw [← HPD.out]
        exact HL.out
      have HGE := hid hg
      by_cases he : cl + 1 + v < n
      · have hc := HCE2.out (cl + 1 + v) he
        rw [hg] at hc
        clear hg
        by_cases h44 : l'.getD v 0 = 44
        · rw [h44] at hc
          have HV5 : Hid (HB w0 (.slice (some ⟨b, off + (cl + 1), none⟩) (cl + 1 + v - (cl + 1)) (c - (cl + 1))) (l'.take v)) := by
            have hlv : (l'.take v).length = v := by rw [List.length_take]; have := hlen.out; omega
            refine hid ⟨⟨_, _, by rw [hlv, show cl + 1 + v - (cl + 1) = v by omega], by rw [hlv]; omega, by have := hlc.2; omega, (fun e => by cases e), fun _ => ⟨b, off + (cl + 1), rfl, fun j hj => ?_⟩⟩, fun x hx => HBY.out x (by rw [HL.out]; simp [List.mem_of_mem_take hx])⟩
            rw [hlv] at hj
            rw [show off + (cl + 1) + j = off + (cl + 1 + j) by omega, HC0.out (cl + 1 + j) (by have := HN.out; omega), HGE.out]
            simp [List.getD, List.getElem?_take, hj]
          obtain ⟨g1, g2⟩ := fld_hit HPL.out (by have := hlen.out; omega) h44
          have HQ1 := hid g1
          have HQ2 := hid g2
          have HN5 : Hid ((cl : Int) + 1 + (v : Int) + 1 = ((fld (l'.take v)).length : Nat)) := by
            refine hid ?_
            rw [fld_len, g2, ← HPD.out, HCL.out]
            omega
          clear g1 g2 h44
          go_wp2
          go_ret3
          exact ⟨_, _, _, rfl, Or.inl ⟨rfl, _, _, HQ1.out, by rw [HQ2.out]; omega, HN5.out, HV5.out⟩, B2.out⟩
        · have HQ := hid (fld_short (most := most) HPL.out (Or.inr h44))
          obtain ⟨x, hx⟩ : ∃ x, l'.getD v 0 = x := ⟨_, rfl⟩
          rw [hx] at hc h44
          have hne : (x != 44) = true := by rw [bne_iff_ne]; exact h44
          clear hx
          go_wp2
          go_ret3
          exact ⟨_, _, _, rfl, Or.inr ⟨rfl, HQ.out⟩, B2.out⟩
      · have HQ := hid (fld_short (most := most) HPL.out (Or.inl (by have := hlen.out; omega)))
        clear hg
        have he2 : (n : Int) ≤ (cl : Int) + 1 + (v : Int) := by omega
        go_wp2
        go_ret3
        exact ⟨_, _, _, rfl, Or.inr ⟨rfl, HQ.out⟩, B2.out⟩
    · have HQ := hid (fld_bad HL.out HNO.out hr)
      obtain ⟨r1, r2⟩ := rd_no hr
      rw [r1, r2] at C3
      have C3 := hid C3
      clear r1 r2 hr
      obtain ⟨cl, HCL⟩ : ∃ x, Hid (pre.length = x) := ⟨_, rfl⟩
      rw [HCL.out] at hpn hpl qc
      rw [HCL.out]
      go_wp2_with fail
      refine C3.out.mono ?_
      rintro e w2 ⟨rfl, hb2⟩
      have B2 := hid (B1.out.trans (hb2.mono B1.out.size))
      clear hb2 C3
      go_wp2
      go_ret3
      exact ⟨_, _, _, rfl, Or.inr ⟨rfl, HQ.out⟩, B2.out⟩
end Go.Proofs.YthcdefidoibopabDoor
