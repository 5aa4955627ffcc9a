/- Of the road to uebReadCard_holds: UbRPc. -/
import Derived.Test.YtklklldmhoofnaaDoorG02
import Derived.Test.YtklklldmhoofnaaDoorG03
import Derived.Test.YtklklldmhoofnaaDoorG08
set_option linter.unusedVariables false
set_option linter.unusedSimpArgs false
namespace Go.Proofs.YtklklldmhoofnaaDoor
open Go Go.RowKit
def RpQ (w w' : World) (l : List Int) (a most : Nat) (vo : Value) (nx : Int) : Prop :=
  (∃ f x, l.drop a = fld f ++ x ∧ f.length ≤ most ∧ nx = ((a + (fld f).length : Nat) : Int) ∧ Byt8 f ∧ w'.ownsRow w.heap.size 5 1 vo f.length (f.map (Value.int .u8))) ∨
  (nx = -1 ∧ vo = .slice none 0 0 ∧ ∀ f x, f.length ≤ most → l.drop a ≠ fld f ++ x)
def RpP (w : World) (l : List Int) (a most : Nat) (e : Ending) (w' : World) : Prop := ∃ vo nx, e = .returned (.tuple #[vo, .int .i64 nx]) ∧ RpQ w w' l a most vo nx ∧ Below w.heap.size w w'
theorem pc_none {l : List Int} {a i most : Nat} (hm : most ≤ 99999) (hai : a ≤ i) (hil : i ≤ l.length) (hi8 : i ≤ a + 8) (hno : (58 : Int) ∉ (l.drop a).take (i - a)) (hstop : i = l.length ∨ i = a + 8) (f x : List Int) (hf : f.length ≤ most) : l.drop a ≠ fld f ++ x := by
  intro e
  have h5 := dec_len_small f.length (by omega)
  rw [fld_app] at e
  have hlen := congrArg List.length e
  rw [List.length_drop, List.length_append, List.length_cons, List.length_append, List.length_cons] at hlen
  apply hno
  rw [e, List.take_append]
  apply List.mem_append.2
  right
  rw [show i - a - (dgL f.length).length = (i - a - (dgL f.length).length - 1) + 1 by omega, List.take_succ_cons]
  exact List.mem_cons_self ..
theorem pc_colon {l : List Int} {a i : Nat} (hai : a ≤ i) (hil : i < l.length) (hc : l.getD i 0 = 58) : l.drop a = (l.drop a).take (i - a) ++ 58 :: l.drop (i + 1) := by
  conv => lhs; rw [← List.take_append_drop (i - a) (l.drop a)]
  rw [List.drop_drop, show a + (i - a) = i by omega, List.drop_eq_getElem_cons hil, ← hc]
  congr 2
  simp [List.getD, List.getElem?_eq_getElem hil]
theorem take_more {l : List Int} {a i : Nat} (hai : a ≤ i) (hil : i < l.length) : (l.drop a).take (i + 1 - a) = (l.drop a).take (i - a) ++ [l.getD i 0] := by
  rw [show i + 1 - a = (i - a) + 1 by omega, List.take_succ_eq_append_getElem (by rw [List.length_drop]; omega), List.getElem_drop, getD_of_lt hil]
  congr 2
  simp [show a + (i - a) = i by omega]
set_option maxRecDepth 100000 in
set_option maxHeartbeats 4000000 in
theorem rpiece_any (w : World) (b off c : Nat) (l : List Int) (a most : Nat) (h : HB w (.slice (some ⟨b, off, none⟩) l.length c) l) (ha : a ≤ l.length) (hm : most ≤ 65536) (hk : KD w) :
    Calls Tryd.prog 45 #[.slice (some ⟨b, off, none⟩) l.length c, .int .i64 (a : Int), .int .i64 (most : Int)] w fun e w' => RpP w l a most e w' := by
  have hbyt : Byt8 l := h.2
  have hlc : l.length ≤ c ∧ c ≤ maxLen := by
    obtain ⟨p, c', e, h1, h2⟩ := h.open
    injection e with e1 e2 e3
    subst e3
    exact ⟨h1, h2⟩
  have hm63 : l.length ≤ 9223372036854775807 := by have := hlc.2; unfold maxLen at this; omega
  have hcells : ∀ j, j < l.length → w.cell? ⟨b, off + j, none⟩ = some (.int .u8 (l.getD j 0)) := by
    intro j hj
    obtain ⟨b', o', c', e, _, _, hc⟩ := h.ne (by omega)
    injection e with e1 e2 e3
    injection e1 with e1
    injection e1 with e1 e4
    subst e1 e4
    exact hc j hj
  have HK := hid hk
  have HH := hid h
  have HBY := hid hbyt
  have HCE := hid hcells
  obtain ⟨n, HN⟩ : ∃ n, Hid (l.length = n) := ⟨_, rfl⟩
  rw [HN.out] at hlc hm63 ha
  rw [HN.out]
  clear hbyt hcells h hk
  go_enter Tryd.func45, Tryd.ntmps45
  go_wp2
  go_loopw [8] (fun ii wr => ∃ i : Nat, a ≤ i ∧ i ≤ n ∧ i ≤ a + 8 ∧ ii = .int .i64 (i : Int) ∧ Hid ((58 : Int) ∉ (l.drop a).take (i - a)) ∧ Hid (w = wr)) (fun ii _ => n - (intOf ii).toNat)
  case atStart => exact ⟨a, Nat.le_refl _, ha, by omega, rfl, hid (by simp), hid rfl⟩
  case round =>
    obtain ⟨i, hai, hin, hi8, rfl, HNO, HW⟩ := hrel
    have hw := HW.out
    clear HW
    subst hw
    by_cases hlt : i < n
    · have hc0 := HCE.out i (by have := HN.out; omega)
      by_cases h58 : l.getD i 0 = 58
      · rw [h58] at hc0
        have hcol := pc_colon (l := l) hai (by have := HN.out; omega) h58
        have hpb : Byt8 ((l.drop a).take (i - a)) := fun x hx => HBY.out x (List.mem_of_mem_drop (List.mem_of_mem_take hx))
        have hplen : ((l.drop a).take (i - a)).length = i - a := by rw [List.length_take, List.length_drop, HN.out]; omega
        have hH2 : HB w (.slice (some ⟨b, off + a, none⟩) (i - a) (c - a)) ((l.drop a).take (i - a)) := by
          refine ⟨⟨_, c - a, by rw [hplen], by rw [hplen]; omega, by have := hlc.2; omega, (fun e => by cases e), fun _ => ⟨b, off + a, rfl, fun j hj => ?_⟩⟩, hpb⟩
          rw [hplen] at hj
          rw [show off + a + j = off + (a + j) by omega, HCE.out (a + j) (by have := HN.out; omega)]
          simp [List.getD, List.getElem?_take, hj, List.getElem?_drop]
        have qc := conv_str hH2
        obtain ⟨pre, HPR⟩ : ∃ x, Hid ((l.drop a).take (i - a) = x) := ⟨_, rfl⟩
        rw [HPR.out] at hcol hpb hplen qc HNO
        have C := rread_any w (bS pre) (most : Int) (by rw [bS_size, hplen]; omega) (by omega) (by omega)
        rw [bS_bytes] at C
        obtain ⟨l', HL'⟩ : ∃ x, Hid (l.drop (i + 1) = x) := ⟨_, rfl⟩
        have hl'n : l'.length = n - (i + 1) := by rw [← HL'.out, List.length_drop, HN.out]
        rw [HL'.out] at hcol
        have HCOL := hid hcol
        have HPB := hid hpb
        have HPL := hid hplen
        have HLN := hid hl'n
        have hca : (c = a) = False := by simp; omega
        clear hH2 hcol hpb hplen hl'n
        by_cases hr : rdOk (Lib.bytesOf pre) (most : Int)
        · obtain ⟨r1, r2⟩ := rd_ok hr
          have hvle := hr.2
          have hpd := pre_dgL HPB.out hr
          obtain ⟨v, HV⟩ : ∃ v, Hid (valD (Lib.bytesOf pre) = v) := ⟨_, rfl⟩
          rw [HV.out] at r1 hvle hpd
          rw [r1, r2] at C
          have C := hid C
          have HDR : Hid (l.drop a = dgL v ++ 58 :: l') := by refine hid ?_; rw [← hpd]; exact HCOL.out
          have HPD := hid hpd
          clear r1 r2 hr hpd h58
          go_wp2_with fail
          refine C.out.mono ?_
          rintro e w2 ⟨rfl, hb2⟩
          have B2 := hid hb2
          have hs2 := hb2.size
          have HH2 := hid (HH.out.below hb2)
          have HCE2 : Hid (∀ j, j < n → w2.cell? ⟨b, off + j, none⟩ = some (.int .u8 (l.getD j 0))) := by
            refine hid fun j hj => ?_
            have hj2 := HCE.out j (by have := HN.out; omega)
            rw [B2.out.cell (World.block_lt_of_cell? w _ hj2), hj2]
          have HG : Hid (∀ j, l.getD (i + 1 + j) 0 = l'.getD j 0) := by
            refine hid fun j => ?_
            rw [← HL'.out]
            simp [List.getD, List.getElem?_drop]
          clear hb2 C
          by_cases he : i + 1 + v < n
          · have hc1 := HCE2.out (i + 1 + v) he
            rw [HG.out] at hc1
            by_cases h44 : l'.getD v 0 = 44
            · rw [h44] at hc1
              obtain ⟨g1, g2⟩ := fld_hit HDR.out (by have := HLN.out; omega) h44
              have HQ1 := hid g1
              have HQ2 := hid g2
              have HBF : Hid (Byt8 (l'.take v)) := hid fun x hx => HBY.out x (by rw [← HL'.out] at hx; exact List.mem_of_mem_drop (List.mem_of_mem_take hx))
              have HV5 : Hid (HB w2 (.slice (some ⟨b, off + (i + 1), none⟩) (i + 1 + v - (i + 1)) (c - (i + 1))) (l'.take v)) := by
                refine hid ⟨⟨_, _, by rw [g2, show i + 1 + v - (i + 1) = v by omega], by rw [g2]; omega, by have := hlc.2; omega, (fun e => by cases e), fun _ => ⟨b, off + (i + 1), rfl, fun j hj => ?_⟩⟩, HBF.out⟩
                rw [g2] at hj
                rw [show off + (i + 1) + j = off + (i + 1 + j) by omega, HCE2.out (i + 1 + j) (by omega), HG.out]
                simp [List.getD, List.getElem?_take, hj]
              have HN5 : Hid ((i : Int) + (v : Int) + 2 = ((a + (fld (l'.take v)).length : Nat) : Int)) := by
                refine hid ?_
                rw [fld_len, g2, ← HPD.out, HPL.out]
                omega
              obtain ⟨F, HF⟩ : ∃ x, Hid (l'.take v = x) := ⟨_, rfl⟩
              rw [HF.out] at HQ1 HQ2 HBF HV5 HN5
              clear g1 g2 h44
              go_wp2_with (at_builtin; refine wpList_append_bytes rfl _ _ rfl w.heap.size _ 0 _ rfl (World.ownsRow_nil _ _ _ _) _ F rfl HV5.out ?q1 ?q2 ?_)
              case q1 => rw [HQ2.out]; omega
              case q2 => omega
              intro v6 w6 hown6 hg6 _
              have B6 := hid (B2.out.grown hg6 (by omega) (fun q e => by cases e))
              have HO6 : Hid (w6.ownsRow w.heap.size 5 1 v6 F.length (F.map (Value.int .u8))) := by refine hid ?_; simpa using hown6
              clear hown6 hg6
              go_wp2
              go_ret2
              exact ⟨_, _, rfl, Or.inl ⟨F, _, HQ1.out, by rw [HQ2.out]; omega, HN5.out, HBF.out, HO6.out⟩, B6.out⟩
            · have HQ := hid (fld_short (most := most) HDR.out (Or.inr h44))
              obtain ⟨x, hx⟩ : ∃ x, l'.getD v 0 = x := ⟨_, rfl⟩
              rw [hx] at hc1 h44
              have hne : (x != 44) = true := by rw [bne_iff_ne]; exact h44
              clear hx
              go_wp2
              go_ret2
              exact ⟨_, _, rfl, Or.inr ⟨rfl, rfl, HQ.out⟩, B2.out⟩
          · have HQ := hid (fld_short (most := most) HDR.out (Or.inl (by have := HLN.out; omega)))
            have he2 : (n : Int) - (i : Int) - 1 < (v : Int) + 1 := by omega
            go_wp2
            go_ret2
            exact ⟨_, _, rfl, Or.inr ⟨rfl, rfl, HQ.out⟩, B2.out⟩
        · have HQ := hid (fld_bad HCOL.out HNO.out hr)
          obtain ⟨r1, r2⟩ := rd_no hr
          rw [r1, r2] at C
          have C := hid C
          clear r1 r2 hr h58
          go_wp2_with fail
          refine C.out.mono ?_
          rintro e w2 ⟨rfl, hb2⟩
          have B2 := hid hb2
          clear hb2 C
          go_wp2
          go_ret2
          exact ⟨_, _, rfl, Or.inr ⟨rfl, rfl, HQ.out⟩, B2.out⟩
      · obtain ⟨x, hx⟩ : ∃ x, l.getD i 0 = x := ⟨_, rfl⟩
        have HX := hid hx
        rw [hx] at hc0 h58
        have hne : (x != 58) = true := by rw [bne_iff_ne]; exact h58
        clear hx
        by_cases h8 : (i : Int) - (a : Int) < 8
        · have HN2 : Hid ((58 : Int) ∉ (l.drop a).take (i + 1 - a)) := by
            refine hid ?_
            rw [take_more hai (by have := HN.out; omega), HX.out]
            intro hq
            rcases List.mem_append.1 hq with hq | hq
            · exact HNO.out hq
            · simp at hq; exact h58 hq.symm
          go_wp2
          exact ⟨⟨i + 1, by omega, by omega, by omega, by go_num, HN2, hid trivial⟩, by simp [intOf]; omega⟩
        · have HQ := hid (pc_none (l := l) (most := most) (by omega) hai (by have := HN.out; omega) hi8 HNO.out (Or.inr (by omega)))
          go_wp2
          go_ret2
          exact ⟨_, _, rfl, Or.inr ⟨rfl, rfl, HQ.out⟩, Below.refl _ _⟩
    · have HQ := hid (pc_none (l := l) (most := most) (by omega) hai (by have := HN.out; omega) hi8 HNO.out (Or.inl (by have := HN.out; omega)))
      go_wp2
      go_ret2
      exact ⟨_, _, rfl, Or.inr ⟨rfl, rfl, HQ.out⟩, Below.refl _ _⟩
end Go.Proofs.YtklklldmhoofnaaDoor
