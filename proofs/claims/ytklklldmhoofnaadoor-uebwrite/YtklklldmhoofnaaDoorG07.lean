/- Of the road to uebWriteCard_holds: UbRPc, UbRNo, RegLow, ShaTurn, ShaWords. -/
import Derived.Test.YtklklldmhoofnaaDoorG02
import Derived.Test.YtklklldmhoofnaaDoorG03
import Derived.Test.YtklklldmhoofnaaDoorG06
import Derived.Test.YtklklldmhoofnaaDoorG00
import Derived.Test.YtklklldmhoofnaaDoorG04
import Derived.Deep.RegionHeld
import Derived.Laws.BitsAllLaws
import Derived.BigRegion
set_option linter.unusedVariables false
set_option linter.unusedSimpArgs false
namespace Go.Proofs.YtklklldmhoofnaaDoor
open Go Go.RowKit
def RpQ (w w' : World) (l : List Int) (a most : Nat) (vo : Value) (nx : Int) : Prop :=
  (∃ f x, l.drop a = fld f ++ x ∧ f.length ≤ most ∧ nx = ((a + (fld f).length : Nat) : Int) ∧ Byt8 f ∧ w'.ownsRow w.heap.size 5 1 vo f.length (f.map (Value.int .u8))) ∨
  (nx = -1 ∧ vo = .slice none 0 0 ∧ ∀ f x, f.length ≤ most → l.drop a ≠ fld f ++ x)
def RpP (w : World) (l : List Int) (a most : Nat) (e : Ending) (w' : World) : Prop := ∃ vo nx, e = .returned (.tuple #[vo, .int .i64 nx]) ∧ RpQ w w' l a most vo nx ∧ Below w.heap.size w w'
theorem pc_none {l : List Int} {a i most : Nat} (hm : most ≤ 99999) (hai : a ≤ i) (hil : i ≤ l.length) (hi8 : i ≤ a + 8) (hno : (58 : Int) ∉ (l.drop a).take (i - a)) (hstop : i = l.length ∨ i = a + 8) (f x : List Int) (hf : f.length ≤ most) : l.drop a ≠ fld f ++ x := by
  intro e
  have h5 := dec_len_small f.length (by omega)
  rw [fld_app] at e
  have hlen := congrArg List.length e
  rw [List.length_drop, List.length_append, List.length_cons, List.length_append, List.length_cons] at hlen
  apply hno
  rw [e, List.take_append]
  apply List.mem_append.2
  right
  rw [show i - a - (dgL f.length).length = (i - a - (dgL f.length).length - 1) + 1 by omega, List.take_succ_cons]
  exact List.mem_cons_self ..
theorem pc_colon {l : List Int} {a i : Nat} (hai : a ≤ i) (hil : i < l.length) (hc : l.getD i 0 = 58) : l.drop a = (l.drop a).take (i - a) ++ 58 :: l.drop (i + 1) := by
  conv => lhs; rw [← List.take_append_drop (i - a) (l.drop a)]
  rw [List.drop_drop, show a + (i - a) = i by omega, List.drop_eq_getElem_cons hil, ← hc]
  congr 2
  simp [List.getD, List.getElem?_eq_getElem hil]
theorem take_more {l : List Int} {a i : Nat} (hai : a ≤ i) (hil : i < l.length) : (l.drop a).take (i + 1 - a) = (l.drop a).take (i - a) ++ [l.getD i 0] := by
  rw [show i + 1 - a = (i - a) + 1 by omega, List.take_succ_eq_append_getElem (by rw [List.length_drop]; omega), List.getElem_drop, getD_of_lt hil]
  congr 2
  simp [show a + (i - a) = i by omega]
set_option maxRecDepth 100000 in
set_option maxHeartbeats 4000000 in
theorem rpiece_any (w : World) (b off c : Nat) (l : List Int) (a most : Nat) (h : HB w (.slice (some ⟨b, off, none⟩) l.length c) l) (ha : a ≤ l.length) (hm : most ≤ 65536) (hk : KD w) :
    Calls Tryd.prog 45 #[.slice (some ⟨b, off, none⟩) l.length c, .int .i64 (a : Int), .int .i64 (most : Int)] w fun e w' => RpP w l a most e w' := by
  have hbyt : Byt8 l := h.2
  have hlc : l.length ≤ c ∧ c ≤ maxLen := by
    obtain ⟨p, c', e, h1, h2⟩ := h.open
    injection e with e1 e2 e3
    subst e3
    exact ⟨h1, h2⟩
  have hm63 : l.length ≤ 9223372036854775807 := by have := hlc.2; unfold maxLen at this; omega
  have hcells : ∀ j, j < l.length → w.cell? ⟨b, off + j, none⟩ = some (.int .u8 (l.getD j 0)) := by
    intro j hj
    obtain ⟨b', o', c', e, _, _, hc⟩ := h.ne (by omega)
    injection e with e1 e2 e3
    injection e1 with e1
    injection e1 with e1 e4
    subst e1 e4
    exact hc j hj
  have HK := hid hk
  have HH := hid h
  have HBY := hid hbyt
  have HCE := hid hcells
  obtain ⟨n, HN⟩ : ∃ n, Hid (l.length = n) := ⟨_, rfl⟩
  rw [HN.out] at hlc hm63 ha
  rw [HN.out]
  clear hbyt hcells h hk
  go_enter Tryd.func45, Tryd.ntmps45
  go_wp2
  go_loopw [8] (fun ii wr => ∃ i : Nat, a ≤ i ∧ i ≤ n ∧ i ≤ a + 8 ∧ ii = .int .i64 (i : Int) ∧ Hid ((58 : Int) ∉ (l.drop a).take (i - a)) ∧ Hid (w = wr)) (fun ii _ => n - (intOf ii).toNat)
  case atStart => exact ⟨a, Nat.le_refl _, ha, by omega, rfl, hid (by simp), hid rfl⟩
  case round =>
    obtain ⟨i, hai, hin, hi8, rfl, HNO, HW⟩ := hrel
    have hw := HW.out
    clear HW
    subst hw
    by_cases hlt : i < n
    · have hc0 := HCE.out i (by have := HN.out; omega)
      by_cases h58 : l.getD i 0 = 58
      · rw [h58] at hc0
        have hcol := pc_colon (l := l) hai (by have := HN.out; omega) h58
        have hpb : Byt8 ((l.drop a).take (i - a)) := fun x hx => HBY.out x (List.mem_of_mem_drop (List.mem_of_mem_take hx))
        have hplen : ((l.drop a).take (i - a)).length = i - a := by rw [List.length_take, List.length_drop, HN.out]; omega
        have hH2 : HB w (.slice (some ⟨b, off + a, none⟩) (i - a) (c - a)) ((l.drop a).take (i - a)) := by
          refine ⟨⟨_, c - a, by rw [hplen], by rw [hplen]; omega, by have := hlc.2; omega, (fun e => by cases e), fun _ => ⟨b, off + a, rfl, fun j hj => ?_⟩⟩, hpb⟩
          rw [hplen] at hj
          rw [show off + a + j = off + (a + j) by omega, HCE.out (a + j) (by have := HN.out; omega)]
          simp [List.getD, List.getElem?_take, hj, List.getElem?_drop]
        have qc := conv_str hH2
        obtain ⟨pre, HPR⟩ : ∃ x, Hid ((l.drop a).take (i - a) = x) := ⟨_, rfl⟩
        rw [HPR.out] at hcol hpb hplen qc HNO
        have C := rread_any w (bS pre) (most : Int) (by rw [bS_size, hplen]; omega) (by omega) (by omega)
        rw [bS_bytes] at C
        obtain ⟨l', HL'⟩ : ∃ x, Hid (l.drop (i + 1) = x) := ⟨_, rfl⟩
        have hl'n : l'.length = n - (i + 1) := by rw [← HL'.out, List.length_drop, HN.out]
        rw [HL'.out] at hcol
        have HCOL := hid hcol
        have HPB := hid hpb
        have HPL := hid hplen
        have HLN := hid hl'n
        have hca : (c = a) = False := by simp; omega
        clear hH2 hcol hpb hplen hl'n
        by_cases hr : rdOk (Lib.bytesOf pre) (most : Int)
        · obtain ⟨r1, r2⟩ := rd_ok hr
          have hvle := hr.2
          have hpd := pre_dgL HPB.out hr
          obtain ⟨v, HV⟩ : ∃ v, Hid (valD (Lib.bytesOf pre) = v) := ⟨_, rfl⟩
          rw [HV.out] at r1 hvle hpd
          rw [r1, r2] at C
          have C := hid C
          have HDR : Hid (l.drop a = dgL v ++ 58 :: l') := by refine hid ?_; rw [← hpd]; exact HCOL.out
          have HPD := hid hpd
          clear r1 r2 hr hpd h58
          go_wp2_with fail
          refine C.out.mono ?_
          rintro e w2 ⟨rfl, hb2⟩
          have B2 := hid hb2
          have hs2 := hb2.size
          have HH2 := hid (HH.out.below hb2)
          have HCE2 : Hid (∀ j, j < n → w2.cell? ⟨b, off + j, none⟩ = some (.int .u8 (l.getD j 0))) := by
            refine hid fun j hj => ?_
            have hj2 := HCE.out j (by have := HN.out; omega)
            rw [B2.out.cell (World.block_lt_of_cell? w _ hj2), hj2]
          have HG : Hid (∀ j, l.getD (i + 1 + j) 0 = l'.getD j 0) := by
            refine hid fun j => ?_
            rw [← HL'.out]
            simp [List.getD, List.getElem?_drop]
          clear hb2 C
          by_cases he : i + 1 + v < n
          · have hc1 := HCE2.out (i + 1 + v) he
            rw [HG.out] at hc1
            by_cases h44 : l'.getD v 0 = 44
            · rw [h44] at hc1
              obtain ⟨g1, g2⟩ := fld_hit HDR.out (by have := HLN.out; omega) h44
              have HQ1 := hid g1
              have HQ2 := hid g2
              have HBF : Hid (Byt8 (l'.take v)) := hid fun x hx => HBY.out x (by rw [← HL'.out] at hx; exact List.mem_of_mem_drop (List.mem_of_mem_take hx))
              have HV5 : Hid (HB w2 (.slice (some ⟨b, off + (i + 1), none⟩) (i + 1 + v - (i + 1)) (c - (i + 1))) (l'.take v)) := by
                refine hid ⟨⟨_, _, by rw [g2, show i + 1 + v - (i + 1) = v by omega], by rw [g2]; omega, by have := hlc.2; omega, (fun e => by cases e), fun _ => ⟨b, off + (i + 1), rfl, fun j hj => ?_⟩⟩, HBF.out⟩
                rw [g2] at hj
                rw [show off + (i + 1) + j = off + (i + 1 + j) by omega, HCE2.out (i + 1 + j) (by omega), HG.out]
                simp [List.getD, List.getElem?_take, hj]
              have HN5 : Hid ((i : Int) + (v : Int) + 2 = ((a + (fld (l'.take v)).length : Nat) : Int)) := by
                refine hid ?_
                rw [fld_len, g2, ← HPD.out, HPL.out]
                omega
              obtain ⟨F, HF⟩ : ∃ x, Hid (l'.take v = x) := ⟨_, rfl⟩
              rw [HF.out] at HQ1 HQ2 HBF HV5 HN5
              clear g1 g2 h44
              go_wp2_with (at_builtin; refine wpList_append_bytes rfl _ _ rfl w.heap.size _ 0 _ rfl (World.ownsRow_nil _ _ _ _) _ F rfl HV5.out ?q1 ?q2 ?_)
              case q1 => rw [HQ2.out]; omega
              case q2 => omega
              intro v6 w6 hown6 hg6 _
              have B6 := hid (B2.out.grown hg6 (by omega) (fun q e => by cases e))
              have HO6 : Hid (w6.ownsRow w.heap.size 5 1 v6 F.length (F.map (Value.int .u8))) := by refine hid ?_; simpa using hown6
              clear hown6 hg6
              go_wp2
              go_ret2
              exact ⟨_, _, rfl, Or.inl ⟨F, _, HQ1.out, by rw [HQ2.out]; omega, HN5.out, HBF.out, HO6.out⟩, B6.out⟩
            · have HQ := hid (fld_short (most := most) HDR.out (Or.inr h44))
              obtain ⟨x, hx⟩ : ∃ x, l'.getD v 0 = x := ⟨_, rfl⟩
              rw [hx] at hc1 h44
              have hne : (x != 44) = true := by rw [bne_iff_ne]; exact h44
              clear hx
              go_wp2
              go_ret2
              exact ⟨_, _, rfl, Or.inr ⟨rfl, rfl, HQ.out⟩, B2.out⟩
          · have HQ := hid (fld_short (most := most) HDR.out (Or.inl (by have := HLN.out; omega)))
            have he2 : (n : Int) - (i : Int) - 1 < (v : Int) + 1 := by omega
            go_wp2
            go_ret2
            exact ⟨_, _, rfl, Or.inr ⟨rfl, rfl, HQ.out⟩, B2.out⟩
        · have HQ := hid (fld_bad HCOL.out HNO.out hr)
          obtain ⟨r1, r2⟩ := rd_no hr
          rw [r1, r2] at C
          have C := hid C
          clear r1 r2 hr h58
          go_wp2_with fail
          refine C.out.mono ?_
          rintro e w2 ⟨rfl, hb2⟩
          have B2 := hid hb2
          clear hb2 C
          go_wp2
          go_ret2
          exact ⟨_, _, rfl, Or.inr ⟨rfl, rfl, HQ.out⟩, B2.out⟩
      · obtain ⟨x, hx⟩ : ∃ x, l.getD i 0 = x := ⟨_, rfl⟩
        have HX := hid hx
        rw [hx] at hc0 h58
        have hne : (x != 58) = true := by rw [bne_iff_ne]; exact h58
        clear hx
        by_cases h8 : (i : Int) - (a : Int) < 8
        · have HN2 : Hid ((58 : Int) ∉ (l.drop a).take (i + 1 - a)) := by
            refine hid ?_
            rw [take_more hai (by have := HN.out; omega), HX.out]
            intro hq
            rcases List.mem_append.1 hq with hq | hq
            · exact HNO.out hq
            · simp at hq; exact h58 hq.symm
          go_wp2
          exact ⟨⟨i + 1, by omega, by omega, by omega, by go_num, HN2, hid trivial⟩, by simp [intOf]; omega⟩
        · have HQ := hid (pc_none (l := l) (most := most) (by omega) hai (by have := HN.out; omega) hi8 HNO.out (Or.inr (by omega)))
          go_wp2
          go_ret2
          exact ⟨_, _, rfl, Or.inr ⟨rfl, rfl, HQ.out⟩, Below.refl _ _⟩
    · have HQ := hid (pc_none (l := l) (most := most) (by omega) hai (by have := HN.out; omega) hi8 HNO.out (Or.inl (by have := HN.out; omega)))
      go_wp2
      go_ret2
      exact ⟨_, _, rfl, Or.inr ⟨rfl, rfl, HQ.out⟩, Below.refl _ _⟩
set_option maxRecDepth 100000 in
set_option maxHeartbeats 4000000 in
theorem rno13_any (w : World) (s : ByteArray) (vv : Value) (x : List Int) (hx : HB w vv x) (hl : x.length ≤ 65536) : Calls Tryd.prog 29 #[.agg #[.string s, vv]] w fun e w' => e = .returned (.tuple #[.int .i64 (rdV (Lib.bytesOf x) 2147483647), .bool (decide (rdE (Lib.bytesOf x) 2147483647 = 0))]) ∧ Below w.heap.size w w' := by
  obtain ⟨p, c, rfl, hlc, hcm⟩ := hx.open
  have hW := hx.below (below_alloc w (.cells #[.string s, .slice p x.length c] 49))
  have qc := conv_str hW
  have C := hid (rread_any (w.alloc (.cells #[.string s, .slice p x.length c] 49)) (bS x) 2147483647 (by rw [bS_size]; omega) (by omega) (by omega))
  rw [bS_bytes] at C
  obtain ⟨R, HR⟩ : ∃ y, Hid (rdV (Lib.bytesOf x) 2147483647 = y) := ⟨_, rfl⟩
  obtain ⟨E, HE⟩ : ∃ y, Hid (rdE (Lib.bytesOf x) 2147483647 = y) := ⟨_, rfl⟩
  rw [HR.out, HE.out] at C ⊢
  obtain ⟨n, HN⟩ : ∃ y, Hid (x.length = y) := ⟨_, rfl⟩
  rw [HN.out] at C qc ⊢
  clear hW hx hl hlc hcm
  go_enter Tryd.func29, Tryd.ntmps29
  go_wp2_with fail
  refine C.out.mono ?_
  rintro e w2 ⟨rfl, hb2⟩
  have B2 := hid ((below_alloc w (.cells #[.string s, .slice p n c] 49)).trans (hb2.mono (by simp)))
  clear hb2 qc C
  by_cases hE : E = 0
  · subst hE
    go_wp2
    go_ret2
    exact ⟨rfl, B2.out⟩
  · have hE2 : (E == 0) = false := by simpa using hE
    have hE3 : decide (E = 0) = false := by simpa using hE
    go_wp2
    go_ret2
    exact ⟨by rw [hE3]; rfl, B2.out⟩
set_option maxRecDepth 100000 in
set_option maxHeartbeats 4000000 in
theorem rdigits13_any (w : World) (x : Int) (h0 : -9223372036854775808 ≤ x) (h1 : x ≤ 9223372036854775807) : Calls Tryd.prog 32 #[.int .i64 x] w fun e w' => e = .returned (.string (nS x)) ∧ Below w.heap.size w w' := by
  have C := hid (rnumber_any w x h0 h1)
  obtain ⟨s, HS⟩ : ∃ y, Hid (nS x = y) := ⟨_, rfl⟩
  rw [HS.out] at C ⊢
  clear h0 h1
  go_enter Tryd.func32, Tryd.ntmps32
  go_wp2_with fail
  refine C.out.mono ?_
  rintro e w2 ⟨rfl, hb2⟩
  have B2 := hid hb2
  clear hb2 C
  go_wp2
  go_ret
  exact ⟨rfl, B2.out⟩
def Lb (L : Array Bool) (i : Nat) : Bool := L.getD i false
theorem Lb_set {L : Array Bool} {i : Nat} (hi : i < L.size) (k : Nat) : Lb (L.setIfInBounds i true) k = if k = i then true else Lb L k := by
  unfold Lb
  rw [Array.getD_eq_getD_getElem?, Array.getD_eq_getD_getElem?, Array.getElem?_setIfInBounds]
  by_cases h : k = i
  · subst h; simp [hi]
  · rw [if_neg (fun e => h e.symm), if_neg h]
theorem Lb_of {L : Array Bool} {i : Nat} {x : Bool} (h : L[i]? = some x) : Lb L i = x := by unfold Lb; rw [Array.getD_eq_getD_getElem?, h]; rfl
def lowB (ops : Array Oper) : Bool := (List.range ops.size).all fun i => match ops[i]? with | some o => o.guard.isNone && o.after.all (fun e => decide (e.on < i)) | none => true
theorem low_of {ops : Array Oper} (h : lowB ops = true) : ∀ (i : Nat) (o : Oper), ops[i]? = some o → o.guard = none ∧ ∀ e ∈ o.after, e.on < i := by
  intro i o ho
  have hi := (Array.getElem?_eq_some_iff.1 ho).1
  have h1 := List.all_eq_true.1 h i (List.mem_range.2 hi)
  rw [ho] at h1
  simp only [Bool.and_eq_true, Option.isNone_iff_eq_none] at h1
  refine ⟨h1.1, fun e he => ?_⟩
  have := Array.all_eq_true'.1 h1.2 e he
  simpa using this
theorem held_true {P : Program} {md : Region.Mode} {ops : Array Oper} {Q : Exit → Act → World → Prop} : ∀ (fuel : Nat) (L : Array Bool) (a : Act) (w : World), wpAny P md ops Q fuel L a w → wpAnyH P md ops Q (fun _ => True) fuel L a w
  | 0, _, _, _, h => h
  | fuel + 1, _, _, _, h => ⟨h.1, fun i hi => wpOp_mono (fun a' w' h' => ⟨trivial, held_true fuel _ a' w' h'⟩) (h.2 i hi)⟩
theorem pure_set {L : Array Bool} {i : Nat} (hi : i < L.size) {l : List Nat} (h : ∀ k ∈ l, Lb L k = true) : ∀ k ∈ l, Lb (L.setIfInBounds i true) k = true := fun k hk => by
  rw [Lb_set hi]
  split
  · rfl
  · exact h k hk
end Go.Proofs.YtklklldmhoofnaaDoor
namespace Go.Proofs.YtklklldmhoofnaaDoor
open Go.RowKit
def rot (x n : Nat) : Nat := x * 2 ^ (32 - n) % 4294967296 ||| x / 2 ^ n
theorem rot_lt {x n : Nat} (hx : x < 4294967296) : rot x n < 4294967296 := by
  unfold rot
  have h1 : x * 2 ^ (32 - n) % 4294967296 < 2 ^ 32 := Nat.mod_lt _ (by decide)
  have h2 : x / 2 ^ n < 2 ^ 32 := Nat.lt_of_le_of_lt (Nat.div_le_self _ _) hx
  exact Nat.or_lt_two_pow h1 h2
theorem rot_bits (x n : Nat) (hx : x < 4294967296) : bits .or .u32 (IntKind.u32.wrap ((x : Int) * 2 ^ (32 - n))) ((x : Int) / 2 ^ n) = ((rot x n : Nat) : Int) := by
  have e1 : IntKind.u32.wrap ((x : Int) * 2 ^ (32 - n)) = ((x * 2 ^ (32 - n) % 4294967296 : Nat) : Int) := by
    rw [IntKind.wrap_u32, Int.natCast_emod, Int.natCast_mul, Int.natCast_pow]
    rfl
  have e2 : (x : Int) / 2 ^ n = ((x / 2 ^ n : Nat) : Int) := by rw [Int.natCast_ediv, Int.natCast_pow]; rfl
  rw [e1, e2, u32_or_nat _ _ (Nat.mod_lt _ (by decide)) (Nat.lt_of_le_of_lt (Nat.div_le_self _ _) hx)]
  rfl
set_option maxRecDepth 100000 in
set_option maxHeartbeats 1000000 in
theorem turn_6 (w : World) (x : Nat) (hx : x < 4294967296) : Calls Tryd.prog 114 #[.int .u32 (x : Int), .int .i64 6] w fun e w' => e = .returned (.int .u32 ((rot x 6 : Nat) : Int)) ∧ w' = w := by
  have h1 : bits .and .u64 (IntKind.u64.wrap (-6)) 31 = 26 := by decide
  have HR := hid (rot_bits x 6 hx)
  go_enter Tryd.func114, Tryd.ntmps114
  go_wp2
  go_ret
  refine ⟨?_, rfl⟩
  rw [← HR.out]
  rfl
set_option maxRecDepth 100000 in
set_option maxHeartbeats 1000000 in
theorem turn_11 (w : World) (x : Nat) (hx : x < 4294967296) : Calls Tryd.prog 114 #[.int .u32 (x : Int), .int .i64 11] w fun e w' => e = .returned (.int .u32 ((rot x 11 : Nat) : Int)) ∧ w' = w := by
  have h1 : bits .and .u64 (IntKind.u64.wrap (-11)) 31 = 21 := by decide
  have HR := hid (rot_bits x 11 hx)
  go_enter Tryd.func114, Tryd.ntmps114
  go_wp2
  go_ret
  refine ⟨?_, rfl⟩
  rw [← HR.out]
  rfl
set_option maxRecDepth 100000 in
set_option maxHeartbeats 1000000 in
theorem turn_25 (w : World) (x : Nat) (hx : x < 4294967296) : Calls Tryd.prog 114 #[.int .u32 (x : Int), .int .i64 25] w fun e w' => e = .returned (.int .u32 ((rot x 25 : Nat) : Int)) ∧ w' = w := by
  have h1 : bits .and .u64 (IntKind.u64.wrap (-25)) 31 = 7 := by decide
  have HR := hid (rot_bits x 25 hx)
  go_enter Tryd.func114, Tryd.ntmps114
  go_wp2
  go_ret
  refine ⟨?_, rfl⟩
  rw [← HR.out]
  rfl
set_option maxRecDepth 100000 in
set_option maxHeartbeats 1000000 in
theorem turn_2 (w : World) (x : Nat) (hx : x < 4294967296) : Calls Tryd.prog 114 #[.int .u32 (x : Int), .int .i64 2] w fun e w' => e = .returned (.int .u32 ((rot x 2 : Nat) : Int)) ∧ w' = w := by
  have h1 : bits .and .u64 (IntKind.u64.wrap (-2)) 31 = 30 := by decide
  have HR := hid (rot_bits x 2 hx)
  go_enter Tryd.func114, Tryd.ntmps114
  go_wp2
  go_ret
  refine ⟨?_, rfl⟩
  rw [← HR.out]
  rfl
set_option maxRecDepth 100000 in
set_option maxHeartbeats 1000000 in
theorem turn_13 (w : World) (x : Nat) (hx : x < 4294967296) : Calls Tryd.prog 114 #[.int .u32 (x : Int), .int .i64 13] w fun e w' => e = .returned (.int .u32 ((rot x 13 : Nat) : Int)) ∧ w' = w := by
  have h1 : bits .and .u64 (IntKind.u64.wrap (-13)) 31 = 19 := by decide
  have HR := hid (rot_bits x 13 hx)
  go_enter Tryd.func114, Tryd.ntmps114
  go_wp2
  go_ret
  refine ⟨?_, rfl⟩
  rw [← HR.out]
  rfl
set_option maxRecDepth 100000 in
set_option maxHeartbeats 1000000 in
theorem turn_22 (w : World) (x : Nat) (hx : x < 4294967296) : Calls Tryd.prog 114 #[.int .u32 (x : Int), .int .i64 22] w fun e w' => e = .returned (.int .u32 ((rot x 22 : Nat) : Int)) ∧ w' = w := by
  have h1 : bits .and .u64 (IntKind.u64.wrap (-22)) 31 = 10 := by decide
  have HR := hid (rot_bits x 22 hx)
  go_enter Tryd.func114, Tryd.ntmps114
  go_wp2
  go_ret
  refine ⟨?_, rfl⟩
  rw [← HR.out]
  rfl
set_option maxRecDepth 100000 in
set_option maxHeartbeats 1000000 in
theorem turn_7 (w : World) (x : Nat) (hx : x < 4294967296) : Calls Tryd.prog 114 #[.int .u32 (x : Int), .int .i64 7] w fun e w' => e = .returned (.int .u32 ((rot x 7 : Nat) : Int)) ∧ w' = w := by
  have h1 : bits .and .u64 (IntKind.u64.wrap (-7)) 31 = 25 := by decide
  have HR := hid (rot_bits x 7 hx)
  go_enter Tryd.func114, Tryd.ntmps114
  go_wp2
  go_ret
  refine ⟨?_, rfl⟩
  rw [← HR.out]
  rfl
set_option maxRecDepth 100000 in
set_option maxHeartbeats 1000000 in
theorem turn_18 (w : World) (x : Nat) (hx : x < 4294967296) : Calls Tryd.prog 114 #[.int .u32 (x : Int), .int .i64 18] w fun e w' => e = .returned (.int .u32 ((rot x 18 : Nat) : Int)) ∧ w' = w := by
  have h1 : bits .and .u64 (IntKind.u64.wrap (-18)) 31 = 14 := by decide
  have HR := hid (rot_bits x 18 hx)
  go_enter Tryd.func114, Tryd.ntmps114
  go_wp2
  go_ret
  refine ⟨?_, rfl⟩
  rw [← HR.out]
  rfl
set_option maxRecDepth 100000 in
set_option maxHeartbeats 1000000 in
theorem turn_17 (w : World) (x : Nat) (hx : x < 4294967296) : Calls Tryd.prog 114 #[.int .u32 (x : Int), .int .i64 17] w fun e w' => e = .returned (.int .u32 ((rot x 17 : Nat) : Int)) ∧ w' = w := by
  have h1 : bits .and .u64 (IntKind.u64.wrap (-17)) 31 = 15 := by decide
  have HR := hid (rot_bits x 17 hx)
  go_enter Tryd.func114, Tryd.ntmps114
  go_wp2
  go_ret
  refine ⟨?_, rfl⟩
  rw [← HR.out]
  rfl
set_option maxRecDepth 100000 in
set_option maxHeartbeats 1000000 in
theorem turn_19 (w : World) (x : Nat) (hx : x < 4294967296) : Calls Tryd.prog 114 #[.int .u32 (x : Int), .int .i64 19] w fun e w' => e = .returned (.int .u32 ((rot x 19 : Nat) : Int)) ∧ w' = w := by
  have h1 : bits .and .u64 (IntKind.u64.wrap (-19)) 31 = 13 := by decide
  have HR := hid (rot_bits x 19 hx)
  go_enter Tryd.func114, Tryd.ntmps114
  go_wp2
  go_ret
  refine ⟨?_, rfl⟩
  rw [← HR.out]
  rfl
def cellsW (l : List Nat) : Array Value := (l.map (fun x : Nat => Value.int .u32 (x : Int))).toArray
theorem cellsW_size (l : List Nat) : (cellsW l).size = l.length := by simp [cellsW]
theorem cellsW_one (l : List Nat) : (cellsW l).all (·.oneCell') = true := all_oneCell_toArray (fun v hv => by obtain ⟨x, _, rfl⟩ := List.mem_map.1 hv; rfl)
theorem cellsW_get {l : List Nat} {i : Nat} (h : i < l.length) : (cellsW l)[i]? = some (.int .u32 ((l.getD i 0 : Nat) : Int)) := by
  simp [cellsW, List.getD, List.getElem?_eq_getElem h]
theorem cellsW_set (l : List Nat) (i x : Nat) : (cellsW l).setIfInBounds i (.int .u32 (x : Int)) = cellsW (l.set i x) := by
  unfold cellsW
  rw [List.map_set]
  simp
def zerosW (n : Nat) : List Nat := List.replicate n 0
theorem zerosW_length (n : Nat) : (zerosW n).length = n := by simp [zerosW]
theorem wpList_alloc_agg {T : TypeId} {cs : Array Value} (hz : (Tryd.prog.info? T).map (·.zero) = some (some (.agg cs))) {ops : Array Oper} {rest : List Oper} {o : Oper} {a : Act} {w : World} {Q : Exit → Act → World → Prop} (hgd : o.guard = none) (ho : o.op = .alloc T)
    (h : wpList Tryd.prog ops Q rest (a.put o.dst (.pointer (some ⟨w.heap.size, 0, none⟩))) (w.alloc (.cells cs T))) : wpList Tryd.prog ops Q (o :: rest) a w :=
  wpList_plain hgd fun _ hK => by
    have hr : (Instr.alloc T true (.tuple #[])).run Tryd.prog w = .ok (.pointer (some ⟨w.heap.size, 0, none⟩)) (w.alloc (.cells cs T)) := by
      cases hi : Tryd.prog.info? T with
      | none => simp [hi] at hz
      | some i0 =>
        simp [hi] at hz
        simp [Instr.alloc, zeroValue, typeInfo, hi, hz, newVar, newRow, Value.cells]
    unfold Oper.wp
    simp only [execOp, ho, Sem.run_bind, hr, Result.andThen_ok]
    exact hK _ _ h
theorem zero_w64 : (Tryd.prog.info? 113).map (·.zero) = some (some (.agg (cellsW (zerosW 64)))) := by kernel_rfl
theorem zero_w8 : (Tryd.prog.info? 101).map (·.zero) = some (some (.agg (cellsW (zerosW 8)))) := by kernel_rfl
theorem size_w64 : (Tryd.prog.info? 113).map (·.size) = some 64 := by kernel_rfl
theorem size_w8 : (Tryd.prog.info? 101).map (·.size) = some 8 := by kernel_rfl
theorem size_b64 : (Tryd.prog.info? 103).map (·.size) = some 64 := by kernel_rfl
def beW (l : List Int) (t : Nat) : Nat := (l.getD (4 * t) 0).toNat * 16777216 + (l.getD (4 * t + 1) 0).toNat * 65536 + (l.getD (4 * t + 2) 0).toNat * 256 + (l.getD (4 * t + 3) 0).toNat
def add32 (x y : Nat) : Nat := (x + y) % 4294967296
def sig0 (x : Nat) : Nat := rot x 7 ^^^ rot x 18 ^^^ x / 8
def sig1 (x : Nat) : Nat := rot x 17 ^^^ rot x 19 ^^^ x / 1024
def nextW (l : List Int) (ws : List Nat) (t : Nat) : Nat :=
  if t < 16 then beW l t else add32 (add32 (add32 (sig1 (ws.getD (t - 2) 0)) (ws.getD (t - 7) 0)) (sig0 (ws.getD (t - 15) 0))) (ws.getD (t - 16) 0)
def wordsTo (l : List Int) : Nat → List Nat
  | 0 => []
  | t + 1 => wordsTo l t ++ [nextW l (wordsTo l t) t]
theorem wordsTo_length (l : List Int) : ∀ t, (wordsTo l t).length = t
  | 0 => rfl
  | t + 1 => by simp [wordsTo, wordsTo_length l t]
def curWs (l : List Int) (t : Nat) : List Nat := wordsTo l t ++ List.replicate (64 - t) 0
theorem curWs_length (l : List Int) (t : Nat) (h : t ≤ 64) : (curWs l t).length = 64 := by simp [curWs, wordsTo_length]; omega
theorem curWs_step (l : List Int) (t : Nat) (h : t < 64) : (curWs l t).set t (nextW l (wordsTo l t) t) = curWs l (t + 1) := by
  unfold curWs
  rw [List.set_append_right _ _ (by rw [wordsTo_length]; exact Nat.le_refl _), wordsTo_length, Nat.sub_self, show 64 - t = (64 - (t + 1)) + 1 by omega, List.replicate_succ, List.set_cons_zero]
  simp [wordsTo]
theorem curWs_get (l : List Int) (t i : Nat) (h : i < t) : (curWs l t).getD i 0 = (wordsTo l t).getD i 0 := by
  unfold curWs
  simp [List.getD, List.getElem?_append, wordsTo_length, h]
theorem byte_nat {l : List Int} (h : ∀ x ∈ l, 0 ≤ x ∧ x < 256) (i : Nat) : (l.getD i 0).toNat < 256 := by
  by_cases hj : i < l.length
  · rw [getD_of_lt hj]
    have := h _ (List.getElem_mem hj)
    omega
  · have e : l.getD i 0 = 0 := by simp [List.getD, List.getElem?_eq_none (by omega : l.length ≤ i)]
    rw [e]; decide
theorem beW_lt {l : List Int} (h : ∀ x ∈ l, 0 ≤ x ∧ x < 256) (t : Nat) : beW l t < 4294967296 := by
  unfold beW
  have h0 := byte_nat h (4 * t)
  have h1 := byte_nat h (4 * t + 1)
  have h2 := byte_nat h (4 * t + 2)
  have h3 := byte_nat h (4 * t + 3)
  omega
theorem nextW_lt {l : List Int} (h : ∀ x ∈ l, 0 ≤ x ∧ x < 256) (ws : List Nat) (t : Nat) : nextW l ws t < 4294967296 := by
  unfold nextW
  split
  · exact beW_lt h t
  · exact Nat.mod_lt _ (by decide)
theorem wordsTo_lt {l : List Int} (h : ∀ x ∈ l, 0 ≤ x ∧ x < 256) : ∀ t, ∀ x ∈ wordsTo l t, x < 4294967296
  | 0 => by simp [wordsTo]
  | t + 1 => by
    intro x hx
    rcases List.mem_append.1 hx with h1 | h1
    · exact wordsTo_lt h t x h1
    · have : x = nextW l (wordsTo l t) t := by simpa using h1
      rw [this]
      exact nextW_lt h _ _
theorem getW_lt {ws : List Nat} (h : ∀ x ∈ ws, x < 4294967296) (i : Nat) : ws.getD i 0 < 4294967296 := by
  by_cases hj : i < ws.length
  · rw [show ws.getD i 0 = ws[i] by simp [List.getD, List.getElem?_eq_getElem hj]]
    exact h _ (List.getElem_mem hj)
  · rw [show ws.getD i 0 = 0 by simp [List.getD, List.getElem?_eq_none (by omega : ws.length ≤ i)]]
    decide
theorem or_four (a b c d : Nat) (ha : a < 256) (hb : b < 256) (hc : c < 256) (hd : d < 256) :
    bits .or .u32 (bits .or .u32 (bits .or .u32 ((a : Int) * 16777216) ((b : Int) * 65536)) ((c : Int) * 256)) (d : Int) = ((a * 16777216 + b * 65536 + c * 256 + d : Nat) : Int) := by
  have e1 : bits .or .u32 ((a : Int) * 16777216) ((b : Int) * 65536) = ((a * 16777216 + b * 65536 : Nat) : Int) := by
    have := u32_or_nat (a * 16777216) (b * 65536) (by omega) (by omega)
    rw [Int.natCast_mul, Int.natCast_mul] at this
    rw [show ((a : Int) * 16777216) = (a : Int) * ((16777216 : Nat) : Int) from rfl, show ((b : Int) * 65536) = (b : Int) * ((65536 : Nat) : Int) from rfl, this]
    congr 1
    have := Nat.two_pow_add_eq_or_of_lt (i := 24) (b := b * 65536) (by omega) a
    rw [show 2 ^ 24 * a = a * 16777216 by omega] at this
    omega
  have e2 : bits .or .u32 ((a * 16777216 + b * 65536 : Nat) : Int) ((c : Int) * 256) = ((a * 16777216 + b * 65536 + c * 256 : Nat) : Int) := by
    have := u32_or_nat (a * 16777216 + b * 65536) (c * 256) (by omega) (by omega)
    rw [show ((c : Int) * 256) = ((c * 256 : Nat) : Int) by rw [Int.natCast_mul]; rfl, this]
    congr 1
    have := Nat.two_pow_add_eq_or_of_lt (i := 16) (b := c * 256) (by omega) (a * 256 + b)
    rw [show 2 ^ 16 * (a * 256 + b) = a * 16777216 + b * 65536 by omega] at this
    omega
  rw [e1, e2, u32_or_nat _ _ (by omega) (by omega)]
  congr 1
  have := Nat.two_pow_add_eq_or_of_lt (i := 8) (b := d) (by omega) (a * 65536 + b * 256 + c)
  rw [show 2 ^ 8 * (a * 65536 + b * 256 + c) = a * 16777216 + b * 65536 + c * 256 by omega] at this
  omega
theorem grown_setd (w : World) (g o : Nat) (u : Value) : w.grownBy (w.setCell ⟨g, o, none⟩ u).drew (some g) :=
  ⟨rfl, rfl, rfl, by show w.heap.size ≤ (w.setCell ⟨g, o, none⟩ u).heap.size; simp, fun k _ hk => heap_setCell_other w ⟨g, o, none⟩ k u (fun e => hk (by simp [e]))⟩
theorem grown_sets (w : World) (g o : Nat) (u : Value) : w.grownBy (w.setCell ⟨g, o, none⟩ u) (some g) :=
  ⟨rfl, rfl, rfl, by simp, fun k _ hk => heap_setCell_other w ⟨g, o, none⟩ k u (fun e => hk (by simp [e]))⟩
theorem grown_tr {a b c : World} {r : Option Nat} (h : a.grownBy b r) (k : b.grownBy c r) : a.grownBy c r :=
  ⟨k.os.trans h.os, k.tape.trans h.tape, k.output.trans h.output, Nat.le_trans h.size k.size, fun i hi hr => (k.block i (Nat.lt_of_lt_of_le hi h.size) hr).trans (h.block i hi hr)⟩
theorem sig0_bits (x : Nat) (hx : x < 4294967296) : bits .xor .u32 (bits .xor .u32 ((rot x 7 : Nat) : Int) ((rot x 18 : Nat) : Int)) ((x : Int) / 8) = ((sig0 x : Nat) : Int) := by
  have h1 : rot x 7 ^^^ rot x 18 < 2 ^ 32 := Nat.xor_lt_two_pow (rot_lt hx) (rot_lt hx)
  rw [u32_xor_nat _ _ (rot_lt hx) (rot_lt hx), show (x : Int) / 8 = ((x / 8 : Nat) : Int) by omega, u32_xor_nat _ _ h1 (by omega)]
  rfl
theorem sig1_bits (x : Nat) (hx : x < 4294967296) : bits .xor .u32 (bits .xor .u32 ((rot x 17 : Nat) : Int) ((rot x 19 : Nat) : Int)) ((x : Int) / 1024) = ((sig1 x : Nat) : Int) := by
  have h1 : rot x 17 ^^^ rot x 19 < 2 ^ 32 := Nat.xor_lt_two_pow (rot_lt hx) (rot_lt hx)
  rw [u32_xor_nat _ _ (rot_lt hx) (rot_lt hx), show (x : Int) / 1024 = ((x / 1024 : Nat) : Int) by omega, u32_xor_nat _ _ h1 (by omega)]
  rfl
theorem wrap_add32 (x y : Nat) : IntKind.u32.wrap ((x : Int) + (y : Int)) = ((add32 x y : Nat) : Int) := by
  rw [IntKind.wrap_u32]
  unfold add32
  omega
theorem add32_lt (x y : Nat) : add32 x y < 4294967296 := Nat.mod_lt _ (by decide)
theorem sig0_lt {x : Nat} (hx : x < 4294967296) : sig0 x < 4294967296 := by
  unfold sig0
  exact Nat.xor_lt_two_pow (n := 32) (Nat.xor_lt_two_pow (rot_lt hx) (rot_lt hx)) (by omega)
theorem sig1_lt {x : Nat} (hx : x < 4294967296) : sig1 x < 4294967296 := by
  unfold sig1
  exact Nat.xor_lt_two_pow (n := 32) (Nat.xor_lt_two_pow (rot_lt hx) (rot_lt hx)) (by omega)
end Go.Proofs.YtklklldmhoofnaaDoor
