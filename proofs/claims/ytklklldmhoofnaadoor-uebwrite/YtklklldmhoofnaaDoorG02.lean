/- Of the road to uebWriteCard_holds: UbCutF, UbMay, Arrays, BkT, Clone, UbUnp. -/
import Derived.Test.YtklklldmhoofnaaDoorG01
import Derived.Test.YtklklldmhoofnaaDoorG00
import Derived.Laws.Cover1
import Derived.Deep.MidRow
import Derived.Scope
set_option linter.unusedVariables false
set_option linter.unusedSimpArgs false
namespace Go.Proofs.YtklklldmhoofnaaDoor
open Go Go.RowKit
def CfQ (l : List Int) (most : Nat) (w' : World) (vf : Value) (n : Int) (is : Bool) : Prop :=
  (is = true ∧ ∃ f x, l = fld f ++ x ∧ f.length ≤ most ∧ n = (fld f).length ∧ HB w' vf f) ∨ (is = false ∧ ∀ f x, f.length ≤ most → l ≠ fld f ++ x)
theorem bS_bytes (l : List Int) : (bS l).data.toList = Lib.bytesOf l := by unfold bS Lib.bytesOf; simp
theorem getD_app_right {a b : List Int} (j : Nat) : (a ++ b).getD (a.length + j) 0 = b.getD j 0 := by
  simp [List.getD, List.getElem?_append_right (Nat.le_add_right _ _)]
theorem HB.preC {w : World} {a : Addr} {c : Nat} {l : List Int} (h : HB w (.slice (some a) l.length c) l) (n : Nat) (hn : n ≤ l.length) : HB w (.slice (some a) n c) (l.take n) := by
  obtain ⟨⟨p, c', h1, h2, h3, h6, h4⟩, h5⟩ := h
  injection h1 with e1 e2 e3
  subst e1 e3
  have hl : (l.take n).length = n := by rw [List.length_take]; omega
  refine ⟨⟨some a, c, by rw [hl], by rw [hl]; omega, h3, h6, fun hne => ?_⟩, fun x hx => h5 x (List.mem_of_mem_take hx)⟩
  obtain ⟨b, off, e, hc⟩ := h4 (fun e => hne (by rw [e]; simp))
  refine ⟨b, off, e, fun j hj => ?_⟩
  rw [hl] at hj
  rw [hc j (by omega)]
  simp [List.getD, List.getElem?_take, hj]
set_option maxRecDepth 100000 in
set_option maxHeartbeats 4000000 in
theorem cutField_any (w0 w : World) (hB0 : Below w0.heap.size w0 w) (b off c : Nat) (l : List Int) (most : Nat) (h0 : HB w0 (.slice (some ⟨b, off, none⟩) l.length c) l) (hm : most ≤ 65536) (hk : KD w) :
    Calls Tryd.prog 42 #[.slice (some ⟨b, off, none⟩) l.length c, .int .i64 (most : Int)] w fun e w' => ∃ vf n is, e = .returned (.tuple #[vf, .int .i64 n, .bool is]) ∧ CfQ l most w0 vf n is ∧ Below w.heap.size w w' := by
  have h := h0.below hB0
  have C := number_any w (most : Int) (by omega) (by omega) hk
  have e2 : nE (most : Int) = 0 := by unfold nE; rw [if_neg (by omega)]
  have hsz := nS_size most
  have hd5 := dec_len_small most (by omega)
  obtain ⟨G, HG⟩ : ∃ D, Hid (nS (most : Int) = D) := ⟨_, rfl⟩
  obtain ⟨D, HD⟩ : ∃ D, Hid ((dgL most).length = D) := ⟨_, rfl⟩
  rw [HG.out, e2] at C
  rw [HG.out, HD.out] at hsz
  rw [HD.out] at hd5
  have C := hid C
  have hbyt : Byt8 l := h.2
  have hlc : l.length ≤ c ∧ c ≤ maxLen := by
    obtain ⟨p, c', e, h1, h2⟩ := h.open
    injection e with e1 e2 e3
    subst e3
    exact ⟨h1, h2⟩
  have hm63 : l.length ≤ 9223372036854775807 := by have := hlc.2; unfold maxLen at this; omega
  have hcells : ∀ j, j < l.length → w.cell? ⟨b, off + j, none⟩ = some (.int .u8 (l.getD j 0)) := by
    intro j hj
    obtain ⟨b', o', c', e, _, _, hc⟩ := h.ne (by omega)
    injection e with e1 e2 e3
    injection e1 with e1
    injection e1 with e1 e4
    subst e1 e4
    exact hc j hj
  have hcells0 : ∀ j, j < l.length → w0.cell? ⟨b, off + j, none⟩ = some (.int .u8 (l.getD j 0)) := by
    intro j hj
    obtain ⟨b', o', c', e, _, _, hc⟩ := h0.ne (by omega)
    injection e with e1 e2 e3
    injection e1 with e1
    injection e1 with e1 e4
    subst e1 e4
    exact hc j hj
  have HC0 := hid hcells0
  have HK := hid hk
  have HH := hid h
  have HBY := hid hbyt
  have HCE := hid hcells
  obtain ⟨n, HN⟩ : ∃ n, Hid (l.length = n) := ⟨_, rfl⟩
  rw [HN.out] at hlc hm63
  rw [HN.out]
  obtain ⟨m, HM⟩ : ∃ m, Hid (min n (D + 1) = m) := ⟨_, rfl⟩
  have hmn : m ≤ n := by rw [← HM.out]; omega
  have hmin : min (n : Int) ((D : Int) + 1) = (m : Int) := by rw [← HM.out]; omega
  have HT : Hid (l.take m = l.take (D + 1)) := by
    refine hid ?_
    rw [← HM.out, ← HN.out]
    by_cases q : l.length ≤ D + 1
    · rw [Nat.min_eq_left q, List.take_of_length_le (Nat.le_refl _), List.take_of_length_le q]
    · rw [Nat.min_eq_right (by omega)]
  clear hbyt hcells h hk e2 hcells0 h0 hB0
  go_enter Tryd.func42, Tryd.ntmps42
  go_wp2_with fail
  refine C.out.mono ?_
  rintro e w1 ⟨rfl, hb1⟩
  have B1 := hid hb1
  have H1 := hid (HH.out.below hb1)
  have C2 := Tryd.bytes_IndexByte b off m c (l.take m) 58 w1 (by rw [List.length_take, HN.out]; omega) (by
    intro i hi
    rw [hb1.cell (World.block_lt_of_cell? w _ (HCE.out i (by have := HN.out; omega))), HCE.out i (by have := HN.out; omega)]
    simp [List.getD, List.getElem?_take, hi])
  have C2 := hid C2
  clear hb1 C
  go_wp2_with fail
  refine C2.out.mono ?_
  rintro e w1' ⟨rfl, hw⟩
  rw [hw]
  clear C2 hw w1'
  rcases idx58 (l.take m) (fun x hx => HBY.out x (List.mem_of_mem_take hx)) with ⟨hi, hno⟩ | ⟨pre, suf, hsp, hno, hi⟩
  · have hi2 : Lib.indexByte (Lib.bytesOf (l.take m)) (58 : Int).toNat.toUInt8 = -1 := hi
    rw [hi2]
    have HQ : Hid (∀ f x : List Int, f.length ≤ most → l ≠ fld f ++ x) := by
      refine hid fun f x hf => fld_none (most := most) ?_ f x hf
      rw [HD.out, ← HT.out]
      exact hno
    clear hi hi2 hno
    go_wp2
    go_ret3
    exact ⟨_, _, _, rfl, Or.inr ⟨rfl, HQ.out⟩, B1.out⟩
  · have hi2 : Lib.indexByte (Lib.bytesOf (l.take m)) (58 : Int).toNat.toUInt8 = (pre.length : Int) := hi
    rw [hi2]
    obtain ⟨l', hl', hpl⟩ := take_colon hsp
    have HL := hid hl'
    have hpn : pre.length + 1 ≤ n := by rw [← HN.out, hl']; simp
    have HNO := hid hno
    have hpb : Byt8 pre := fun x hx => HBY.out x (by rw [hl']; simp [hx])
    have HPB := hid hpb
    have hpre : l.take pre.length = pre := by rw [hl']; simp
    have hH2 := H1.out.preC pre.length (by rw [HN.out]; omega)
    rw [hpre] at hH2
    have qc := conv_str hH2
    have C3 := read_any w1 (bS pre) (most : Int) (by rw [bS_size]; omega) (by omega) (by omega) (HK.out.below B1.out)
    rw [bS_bytes] at C3
    have HP := hid hpre
    clear hi hi2 hno hsp hl' hpb hpre hH2
    by_cases hr : rdOk (Lib.bytesOf pre) (most : Int)
    · obtain ⟨r1, r2⟩ := rd_ok hr
      have hvle := hr.2
      have hpd := pre_dgL HPB.out hr
      obtain ⟨v, HV⟩ : ∃ v, Hid (valD (Lib.bytesOf pre) = v) := ⟨_, rfl⟩
      rw [HV.out] at r1 hvle hpd
      rw [r1, r2] at C3
      have HPD := hid hpd
      have C3 := hid C3
      clear r1 r2 hr hpd
      obtain ⟨cl, HCL⟩ : ∃ x, Hid (pre.length = x) := ⟨_, rfl⟩
      rw [HCL.out] at hpn hpl qc
      rw [HCL.out]
      go_wp2_with fail
      refine C3.out.mono ?_
      rintro e w2 ⟨rfl, hb2⟩
      have B2 := hid (B1.out.trans (hb2.mono B1.out.size))
      have H2 := hid (H1.out.below hb2)
      have HCE2 : Hid (∀ j, j < n → w2.cell? ⟨b, off + j, none⟩ = some (.int .u8 (l.getD j 0))) := by
        refine hid fun j hj => ?_
        have hj2 := HCE.out j (by have := HN.out; omega)
        rw [B2.out.cell (World.block_lt_of_cell? w _ hj2), hj2]
      clear hb2 C3
      have hlen : Hid (cl + 1 + l'.length = n) := by
        refine hid ?_
        rw [← HN.out, HL.out, ← HCL.out]
        simp
        omega
      have hg : ∀ j, l.getD (cl + 1 + j) 0 = l'.getD j 0 := by
        intro j
        rw [HL.out, ← HCL.out, show pre.length + 1 + j = pre.length + (j + 1) by omega, getD_app_right]
        rfl
      have HPL : Hid (l = dgL v ++ 58 :: l') := by
        refine hid ?_
        rw [← HPD.out]
        exact HL.out
      have HGE := hid hg
      by_cases he : cl + 1 + v < n
      · have hc := HCE2.out (cl + 1 + v) he
        rw [hg] at hc
        clear hg
        by_cases h44 : l'.getD v 0 = 44
        · rw [h44] at hc
          have HV5 : Hid (HB w0 (.slice (some ⟨b, off + (cl + 1), none⟩) (cl + 1 + v - (cl + 1)) (c - (cl + 1))) (l'.take v)) := by
            have hlv : (l'.take v).length = v := by rw [List.length_take]; have := hlen.out; omega
            refine hid ⟨⟨_, _, by rw [hlv, show cl + 1 + v - (cl + 1) = v by omega], by rw [hlv]; omega, by have := hlc.2; omega, (fun e => by cases e), fun _ => ⟨b, off + (cl + 1), rfl, fun j hj => ?_⟩⟩, fun x hx => HBY.out x (by rw [HL.out]; simp [List.mem_of_mem_take hx])⟩
            rw [hlv] at hj
            rw [show off + (cl + 1) + j = off + (cl + 1 + j) by omega, HC0.out (cl + 1 + j) (by have := HN.out; omega), HGE.out]
            simp [List.getD, List.getElem?_take, hj]
          obtain ⟨g1, g2⟩ := fld_hit HPL.out (by have := hlen.out; omega) h44
          have HQ1 := hid g1
          have HQ2 := hid g2
          have HN5 : Hid ((cl : Int) + 1 + (v : Int) + 1 = ((fld (l'.take v)).length : Nat)) := by
            refine hid ?_
            rw [fld_len, g2, ← HPD.out, HCL.out]
            omega
          clear g1 g2 h44
          go_wp2
          go_ret3
          exact ⟨_, _, _, rfl, Or.inl ⟨rfl, _, _, HQ1.out, by rw [HQ2.out]; omega, HN5.out, HV5.out⟩, B2.out⟩
        · have HQ := hid (fld_short (most := most) HPL.out (Or.inr h44))
          obtain ⟨x, hx⟩ : ∃ x, l'.getD v 0 = x := ⟨_, rfl⟩
          rw [hx] at hc h44
          have hne : (x != 44) = true := by rw [bne_iff_ne]; exact h44
          clear hx
          go_wp2
          go_ret3
          exact ⟨_, _, _, rfl, Or.inr ⟨rfl, HQ.out⟩, B2.out⟩
      · have HQ := hid (fld_short (most := most) HPL.out (Or.inl (by have := hlen.out; omega)))
        clear hg
        have he2 : (n : Int) ≤ (cl : Int) + 1 + (v : Int) := by omega
        go_wp2
        go_ret3
        exact ⟨_, _, _, rfl, Or.inr ⟨rfl, HQ.out⟩, B2.out⟩
    · have HQ := hid (fld_bad HL.out HNO.out hr)
      obtain ⟨r1, r2⟩ := rd_no hr
      rw [r1, r2] at C3
      have C3 := hid C3
      clear r1 r2 hr
      obtain ⟨cl, HCL⟩ : ∃ x, Hid (pre.length = x) := ⟨_, rfl⟩
      rw [HCL.out] at hpn hpl qc
      rw [HCL.out]
      go_wp2_with fail
      refine C3.out.mono ?_
      rintro e w2 ⟨rfl, hb2⟩
      have B2 := hid (B1.out.trans (hb2.mono B1.out.size))
      clear hb2 C3
      go_wp2
      go_ret3
      exact ⟨_, _, _, rfl, Or.inr ⟨rfl, HQ.out⟩, B2.out⟩
theorem info_row : (Tryd.prog.info? 49).map (fun i => (i.zero, i.size, i.bytes)) = some (some (.agg #[.string ⟨#[]⟩, .slice none 0 0]), 2, 40) := by kernel_rfl
theorem size_row : (Tryd.prog.info? 49).map (·.size) = some 2 := by kernel_rfl
theorem getD_get {rs : List Rw} {k : Nat} (h : k < rs.length) : rs.getD k rw0 = rs[k] := by simp [List.getD, List.getElem?_eq_getElem h]
theorem take_snoc {rs : List Rw} {k : Nat} (h : k < rs.length) : rs.take (k + 1) = rs.take k ++ [rs.getD k rw0] := by rw [List.take_succ_eq_append_getElem h, getD_get h]
theorem okRows_not {rs : List Rw} {k : Nat} (h : k < rs.length) (hn : ¬ okRow (lastN noS (rs.take k)) (rs.getD k rw0)) : ¬ mayT rs := by
  intro hm
  have := okRows_take hm.2 (k + 1)
  rw [take_snoc h, okRows_snoc] at this
  exact hn this.2
set_option maxRecDepth 100000 in
set_option maxHeartbeats 2000000 in
theorem mayBe_any (w : World) (v : Value) (rs : List Rw) (h : HRw w v rs) :
    Calls Tryd.prog 34 #[v] w fun e w' => e = .returned (.bool (decide (mayT rs))) ∧ Below w.heap.size w w' := by
  obtain ⟨p, c, rfl, hlc, hcm, hrow⟩ := h.open
  have HR := hid hrow
  clear hrow h
  have hm63 : rs.length ≤ 9223372036854775807 := by unfold maxLen at hcm; omega
  obtain ⟨n, HN⟩ : ∃ n, Hid (rs.length = n) := ⟨_, rfl⟩
  rw [HN.out] at hlc hm63
  rw [HN.out]
  by_cases h64 : (64 : Int) < (n : Int)
  · have E := hid (show decide (mayT rs) = false by rw [decide_eq_false]; intro q; have := q.1; have := HN.out; omega)
    go_enter Tryd.func34, Tryd.ntmps34
    go_wp2
    go_ret
    exact ⟨by rw [E.out]; rfl, Below.refl _ _⟩
  · go_enter Tryd.func34, Tryd.ntmps34
    go_wp2
    go_loopw [3, 11] (fun last i wr => ∃ k : Nat, k ≤ n ∧ i = .int .i64 (k : Int) ∧ last = .string (lastN noS (rs.take k)) ∧ Hid (okRows noS (rs.take k)) ∧ Hid (Below w.heap.size w wr)) (fun _ i _ => n - (intOf i).toNat)
    case atStart => exact ⟨0, Nat.zero_le _, rfl, rfl, hid (by simp [okRows]), Below.refl _ _⟩
    case round =>
      obtain ⟨k, hk, rfl, rfl, HOK, HB0⟩ := hrel
      obtain ⟨last, HL⟩ : ∃ x, Hid (lastN noS (rs.take k) = x) := ⟨_, rfl⟩
      rw [HL.out]
      have hsz := HB0.out.size
      by_cases hlt : k < n
      · obtain ⟨b, off, rfl, hbl, hcell⟩ := HR.out (by have := HN.out; omega)
        obtain ⟨u, hu, hv⟩ := hcell k (by have := HN.out; omega)
        obtain ⟨⟨s, l⟩, Hx⟩ : ∃ x, Hid (rs.getD k rw0 = x) := ⟨_, rfl⟩
        rw [Hx.out] at hu hv
        have HU := hid (range_below2 hu HB0.out hbl)
        obtain ⟨pu, cu, rfl, hlu, hcu⟩ := hv.open
        have HV := hid hv
        clear hu hv hcell
        have HSZ := hid size_row
        have NO : Hid (¬ okRow last (s, l) → decide (mayT rs) = false) := by
          refine hid fun q => decide_eq_false (okRows_not (k := k) (by have := HN.out; omega) ?_)
          rw [HL.out, Hx.out]
          exact q
        by_cases hle : (Op.bytesLess s.toList last.toList || s.toList == last.toList) = true
        · have E := hid (NO.out (by rintro ⟨q, _⟩; unfold leS at q; simp only [hle] at q; cases q))
          go_wp2_with (refine wpList_load_mid rfl 49 _ rfl b (off + k * 2) rfl [.string s, .slice pu l.length cu] _ HU.out Tryd.underlying49 rfl HSZ.out ?_)
          go_ret
          exact ⟨by rw [E.out]; rfl, HB0.out.alloc hsz _⟩
        · have hle2 : (Op.bytesLess s.toList last.toList || s.toList == last.toList) = false := by simpa using hle
          clear hle
          by_cases hsz2 : (64 : Int) < (s.size : Int)
          · have E := hid (NO.out (by rintro ⟨_, q, _⟩; have q : s.size ≤ 64 := q; omega))
            go_wp2_with (refine wpList_load_mid rfl 49 _ rfl b (off + k * 2) rfl [.string s, .slice pu l.length cu] _ HU.out Tryd.underlying49 rfl HSZ.out ?_)
            go_ret
            exact ⟨by rw [E.out]; rfl, HB0.out.alloc hsz _⟩
          · by_cases hl2 : (65536 : Int) < (l.length : Int)
            · have E := hid (NO.out (by rintro ⟨_, _, q⟩; have q : l.length ≤ 65536 := q; omega))
              go_wp2_with (refine wpList_load_mid rfl 49 _ rfl b (off + k * 2) rfl [.string s, .slice pu l.length cu] _ HU.out Tryd.underlying49 rfl HSZ.out ?_)
              go_ret
              exact ⟨by rw [E.out]; rfl, HB0.out.alloc hsz _⟩
            · have HOK2 : Hid (okRows noS (rs.take (k + 1))) := by
                refine hid ?_
                rw [take_snoc (by have := HN.out; omega), okRows_snoc, Hx.out, HL.out]
                exact ⟨HOK.out, by unfold leS; exact hle2, by show s.size ≤ 64; omega, by show l.length ≤ 65536; omega⟩
              have HL2 : Hid (lastN noS (rs.take (k + 1)) = s) := by
                refine hid ?_
                rw [take_snoc (by have := HN.out; omega), lastN_snoc, Hx.out]
              go_wp2_with (refine wpList_load_mid rfl 49 _ rfl b (off + k * 2) rfl [.string s, .slice pu l.length cu] _ HU.out Tryd.underlying49 rfl HSZ.out ?_)
              exact ⟨⟨k + 1, by omega, by go_num, by rw [HL2.out], HOK2, HB0.out.alloc hsz _⟩, by simp [intOf]; omega⟩
      · have E : Hid (decide (mayT rs) = true) := by
          refine hid (decide_eq_true ⟨by have := HN.out; omega, ?_⟩)
          have := HOK.out
          rw [List.take_of_length_le (by have := HN.out; omega)] at this
          exact this
        go_wp2
        go_ret
        exact ⟨by rw [E.out]; rfl, HB0.out⟩
end Go.Proofs.YtklklldmhoofnaaDoor
namespace Go.Proofs.YtklklldmhoofnaaDoor
open Go.RowKit
def cellsB (l : List Int) : Array Value := (l.map (Value.int .u8)).toArray
theorem cellsB_size (l : List Int) : (cellsB l).size = l.length := by simp [cellsB]
theorem cellsB_one (l : List Int) : (cellsB l).all (·.oneCell') = true := all_oneCell_toArray (fun v hv => by obtain ⟨x, _, rfl⟩ := List.mem_map.1 hv; rfl)
def zeros32 : List Int := List.replicate 32 0
theorem isAgg_u8 (w : World) : (isAgg 5).run Tryd.prog w = .ok false w := by
  unfold isAgg
  rw [Sem.run_bind, run_underlying Tryd.underlying5 w]
  rfl
theorem part_u8 (w : World) (l : List Int) (i : Nat) (hi : i < l.length) : (part 5 (cellsB l) i).run Tryd.prog w = .ok (.int .u8 (l.getD i 0)) w := by
  have e : (cellsB l)[i]? = some (.int .u8 (l.getD i 0)) := by simp [cellsB, List.getD, List.getElem?_eq_getElem hi]
  simp [part, e]
def eqRound (d : Nat) (xs ys : List Int) (i : Nat) (_ : Option Bool × Unit) : Sem (ForInStep (Option Bool × Unit)) := do
  let a ← part 5 (cellsB xs) (i * 1)
  let b ← part 5 (cellsB ys) (i * 1)
  let c ← Op.equalIn (d + 1) 5 a b
  if (!c) = true then pure (ForInStep.done (some false, ())) else pure (ForInStep.yield (none, ()))
theorem run_eqRound (w : World) (d : Nat) (xs ys : List Int) (i : Nat) (s : Option Bool × Unit) (hx : i < xs.length) (hy : i < ys.length) :
    (eqRound d xs ys i s).run Tryd.prog w = .ok (if xs.getD i 0 = ys.getD i 0 then .yield (none, ()) else .done (some false, ())) w := by
  unfold eqRound
  simp only [Sem.run_bind, Nat.mul_one, part_u8 w xs i hx, part_u8 w ys i hy, Result.andThen_ok, run_equalIn_int w d 5 .u8 .u8 _ _ Tryd.underlying5]
  by_cases h : xs.getD i 0 = ys.getD i 0
  · have e : (xs.getD i 0 == ys.getD i 0) = true := by simpa using h
    rw [e, if_pos h]; rfl
  · have e : (xs.getD i 0 == ys.getD i 0) = false := by simpa using h
    rw [e, if_neg h]; rfl
theorem run_eqRounds (w : World) (d n : Nat) (xs ys : List Int) (hx : xs.length = n) (hy : ys.length = n) : ∀ (m k : Nat), k + m = n → xs.take k = ys.take k →
    (forIn (List.range' k m 1) ((none : Option Bool), ()) (eqRound d xs ys)).run Tryd.prog w = .ok (if xs = ys then (none, ()) else (some false, ())) w
  | 0, k, hk, ht => by
    have e : xs = ys := by rw [← List.take_of_length_le (show xs.length ≤ k by omega), ← List.take_of_length_le (show ys.length ≤ k by omega), ht]
    simp [e]
  | m + 1, k, hk, ht => by
    rw [List.range'_succ, List.forIn_cons, Sem.run_bind, run_eqRound w d xs ys k _ (by omega) (by omega), Result.andThen_ok]
    by_cases h : xs.getD k 0 = ys.getD k 0
    · rw [if_pos h]
      have h2 : xs.take (k + 1) = ys.take (k + 1) := by
        rw [List.take_succ_eq_append_getElem (by omega), List.take_succ_eq_append_getElem (by omega), ht]
        rw [getD_of_lt (by omega), getD_of_lt (by omega)] at h
        rw [h]
      exact run_eqRounds w d n xs ys hx hy m (k + 1) (by omega) h2
    · rw [if_neg h, if_neg (fun e => h (by rw [e]))]
      rfl
theorem run_equalIn_bytes (w : World) (d n : Nat) (t : TypeId) (ht : Tryd.prog.underlying t = some (.array n 5)) (xs ys : List Int) (hx : xs.length = n) (hy : ys.length = n) :
    (Op.equalIn (d + 2) t (.agg (cellsB xs)) (.agg (cellsB ys))).run Tryd.prog w = .ok (decide (xs = ys)) w := by
  rw [Op.equalIn]
  simp only [Sem.run_bind, run_underlying ht, Result.andThen_ok, size_u8]
  have hr := run_eqRounds w d n xs ys hx hy n 0 (by omega) rfl
  have e : (forIn (m := Sem) [:n] ((none : Option Bool), ()) (eqRound d xs ys)) = forIn (List.range' 0 n 1) ((none : Option Bool), ()) (eqRound d xs ys) := by
    rw [Std.Legacy.Range.forIn_eq_forIn_range']
    simp [Std.Legacy.Range.size]
  rw [← e] at hr
  refine (congrArg (fun r => Result.andThen r _) hr).trans ?_
  by_cases h : xs = ys
  · simp [h]
  · simp [h]
theorem run_neq_bytes (w : World) (n : Nat) (t : TypeId) (ht : Tryd.prog.underlying t = some (.array n 5)) (xs ys : List Int) (hx : xs.length = n) (hy : ys.length = n) :
    (binOp .neq t (.agg (cellsB xs)) (.agg (cellsB ys))).run Tryd.prog w = .ok (.bool (!decide (xs = ys))) w := by
  rw [run_neq_struct, run_equalIn_bytes w 9998 n t ht xs ys hx hy]
  rfl
theorem run_eql_bytes (w : World) (n : Nat) (t : TypeId) (ht : Tryd.prog.underlying t = some (.array n 5)) (xs ys : List Int) (hx : xs.length = n) (hy : ys.length = n) :
    (binOp .eql t (.agg (cellsB xs)) (.agg (cellsB ys))).run Tryd.prog w = .ok (.bool (decide (xs = ys))) w := by
  rw [run_eql_struct, run_equalIn_bytes w 9998 n t ht xs ys hx hy]
  rfl
theorem info_digest : (Tryd.prog.info? 23).map (fun i => (i.zero, i.size, i.bytes)) = some (some (.agg (cellsB zeros32)), 32, 32) := by kernel_rfl
theorem size_digest : (Tryd.prog.info? 23).map (·.size) = some 32 := by kernel_rfl
theorem zeros32_length : zeros32.length = 32 := by simp [zeros32]
theorem run_alloc_digest (w : World) : (Instr.alloc 23 true (.tuple #[])).run Tryd.prog w = .ok (.pointer (some ⟨w.heap.size, 0, none⟩)) (w.alloc (.cells (cellsB zeros32) 23)) := by
  obtain ⟨i0, hi, hz0, hz1, hz2⟩ := info_parts info_digest
  simp [Instr.alloc, zeroValue, typeInfo, hi, hz0, newVar, newRow, Value.cells]
theorem wpList_alloc_digest {ops : Array Oper} {rest : List Oper} {o : Oper} {a : Act} {w : World} {Q : Exit → Act → World → Prop} (hgd : o.guard = none) (ho : o.op = .alloc 23)
    (h : wpList Tryd.prog ops Q rest (a.put o.dst (.pointer (some ⟨w.heap.size, 0, none⟩))) (w.alloc (.cells (cellsB zeros32) 23))) : wpList Tryd.prog ops Q (o :: rest) a w :=
  wpList_plain hgd fun _ hK => by
    have hr := run_alloc_digest w
    unfold Oper.wp
    simp only [execOp, ho, Sem.run_bind, hr, Result.andThen_ok]
    exact hK _ _ h
theorem built_digest : Tryd.prog.built 23 [] = some (cellsB zeros32) := by kernel_rfl
theorem wpList_build_digest {ops : Array Oper} {rest : List Oper} {o : Oper} {a : Act} {w : World} {Q : Exit → Act → World → Prop} (hgd : o.guard = none) (ho : o.op = .build 23 #[])
    (h : wpList Tryd.prog ops Q rest (a.put o.dst (.agg (cellsB zeros32))) w) : wpList Tryd.prog ops Q (o :: rest) a w := by
  have e : ((#[] : Array (Nat × Operand)).map fun (i, x) => (i, a.eval x)).toList = [] := by simp
  refine wpList_build hgd 23 #[] ho (by rw [e, built_digest]; rfl) ?_
  rw [e, built_digest]
  exact h
theorem wpList_build_digest_on {ops : Array Oper} {rest : List Oper} {o : Oper} {a : Act} {w : World} {Q : Exit → Act → World → Prop} (ho : o.op = .build 23 #[]) (hw : Region.wanted o (yielded ops a.tmps) = true)
    (h : wpList Tryd.prog ops Q rest (a.put o.dst (.agg (cellsB zeros32))) w) : wpList Tryd.prog ops Q (o :: rest) a w := by
  have e : ((#[] : Array (Nat × Operand)).map fun (i, x) => (i, a.eval x)).toList = [] := by simp
  refine wpList_step fun K hK => ?_
  simp only [hw, if_true]
  refine wp_build 23 #[] ho (by rw [e, built_digest]; rfl) ?_
  rw [e, built_digest]
  exact hK _ _ h
theorem below_setRow {B : Nat} {a w : World} (h : Below B a w) {g : Nat} (hg : B ≤ g) (cs : Array Value) : Below B a (w.setRow g cs) :=
  h.trans ⟨rfl, rfl, rfl, by simp [World.setRow], fun k hk => setRow_other w g k _ (by omega)⟩
end Go.Proofs.YtklklldmhoofnaaDoor
namespace Go.Proofs.YtklklldmhoofnaaDoor
open Go Go.RowKit
def Bk (w : World) (x : Nat) (cs : Array Value) (T : TypeId) : Prop := w.heap[x]? = some (.cells cs T (0, 0))
theorem Bk.below {w w' : World} {x : Nat} {cs : Array Value} {T : TypeId} (h : Bk w x cs T) (hb : Below w.heap.size w w') : Bk w' x cs T := (hb.block x (Array.getElem?_eq_some_iff.1 h).1).trans h
theorem Bk.cell {w : World} {x : Nat} {cs : Array Value} {T : TypeId} (h : Bk w x cs T) (i : Nat) (v : Value) (hi : cs[i]? = some v) : w.cell? ⟨x, i, none⟩ = some v := by rw [cell_of_row _ _ _ _ _ _ h]; exact hi
theorem Bk.free {w : World} {x : Nat} {cs : Array Value} {T : TypeId} (h : Bk w x cs T) (i : Nat) : w.frozen? ⟨x, i, none⟩ = false := by
  have h' : w.heap[x]? = some (.cells cs T (0, 0)) := h
  simp [World.frozen?, h']
theorem Bk.set {w : World} {x : Nat} {cs : Array Value} {T : TypeId} (h : Bk w x cs T) (i : Nat) (v : Value) : Bk (w.setCell ⟨x, i, none⟩ v) x (cs.setIfInBounds i v) T := by
  have h' : w.heap[x]? = some (.cells cs T (0, 0)) := h
  simp [Bk, World.setCell, Array.getElem?_modify, h']
theorem Bk.setOther {w : World} {x y : Nat} {cs : Array Value} {T : TypeId} (h : Bk w x cs T) (hne : y ≠ x) (i : Nat) (v : Value) : Bk (w.setCell ⟨y, i, none⟩ v) x cs T := by
  have h' : w.heap[x]? = some (.cells cs T (0, 0)) := h
  simp [Bk, World.setCell, Array.getElem?_modify, hne, h']
end Go.Proofs.YtklklldmhoofnaaDoor
namespace Go.Proofs.YtklklldmhoofnaaDoor
open Go.RowKit
set_option maxHeartbeats 1000000 in
theorem clone_any (w : World) (v : Value) (l : List Int) (h : HB w v l) (hbig : l.length ≤ 140737488355328) :
    Calls Tryd.prog 43 #[v] w fun e w' => ∃ v', e = .returned v' ∧ w'.ownsRow w.heap.size 5 1 v' l.length (l.map (Value.int .u8)) ∧ Below w.heap.size w w' := by
  obtain ⟨i0, hi, hz0, hz1, hz2⟩ := info_parts info_u8
  have q22 := eql_nil_bytes
  obtain ⟨⟨p, c, rfl, hlc, hm, _, hcell⟩, hby⟩ := h
  cases p with
  | none =>
    have e : l = [] := by
      apply Classical.byContradiction
      intro hne
      obtain ⟨b, off, e, _⟩ := hcell hne
      cases e
    subst e
    go_enter Tryd.func43, Tryd.ntmps43
    go_wp2
    go_ret
    exact ⟨_, rfl, World.ownsRow_nil _ _ _ _, Below.refl _ _⟩
  | some a =>
    have A : Hid (l ≠ [] → ∃ b off, some a = some ⟨b, off, none⟩ ∧ ∀ j, j < l.length → w.cell? ⟨b, off + j, none⟩ = some (.int .u8 (l.getD j 0))) := hcell
    clear hcell
    go_enter Tryd.func43, Tryd.ntmps43
    go_wp2_with (at_builtin; refine wpList_append_own _ rfl _ _ 26 rfl w.heap.size 5 i0 (.int .u8 0) 1 1 Tryd.underlying26 hi hz0 hz1 hz2 rfl (by decide) _ _ _ rfl (World.ownsRow_made w #[] 0 (Nat.le_refl _) (Nat.zero_le _) rfl) a l.length c (l.map (Value.int .u8)) rfl ?qc1 ?qc2 ?qc3 ?qc4 ?qc5 ?qc6 ?_)
    case qc1 => simp
    case qc2 =>
      intro j u hj
      have hjn : j < l.length := by
        have := (List.getElem?_eq_some_iff.1 hj).1
        simpa using this
      refine Lib.cell?_alloc_some _ ?_
      obtain ⟨b, off, e, hh⟩ := A.out (by intro e; subst e; simp at hjn)
      cases e
      rw [Go.WideShapes.add_plain, hh j hjn]
      have e : (l.map (Value.int .u8))[j]? = some (Value.int .u8 (l.getD j 0)) := by simp [List.getD, List.getElem?_eq_getElem hjn]
      rw [e] at hj
      exact hj
    case qc3 => intro u hu; obtain ⟨x, _, rfl⟩ := List.mem_map.1 hu; rfl
    case qc4 => unfold maxLen; omega
    case qc5 => omega
    case qc6 => simp
    intro v' w1 hown hgrow hnil
    go_wp2
    go_ret
    exact ⟨v', rfl, by simpa using hown, ((Below.refl _ w).alloc (Nat.le_refl _) _).grown hgrow (by simp) (by intro k hk; simp [Value.ownBlock] at hk; omega)⟩
end Go.Proofs.YtklklldmhoofnaaDoor
namespace Go.Proofs.YtklklldmhoofnaaDoor
open Go Go.RowKit
def RwO (w : World) (B : Nat) (v : Value) (rs : List Rw) (vs : List Value) : Prop :=
  w.ownsRow B 49 2 v rs.length (rcs rs vs) ∧ rs.length = vs.length ∧
  (∀ i, i < rs.length → w.ownsRow B 5 1 (vs.getD i (.bool false)) (rs.getD i rw0).2.length ((rs.getD i rw0).2.map (Value.int .u8)) ∧ Byt8 (rs.getD i rw0).2) ∧
  (∀ i q, i < rs.length → (vs.getD i (.bool false)).ownBlock = some q → v.ownBlock ≠ some q) ∧
  ∀ i j q, i < j → j < rs.length → (vs.getD i (.bool false)).ownBlock = some q → (vs.getD j (.bool false)).ownBlock ≠ some q
theorem RwO.held {w : World} {B : Nat} {v : Value} {rs : List Rw} {vs : List Value} (h : RwO w B v rs vs) : HRw w v rs :=
  HRw.of_own h.1 h.2.1 fun i hi => HB.of_own (h.2.2.1 i hi).1 (h.2.2.1 i hi).2
theorem RwO.nil (w : World) (B : Nat) : RwO w B (.slice none 0 0) [] [] :=
  ⟨World.ownsRow_nil _ _ _ _, rfl, fun i hi => absurd hi (Nat.not_lt_zero _), fun i q hi => absurd hi (Nat.not_lt_zero _), fun i j q _ hj => absurd hj (Nat.not_lt_zero _)⟩
theorem own_below2 {w w' : World} {B n : Nat} {e : TypeId} {v : Value} {xs : List Value} (h : w.ownsRow B e 2 v n xs) (hb : Below w.heap.size w w') : w'.ownsRow B e 2 v n xs :=
  h.kept ⟨hb.os, hb.tape, hb.output, hb.size, fun k hk _ => hb.block k hk⟩ (none_or _)
theorem RwO.below {w w' : World} {B : Nat} {v : Value} {rs : List Rw} {vs : List Value} (h : RwO w B v rs vs) (hb : Below w.heap.size w w') : RwO w' B v rs vs :=
  ⟨own_below2 h.1 hb, h.2.1, fun i hi => ⟨own_below (h.2.2.1 i hi).1 hb, (h.2.2.1 i hi).2⟩, h.2.2.2.1, h.2.2.2.2⟩
theorem getD_left {α : Type} (d : α) (l m : List α) (i : Nat) (h : i < l.length) : (l ++ m).getD i d = l.getD i d := by simp [List.getD, List.getElem?_append_left h]
theorem getD_last {α : Type} (d x : α) (l : List α) : (l ++ [x]).getD l.length d = x := by simp [List.getD]
theorem RwO.push {wr w3 w4 : World} {B : Nat} {v v' v3 : Value} {rs : List Rw} {vs : List Value} {s : ByteArray} {g : List Int} {o : Obj} (h : RwO wr B v rs vs) (hb3 : Below wr.heap.size wr w3) (h3 : w3.ownsRow wr.heap.size 5 1 v3 g.length (g.map (Value.int .u8))) (hg : Byt8 g) (hB : B ≤ wr.heap.size)
    (h4 : w4.ownsRow B 49 2 v' (rs.length + 1) (rcs rs vs ++ [.string s, v3])) (hgr : (w3.alloc o).grownBy w4 v.ownBlock) (hpl : v'.ownBlock = v.ownBlock ∨ v'.ownBlock = some (w3.alloc o).heap.size) : RwO w4 B v' (rs ++ [(s, g)]) (vs ++ [v3]) := by
  obtain ⟨h1, h2, hv, ha, hp⟩ := h
  have hlt := h1.lt
  have hsz : (w3.alloc o).heap.size = w3.heap.size + 1 := by simp
  have hs3 := hb3.size
  have hold : ∀ i q, i < rs.length → (vs.getD i (.bool false)).ownBlock = some q → q < wr.heap.size := fun i q hi e => ((hv i hi).1.lt q e).2
  have hnew : ∀ q, v3.ownBlock = some q → wr.heap.size ≤ q ∧ q < w3.heap.size := fun q e => h3.lt q e
  have hk : ∀ i, i < rs.length → w4.ownsRow B 5 1 (vs.getD i (.bool false)) (rs.getD i rw0).2.length ((rs.getD i rw0).2.map (Value.int .u8)) := fun i hi =>
    ((own_below (hv i hi).1 hb3).alloc o).kept hgr (by
      cases he : (vs.getD i (.bool false)).ownBlock with
      | none => exact Or.inl rfl
      | some q => exact Or.inr (fun e => ha i q hi he e.symm))
  have hk3 : w4.ownsRow B 5 1 v3 g.length (g.map (Value.int .u8)) :=
    own_mono ((h3.alloc o).kept hgr (by
      cases he : v3.ownBlock with
      | none => exact Or.inl rfl
      | some q => exact Or.inr (fun e => by have := hlt q e.symm; have := hnew q he; omega))) hB
  refine ⟨?_, by simp [h2], ?_, ?_, ?_⟩
  · rw [rcs_app _ _ _ _ h2, List.length_append]
    exact h4
  · intro i hi
    rw [List.length_append, List.length_singleton] at hi
    by_cases hi2 : i < rs.length
    · rw [getD_left _ _ _ i hi2, getD_left _ _ _ i (by omega)]
      exact ⟨hk i hi2, (hv i hi2).2⟩
    · have e : i = rs.length := by omega
      subst e
      rw [getD_last]
      conv => lhs; rw [h2, getD_last]
      exact ⟨hk3, hg⟩
  · intro i q hi he hq
    rw [List.length_append, List.length_singleton] at hi
    by_cases hi2 : i < rs.length
    · rw [getD_left _ _ _ i (by omega)] at he
      rcases hpl with e | e
      · exact ha i q hi2 he (by rw [← e]; exact hq)
      · have := hold i q hi2 he
        rw [e] at hq
        injection hq with hq
        omega
    · have e : i = vs.length := by omega
      subst e
      rw [getD_last] at he
      have := hnew q he
      rcases hpl with e | e
      · have := hlt q (by rw [← e]; exact hq)
        omega
      · rw [e] at hq
        injection hq with hq
        omega
  · intro i j q hij hj he hq
    rw [List.length_append, List.length_singleton] at hj
    rw [getD_left _ _ _ i (by omega)] at he
    by_cases hj2 : j < rs.length
    · rw [getD_left _ _ _ j (by omega)] at hq
      exact hp i j q hij hj2 he hq
    · have e : j = vs.length := by omega
      subst e
      rw [getD_last] at hq
      have := hnew q hq
      have := hold i q (by omega) he
      omega
theorem slice_from (w : World) (b off n c e : Nat) (he : e ≤ n) (hn : n ≤ c) :
    (Instr.slice 26 (.slice (some ⟨b, off, none⟩) n c) (some (.int .i64 (e : Int))) none none).run Tryd.prog w = .ok (.slice (some ⟨b, off + (if c = e then 0 else e), none⟩) (n - e) (c - e)) w := by
  have hs : (sizeOf 5).run Tryd.prog w = .ok 1 w := by
    obtain ⟨i0, hi, hz0, hz1, hz2⟩ := info_parts info_u8
    simp [sizeOf, typeInfo, hi, hz1]
  have hel : Tryd.prog.elem 26 = 5 := by kernel_rfl
  have h1 := run_slice_l (P := Tryd.prog) w 26 (some ⟨b, off, none⟩) n c (by rw [hel]; exact Tryd.underlying26) .i64 (e : Int) (by omega) (by omega)
  rw [h1, hel, hs]
  simp only [Result.andThen_ok, sliced]
  by_cases hc : c = e
  · simp [hc]
  · simp [hc, Addr.add_mid]
theorem HB.from {w : World} {b off c : Nat} {l : List Int} (h : HB w (.slice (some ⟨b, off, none⟩) l.length c) l) (e : Nat) (he : e ≤ l.length) : HB w (.slice (some ⟨b, off + (if c = e then 0 else e), none⟩) (l.length - e) (c - e)) (l.drop e) := by
  have := h.suf e he
  by_cases hc : c = e
  · simp only [hc, if_pos] at this ⊢
    simpa using this
  · simp only [hc, if_false] at this ⊢
    simpa [Addr.add_mid] using this
theorem info_int2 : (Tryd.prog.info? 3).map (fun i => (i.zero, i.size)) = some (some (.int .i64 0), 1) := by kernel_rfl
theorem idx_two (w : World) (k : Nat) (hk : k < 2) : (Instr.index 74 (.agg #[.int .i64 64, .int .i64 65536]) (.int .i64 (k : Int))).run Tryd.prog w = .ok (.int .i64 (if k = 0 then 64 else 65536)) w := by
  cases hi : Tryd.prog.info? 3 with
  | none => have := info_int2; simp [hi] at this
  | some i =>
    have h2 := info_int2
    simp [hi] at h2
    have h3 : k = 0 ∨ k = 1 := by omega
    rcases h3 with rfl | rfl
    · simp [Instr.index, run_underlying Tryd.underlying74, asIntOf, part, isAgg, run_underlying Tryd.underlying3, sizeOf, typeInfo, hi, h2]
    · simp [Instr.index, run_underlying Tryd.underlying74, asIntOf, part, isAgg, run_underlying Tryd.underlying3, sizeOf, typeInfo, hi, h2]
theorem run_append_rw (w : World) (base : Nat) (ty : TypeId) (v : Value) (n : Nat) (xs : List Value) (hown : w.ownsRow base 49 2 v n xs) (b : Nat) (c : Nat) (s : ByteArray) (u : Value) (hu : u.oneCell' = true) (hx : w.cell? ⟨b, 0, none⟩ = some (.string s)) (hy : w.cell? ⟨b, 1, none⟩ = some u) (hn : n ≤ 1000) (hbase : base ≤ w.heap.size) :
    ∃ v' w', (Builtin.append_ #[44, 44] ty #[v, .slice (some ⟨b, 0, none⟩) 1 c]).run Tryd.prog w = .ok v' w' ∧ w'.ownsRow base 49 2 v' (n + 1) (xs ++ [.string s, u]) ∧ w.grownBy w' v.ownBlock ∧
      (v'.ownBlock = v.ownBlock ∨ v'.ownBlock = some w.heap.size) := by
  obtain ⟨i0, hi, hz0, hz1, hz2⟩ := info_parts info_row
  have hnews : ∀ j q, [Value.string s, u][j]? = some q → w.cell? ((⟨b, 0, none⟩ : Addr).add j) = some q := by
    intro j q hj
    rw [Go.WideShapes.add_plain]
    match j, hj with
    | 0, hj => simp at hj; subst hj; exact hx
    | 1, hj => simp at hj; subst hj; exact hy
  have h1 : ∀ q ∈ [Value.string s, u], q.oneCell' = true := by
    intro q hq
    simp at hq
    rcases hq with rfl | rfl
    · rfl
    · exact hu
  obtain ⟨v', w', hr, h2, h3, _⟩ := run_append_own (P := Tryd.prog) w base 44 ty 49 i0 _ 2 40 Tryd.underlying44 hi hz0 hz1 hz2 rfl (by decide) v n xs hown ⟨b, 0, none⟩ 1 c [.string s, u] rfl hnews h1 (by unfold maxLen; omega) (by omega) hbase
  refine ⟨v', w', hr, h2, h3, ?_⟩
  rcases hown.2 with ⟨rfl, rfl⟩ | ⟨g, cap, cur, rfl, hbg, hg, hnc, hcm, hcs, htake⟩
  · have hr2 := run_append_nil (P := Tryd.prog) w 44 ty 49 i0 _ Tryd.underlying44 hi hz0 ⟨b, 0, none⟩ 1 c [.string s, u] (by rw [hz1]; rfl) hnews (by omega) (by omega) (by rw [hz2]; omega)
    rw [hr] at hr2
    simp only [Result.ok.injEq] at hr2
    obtain ⟨rfl, rfl⟩ := hr2
    exact .inr rfl
  · by_cases hroom : n + 1 ≤ cap
    · obtain ⟨w2, hr2, _⟩ := run_append_fits (P := Tryd.prog) w base 44 ty 49 i0 2 Tryd.underlying44 hi hz1 g n cap xs hown ⟨b, 0, none⟩ 1 c [.string s, u] rfl hnews h1 hroom
      rw [hr] at hr2
      simp only [Result.ok.injEq] at hr2
      obtain ⟨rfl, rfl⟩ := hr2
      exact .inl rfl
    · have hr2 := run_append_grow (P := Tryd.prog) w 44 ty 49 i0 _ Tryd.underlying44 hi hz0 ⟨g, 0, none⟩ n cap xs (by rw [hz1]; exact hown.1) (hown.cells (g := g) rfl) ⟨b, 0, none⟩ 1 c [.string s, u] (by rw [hz1]; rfl) hnews (by omega) (by omega) (growslice_fits (by omega) (by rw [hz2]; omega))
      rw [hr] at hr2
      simp only [Result.ok.injEq] at hr2
      obtain ⟨rfl, rfl⟩ := hr2
      exact .inr rfl
theorem wpList_append_rw {w : World} {ops : Array Oper} {rest : List Oper} {o : Oper} {a : Act} {Q : Exit → Act → World → Prop} (hgd : o.guard = none) (s x : Operand)
    (ho : o.op = .call { callee := .builtin .append, args := #[s, x], argTypes := #[44, 44] })
    (base : Nat) (v : Value) (n : Nat) (xs : List Value) (hs : a.eval s = v) (hown : w.ownsRow base 49 2 v n xs)
    (b c : Nat) (t : ByteArray) (u : Value) (hx : a.eval x = .slice (some ⟨b, 0, none⟩) 1 c) (hu : u.oneCell' = true) (h0 : w.cell? ⟨b, 0, none⟩ = some (.string t)) (h1 : w.cell? ⟨b, 1, none⟩ = some u) (hn : n ≤ 1000) (hbase : base ≤ w.heap.size)
    (h : ∀ v' w', w'.ownsRow base 49 2 v' (n + 1) (xs ++ [.string t, u]) → w.grownBy w' v.ownBlock → (v'.ownBlock = v.ownBlock ∨ v'.ownBlock = some w.heap.size) → wpList Tryd.prog ops Q rest (a.put o.dst v') w') : wpList Tryd.prog ops Q (o :: rest) a w := by
  refine wpList_plain hgd fun K hK => ?_
  obtain ⟨v', w', hr, h2, h3, h4⟩ := run_append_rw w base o.type v n xs hown b c t u hu h0 h1 hn hbase
  unfold Oper.wp execOp
  simp only [ho, resolve, invoke, builtin, Sem.run_bind, Sem.run_pure, Result.andThen_ok, List.map_toArray, List.map_cons, List.map_nil, hs, hx, hr]
  exact hK _ _ (h v' w' h2 h3 h4)
theorem unp_err {l : List Int} {rs : List Rw} {k : Nat} (hp : packL rs = l.take k) (hm : mayT rs) (hk : k < l.length) (hno : ∀ r x, rs.length < 64 → okRow (lastN noS rs) r → l.drop k ≠ rowL r ++ x) : UnpQ l [] k 131 :=
  Or.inr ⟨rfl, rfl, hk, rs, hm, hp, hno⟩
theorem no_name {l : List Int} {rs : List Rw} {k : Nat} (h : ∀ f x : List Int, f.length ≤ 64 → l.drop k ≠ fld f ++ x) : ∀ r x, rs.length < 64 → okRow (lastN noS rs) r → l.drop k ≠ rowL r ++ x := by
  intro r x _ ok e
  unfold rowL at e
  rw [List.append_assoc] at e
  exact h _ _ (by rw [sB_length]; exact ok.2.1) e
theorem no_value {l f : List Int} {rs : List Rw} {k e : Nat} (hf : l.drop k = fld f ++ l.drop e) (h : ∀ f x : List Int, f.length ≤ 65536 → l.drop e ≠ fld f ++ x) : ∀ r x, rs.length < 64 → okRow (lastN noS rs) r → l.drop k ≠ rowL r ++ x := by
  intro r x _ ok he
  unfold rowL at he
  rw [hf, List.append_assoc] at he
  obtain ⟨_, h2⟩ := fld_inj he
  exact h _ _ ok.2.2 h2
theorem no_row {l f g : List Int} {rs : List Rw} {k e : Nat} (hb : Byt8 f) (hf : l.drop k = fld f ++ (fld g ++ l.drop e)) (h : leS (bS f) (lastN noS rs) = true ∨ rs.length = 64) : ∀ r x, rs.length < 64 → okRow (lastN noS rs) r → l.drop k ≠ rowL r ++ x := by
  intro r x hl ok he
  unfold rowL at he
  rw [hf, List.append_assoc] at he
  obtain ⟨h1, h2⟩ := fld_inj he
  rcases h with h | h
  · have : bS f = r.1 := by rw [h1, bS_sB]
    rw [this, ok.1] at h
    cases h
  · omega
theorem take_ext {l a : List Int} {k e : Nat} (hd : l.drop k = a ++ l.drop e) : l.take k ++ a = l.take e := by
  apply List.append_cancel_right (bs := l.drop e)
  rw [List.append_assoc, ← hd, List.take_append_drop, List.take_append_drop]
theorem drop_lt {l a : List Int} {k e : Nat} (he : e ≤ l.length) (h6 : 6 ≤ a.length) (hk : k ≤ l.length) (hd : l.drop k = a ++ l.drop e) : k < e := by
  have := congrArg List.length hd
  rw [List.length_drop, List.length_append, List.length_drop] at this
  omega
def RdI (w : World) (l : List Int) (n : Nat) (v last : Value) (k : Nat) (wr : World) : Prop :=
  ∃ rs vs, RwO wr w.heap.size v rs vs ∧ last = .string (lastN noS rs) ∧ k ≤ n ∧ packL rs = l.take k ∧ mayT rs ∧ Below w.heap.size w wr
def RowI (w wA : World) (l : List Int) (n k j e : Nat) (W : World) : Prop :=
  Below wA.heap.size wA W ∧ e ≤ n ∧ k ≤ e ∧ ∃ u0 u1, W.heap[wA.heap.size]? = some (.cells #[u0, u1] 73 (0, 0)) ∧
    ((j = 0 ∧ e = k) ∨ (j = 1 ∧ ∃ f, l.drop k = fld f ++ l.drop e ∧ f.length ≤ 64 ∧ HB w u0 f) ∨
     (j = 2 ∧ ∃ f g, l.drop k = fld f ++ (fld g ++ l.drop e) ∧ f.length ≤ 64 ∧ g.length ≤ 65536 ∧ HB w u0 f ∧ HB w u1 g))
set_option maxRecDepth 100000 in
set_option maxHeartbeats 8000000 in
theorem unpack_any (w : World) (v : Value) (l : List Int) (h : HB w v l) (hk : KD w) :
    Calls Tryd.prog 26 #[v] w fun e w' => ∃ rv rs vs k ec, e = .returned (.tuple #[rv, .int .i64 ((k : Nat) : Int), .int .i64 ec]) ∧ UnpQ l rs k ec ∧ RwO w' w.heap.size rv rs vs ∧ Below w.heap.size w w' := by
  obtain ⟨p, c, rfl, hlc, hcm⟩ := h.open
  have HH := hid h
  have HK := hid hk
  have HBY := hid (show Byt8 l from h.2)
  obtain ⟨n, HN⟩ : ∃ n, Hid (l.length = n) := ⟨_, rfl⟩
  rw [HN.out] at hlc
  rw [HN.out]
  have hm63 : n ≤ 9223372036854775807 := by unfold maxLen at hcm; omega
  clear h hk
  go_enter Tryd.func26, Tryd.ntmps26
  go_wp2
  refine wp_scope_straight ?_
  go_wp2
  refine wp_label ?_
  go_wp2
  go_loopw [5, 6, 7] (fun v last at_ wr => ∃ k : Nat, at_ = .int .i64 (k : Int) ∧ Hid (RdI w l n v last k wr)) (fun _ _ i _ => n - (intOf i).toNat)
  case atStart => exact ⟨0, rfl, [], [], RwO.nil _ _, rfl, Nat.zero_le _, by simp [packL], ⟨Nat.zero_le _, trivial⟩, Below.refl _ _⟩
  case round =>
    obtain ⟨k, rfl, HI⟩ := hrel
    obtain ⟨rs, vs, hown, rfl, hkn, hpk, hmay, hbel⟩ := HI.out
    by_cases hlt : k < n
    · have HO := hid hown
      have HP := hid hpk
      have HM := hid hmay
      have B0 := hid hbel
      obtain ⟨last, HL⟩ : ∃ x, Hid (lastN noS rs = x) := ⟨_, rfl⟩
      rw [HL.out]
      clear hown hpk hmay HI
      obtain ⟨b, off, rfl⟩ : ∃ b off, p = some ⟨b, off, none⟩ := by
        obtain ⟨b, off, c', e, _⟩ := HH.out.ne (by have := HN.out; omega)
        injection e with e
        exact ⟨b, off, e⟩
      go_wp2
      have hszA := B0.out.size
      obtain ⟨wA, rfl⟩ : ∃ x, x = wr := ⟨wr, rfl⟩
      go_loopw [9, 22] (fun e i W => ∃ j en : Nat, i = .int .i64 (j : Int) ∧ e = .int .i64 (en : Int) ∧ Hid (RowI w wA l n k j en W)) (fun _ i _ => 2 - (intOf i).toNat)
      case atStart => exact ⟨0, k, rfl, rfl, hid ⟨(Below.refl _ wA).alloc (Nat.le_refl _) _, by omega, Nat.le_refl _, _, _, heap_alloc_new wA _, Or.inl ⟨rfl, rfl⟩⟩⟩
      case round =>
        obtain ⟨j, en, rfl, rfl, HJ⟩ := hrel
        obtain ⟨hbA, hen, hke, u0, u1, hblk, hcase⟩ := HJ.out
        have BA := hid hbA
        have hsA := hbA.size
        have BW := hid (B0.out.trans (hbA.mono hszA))
        have qs := slice_from wr b off n c en hen hlc
        have hH := HH.out.from en (by have := HN.out; omega)
        rw [HN.out] at hH
        have hdl : (l.drop en).length = n - en := by rw [List.length_drop, HN.out]
        rw [← hdl] at hH qs
        have C64 := cutField_any w wr BW.out b _ _ (l.drop en) 64 hH (by omega) (HK.out.below BW.out)
        have C65 := cutField_any w wr BW.out b _ _ (l.drop en) 65536 hH (by omega) (HK.out.below BW.out)
        obtain ⟨od, HOD⟩ : ∃ x, Hid (off + (if c = en then 0 else en) = x) := ⟨_, rfl⟩
        rw [HOD.out] at C64 C65 qs
        rw [hdl] at C64 C65 qs
        have C64 := hid C64
        have C65 := hid C65
        have hcl := hblk
        clear hH hdl hbA HJ
        rcases hcase with ⟨rfl, rfl⟩ | ⟨rfl, f, hf1, hf2, hf3⟩ | ⟨rfl, f, g, hf1, hf2, hg2, hf3, hg3⟩
        · clear C65
          have qi : ∀ W, (Instr.index 74 (.agg #[.int .i64 64, .int .i64 65536]) (.int .i64 0)).run Tryd.prog W = .ok (.int .i64 64) W := fun W => idx_two W 0 (by omega)
          go_wp2_with fail
          refine C64.out.mono ?_
          rintro e w2 ⟨vf, nf, is, rfl, hq, hb2⟩
          have B2 := hid hb2
          have hs2 := hb2.size
          have hcap := hblk
          have hblk2 : w2.heap[wA.heap.size]? = some (.cells #[u0, u1] 73 (0, 0)) := (hb2.block _ (Array.getElem?_eq_some_iff.1 hblk).1).trans hblk
          have HB2 := hid (show Bk w2 wA.heap.size #[u0, u1] 73 from hblk2)
          have hc0 := HB2.out.cell 0 u0 rfl
          have hf0 := HB2.out.free 0
          clear hb2 C64 hblk qs hcl hcap hblk2
          rcases hq with ⟨rfl, f, x, hx1, hx2, hx4, hx3⟩ | ⟨rfl, hno⟩
          · obtain ⟨pf, cf, rfl, _, _⟩ := hx3.open
            obtain ⟨nl, Hnl⟩ : ∃ x, Hid ((fld f).length = x) := ⟨_, rfl⟩
            have hnl : nl ≤ n - en := by
              have := congrArg List.length hx1
              rw [List.length_append, Hnl.out, List.length_drop, HN.out] at this
              omega
            rw [Hnl.out] at hx4
            subst hx4
            have HR : Hid (RowI w wA l n en 1 (en + nl) (w2.setCell ⟨wA.heap.size, 0, none⟩ (.slice pf f.length cf))) := by
              refine hid ⟨(BA.out.trans (B2.out.mono hsA)).setCell (Nat.le_refl _) _, by omega, by omega, _, _, HB2.out.set 0 _, Or.inr (Or.inl ⟨rfl, f, ?_, hx2, hx3⟩)⟩
              rw [hx1, ← List.drop_drop, hx1, ← Hnl.out]
              simp
            clear hx1 hx2 hx3
            go_wp2
            exact ⟨⟨1, en + nl, rfl, by go_num, HR⟩, by simp [intOf]⟩
          · have HNO := hid (unp_err HP.out HM.out (by have := HN.out; omega) (no_name hno))
            have B3 := hid (BW.out.trans (B2.out.mono BW.out.size))
            clear hno
            go_wp2
            simp only [Exit.noGoto]
            go_ret3
            exact ⟨_, [], [], en, 131, rfl, HNO.out, RwO.nil _ _, B3.out⟩
        · clear C64
          have qi : ∀ W, (Instr.index 74 (.agg #[.int .i64 64, .int .i64 65536]) (.int .i64 1)).run Tryd.prog W = .ok (.int .i64 65536) W := fun W => idx_two W 1 (by omega)
          have HF1 := hid hf1
          have HF3 := hid hf3
          clear hf1 hf3
          go_wp2_with fail
          refine C65.out.mono ?_
          rintro e w2 ⟨vf, nf, is, rfl, hq, hb2⟩
          have B2 := hid hb2
          have hs2 := hb2.size
          have hblk2 : w2.heap[wA.heap.size]? = some (.cells #[u0, u1] 73 (0, 0)) := (hb2.block _ (Array.getElem?_eq_some_iff.1 hblk).1).trans hblk
          have HB2 := hid (show Bk w2 wA.heap.size #[u0, u1] 73 from hblk2)
          have hc0 := HB2.out.cell 1 u1 rfl
          have hf0 := HB2.out.free 1
          clear hb2 C65 hblk qs hcl hblk2
          rcases hq with ⟨rfl, g, x, hx1, hx2, hx4, hx3⟩ | ⟨rfl, hno⟩
          · obtain ⟨pf, cf, rfl, _, _⟩ := hx3.open
            obtain ⟨nl, Hnl⟩ : ∃ x, Hid ((fld g).length = x) := ⟨_, rfl⟩
            have hnl : nl ≤ n - en := by
              have := congrArg List.length hx1
              rw [List.length_append, Hnl.out, List.length_drop, HN.out] at this
              omega
            rw [Hnl.out] at hx4
            subst hx4
            have HR : Hid (RowI w wA l n k 2 (en + nl) (w2.setCell ⟨wA.heap.size, 1, none⟩ (.slice pf g.length cf))) := by
              refine hid ⟨(BA.out.trans (B2.out.mono hsA)).setCell (Nat.le_refl _) _, by omega, by omega, _, _, HB2.out.set 1 _, Or.inr (Or.inr ⟨rfl, f, g, ?_, hf2, hx2, HF3.out, hx3⟩)⟩
              rw [HF1.out, ← List.drop_drop, hx1, ← Hnl.out]
              simp
            clear hx1 hx2 hx3
            go_wp2
            exact ⟨⟨2, en + nl, rfl, by go_num, HR⟩, by simp [intOf]⟩
          · have HNO := hid (unp_err HP.out HM.out (by have := HN.out; omega) (no_value HF1.out hno))
            have B3 := hid (BW.out.trans (B2.out.mono BW.out.size))
            clear hno
            go_wp2
            simp only [Exit.noGoto]
            go_ret3
            exact ⟨_, [], [], k, 131, rfl, HNO.out, RwO.nil _ _, B3.out⟩
        · clear C64 C65 qs
          have HF1 := hid hf1
          have HW := hid (show Bk wr wA.heap.size #[u0, u1] 73 from hblk)
          have hc0 := HW.out.cell 0 u0 rfl
          have hc1 := HW.out.cell 1 u1 rfl
          have qc := conv_str (hf3.below BW.out)
          have hfb : Byt8 f := hf3.2
          have HG3 := hid (hg3.below BW.out)
          have HF3 := hid hf3
          obtain ⟨pf0, cf0, rfl, _, _⟩ := hf3.open
          obtain ⟨pf1, cf1, rfl, _, _⟩ := hg3.open
          have HOA := hid (HO.out.below BA.out)
          obtain ⟨S, HS⟩ : ∃ x, Hid (bS f = x) := ⟨_, rfl⟩
          rw [HS.out] at qc
          have hlen64 : rs.length ≤ 64 := HM.out.1
          obtain ⟨m, HMm⟩ : ∃ x, Hid (rs.length = x) := ⟨_, rfl⟩
          obtain ⟨pr, cr, rfl⟩ : ∃ p c, u5 = .slice p m c := by
            rcases HO.out.1.2 with ⟨e, e0⟩ | ⟨g, cap, cur, e, _⟩
            · exact ⟨none, 0, by rw [e, ← HMm.out, e0]⟩
            · exact ⟨_, cap, by rw [e, HMm.out]⟩
          rw [HMm.out] at hlen64
          clear hf1 hf3 hg3 hblk hcl
          by_cases hle : (Op.bytesLess S.toList last.toList || S.toList == last.toList) = true
          · have HNO := hid (unp_err HP.out HM.out (by have := HN.out; omega) (no_row hfb HF1.out (Or.inl (by rw [HS.out, HL.out]; exact hle))))
            go_wp2
            simp only [Exit.noGoto]
            go_ret3
            exact ⟨_, [], [], k, 131, rfl, HNO.out, RwO.nil _ _, BW.out⟩
          · have hle2 : (Op.bytesLess S.toList last.toList || S.toList == last.toList) = false := by simpa using hle
            clear hle
            by_cases h64 : (m : Int) = 64
            · have HNO := hid (unp_err HP.out HM.out (by have := HN.out; omega) (no_row hfb HF1.out (Or.inr (by have := HMm.out; omega))))
              have hq : ((m : Int) == 64) = true := by rw [beq_iff_eq]; exact h64
              clear h64
              go_wp2
              simp only [Exit.noGoto]
              go_ret3
              exact ⟨_, [], [], k, 131, rfl, HNO.out, RwO.nil _ _, BW.out⟩
            · have hq : ((m : Int) == 64) = false := by rw [beq_eq_false_iff_ne]; exact h64
              have C := clone_any wr _ g HG3.out (by omega)
              have C := hid C
              go_wp2_with fail
              refine C.out.mono ?_
              rintro e w3 ⟨v3, rfl, hown3, hb3⟩
              have HO3 := hid hown3
              obtain ⟨p3, c3, rfl⟩ := own_slc hown3
              have B3 := hid hb3
              have hs3 := hb3.size
              have HOW : Hid (w3.ownsRow w.heap.size 49 2 (.slice pr m cr) m (rcs rs vs)) := by
                refine hid ?_
                have := (own_below2 HOA.out.1 hb3)
                rw [HMm.out] at this
                exact this
              clear hown3 hb3 C
              go_wp2_with (at_builtin; refine wpList_append_rw rfl _ _ rfl w.heap.size _ m _ rfl (HOW.out.alloc _) w3.heap.size 1 S (.slice p3 g.length c3) rfl rfl (by simp) (by simp) ?q1 ?q2 ?_)
              case q1 => omega
              case q2 => simp; omega
              intro v4 w4 hown4 hg4 hp4
              have hd : l.drop k = rowL (S, g) ++ l.drop en := by
                rw [HF1.out]
                unfold rowL
                rw [← HS.out, sB_bS hfb, List.append_assoc]
              have hken : k < en := drop_lt (by have := HN.out; omega) (row_len (S, g)) (by have := HN.out; omega) hd
              have HD := hid hd
              have HR : Hid (RdI w l n v4 (.string S) en w4) := by
                rw [← HMm.out] at hown4
                refine hid ⟨rs ++ [(S, g)], vs ++ [.slice p3 g.length c3], HOA.out.push B3.out HO3.out HG3.out.2 (by omega) hown4 hg4 ?_, by rw [lastN_snoc], by omega, ?_, ?_, ?_⟩
                · rcases hp4 with e | e
                  · exact Or.inl e
                  · exact Or.inr (by rw [e]; simp)
                · rw [packL_snoc, HP.out]
                  exact take_ext HD.out
                · have h1 := HM.out
                  refine ⟨by rw [List.length_append, List.length_singleton, HMm.out]; omega, ?_⟩
                  rw [okRows_snoc, HL.out]
                  exact ⟨h1.2, hle2, by show S.size ≤ 64; rw [← HS.out, bS_size]; omega, hg2⟩
                · exact ((BW.out.trans (B3.out.mono BW.out.size)).alloc (by omega) _).grown hg4 (by simp; omega) (fun q e => (HOW.out.lt q e).1)
              clear hown4 hg4 hp4 hd
              go_wp2
              exact ⟨⟨en, by go_num, HR⟩, by simp [intOf]; omega⟩
    · have HQ : Hid (UnpQ l rs 0 0) := by
        refine hid (Or.inl ⟨rfl, rfl, hmay, ?_⟩)
        rw [hpk, List.take_of_length_le (by have := HN.out; omega)]
      have HO := hid hown
      have B0 := hid hbel
      clear hown hpk hmay HI hbel
      go_wp2
      simp only [Exit.noGoto]
      go_ret3
      exact ⟨_, rs, vs, 0, 0, rfl, HQ.out, HO.out, B0.out⟩
end Go.Proofs.YtklklldmhoofnaaDoor
