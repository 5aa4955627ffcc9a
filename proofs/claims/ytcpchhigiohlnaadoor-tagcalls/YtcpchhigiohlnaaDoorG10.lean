/- Of the road to tagCallsUptoCard_holds: TcRd, TgRef3, TagPadEv, TgApartWalk, TcDig, TcOne, RgTag, TcIdx. -/
import Derived.Test.YtcpchhigiohlnaaDoorG09
import Derived.Test.YtcpchhigiohlnaaDoorG08
import Derived.Test.YtcpchhigiohlnaaDoorG00
import Derived.Test.YtcpchhigiohlnaaDoorG07
import Derived.Test.YtcpchhigiohlnaaDoorChecked
import Derived.Test.YtcpchhigiohlnaaDoorG02
import Derived.Deep.MidRow
import Derived.Deep.RegionHeld
import Derived.OrdersHeld
set_option linter.unusedVariables false
set_option linter.unusedSimpArgs false
set_option maxRecDepth 100000
set_option maxHeartbeats 16000000
namespace Go.Proofs.YtcpchhigiohlnaaDoor
open Go Go.RowKit
def rdF (raw : List Int) : Nat × Int × Nat × List (List Int) :=
 match cutF raw raw.length 0 [] with
 | (_, p, false) => (0, 52, p, [])
 | ([], _, true) => (0, 0, 0, [])
 | (x :: ls, _, true) => if bwT (bS x) = 0 then (0, 50, 0, []) else if FitQ (bwT (bS x)) ls then (bwT (bS x), 0, 0, ls) else (0, 51, 0, [])
theorem rdF_false {raw : List Int} {fs : List (List Int)} {p : Nat} (h : cutF raw raw.length 0 [] = (fs, p, false)) : rdF raw = (0, 52, p, []) := by
 unfold rdF; rw [h]
theorem rdF_true {raw : List Int} {x : List Int} {ls : List (List Int)} {p : Nat} (h : cutF raw raw.length 0 [] = (x :: ls, p, true)) : rdF raw = if bwT (bS x) = 0 then (0, 50, 0, []) else if FitQ (bwT (bS x)) ls then (bwT (bS x), 0, 0, ls) else (0, 51, 0, []) := by
 unfold rdF; rw [h]
theorem WdQ.bw {x : List Int} {t : Nat} {b : Bool} (h : WdQ x t b) (hx : ∀ y ∈ x, 0 <= y /\ y < 256) : bwT (bS x) = t /\ (b = true ↔ t ≠ 0) := by
 have hk : ∀ k, wS k = bS x ↔ strI (wS k) = x := fun k => by
  constructor
  ·intro e; show sB (wS k) = x; rw [e, sB_bS hx]
  ·intro e; rw [<- bS_sB (wS k)]; exact congrArg bS e
 rcases h with ⟨e, ht, hw⟩ | ⟨e, e2, hn⟩
 ·refine ⟨bwT_hit ht ((hk t).2 hw) fun u h1 h2 q => ?_, by rw [e]; exact ⟨fun _ => by omega, fun _ => rfl⟩⟩
  have := wS_inj5 ⟨h1, by omega⟩ ht (((hk u).1 q).trans hw.symm)
  omega
 ·refine ⟨(bwT_none fun u h1 h2 q => hn u h1 (by omega) ((hk u).1 q)).trans e2.symm, by rw [e, e2]; simp⟩
theorem RrC.rd {A : Nat} {w' : World} {raw : List Int} {t : Nat} {v : Value} {a E : Int} (h : RrC A w' raw t v a E) : t = (rdF raw).1 /\ E = (rdF raw).2.1 /\ a = ((rdF raw).2.2.1 : Int) /\ HLN A w' v (rdF raw).2.2.2 := by
 have hn : HLN A w' (.slice none 0 0) [] := fun W _ => ⟨none, 0, rfl, Nat.le_refl _, Nat.zero_le _, fun _ => rfl, fun q => absurd rfl q⟩
 obtain ⟨fs, p, b, hc, h⟩ := h
 rcases h with ⟨rfl, rfl, rfl, rfl, rfl⟩ | ⟨rfl, rfl, x, ls, rfl, h⟩
 ·rw [rdF_false hc]; exact ⟨rfl, rfl, rfl, hn⟩
 ·rw [rdF_true hc]
  rcases h with ⟨h1, rfl, rfl, rfl⟩ | ⟨h1, h2, rfl, rfl, rfl⟩ | ⟨h1, h2, rfl, h3, rfl⟩
  ·rw [if_pos h1]; exact ⟨rfl, rfl, rfl, hn⟩
  ·rw [if_neg h1, if_neg h2]; exact ⟨rfl, rfl, rfl, hn⟩
  ·rw [if_neg h1, if_pos h2]; exact ⟨rfl, rfl, rfl, h3⟩
theorem cutF_spec : ∀ (k : Nat) {raw : List Int} {A : Nat} {fs : List (List Int)} {gs : List (List Int)} {p : Nat}, cutF raw k A fs = (gs, p, true) -> fs.flatten.length + 8 * fs.length <= A -> A <= raw.length -> gs ≠ [] /\ gs.flatten.length + 8 * gs.length <= raw.length
 | 0, raw, A, fs, gs, p, h, h1, h2 => by
  simp only [cutF, Prod.mk.injEq, decide_eq_true_eq] at h
  obtain ⟨rfl, _, q⟩ := h
  exact ⟨fun e => by rw [e] at q; simp at q, by omega⟩
 | k + 1, raw, A, fs, gs, p, h, h1, h2 => by
  rw [cutF] at h
  by_cases c1 : A < raw.length
  ·rw [if_pos c1] at h
   by_cases c2 : A + 8 <= raw.length
   ·rw [if_pos c2] at h
    by_cases c3 : valL ((raw.drop A).take 8) <= raw.length - A - 8
    ·rw [if_pos c3] at h
     refine cutF_spec k h ?_ (by omega)
     simp only [List.flatten_append, List.flatten_cons, List.flatten_nil, List.append_nil, List.length_append, List.length_singleton, List.length_take, List.length_drop]
     omega
    ·rw [if_neg c3] at h; simp at h
   ·rw [if_neg c2] at h; simp at h
  ·rw [if_neg c1] at h
   simp only [Prod.mk.injEq, decide_eq_true_eq] at h
   obtain ⟨rfl, _, q⟩ := h
   exact ⟨fun e => by rw [e] at q; simp at q, by omega⟩
theorem cutF_true {raw : List Int} {gs : List (List Int)} {p : Nat} (h : cutF raw raw.length 0 [] = (gs, p, true)) : gs ≠ [] := (cutF_spec _ h (by simp) (Nat.zero_le _)).1
theorem cutF_len {raw : List Int} {gs : List (List Int)} {p : Nat} (h : cutF raw raw.length 0 [] = (gs, p, true)) : gs.flatten.length + 8 * gs.length <= raw.length := (cutF_spec _ h (by simp) (Nat.zero_le _)).2
theorem treadC (w : World) (v : Value) (raw : List Int) (h : HB w v raw) (hbig : raw.length <= 2000000) : Calls Tryd.prog 19 #[v] w fun e w' => ∃ (v' : Value) (xs : List Value), e = .returned (.tuple #[.int .u8 ((rdF raw).1 : Int), v', .int .i64 ((rdF raw).2.2.1 : Int), .int .i64 (rdF raw).2.1]) /\ PX w.heap.size w' v' xs (rdF raw).2.2.2 /\ Below w.heap.size w w' := by
 have CC := hid (tcutC w v raw h hbig)
 have HBY := hid h.2
 have HNB := hid hbig
 obtain ⟨p, c, rfl, _, _⟩ := h.open
 clear h
 go_enter Tryd.func19, Tryd.ntmps19
 go_wp2_with fail
 refine CC.out.mono ?_
 rintro e w1 ⟨v1, fs0, a1, b1, rfl, ⟨hct, hq1⟩, hb1⟩
 have HCT := hid hct
 clear hct
 have B1 := hid hb1
 have Q1 := hid hq1
 clear hb1 hq1 CC
 cases b1 with
 | false =>
  have HA := hid (rdF_false HCT.out)
  go_wp2
  try simp only [Exit.inBlock, Exit.then]
  refine bodyPost_ret (results_tmp4 rfl _ _ _) rfl ?_
  rw [HA.out]
  exact ⟨_, [], rfl, PX.nil _ _, B1.out⟩
 | true =>
  obtain ⟨hO, hok⟩ := Q1.out rfl
  obtain ⟨x, ls, rfl⟩ : ∃ x ls, fs0 = x :: ls := by
   cases fs0 with
   | nil =>
    exact absurd rfl (cutF_true HCT.out)
   | cons x ls => exact ⟨x, ls, rfl⟩
  have HRD := hid (rdF_true HCT.out)
  have HLf := hid (hO.hl B1.out)
  have OKx : Hid (Ok (x :: ls)) := hid hok
  have OKl : Hid (Ok ls) := hid fun l hl => hok l (List.mem_cons_of_mem _ hl)
  have FLN : Hid (ls.flatten.length + 8 * ls.length <= 2000000) := hid (by
   have h1 := cutF_len HCT.out
   rw [List.flatten_cons, List.length_append, List.length_cons] at h1
   have := HNB.out
   omega)
  clear hO hok Q1
  obtain ⟨pf, cf, ef, hcf, _⟩ := HLf.out.open
  subst ef
  rw [List.length_cons] at hcf
  obtain ⟨nf, Hnf⟩ : ∃ y, Hid ((x :: ls).length = y) := ⟨_, rfl⟩
  have Hnf2 : Hid (nf = ls.length + 1) := hid (by rw [<- Hnf.out, List.length_cons])
  have HLf2 := HLf.out
  rw [Hnf.out] at HLf2 ⊢
  have HLf := hid HLf2
  obtain ⟨b0, o0, c0, e0, _, _, hh⟩ := HLf.out.ne (by simp)
  simp only [Value.slice.injEq] at e0
  obtain ⟨e1, e2, e3⟩ := e0
  clear e2 e3
  subst e1
  obtain ⟨u0, hu0, hbu0⟩ := hh 0 (by simp)
  have hbx : HB w1 u0 x := by simpa using hbu0
  have BYX := hid hbx.2
  rw [Nat.add_zero] at hu0
  obtain ⟨px, cx, ex, _, _⟩ := hbx.open
  subst ex
  have CWD := hid (worded_any w1 _ x hbx)
  obtain ⟨zx, Hzx⟩ : ∃ y, Hid (x.length = y) := ⟨_, rfl⟩
  rw [Hzx.out] at hu0 CWD
  have hn1 : 1 <= nf := by rw [Hnf2.out]; omega
  have hn0 : (0 : Int) < (nf : Int) := by omega
  have TL := hid HLf.out.tail5
  clear hh hbu0 hbx HLf2
  go_wp2_with fail
  refine CWD.out.mono ?_
  rintro e w2 ⟨t, b2, rfl, hq2, hb2⟩
  have Q2 := hid hq2
  have B2 := hid (B1.out.trans (hb2.mono B1.out.size))
  have TL := hid (TL.out.below hb2)
  clear hb2 hq2 CWD hu0
  cases b2 with
  | false =>
   have HA : Hid (rdF raw = (0, 50, 0, [])) := hid (by
    obtain ⟨q1, q2⟩ := Q2.out.bw BYX.out
    have : t = 0 := by
     rcases Nat.eq_zero_or_pos t with q | q
     ·exact q
     ·exact absurd (q2.2 (by omega)) (by simp)
    rw [HRD.out, if_pos (q1.trans this)])
   go_wp2
   try simp only [Exit.inBlock, Exit.then]
   refine bodyPost_ret (results_tmp4 rfl _ _ _) rfl ?_
   rw [HA.out]
   exact ⟨_, [], rfl, PX.nil _ _, B2.out⟩
  | true =>
   obtain ⟨ht, hw⟩ : (1 <= t /\ t <= 9) /\ strI (wS t) = x := by
    rcases Q2.out with ⟨_, h1, h2⟩ | ⟨e, _⟩
    ·exact ⟨h1, h2⟩
    ·cases e
   have HW := hid hw
   have HT := hid ht
   have RSL := slice_l5
   obtain ⟨pt, Hpt⟩ : ∃ y, Hid ((if cf = 1 then some ⟨b0, o0, none⟩ else (some (⟨b0, o0, none⟩ : Addr)).map (·.add 1)) = y) := ⟨_, rfl⟩
   have rsl : ∀ W, (Instr.slice 24 (.slice (some ⟨b0, o0, none⟩) nf cf) (some (.int .i64 1)) none none).run Tryd.prog W = .ok (.slice pt (nf - 1) (cf - 1)) W := fun W => by rw [<- Hpt.out]; exact RSL W _ nf cf hn1
   have TL2 := TL.out
   rw [Hpt.out] at TL2
   have TL := hid TL2
   have CF := hid (fit_any w2 t _ ls TL.out)
   have HBT : Hid (bwT (bS x) = t /\ t ≠ 0) := hid (by
    obtain ⟨q1, q2⟩ := Q2.out.bw BYX.out
    exact ⟨q1, q2.1 rfl⟩)
   clear hw ht TL2 RSL Hpt Q2 hn1 hn0 hcf
   by_cases hf : FitQ t ls
   case neg =>
    have HA : Hid (rdF raw = (0, 51, 0, [])) := hid (by
     rw [HRD.out, HBT.out.1, if_neg HBT.out.2, if_neg hf])
    rw [decide_eq_false hf] at CF
    clear hf
    go_wp2_with fail
    refine CF.out.mono ?_
    rintro e w3 ⟨rfl, hb3⟩
    have B3 := hid (B2.out.trans (hb3.mono B2.out.size))
    clear hb3 CF rsl
    go_wp2
    try simp only [Exit.inBlock, Exit.then]
    refine bodyPost_ret (results_tmp4 rfl _ _ _) rfl ?_
    rw [HA.out]
    exact ⟨_, [], rfl, PX.nil _ _, B3.out⟩
   case pos =>
    have OKT : Hid (TagOk t ls) := hid ⟨HT.out, hf⟩
    have HA : Hid (rdF raw = (t, 0, 0, ls)) := hid (by
     rw [HRD.out, HBT.out.1, if_neg HBT.out.2, if_pos hf])
    rw [decide_eq_true hf] at CF
    have H3 := hid (fit_ne OKT.out)
    clear hf
    go_wp2_with fail
    refine CF.out.mono ?_
    rintro e w3 ⟨rfl, hb3⟩
    have B3 := hid (B2.out.trans (hb3.mono B2.out.size))
    have TL := hid (TL.out.below hb3)
    clear hb3 CF rsl
    obtain ⟨m, Hm⟩ : ∃ y, Hid (nf - 1 = y) := ⟨_, rfl⟩
    rw [Hm.out] at TL ⊢
    have hml : m = ls.length := by rw [<- Hm.out, Hnf2.out]; omega
    have hm3 : m <= 3 := by rw [hml]; exact H3.out.2
    have CCL := hid fun W v l h hl => clone_any W v l h hl
    go_wp2
    go_loopw [12, 41] (fun ow ii wr => ∃ I : Nat, I <= m /\ ii = .int .i64 (I : Int) /\ Hid (∃ xs, PX w3.heap.size wr ow xs (ls.take I)) /\ Hid (Below w3.heap.size w3 wr)) (fun _ ii _ => m - (intOf ii).toNat)
    case atStart => exact ⟨0, by omega, rfl, hid ⟨[], PX.nil _ _⟩, hid (Below.refl _ _)⟩
    case round =>
     obtain ⟨I, hI, rfl, HO, HBr⟩ := hrel
     by_cases hlt : I < m
     case neg =>
      have hIm : I = m := by omega
      have HT5 : Hid (ls.take I = ls) := hid (List.take_of_length_le (by omega))
      obtain ⟨xs, hxs⟩ := HO.out
      rw [HT5.out] at hxs
      have HXS := hid (hxs.low (B' := w.heap.size) B3.out.size)
      obtain ⟨py, cy, ey⟩ := own_slice hxs.row
      subst ey
      have BF := hid (B3.out.trans (HBr.out.mono B3.out.size))
      clear hxs HO
      go_wp2
      try simp only [Exit.inBlock, Exit.then]
      refine bodyPost_ret (results_tmp4 rfl _ _ _) rfl ?_
      rw [HA.out]
      exact ⟨_, xs, rfl, HXS.out, BF.out⟩
     case pos =>
      obtain ⟨b, off, c', e', _, _, hh⟩ := TL.out.ne (by omega)
      simp only [Value.slice.injEq] at e'
      obtain ⟨e1, e2, e3⟩ := e'
      clear e2 e3
      subst e1
      obtain ⟨u, hu0, hbu⟩ := hh I (by omega)
      have hu : wr.cell? ⟨b, off + I, none⟩ = some u := (HBr.out.cell (World.block_lt_of_cell? w3 _ hu0)).trans hu0
      have HTK : Hid (ls.take (I + 1) = ls.take I ++ [ls.getD I []]) := hid (by
       rw [List.take_succ_eq_append_getElem (by omega)]
       simp [List.getD, show I < ls.length by omega])
      have hln : (ls.getD I []).length <= 2000000 := by
       have h1 : ls.getD I [] ∈ ls := by
        have : ls.getD I [] = ls[I]'(by omega) := by simp [List.getD, show I < ls.length by omega]
        rw [this]; exact List.getElem_mem _
       have h2 := (List.sublist_flatten_of_mem h1).length_le
       have := FLN.out
       omega
      obtain ⟨l, HLl⟩ : ∃ y, Hid (ls.getD I [] = y) := ⟨_, rfl⟩
      rw [HLl.out] at hbu HTK hln
      obtain ⟨pu, cu, eu, _, _⟩ := hbu.open
      subst eu
      have C := hid (CCL.out wr _ _ (hbu.below HBr.out) (by omega))
      have HBL := hid hbu.2
      obtain ⟨zl, Hzl⟩ : ∃ y, Hid (l.length = y) := ⟨_, rfl⟩
      rw [Hzl.out] at hu C
      clear hh hu0 hbu
      go_wp2_with fail
      refine C.out.mono ?_
      rintro e w4 ⟨v4, rfl, hown4, hb4⟩
      have HBv := HB.of_own (l := l) (by rw [Hzl.out]; exact hown4) HBL.out
      obtain ⟨p4, c4, e4, _, _⟩ := HBv.open
      subst e4
      rw [Hzl.out] at HBv hown4 ⊢
      have HBr4 : Below w3.heap.size w3 w4 := HBr.out.trans (hb4.mono HBr.out.size)
      have hal : Below w4.heap.size w4 (w4.alloc (.cells #[.slice p4 zl c4] 30)) := (Below.refl _ _).alloc (Nat.le_refl _) _
      obtain ⟨ys, hys⟩ := HO.out
      have HU4 := hid (own_lowL (own_below (show w4.ownsRow wr.heap.size 5 1 (.slice p4 zl c4) l.length (l.map (Value.int .u8)) by rw [Hzl.out]; exact hown4) hal) HBr.out.size)
      have HFR := hid (hys.fresh (own_below hown4 hal) (Nat.le_refl _))
      have HO4 := hid ((hys.below hb4).below hal)
      have HB4 := hid (HBr4.trans (hal.mono HBr4.size))
      have hli : (ls.take I).length <= 3 := by rw [List.length_take]; omega
      have HBYI : Hid (BytI l) := hid HBL.out
      clear hb4 hal HBr4 HBv hown4 C HO hys
      go_wp2_with (at_builtin; refine wpList_append_PX (B := w3.heap.size) rfl _ _ rfl _ ys (ls.take I) rfl HO4.out ⟨w4.heap.size, 0, none⟩ 1 _ l rfl (cell_one_new _ _ _) HU4.out HBYI.out HFR.out ?q3 HB4.out.size ?_)
      case q3 => omega
      intro v5 w5 hO5 hg5 hbk
      rw [<- HTK.out] at hO5
      have HO5 : Hid (∃ xs, PX w3.heap.size w5 v5 xs (ls.take (I + 1))) := hid ⟨_, hO5⟩
      have HB5 := hid (HB4.out.grown hg5 HB4.out.size (fun k e => (hbk k e).1))
      clear hO5 hg5 hbk
      go_wp2
      exact ⟨⟨I + 1, by omega, by go_num, HO5, HB5⟩, by simp [intOf]; omega⟩
end Go.Proofs.YtcpchhigiohlnaaDoor
namespace Go.Proofs.YtcpchhigiohlnaaDoor
open Go.RowKit
theorem framed_node (l r : List Int) (hl : l.length = 32) (hr : r.length = 32) : framed (strI snode :: [l, r]) = ndB l r := by
 rw [snode_strI]
 simp [framed, pcs, ndB, hl, hr, bigL, num8, wNode]
theorem framed_pad (x : Nat) : framed (strI spad :: [bigL 4 x]) = pdB x := by
 rw [spad_strI]
 simp [framed, pcs, pdB, bigL_length, num8, wPad]
 simp [bigL]
theorem rdigest_node (w : World) (v : Value) (ps : List (List Int)) (h : HL w v ps) (hF : ∀ w', Below w.heap.size w w' -> Calls Tryd.prog 35 #[.int .u8 6, v] w' fun e w'' => e = .returned (.bool true) /\ w'' = w') (hbig : ps.flatten.length + 8 * ps.length <= 1000) (hby : ∀ l ∈ ps, ∀ x ∈ l, 0 <= x /\ x < 256) :
  Calls Tryd.prog 71 #[.int .u8 6, v] w fun e w' => e = .returned (.agg (cellsB (digL (framed (strI snode :: ps))))) /\ Below w.heap.size w w' := by
 have hsz : snode.size <= 1000 := by decide
 obtain ⟨zd, HZD⟩ : ∃ zd, Hid (cellsB zeros32 = zd) := ⟨_, rfl⟩
 obtain ⟨W0, hW0⟩ : ∃ W0, Hid (w.alloc (.cells zd 34) = W0) := ⟨_, rfl⟩
 have HB0 : Hid (Below w.heap.size w W0) := by rw [<- hW0.out]; exact (Below.refl _ w).alloc (Nat.le_refl _) _
 have HR0 : Hid (W0.heap[w.heap.size]? = some (.cells zd 34 (0, 0))) := by rw [<- hW0.out]; exact heap_alloc_new w _
 have hS0 : W0.heap.size = w.heap.size + 1 := by rw [<- hW0.out]; simp
 have HF := hid hF
 have HL0 := hid (h.below HB0.out)
 obtain ⟨m, HM⟩ : ∃ m, Hid (framed (strI snode :: ps) = m) := ⟨_, rfl⟩
 have hmb : ∀ x ∈ m, 0 <= x /\ x < 256 := by
  rw [<- HM.out]
  refine framed_byt _ fun l hl => ?_
  rcases List.mem_cons.1 hl with rfl | hl
  ·intro x hx
   unfold strI at hx
   obtain ⟨b, _, rfl⟩ := List.mem_map.1 hx
   have := b.toNat_lt
   omega
  ·exact hby l hl
 have hml : m.length <= 3000 := by
  rw [<- HM.out, framed_length]
  simp only [List.flatten_cons, List.length_append, List.length_cons, strI_length]
  omega
 clear h hF
 go_enter Tryd.func71, Tryd.ntmps71
 go_wp2_with (refine wpList_alloc_digest rfl rfl ?_; rw [HZD.out, hW0.out])
 refine (rbytes_node W0 v ps HL0.out (fun w' hb => HF.out w' (HB0.out.trans (hb.mono HB0.out.size))) (by omega)).mono ?_
 rintro e w1 ⟨v1, rfl, ho1, hB1⟩
 rw [HM.out] at ho1
 have HB1 := hid (HB.of_own ho1 hmb)
 have BL1 := hid hB1
 clear ho1 hB1
 go_wp2_with fail
 refine (rsum_any w1 v1 m HB1.out (by omega)).mono ?_
 rintro e w2 ⟨rfl, hB2⟩
 obtain ⟨dm, HD⟩ : ∃ dm, Hid (cellsB (digL m) = dm) := ⟨_, rfl⟩
 have hds : dm.size = 32 := by rw [<- HD.out]; simp [cellsB, digL_length]
 have SD : Hid ((Tryd.prog.info? 34).map (·.size) = some dm.size) := by rw [hds]; exact size_digest
 have OD : Hid (dm.all (·.oneCell') = true) := by rw [<- HD.out]; exact cellsB_one _
 have ZD : Hid (zd.size = dm.size) := by rw [hds, <- HZD.out]; rfl
 have HR2 : Hid (w2.heap[w.heap.size]? = some (.cells zd 34 (0, 0))) := by
  show _ = _
  rw [hB2.block _ (by have := BL1.out.size; omega), BL1.out.block _ (by omega)]
  exact HR0.out
 have HBF := hid (below_setRow ((HB0.out.trans (BL1.out.mono (by omega))).trans (hB2.mono (by have := BL1.out.size; omega))) (g := w.heap.size) (Nat.le_refl _) dm)
 rw [HD.out]
 clear hB2 hds
 go_wp2_with (refine wpList_store_row rfl 34 _ _ rfl w.heap.size dm rfl rfl 34 _ HR2.out SD.out ZD.out OD.out ?_)
 refine bodyPost_ret (v := .agg dm) (results_cell_row (p := 4) (ty := 34) rfl _ _ w.heap.size 34 dm (0, 0) _ rfl (setRow_heap _ _ _ _ _ _ HR2.out) Tryd.underlying34 rfl SD.out) rfl ?_
 exact ⟨by rw [HM.out, HD.out], HBF.out⟩
theorem rdigest_pad (w : World) (v : Value) (ps : List (List Int)) (h : HL w v ps) (hF : ∀ w', Below w.heap.size w w' -> Calls Tryd.prog 35 #[.int .u8 7, v] w' fun e w'' => e = .returned (.bool true) /\ w'' = w') (hbig : ps.flatten.length + 8 * ps.length <= 1000) (hby : ∀ l ∈ ps, ∀ x ∈ l, 0 <= x /\ x < 256) :
  Calls Tryd.prog 71 #[.int .u8 7, v] w fun e w' => e = .returned (.agg (cellsB (digL (framed (strI spad :: ps))))) /\ Below w.heap.size w w' := by
 have hsz : spad.size <= 1000 := by decide
 obtain ⟨zd, HZD⟩ : ∃ zd, Hid (cellsB zeros32 = zd) := ⟨_, rfl⟩
 obtain ⟨W0, hW0⟩ : ∃ W0, Hid (w.alloc (.cells zd 34) = W0) := ⟨_, rfl⟩
 have HB0 : Hid (Below w.heap.size w W0) := by rw [<- hW0.out]; exact (Below.refl _ w).alloc (Nat.le_refl _) _
 have HR0 : Hid (W0.heap[w.heap.size]? = some (.cells zd 34 (0, 0))) := by rw [<- hW0.out]; exact heap_alloc_new w _
 have hS0 : W0.heap.size = w.heap.size + 1 := by rw [<- hW0.out]; simp
 have HF := hid hF
 have HL0 := hid (h.below HB0.out)
 obtain ⟨m, HM⟩ : ∃ m, Hid (framed (strI spad :: ps) = m) := ⟨_, rfl⟩
 have hmb : ∀ x ∈ m, 0 <= x /\ x < 256 := by
  rw [<- HM.out]
  refine framed_byt _ fun l hl => ?_
  rcases List.mem_cons.1 hl with rfl | hl
  ·intro x hx
   unfold strI at hx
   obtain ⟨b, _, rfl⟩ := List.mem_map.1 hx
   have := b.toNat_lt
   omega
  ·exact hby l hl
 have hml : m.length <= 3000 := by
  rw [<- HM.out, framed_length]
  simp only [List.flatten_cons, List.length_append, List.length_cons, strI_length]
  omega
 clear h hF
 go_enter Tryd.func71, Tryd.ntmps71
 go_wp2_with (refine wpList_alloc_digest rfl rfl ?_; rw [HZD.out, hW0.out])
 refine (rbytes_pad W0 v ps HL0.out (fun w' hb => HF.out w' (HB0.out.trans (hb.mono HB0.out.size))) (by omega)).mono ?_
 rintro e w1 ⟨v1, rfl, ho1, hB1⟩
 rw [HM.out] at ho1
 have HB1 := hid (HB.of_own ho1 hmb)
 have BL1 := hid hB1
 clear ho1 hB1
 go_wp2_with fail
 refine (rsum_any w1 v1 m HB1.out (by omega)).mono ?_
 rintro e w2 ⟨rfl, hB2⟩
 obtain ⟨dm, HD⟩ : ∃ dm, Hid (cellsB (digL m) = dm) := ⟨_, rfl⟩
 have hds : dm.size = 32 := by rw [<- HD.out]; simp [cellsB, digL_length]
 have SD : Hid ((Tryd.prog.info? 34).map (·.size) = some dm.size) := by rw [hds]; exact size_digest
 have OD : Hid (dm.all (·.oneCell') = true) := by rw [<- HD.out]; exact cellsB_one _
 have ZD : Hid (zd.size = dm.size) := by rw [hds, <- HZD.out]; rfl
 have HR2 : Hid (w2.heap[w.heap.size]? = some (.cells zd 34 (0, 0))) := by
  show _ = _
  rw [hB2.block _ (by have := BL1.out.size; omega), BL1.out.block _ (by omega)]
  exact HR0.out
 have HBF := hid (below_setRow ((HB0.out.trans (BL1.out.mono (by omega))).trans (hB2.mono (by have := BL1.out.size; omega))) (g := w.heap.size) (Nat.le_refl _) dm)
 rw [HD.out]
 clear hB2 hds
 go_wp2_with (refine wpList_store_row rfl 34 _ _ rfl w.heap.size dm rfl rfl 34 _ HR2.out SD.out ZD.out OD.out ?_)
 refine bodyPost_ret (v := .agg dm) (results_cell_row (p := 4) (ty := 34) rfl _ _ w.heap.size 34 dm (0, 0) _ rfl (setRow_heap _ _ _ _ _ _ HR2.out) Tryd.underlying34 rfl SD.out) rfl ?_
 exact ⟨by rw [HM.out, HD.out], HBF.out⟩
theorem HL_two {w : World} {g1 g2 g3 : Nat} {l r : List Int} (h1 : w.heap[g1]? = some (.cells (cellsB l) 34 (0, 0))) (h2 : w.heap[g2]? = some (.cells (cellsB r) 34 (0, 0))) (h3 : w.heap[g3]? = some (.cells #[.slice (some ⟨g1, 0, none⟩) 32 32, .slice (some ⟨g2, 0, none⟩) 32 32] 30 (0, 0))) (hl : D32 l) (hr : D32 r) : HL w (.slice (some ⟨g3, 0, none⟩) 2 2) [l, r] := by
 have hb : ∀ (g : Nat) (l : List Int), w.heap[g]? = some (.cells (cellsB l) 34 (0, 0)) -> D32 l -> HB w (.slice (some ⟨g, 0, none⟩) 32 32) l := fun g l h hd => by
  refine ⟨⟨_, 32, by rw [hd.1], by rw [hd.1]; omega, by unfold maxLen; omega, (fun e => by cases e), fun _ => ⟨g, 0, rfl, fun j hj => ?_⟩⟩, hd.2⟩
  rw [cell_of_row w g (0 + j) _ _ _ h]
  simp [cellsB, List.getD, List.getElem?_eq_getElem hj]
 refine ⟨_, 2, rfl, by simp, by unfold maxLen; omega, (fun e => by cases e), fun _ => ⟨g3, 0, rfl, fun j hj => ?_⟩⟩
 have hj2 : j = 0 \/ j = 1 := by simp at hj; omega
 rcases hj2 with rfl | rfl
 ·exact ⟨_, by rw [cell_of_row w g3 (0 + 0) _ _ _ h3]; rfl, hb g1 l h1 hl⟩
 ·exact ⟨_, by rw [cell_of_row w g3 (0 + 1) _ _ _ h3]; rfl, hb g2 r h2 hr⟩
theorem rnode_any (w : World) (l r : List Int) (hl : D32 l) (hr : D32 r) : Calls Tryd.prog 55 #[.agg (cellsB l), .agg (cellsB r)] w fun e w' => e = .returned (.agg (cellsB (ndL l r))) /\ Below w.heap.size w w' := by
 obtain ⟨zd, HZD⟩ : ∃ zd, Hid (cellsB zeros32 = zd) := ⟨_, rfl⟩
 obtain ⟨cl, HCL⟩ : ∃ c, Hid (cellsB l = c) := ⟨_, rfl⟩
 obtain ⟨cr, HCR⟩ : ∃ c, Hid (cellsB r = c) := ⟨_, rfl⟩
 rw [HCL.out, HCR.out]
 go_enter Tryd.func55, Tryd.ntmps55
 go_wp2_with (refine wpList_alloc_digest rfl rfl ?_; rw [HZD.out])
 have e3 : ((w.alloc (.cells cl 34)).alloc (.cells cr 34)).heap.size = w.heap.size + 2 := by simp
 rw [e3]
 obtain ⟨W0, hW0⟩ : ∃ W0, Hid (((w.alloc (.cells cl 34)).alloc (.cells cr 34)).alloc (.cells zd 34) = W0) := ⟨_, rfl⟩
 have HB0 : Hid (Below w.heap.size w W0) := by
  rw [<- hW0.out]
  exact (((Below.refl _ w).alloc (Nat.le_refl _) _).alloc (by simp) _).alloc (by simp; omega) _
 have HS0 : Hid (W0.heap.size = w.heap.size + 3) := by rw [<- hW0.out]; refine hid ?_; simp
 have H1 : Hid (W0.heap[w.heap.size]? = some (.cells cl 34 (0, 0))) := by
  rw [<- hW0.out]
  refine hid ?_
  rw [heap_alloc_old _ _ (by simp; omega), heap_alloc_old _ _ (by simp)]
  exact heap_alloc_new w _
 have H2 : Hid (W0.heap[w.heap.size + 1]? = some (.cells cr 34 (0, 0))) := by
  rw [<- hW0.out]
  refine hid ?_
  rw [heap_alloc_old _ _ (by simp), show w.heap.size + 1 = (w.alloc (.cells cl 34)).heap.size by simp]
  exact heap_alloc_new _ _
 have H3 : Hid (W0.heap[w.heap.size + 2]? = some (.cells zd 34 (0, 0))) := by
  rw [<- hW0.out, <- e3]
  exact heap_alloc_new _ _
 rw [hW0.out]
 simp only [Act.put, lay6]
 refine wp_region_any (by kernel_rfl) ?_
 change wpAny _ _ _ _ _ _ _ (World.drew _)
 refine wpAny_take (i := 0) (v := ?_) rfl (by kernel_rfl) (by kernel_rfl) (by kernel_rfl) (fun _ _ _ h => h) (Or.inl ⟨by rfl, ?q0⟩) ?_
 case q0 => intro w; go_simp; rfl
 refine wpAny_take (i := 1) (v := ?_) rfl (by kernel_rfl) (by kernel_rfl) (by kernel_rfl) (fun _ _ _ h => h) (Or.inl ⟨by rfl, ?q1⟩) ?_
 case q1 => intro w; go_simp; rfl
 refine wpAny_ready (rs := [2]) (by kernel_rfl) (by simp) ?_
 refine AllReady.cons rfl (fun K hK => ?_) AllReady.nil
 go_simp
 obtain ⟨W4, hW4⟩ : ∃ W4, Hid ((W0.alloc (.cells #[.slice (some ⟨w.heap.size, 0, none⟩) 32 32, .slice (some ⟨w.heap.size + 1, 0, none⟩) 32 32] 30)).drew = W4) := ⟨_, rfl⟩
 have HB4 : Hid (Below W0.heap.size W0 W4) := by rw [<- hW4.out]; exact ((Below.refl _ W0).alloc (Nat.le_refl _) _).drew
 have HLv : Hid (HL W4 (.slice (some ⟨W0.heap.size, 0, none⟩) 2 2) [l, r]) := by
  refine HL_two (g1 := w.heap.size) (g2 := w.heap.size + 1) ?_ ?_ ?_ hl hr
  ·rw [HB4.out.block _ (by rw [HS0.out]; omega), H1.out, HCL.out]
  ·rw [HB4.out.block _ (by rw [HS0.out]; omega), H2.out, HCR.out]
  ·rw [<- hW4.out]; exact heap_alloc_new W0 _
 have CD := hid (rdigest_node W4 _ [l, r] HLv.out (fun w' hb => rfits_node w' _ l r (HLv.out.below hb) hl.1 hr.1) (by simp [hl.1, hr.1]) (fun q hq => by
  rcases List.mem_cons.1 hq with rfl | hq
  ·exact hl.2
  ·have : q = r := by simpa using hq
   rw [this]; exact hr.2))
 rw [framed_node l r hl.1 hr.1] at CD
 refine hK _ _ ?_
 rw [hW4.out]
 clear hK
 refine wpAny_ready (rs := [3]) (by kernel_rfl) (by simp) ?_
 refine AllReady.cons rfl (fun K hK => ?_) AllReady.nil
 go_simp
 refine CD.out.mono ?_
 rintro e w5 ⟨rfl, hB5⟩
 obtain ⟨dm, HD⟩ : ∃ dm, Hid (cellsB (digL (ndB l r)) = dm) := ⟨_, rfl⟩
 have hds : dm.size = 32 := by rw [<- HD.out]; simp [cellsB, digL_length]
 have SD : Hid ((Tryd.prog.info? 34).map (·.size) = some dm.size) := by rw [hds]; exact size_digest
 have OD : Hid (dm.all (·.oneCell') = true) := by rw [<- HD.out]; exact cellsB_one _
 have ZD : Hid (zd.size = dm.size) := by rw [hds, <- HZD.out]; rfl
 have HR5 : Hid (w5.heap[w.heap.size + 2]? = some (.cells zd 34 (0, 0))) := by
  refine hid ?_
  show w5.heap[w.heap.size + 2]? = _
  rw [hB5.block _ (by have := HB4.out.size; have := HS0.out; omega), HB4.out.block _ (by rw [HS0.out]; omega)]
  exact H3.out
 have BL5 : Hid (Below w.heap.size w w5) := ((HB0.out.trans (HB4.out.mono (by rw [HS0.out]; omega))).trans (hB5.mono (by have := HB4.out.size; have := HS0.out; omega)))
 have HBF := hid (below_setRow BL5.out (g := w.heap.size + 2) (by omega) dm)
 rw [HD.out]
 clear hB5 hds CD
 refine hK _ _ ?_
 clear hK
 refine wpAny_ready (rs := [4]) (by kernel_rfl) (by simp) ?_
 refine AllReady.cons rfl (fun K hK => ?_) AllReady.nil
 rw [if_pos (by rfl)]
 refine wp_store_row 34 _ _ rfl (w.heap.size + 2) dm rfl rfl 34 _ HR5.out SD.out ZD.out OD.out ?_
 refine hK _ _ ?_
 clear hK
 refine wpAny_done (by kernel_rfl) ?_ _
 go_wp2
 refine bodyPost_ret (v := .agg dm) (results_cell_row (p := 4) (ty := 34) rfl _ _ (w.heap.size + 2) 34 dm (0, 0) _ rfl (setRow_heap _ _ _ _ _ _ HR5.out) Tryd.underlying34 rfl SD.out) rfl ?_
 exact ⟨by rw [<- HD.out]; rfl, HBF.out⟩
end Go.Proofs.YtcpchhigiohlnaaDoor
namespace Go.Proofs.YtcpchhigiohlnaaDoor
open Go Go.RowKit Ev
def padBlock : List Nat := [0, 0, 0, 0, 0, 0, 0, 14, 115, 116, 114, 111, 110, 103, 114, 111, 111, 109, 32, 112, 97, 100, 0, 0, 0, 0, 0, 0, 0, 4, 0, 0, 0, 7, 128, 0, 0, 0, 0, 0, 0, 0, 0, 0, 0, 0, 0, 0, 0, 0, 0, 0, 0, 0, 0, 0, 0, 0, 0, 0, 0, 0, 1, 16]
def padWords : List Nat := [0, 14, 1937011311, 1852273263, 1869422704, 1633943552, 0, 262144, 491520, 0, 0, 0, 0, 0, 0, 272, 469991425, 3434986114, 856169216, 2109270187, 2336771756, 3401826129, 782340079, 2759388120, 3267827049, 2613474185, 3856814505, 2195414451, 765228586, 4092630992, 2056790104, 4256031260, 1051854507, 14267866, 1557758059, 4085289097, 3296877623, 1480048775, 825061891, 167205286, 2006689177, 463709173, 536318916, 960675205, 1541371835, 3863650278, 949322803, 1635889268, 2790493887, 3426122357, 1987272896, 565975141, 2093606632, 2093668760, 4255755765, 3181709773, 688636137, 657923963, 2085829656, 3263850006, 1228338704, 1683799827, 620829454, 3676928581]
def padMixed : List Nat := [1687037637, 3791585302, 729886610, 2454548114, 3674386445, 2553926959, 2079459574, 3602981539]
def ivW : List Nat := [1779033703, 3144134277, 1013904242, 2773480762, 1359893119, 2600822924, 528734635, 1541459225]
theorem words_ev : evCallF Tryd.prog noLore noCon 100 63 [.tv (.agg (litB padBlock))] H0 = some (.tv (.agg (litW padWords)), H0) := by kernel_rfl
def conWords : ConF := con1 63 [.tv (.agg (litB padBlock))] (.tv (.agg (litW padWords)))
theorem conWords_ok (ρ : Env) : ConOk Tryd.prog ρ conWords := con1_ok (noCon_ok _ _) mixedOrders words_ev (by kernel_rfl) (by kernel_rfl)
theorem refMix_ev : evCallF Tryd.prog noLore conWords 100 34 [.tv (.agg (litW ivW)), .tv (.agg (litB padBlock))] H0 = some (.tv (.agg (litW padMixed)), H0) := by kernel_rfl
def conRefMix : ConF := con1 34 [.tv (.agg (litW ivW)), .tv (.agg (litB padBlock))] (.tv (.agg (litW padMixed)))
theorem conRefMix_ok (ρ : Env) : ConOk Tryd.prog ρ conRefMix := con1_ok (conWords_ok ρ) mixedOrders refMix_ev (by kernel_rfl) (by kernel_rfl)
def conTag : ConF := conOr conMix conRefMix
theorem conTag_ok (ρ : Env) : ConOk Tryd.prog ρ conTag := conOr_ok (conMix_ok ρ) (conRefMix_ok ρ)
end Go.Proofs.YtcpchhigiohlnaaDoor
namespace Go.Proofs.YtcpchhigiohlnaaDoor
open Go Go.RowKit
section
open Ev
def noEnvT : Env := ⟨fun _ => 0, fun _ => .tuple #[], fun _ _ _ => 0⟩
theorem tlives_ev : evCallF Tryd.prog noLore conTag 100 4 [] HK = some (.tv (.sc (.bool true)), HK) := by kernel_rfl
theorem tlives_any (w : World) (hk : KC w) : Calls Tryd.prog 4 #[] w fun e w' => e = .returned (.bool true) /\ Below w.heap.size w w' := by
 refine (calls_of_evHF (noLore_ok noEnvT) (conTag_ok noEnvT) mixedOrders 100 tlives_ev (args := #[]) w rfl (holdsK noEnvT w hk)).mono ?_
 rintro e w' ⟨ms, u, rfl, _, h1, _, h3⟩
 simp only [AV.inst, TV.inst, SV.inst, Option.some.injEq] at h1
 rw [<- h1]
 exact ⟨rfl, h3⟩
end
theorem HL.one5 {w : World} {g : Nat} {T : TypeId} {u : Value} {l : List Int} (h : w.heap[g]? = some (.cells #[u] T (0, 0))) (hb : HB w u l) : HL w (.slice (some ⟨g, 0, none⟩) 1 1) [l] := by
 refine ⟨_, 1, rfl, Nat.le_refl _, by unfold maxLen; omega, (fun e => by cases e), fun _ => ⟨g, 0, rfl, fun j hj => ?_⟩⟩
 match j, hj with
 | 0, _ => exact ⟨u, (cell_of_row w g 0 _ _ _ h).trans rfl, hb⟩
theorem bel5 {w W : World} {y : Array Value} (h : Below w.heap.size w W) : Hid (Below w.heap.size w (W.setRow w.heap.size y)) := hid (bel_set5 h (Nat.le_refl _) _)
theorem tdigest_ok (w : World) (t : Nat) (v : Value) (ls : List (List Int)) (h : HL w v ls) (hn : ∀ l ∈ ls, l.length <= 140737488351232) (hok : TagOk t ls) (hk : KC w) : Calls Tryd.prog 15 #[.int .u8 (t : Int), v] w fun e w' => e = .returned (.tuple #[.agg (cellsB (digL (tagB t ls))), .int .i64 0]) /\ Below w.heap.size w w' := by
 obtain ⟨zd, HZD⟩ : ∃ zd, Hid (cellsB zeros32 = zd) := ⟨_, rfl⟩
 obtain ⟨W0, hW0⟩ : ∃ W0, Hid (w.alloc (.cells zd 34) = W0) := ⟨_, rfl⟩
 have B0 : Hid (Below w.heap.size w W0) := by rw [<- hW0.out]; exact (Below.refl _ w).alloc (Nat.le_refl _) _
 have R0 : Hid (W0.heap[w.heap.size]? = some (.cells zd 34 (0, 0))) := by rw [<- hW0.out]; exact heap_alloc_new w _
 have Z0 : Hid (W0.heap.size = w.heap.size + 1) := by refine hid ?_; rw [<- hW0.out]; simp
 have DL := hid (digL_length (tagB t ls))
 obtain ⟨y, HY⟩ : ∃ y, Hid (cellsB (digL (tagB t ls)) = y) := ⟨_, rfl⟩
 have SY : Hid ((Tryd.prog.info? 34).map (·.size) = some y.size) := by refine hid ?_; rw [<- HY.out, cellsB_size, DL.out]; exact size_digest
 have OY : Hid (y.all (·.oneCell') = true) := by refine hid ?_; rw [<- HY.out]; exact cellsB_one _
 have ZY : Hid (zd.size = y.size) := by refine hid ?_; rw [<- HZD.out, <- HY.out, cellsB_size, cellsB_size, DL.out, zeros32_length]
 have C1 := hid (tbytes_any W0 t v ls (h.below B0.out) hn)
 have HK := hid hk
 have OK := hid hok
 have LT : Hid ((tagB t ls).length <= 140737488355000) := by refine hid ?_; have := tagB_len t ls; have := fit_flat hok hn; have := fit_ne hok; omega
 rw [HY.out]
 obtain ⟨p0, c0, rfl, _, _⟩ := h.open
 clear h hk hok
 go_enter Tryd.func15, Tryd.ntmps15
 go_wp2_with (first | (refine wpList_alloc_digest rfl rfl ?_; rw [HZD.out, hW0.out]) | fail)
 refine C1.out.mono ?_
 rintro e w1 ⟨v1, E, rfl, hq, hb1⟩
 obtain ⟨rfl, hv1⟩ : E = 0 /\ HB w1 v1 (tagB t ls) := by
  rcases hq with ⟨e, _, h⟩ | ⟨_, h, _⟩
  ·exact ⟨e, h⟩
  ·exact absurd OK.out h
 have B1 := hid (B0.out.trans (hb1.mono B0.out.size))
 have R1 := hid ((hb1.block w.heap.size (by rw [Z0.out]; omega)).trans R0.out)
 have V1 := hid hv1
 obtain ⟨p1, c1, rfl, _, _⟩ := hv1.open
 obtain ⟨L, HLn⟩ : ∃ L, Hid ((tagB t ls).length = L) := ⟨_, rfl⟩
 rw [HLn.out] at V1
 rw [HLn.out]
 have HA := hid (heap_alloc_new w1 (.cells #[.slice p1 L c1] 30))
 have BA := hid ((Below.refl w1.heap.size w1).alloc (Nat.le_refl _) (.cells #[.slice p1 L c1] 30))
 have CS := sums_any (w1.alloc (.cells #[.slice p1 L c1] 30)) _ [tagB t ls] (HL.one5 HA.out (V1.out.below BA.out)) ((HK.out.below B1.out).below BA.out) (by have := LT.out; simp only [List.flatten_cons, List.flatten_nil, List.append_nil]; omega)
 rw [show [tagB t ls].flatten = tagB t ls by simp, HY.out] at CS
 have CS := hid CS
 have B2 := hid (B1.out.trans (BA.out.mono B1.out.size))
 have R2 := hid ((BA.out.block w.heap.size (by have := B1.out.size; have := hb1.size; rw [Z0.out] at this; omega)).trans R1.out)
 have S2 : Hid (w.heap.size < (w1.alloc (.cells #[.slice p1 L c1] 30)).heap.size) := hid (by have := hb1.size; rw [Z0.out] at this; simp; omega)
 clear hb1 hv1 hq C1
 go_wp2_with fail
 refine CS.out.mono ?_
 rintro e w3 ⟨rfl, hb3⟩
 have B3 := hid (B2.out.trans (hb3.mono B2.out.size))
 have R3 := hid ((hb3.block w.heap.size S2.out).trans R2.out)
 clear hb3 CS
 go_wp2_with (first | (refine wpList_store_row rfl 34 _ _ rfl w.heap.size y rfl rfl 34 _ R3.out SY.out ZY.out OY.out ?_) | fail)
 refine bodyPost_ret (v := .tuple #[.agg y, .int .i64 0]) (results_cellT5 (p := 4) (u := 5) (ty := 34) rfl _ _ w.heap.size 34 y (0, 0) _ rfl (setRow_heap _ _ _ _ _ _ R3.out) Tryd.underlying34 rfl SY.out _ rfl) rfl ?_
 exact ⟨rfl, Hid.out (bel5 B3.out)⟩
theorem byL_byt {t : Nat} {ps : List (List Int)} (hby : ∀ l ∈ ps, ∀ x ∈ l, 0 <= x /\ x < 256) : ∀ x ∈ byL t ps, 0 <= x /\ x < 256 := by
 unfold byL
 split
 ·refine framed_byt _ fun l hl => ?_
  rcases List.mem_cons.1 hl with rfl | hl
  ·intro x hx
   unfold strI at hx
   obtain ⟨b, _, rfl⟩ := List.mem_map.1 hx
   have := b.toNat_lt
   omega
  ·exact hby l hl
 ·simp
theorem byL_len (t : Nat) (ps : List (List Int)) : (byL t ps).length <= ps.flatten.length + 8 * ps.length + 26 := by
 unfold byL
 split
 ·exact tagB_len t ps
 ·simp
theorem rdigestC (w : World) (t : Nat) (v : Value) (ps : List (List Int)) (h : HL w v ps) (hbig : ps.flatten.length + 8 * ps.length <= 100000000000000) (hby : ∀ l ∈ ps, ∀ x ∈ l, 0 <= x /\ x < 256) :
  Calls Tryd.prog 71 #[.int .u8 (t : Int), v] w fun e w' => e = .returned (.agg (cellsB (digL (byL t ps)))) /\ Below w.heap.size w w' := by
 obtain ⟨zd, HZD⟩ : ∃ zd, Hid (cellsB zeros32 = zd) := ⟨_, rfl⟩
 obtain ⟨W0, hW0⟩ : ∃ W0, Hid (w.alloc (.cells zd 34) = W0) := ⟨_, rfl⟩
 have HB0 : Hid (Below w.heap.size w W0) := by rw [<- hW0.out]; exact (Below.refl _ w).alloc (Nat.le_refl _) _
 have HR0 : Hid (W0.heap[w.heap.size]? = some (.cells zd 34 (0, 0))) := by rw [<- hW0.out]; exact heap_alloc_new w _
 have hS0 : W0.heap.size = w.heap.size + 1 := by rw [<- hW0.out]; simp
 have HL0 := hid (h.below HB0.out)
 obtain ⟨m, HM⟩ : ∃ m, Hid (byL t ps = m) := ⟨_, rfl⟩
 have hmb : ∀ x ∈ m, 0 <= x /\ x < 256 := by
  rw [<- HM.out]
  exact byL_byt hby
 have hml : m.length <= 100000000001100 := by
  rw [<- HM.out]
  have := byL_len t ps
  omega
 have HBIG := hid hbig
 clear h
 go_enter Tryd.func71, Tryd.ntmps71
 go_wp2_with (refine wpList_alloc_digest rfl rfl ?_; rw [HZD.out, hW0.out])
 refine (rbytesC W0 t v ps HL0.out HBIG.out).mono ?_
 rintro e w1 ⟨v1, rfl, ho1, hB1⟩
 rw [HM.out] at ho1
 have HB1 := hid (HB.of_own ho1 hmb)
 have BL1 := hid hB1
 clear ho1 hB1
 go_wp2_with fail
 refine (rsum_any w1 v1 m HB1.out (by omega)).mono ?_
 rintro e w2 ⟨rfl, hB2⟩
 obtain ⟨dm, HD⟩ : ∃ dm, Hid (cellsB (digL m) = dm) := ⟨_, rfl⟩
 have hds : dm.size = 32 := by rw [<- HD.out]; simp [cellsB, digL_length]
 have SD : Hid ((Tryd.prog.info? 34).map (·.size) = some dm.size) := by rw [hds]; exact size_digest
 have OD : Hid (dm.all (·.oneCell') = true) := by rw [<- HD.out]; exact cellsB_one _
 have ZD : Hid (zd.size = dm.size) := by rw [hds, <- HZD.out]; rfl
 have HR2 : Hid (w2.heap[w.heap.size]? = some (.cells zd 34 (0, 0))) := by
  show _ = _
  rw [hB2.block _ (by have := BL1.out.size; omega), BL1.out.block _ (by omega)]
  exact HR0.out
 have HBF := hid (below_setRow ((HB0.out.trans (BL1.out.mono (by omega))).trans (hB2.mono (by have := BL1.out.size; omega))) (g := w.heap.size) (Nat.le_refl _) dm)
 rw [HD.out]
 clear hB2 hds
 go_wp2_with (refine wpList_store_row rfl 34 _ _ rfl w.heap.size dm rfl rfl 34 _ HR2.out SD.out ZD.out OD.out ?_)
 refine bodyPost_ret (v := .agg dm) (results_cell_row (p := 4) (ty := 34) rfl _ _ w.heap.size 34 dm (0, 0) _ rfl (setRow_heap _ _ _ _ _ _ HR2.out) Tryd.underlying34 rfl SD.out) rfl ?_
 exact ⟨by rw [HM.out, HD.out], HBF.out⟩
def tdL (t : Nat) (ls : List (List Int)) : List Int := if TagOk t ls then digL (tagB t ls) else zeros32
theorem byE_zero {t : Nat} {ls : List (List Int)} : byE t ls = 0 ↔ TagOk t ls := by
 unfold byE TagOk
 constructor
 ·intro h
  split at h
  ·rename_i q
   split at h
   ·exact ⟨q, ‹_›⟩
   ·omega
  ·omega
 ·intro h
  rw [if_pos h.1, if_pos h.2]
theorem tdigestC (w : World) (t : Nat) (v : Value) (ls : List (List Int)) (h : HL w v ls) (hn : ∀ l ∈ ls, l.length <= 140737488351232) (hk : KC w) : Calls Tryd.prog 15 #[.int .u8 (t : Int), v] w fun e w' => e = .returned (.tuple #[.agg (cellsB (tdL t ls)), .int .i64 (byE t ls)]) /\ Below w.heap.size w w' := by
 by_cases hok : TagOk t ls
 ·rw [byE_zero.2 hok]
  unfold tdL
  rw [if_pos hok]
  exact tdigest_ok w t v ls h hn hok hk
 have hE : ¬ byE t ls = 0 := fun q => hok (byE_zero.1 q)
 unfold tdL
 rw [if_neg hok]
 obtain ⟨zd, HZD⟩ : ∃ zd, Hid (cellsB zeros32 = zd) := ⟨_, rfl⟩
 obtain ⟨W0, hW0⟩ : ∃ W0, Hid (w.alloc (.cells zd 34) = W0) := ⟨_, rfl⟩
 have B0 : Hid (Below w.heap.size w W0) := by rw [<- hW0.out]; exact (Below.refl _ w).alloc (Nat.le_refl _) _
 have R0 : Hid (W0.heap[w.heap.size]? = some (.cells zd 34 (0, 0))) := by rw [<- hW0.out]; exact heap_alloc_new w _
 have Z0 : Hid (W0.heap.size = w.heap.size + 1) := by refine hid ?_; rw [<- hW0.out]; simp
 have SY : Hid ((Tryd.prog.info? 34).map (·.size) = some zd.size) := by refine hid ?_; rw [<- HZD.out, cellsB_size, zeros32_length]; exact size_digest
 have OY : Hid (zd.all (·.oneCell') = true) := by refine hid ?_; rw [<- HZD.out]; exact cellsB_one _
 have C1 := hid (tbytesC W0 t v ls (h.below B0.out) hn)
 obtain ⟨E, HE⟩ : ∃ E, Hid (byE t ls = E) := ⟨_, rfl⟩
 rw [HE.out] at C1 hE
 rw [HE.out, HZD.out]
 have e0 : (E != 0) = true := by simpa using hE
 obtain ⟨p0, c0, rfl, _, _⟩ := h.open
 clear h hk hok hE
 go_enter Tryd.func15, Tryd.ntmps15
 go_wp2_with (first | (refine wpList_alloc_digest rfl rfl ?_; rw [HZD.out, hW0.out]) | fail)
 refine C1.out.mono ?_
 rintro e w1 ⟨v1, rfl, -, hb1⟩
 have B1 := hid (B0.out.trans (hb1.mono B0.out.size))
 have R1 := hid ((hb1.block w.heap.size (by rw [Z0.out]; omega)).trans R0.out)
 clear hb1 C1
 go_wp2_with (first | (refine wpList_build_digest rfl rfl ?_; rw [HZD.out]) | (refine wpList_store_row rfl 34 _ _ rfl w.heap.size zd rfl rfl 34 _ R1.out SY.out rfl OY.out ?_) | fail)
 refine bodyPost_ret (v := .tuple #[.agg zd, .int .i64 E]) (results_cellT5 (p := 4) (u := 5) (ty := 34) rfl _ _ w.heap.size 34 zd (0, 0) _ rfl (setRow_heap _ _ _ _ _ _ R1.out) Tryd.underlying34 rfl SY.out _ rfl) rfl ?_
 exact ⟨rfl, Hid.out (bel5 B1.out)⟩
theorem rblockC (w : World) (v : Value) (l : List Int) (h : HB w v l) (hn : l.length <= 10000000000000) : Calls Tryd.prog 45 #[v] w fun e w' => e = .returned (.agg (cellsB (digL (byL 3 [l])))) /\ Below w.heap.size w w' := by
 obtain ⟨zd, HZD⟩ : ∃ zd, Hid (cellsB zeros32 = zd) := ⟨_, rfl⟩
 obtain ⟨W0, hW0⟩ : ∃ W0, Hid (w.alloc (.cells zd 34) = W0) := ⟨_, rfl⟩
 have B0 : Hid (Below w.heap.size w W0) := by rw [<- hW0.out]; exact (Below.refl _ w).alloc (Nat.le_refl _) _
 have R0 : Hid (W0.heap[w.heap.size]? = some (.cells zd 34 (0, 0))) := by rw [<- hW0.out]; exact heap_alloc_new w _
 have Z0 : Hid (W0.heap.size = w.heap.size + 1) := by refine hid ?_; rw [<- hW0.out]; simp
 have DL := hid (digL_length (byL 3 [l]))
 obtain ⟨y, HY⟩ : ∃ y, Hid (cellsB (digL (byL 3 [l])) = y) := ⟨_, rfl⟩
 have SY : Hid ((Tryd.prog.info? 34).map (·.size) = some y.size) := by refine hid ?_; rw [<- HY.out, cellsB_size, DL.out]; exact size_digest
 have OY : Hid (y.all (·.oneCell') = true) := by refine hid ?_; rw [<- HY.out]; exact cellsB_one _
 have ZY : Hid (zd.size = y.size) := by refine hid ?_; rw [<- HZD.out, <- HY.out, cellsB_size, cellsB_size, DL.out, zeros32_length]
 obtain ⟨p, c, rfl, _, _⟩ := h.open
 have HA := hid (heap_alloc_new W0 (.cells #[.slice p l.length c] 30))
 have BA := hid ((Below.refl W0.heap.size W0).alloc (Nat.le_refl _) (.cells #[.slice p l.length c] 30))
 have hl1 := HL.one5 HA.out ((h.below B0.out).below BA.out)
 have C1 := rdigestC (W0.alloc (.cells #[.slice p l.length c] 30)) 3 _ [l] hl1 (by simp; omega) (fun q hq => by simp at hq; subst hq; exact h.2)
 rw [HY.out] at C1
 have C1 := hid C1
 rw [HY.out]
 have B1 := hid (B0.out.trans (BA.out.mono B0.out.size))
 have R1 := hid ((BA.out.block w.heap.size (by rw [Z0.out]; omega)).trans R0.out)
 have S1 : Hid (w.heap.size < (W0.alloc (.cells #[.slice p l.length c] 30)).heap.size) := hid (by simp; rw [Z0.out]; omega)
 clear h hl1
 go_enter Tryd.func45, Tryd.ntmps45
 go_wp2_with (first | (refine wpList_alloc_digest rfl rfl ?_; rw [HZD.out, hW0.out]) | fail)
 refine C1.out.mono ?_
 rintro e w2 ⟨rfl, hb2⟩
 have B2 := hid (B1.out.trans (hb2.mono B1.out.size))
 have R2 := hid ((hb2.block w.heap.size S1.out).trans R1.out)
 clear hb2 C1
 go_wp2_with (first | (refine wpList_store_row rfl 34 _ _ rfl w.heap.size y rfl rfl 34 _ R2.out SY.out ZY.out OY.out ?_) | fail)
 refine bodyPost_ret (v := .agg y) (results_cell_row (p := 2) (ty := 34) rfl _ _ w.heap.size 34 y (0, 0) _ rfl (setRow_heap _ _ _ _ _ _ R2.out) Tryd.underlying34 rfl SY.out) rfl ?_
 exact ⟨rfl, bel_set5 B2.out (Nat.le_refl _) _⟩
theorem rsegmentC (w : World) (v : Value) (l : List Int) (h : HB w v l) (hn : l.length <= 10000000000000) : Calls Tryd.prog 47 #[v] w fun e w' => e = .returned (.agg (cellsB (digL (byL 4 [l])))) /\ Below w.heap.size w w' := by
 obtain ⟨zd, HZD⟩ : ∃ zd, Hid (cellsB zeros32 = zd) := ⟨_, rfl⟩
 obtain ⟨W0, hW0⟩ : ∃ W0, Hid (w.alloc (.cells zd 34) = W0) := ⟨_, rfl⟩
 have B0 : Hid (Below w.heap.size w W0) := by rw [<- hW0.out]; exact (Below.refl _ w).alloc (Nat.le_refl _) _
 have R0 : Hid (W0.heap[w.heap.size]? = some (.cells zd 34 (0, 0))) := by rw [<- hW0.out]; exact heap_alloc_new w _
 have Z0 : Hid (W0.heap.size = w.heap.size + 1) := by refine hid ?_; rw [<- hW0.out]; simp
 have DL := hid (digL_length (byL 4 [l]))
 obtain ⟨y, HY⟩ : ∃ y, Hid (cellsB (digL (byL 4 [l])) = y) := ⟨_, rfl⟩
 have SY : Hid ((Tryd.prog.info? 34).map (·.size) = some y.size) := by refine hid ?_; rw [<- HY.out, cellsB_size, DL.out]; exact size_digest
 have OY : Hid (y.all (·.oneCell') = true) := by refine hid ?_; rw [<- HY.out]; exact cellsB_one _
 have ZY : Hid (zd.size = y.size) := by refine hid ?_; rw [<- HZD.out, <- HY.out, cellsB_size, cellsB_size, DL.out, zeros32_length]
 obtain ⟨p, c, rfl, _, _⟩ := h.open
 have HA := hid (heap_alloc_new W0 (.cells #[.slice p l.length c] 30))
 have BA := hid ((Below.refl W0.heap.size W0).alloc (Nat.le_refl _) (.cells #[.slice p l.length c] 30))
 have hl1 := HL.one5 HA.out ((h.below B0.out).below BA.out)
 have C1 := rdigestC (W0.alloc (.cells #[.slice p l.length c] 30)) 4 _ [l] hl1 (by simp; omega) (fun q hq => by simp at hq; subst hq; exact h.2)
 rw [HY.out] at C1
 have C1 := hid C1
 rw [HY.out]
 have B1 := hid (B0.out.trans (BA.out.mono B0.out.size))
 have R1 := hid ((BA.out.block w.heap.size (by rw [Z0.out]; omega)).trans R0.out)
 have S1 : Hid (w.heap.size < (W0.alloc (.cells #[.slice p l.length c] 30)).heap.size) := hid (by simp; rw [Z0.out]; omega)
 clear h hl1
 go_enter Tryd.func47, Tryd.ntmps47
 go_wp2_with (first | (refine wpList_alloc_digest rfl rfl ?_; rw [HZD.out, hW0.out]) | fail)
 refine C1.out.mono ?_
 rintro e w2 ⟨rfl, hb2⟩
 have B2 := hid (B1.out.trans (hb2.mono B1.out.size))
 have R2 := hid ((hb2.block w.heap.size S1.out).trans R1.out)
 clear hb2 C1
 go_wp2_with (first | (refine wpList_store_row rfl 34 _ _ rfl w.heap.size y rfl rfl 34 _ R2.out SY.out ZY.out OY.out ?_) | fail)
 refine bodyPost_ret (v := .agg y) (results_cell_row (p := 2) (ty := 34) rfl _ _ w.heap.size 34 y (0, 0) _ rfl (setRow_heap _ _ _ _ _ _ R2.out) Tryd.underlying34 rfl SY.out) rfl ?_
 exact ⟨rfl, bel_set5 B2.out (Nat.le_refl _) _⟩
theorem ruebC (w : World) (v : Value) (l : List Int) (h : HB w v l) (hn : l.length <= 10000000000000) : Calls Tryd.prog 49 #[v] w fun e w' => e = .returned (.agg (cellsB (digL (byL 8 [l])))) /\ Below w.heap.size w w' := by
 obtain ⟨zd, HZD⟩ : ∃ zd, Hid (cellsB zeros32 = zd) := ⟨_, rfl⟩
 obtain ⟨W0, hW0⟩ : ∃ W0, Hid (w.alloc (.cells zd 34) = W0) := ⟨_, rfl⟩
 have B0 : Hid (Below w.heap.size w W0) := by rw [<- hW0.out]; exact (Below.refl _ w).alloc (Nat.le_refl _) _
 have R0 : Hid (W0.heap[w.heap.size]? = some (.cells zd 34 (0, 0))) := by rw [<- hW0.out]; exact heap_alloc_new w _
 have Z0 : Hid (W0.heap.size = w.heap.size + 1) := by refine hid ?_; rw [<- hW0.out]; simp
 have DL := hid (digL_length (byL 8 [l]))
 obtain ⟨y, HY⟩ : ∃ y, Hid (cellsB (digL (byL 8 [l])) = y) := ⟨_, rfl⟩
 have SY : Hid ((Tryd.prog.info? 34).map (·.size) = some y.size) := by refine hid ?_; rw [<- HY.out, cellsB_size, DL.out]; exact size_digest
 have OY : Hid (y.all (·.oneCell') = true) := by refine hid ?_; rw [<- HY.out]; exact cellsB_one _
 have ZY : Hid (zd.size = y.size) := by refine hid ?_; rw [<- HZD.out, <- HY.out, cellsB_size, cellsB_size, DL.out, zeros32_length]
 obtain ⟨p, c, rfl, _, _⟩ := h.open
 have HA := hid (heap_alloc_new W0 (.cells #[.slice p l.length c] 30))
 have BA := hid ((Below.refl W0.heap.size W0).alloc (Nat.le_refl _) (.cells #[.slice p l.length c] 30))
 have hl1 := HL.one5 HA.out ((h.below B0.out).below BA.out)
 have C1 := rdigestC (W0.alloc (.cells #[.slice p l.length c] 30)) 8 _ [l] hl1 (by simp; omega) (fun q hq => by simp at hq; subst hq; exact h.2)
 rw [HY.out] at C1
 have C1 := hid C1
 rw [HY.out]
 have B1 := hid (B0.out.trans (BA.out.mono B0.out.size))
 have R1 := hid ((BA.out.block w.heap.size (by rw [Z0.out]; omega)).trans R0.out)
 have S1 : Hid (w.heap.size < (W0.alloc (.cells #[.slice p l.length c] 30)).heap.size) := hid (by simp; rw [Z0.out]; omega)
 clear h hl1
 go_enter Tryd.func49, Tryd.ntmps49
 go_wp2_with (first | (refine wpList_alloc_digest rfl rfl ?_; rw [HZD.out, hW0.out]) | fail)
 refine C1.out.mono ?_
 rintro e w2 ⟨rfl, hb2⟩
 have B2 := hid (B1.out.trans (hb2.mono B1.out.size))
 have R2 := hid ((hb2.block w.heap.size S1.out).trans R1.out)
 clear hb2 C1
 go_wp2_with (first | (refine wpList_store_row rfl 34 _ _ rfl w.heap.size y rfl rfl 34 _ R2.out SY.out ZY.out OY.out ?_) | fail)
 refine bodyPost_ret (v := .agg y) (results_cell_row (p := 2) (ty := 34) rfl _ _ w.heap.size 34 y (0, 0) _ rfl (setRow_heap _ _ _ _ _ _ R2.out) Tryd.underlying34 rfl SY.out) rfl ?_
 exact ⟨rfl, bel_set5 B2.out (Nat.le_refl _) _⟩
theorem tofC (w : World) (t : Nat) (v : Value) (ls : List (List Int)) (h : HL w v ls) (hn : ∀ l ∈ ls, l.length <= 140737488351232) (hk : KC w) : Calls Tryd.prog 30 #[.int .u8 (t : Int), v] w fun e w' => e = .returned (.agg (cellsB (tdL t ls))) /\ Below w.heap.size w w' := by
 obtain ⟨zd, HZD⟩ : ∃ zd, Hid (cellsB zeros32 = zd) := ⟨_, rfl⟩
 obtain ⟨W0, hW0⟩ : ∃ W0, Hid (w.alloc (.cells zd 34) = W0) := ⟨_, rfl⟩
 have B0 : Hid (Below w.heap.size w W0) := by rw [<- hW0.out]; exact (Below.refl _ w).alloc (Nat.le_refl _) _
 have R0 : Hid (W0.heap[w.heap.size]? = some (.cells zd 34 (0, 0))) := by rw [<- hW0.out]; exact heap_alloc_new w _
 have Z0 : Hid (W0.heap.size = w.heap.size + 1) := by refine hid ?_; rw [<- hW0.out]; simp
 have DL : Hid ((tdL t ls).length = 32) := hid (by unfold tdL; split; exact digL_length _; exact zeros32_length)
 obtain ⟨y, HY⟩ : ∃ y, Hid (cellsB (tdL t ls) = y) := ⟨_, rfl⟩
 have SY : Hid ((Tryd.prog.info? 34).map (·.size) = some y.size) := by refine hid ?_; rw [<- HY.out, cellsB_size, DL.out]; exact size_digest
 have OY : Hid (y.all (·.oneCell') = true) := by refine hid ?_; rw [<- HY.out]; exact cellsB_one _
 have ZY : Hid (zd.size = y.size) := by refine hid ?_; rw [<- HZD.out, <- HY.out, cellsB_size, cellsB_size, DL.out, zeros32_length]
 have C1 := tdigestC W0 t v ls (h.below B0.out) hn (hk.below B0.out)
 rw [HY.out] at C1
 have C1 := hid C1
 rw [HY.out]
 obtain ⟨E, HE⟩ : ∃ E, Hid (byE t ls = E) := ⟨_, rfl⟩
 rw [HE.out] at C1
 obtain ⟨p0, c0, rfl, _, _⟩ := h.open
 clear h hk
 go_enter Tryd.func30, Tryd.ntmps30
 go_wp2_with (first | (refine wpList_alloc_digest rfl rfl ?_; rw [HZD.out, hW0.out]) | fail)
 refine C1.out.mono ?_
 rintro e w1 ⟨rfl, hb1⟩
 have B1 := hid (B0.out.trans (hb1.mono B0.out.size))
 have R1 := hid ((hb1.block w.heap.size (by rw [Z0.out]; omega)).trans R0.out)
 have S1 : Hid (w.heap.size < w1.heap.size) := hid (by have := hb1.size; rw [Z0.out] at this; omega)
 have ZA := hid (heap_alloc_new w1 (.cells zd 34))
 obtain ⟨w2, HW2⟩ : ∃ x, Hid ((w1.alloc (.cells zd 34)).setRow w1.heap.size y = x) := ⟨_, rfl⟩
 have Y2 : Hid (w2.heap[w1.heap.size]? = some (.cells y 34 (0, 0))) := by refine hid ?_; rw [<- HW2.out]; exact setRow_heap _ _ _ _ _ _ ZA.out
 have B2 : Hid (Below w.heap.size w w2) := by refine hid ?_; rw [<- HW2.out]; exact bel_set5 (B1.out.alloc B1.out.size _) B1.out.size _
 have R2 : Hid (w2.heap[w.heap.size]? = some (.cells zd 34 (0, 0))) := by
  refine hid ?_
  rw [<- HW2.out]
  have s1 := S1.out
  exact ((by simp [World.setRow, Array.getElem?_modify, show w1.heap.size ≠ w.heap.size by omega] : ((w1.alloc (.cells zd 34)).setRow w1.heap.size y).heap[w.heap.size]? = (w1.alloc (.cells zd 34)).heap[w.heap.size]?).trans (heap_alloc_old w1 _ s1)).trans R1.out
 clear hb1 C1
 go_wp2_with (first | (refine wpList_alloc_digest rfl rfl ?_; rw [HZD.out]) | (refine wpList_store_row rfl 34 _ _ rfl w1.heap.size y rfl rfl 34 _ ZA.out SY.out ZY.out OY.out ?_; rw [HW2.out]) | (refine wpList_load_row rfl 34 _ rfl w1.heap.size rfl 34 y (0, 0) _ Y2.out Tryd.underlying34 rfl SY.out ?_) | (refine wpList_store_row rfl 34 _ _ rfl w.heap.size y rfl rfl 34 _ R2.out SY.out ZY.out OY.out ?_) | fail)
 refine bodyPost_ret (v := .agg y) (results_cell_row (p := 4) (ty := 34) rfl _ _ w.heap.size 34 y (0, 0) _ rfl (setRow_heap _ _ _ _ _ _ R2.out) Tryd.underlying34 rfl SY.out) rfl ?_
 exact ⟨rfl, bel_set5 B2.out (Nat.le_refl _) _⟩
theorem tblockC (w : World) (v : Value) (l : List Int) (h : HB w v l) (hn : l.length <= 10000000000000) (hk : KC w) : Calls Tryd.prog 44 #[v] w fun e w' => e = .returned (.agg (cellsB (tdL 3 [l]))) /\ Below w.heap.size w w' := by
 obtain ⟨zd, HZD⟩ : ∃ zd, Hid (cellsB zeros32 = zd) := ⟨_, rfl⟩
 obtain ⟨W0, hW0⟩ : ∃ W0, Hid (w.alloc (.cells zd 34) = W0) := ⟨_, rfl⟩
 have B0 : Hid (Below w.heap.size w W0) := by rw [<- hW0.out]; exact (Below.refl _ w).alloc (Nat.le_refl _) _
 have R0 : Hid (W0.heap[w.heap.size]? = some (.cells zd 34 (0, 0))) := by rw [<- hW0.out]; exact heap_alloc_new w _
 have Z0 : Hid (W0.heap.size = w.heap.size + 1) := by refine hid ?_; rw [<- hW0.out]; simp
 have DL : Hid ((tdL 3 [l]).length = 32) := hid (by unfold tdL; split; exact digL_length _; exact zeros32_length)
 obtain ⟨y, HY⟩ : ∃ y, Hid (cellsB (tdL 3 [l]) = y) := ⟨_, rfl⟩
 have SY : Hid ((Tryd.prog.info? 34).map (·.size) = some y.size) := by refine hid ?_; rw [<- HY.out, cellsB_size, DL.out]; exact size_digest
 have OY : Hid (y.all (·.oneCell') = true) := by refine hid ?_; rw [<- HY.out]; exact cellsB_one _
 have ZY : Hid (zd.size = y.size) := by refine hid ?_; rw [<- HZD.out, <- HY.out, cellsB_size, cellsB_size, DL.out, zeros32_length]
 obtain ⟨p, c, rfl, _, _⟩ := h.open
 have HA := hid (heap_alloc_new W0 (.cells #[.slice p l.length c] 30))
 have BA := hid ((Below.refl W0.heap.size W0).alloc (Nat.le_refl _) (.cells #[.slice p l.length c] 30))
 have hl1 := HL.one5 HA.out ((h.below B0.out).below BA.out)
 have C1 := tofC (W0.alloc (.cells #[.slice p l.length c] 30)) 3 _ [l] hl1 (fun q hq => by simp at hq; subst hq; omega) ((hk.below B0.out).below BA.out)
 rw [HY.out] at C1
 have C1 := hid C1
 rw [HY.out]
 have B1 := hid (B0.out.trans (BA.out.mono B0.out.size))
 have R1 := hid ((BA.out.block w.heap.size (by rw [Z0.out]; omega)).trans R0.out)
 have S1 : Hid (w.heap.size < (W0.alloc (.cells #[.slice p l.length c] 30)).heap.size) := hid (by simp; rw [Z0.out]; omega)
 clear h hl1 hk
 go_enter Tryd.func44, Tryd.ntmps44
 go_wp2_with (first | (refine wpList_alloc_digest rfl rfl ?_; rw [HZD.out, hW0.out]) | fail)
 refine C1.out.mono ?_
 rintro e w2 ⟨rfl, hb2⟩
 have B2 := hid (B1.out.trans (hb2.mono B1.out.size))
 have R2 := hid ((hb2.block w.heap.size S1.out).trans R1.out)
 clear hb2 C1
 go_wp2_with (first | (refine wpList_store_row rfl 34 _ _ rfl w.heap.size y rfl rfl 34 _ R2.out SY.out ZY.out OY.out ?_) | fail)
 refine bodyPost_ret (v := .agg y) (results_cell_row (p := 2) (ty := 34) rfl _ _ w.heap.size 34 y (0, 0) _ rfl (setRow_heap _ _ _ _ _ _ R2.out) Tryd.underlying34 rfl SY.out) rfl ?_
 exact ⟨rfl, bel_set5 B2.out (Nat.le_refl _) _⟩
theorem tsegmentC (w : World) (v : Value) (l : List Int) (h : HB w v l) (hn : l.length <= 10000000000000) (hk : KC w) : Calls Tryd.prog 46 #[v] w fun e w' => e = .returned (.agg (cellsB (tdL 4 [l]))) /\ Below w.heap.size w w' := by
 obtain ⟨zd, HZD⟩ : ∃ zd, Hid (cellsB zeros32 = zd) := ⟨_, rfl⟩
 obtain ⟨W0, hW0⟩ : ∃ W0, Hid (w.alloc (.cells zd 34) = W0) := ⟨_, rfl⟩
 have B0 : Hid (Below w.heap.size w W0) := by rw [<- hW0.out]; exact (Below.refl _ w).alloc (Nat.le_refl _) _
 have R0 : Hid (W0.heap[w.heap.size]? = some (.cells zd 34 (0, 0))) := by rw [<- hW0.out]; exact heap_alloc_new w _
 have Z0 : Hid (W0.heap.size = w.heap.size + 1) := by refine hid ?_; rw [<- hW0.out]; simp
 have DL : Hid ((tdL 4 [l]).length = 32) := hid (by unfold tdL; split; exact digL_length _; exact zeros32_length)
 obtain ⟨y, HY⟩ : ∃ y, Hid (cellsB (tdL 4 [l]) = y) := ⟨_, rfl⟩
 have SY : Hid ((Tryd.prog.info? 34).map (·.size) = some y.size) := by refine hid ?_; rw [<- HY.out, cellsB_size, DL.out]; exact size_digest
 have OY : Hid (y.all (·.oneCell') = true) := by refine hid ?_; rw [<- HY.out]; exact cellsB_one _
 have ZY : Hid (zd.size = y.size) := by refine hid ?_; rw [<- HZD.out, <- HY.out, cellsB_size, cellsB_size, DL.out, zeros32_length]
 obtain ⟨p, c, rfl, _, _⟩ := h.open
 have HA := hid (heap_alloc_new W0 (.cells #[.slice p l.length c] 30))
 have BA := hid ((Below.refl W0.heap.size W0).alloc (Nat.le_refl _) (.cells #[.slice p l.length c] 30))
 have hl1 := HL.one5 HA.out ((h.below B0.out).below BA.out)
 have C1 := tofC (W0.alloc (.cells #[.slice p l.length c] 30)) 4 _ [l] hl1 (fun q hq => by simp at hq; subst hq; omega) ((hk.below B0.out).below BA.out)
 rw [HY.out] at C1
 have C1 := hid C1
 rw [HY.out]
 have B1 := hid (B0.out.trans (BA.out.mono B0.out.size))
 have R1 := hid ((BA.out.block w.heap.size (by rw [Z0.out]; omega)).trans R0.out)
 have S1 : Hid (w.heap.size < (W0.alloc (.cells #[.slice p l.length c] 30)).heap.size) := hid (by simp; rw [Z0.out]; omega)
 clear h hl1 hk
 go_enter Tryd.func46, Tryd.ntmps46
 go_wp2_with (first | (refine wpList_alloc_digest rfl rfl ?_; rw [HZD.out, hW0.out]) | fail)
 refine C1.out.mono ?_
 rintro e w2 ⟨rfl, hb2⟩
 have B2 := hid (B1.out.trans (hb2.mono B1.out.size))
 have R2 := hid ((hb2.block w.heap.size S1.out).trans R1.out)
 clear hb2 C1
 go_wp2_with (first | (refine wpList_store_row rfl 34 _ _ rfl w.heap.size y rfl rfl 34 _ R2.out SY.out ZY.out OY.out ?_) | fail)
 refine bodyPost_ret (v := .agg y) (results_cell_row (p := 2) (ty := 34) rfl _ _ w.heap.size 34 y (0, 0) _ rfl (setRow_heap _ _ _ _ _ _ R2.out) Tryd.underlying34 rfl SY.out) rfl ?_
 exact ⟨rfl, bel_set5 B2.out (Nat.le_refl _) _⟩
theorem tuebC (w : World) (v : Value) (l : List Int) (h : HB w v l) (hn : l.length <= 10000000000000) (hk : KC w) : Calls Tryd.prog 48 #[v] w fun e w' => e = .returned (.agg (cellsB (tdL 8 [l]))) /\ Below w.heap.size w w' := by
 obtain ⟨zd, HZD⟩ : ∃ zd, Hid (cellsB zeros32 = zd) := ⟨_, rfl⟩
 obtain ⟨W0, hW0⟩ : ∃ W0, Hid (w.alloc (.cells zd 34) = W0) := ⟨_, rfl⟩
 have B0 : Hid (Below w.heap.size w W0) := by rw [<- hW0.out]; exact (Below.refl _ w).alloc (Nat.le_refl _) _
 have R0 : Hid (W0.heap[w.heap.size]? = some (.cells zd 34 (0, 0))) := by rw [<- hW0.out]; exact heap_alloc_new w _
 have Z0 : Hid (W0.heap.size = w.heap.size + 1) := by refine hid ?_; rw [<- hW0.out]; simp
 have DL : Hid ((tdL 8 [l]).length = 32) := hid (by unfold tdL; split; exact digL_length _; exact zeros32_length)
 obtain ⟨y, HY⟩ : ∃ y, Hid (cellsB (tdL 8 [l]) = y) := ⟨_, rfl⟩
 have SY : Hid ((Tryd.prog.info? 34).map (·.size) = some y.size) := by refine hid ?_; rw [<- HY.out, cellsB_size, DL.out]; exact size_digest
 have OY : Hid (y.all (·.oneCell') = true) := by refine hid ?_; rw [<- HY.out]; exact cellsB_one _
 have ZY : Hid (zd.size = y.size) := by refine hid ?_; rw [<- HZD.out, <- HY.out, cellsB_size, cellsB_size, DL.out, zeros32_length]
 obtain ⟨p, c, rfl, _, _⟩ := h.open
 have HA := hid (heap_alloc_new W0 (.cells #[.slice p l.length c] 30))
 have BA := hid ((Below.refl W0.heap.size W0).alloc (Nat.le_refl _) (.cells #[.slice p l.length c] 30))
 have hl1 := HL.one5 HA.out ((h.below B0.out).below BA.out)
 have C1 := tofC (W0.alloc (.cells #[.slice p l.length c] 30)) 8 _ [l] hl1 (fun q hq => by simp at hq; subst hq; omega) ((hk.below B0.out).below BA.out)
 rw [HY.out] at C1
 have C1 := hid C1
 rw [HY.out]
 have B1 := hid (B0.out.trans (BA.out.mono B0.out.size))
 have R1 := hid ((BA.out.block w.heap.size (by rw [Z0.out]; omega)).trans R0.out)
 have S1 : Hid (w.heap.size < (W0.alloc (.cells #[.slice p l.length c] 30)).heap.size) := hid (by simp; rw [Z0.out]; omega)
 clear h hl1 hk
 go_enter Tryd.func48, Tryd.ntmps48
 go_wp2_with (first | (refine wpList_alloc_digest rfl rfl ?_; rw [HZD.out, hW0.out]) | fail)
 refine C1.out.mono ?_
 rintro e w2 ⟨rfl, hb2⟩
 have B2 := hid (B1.out.trans (hb2.mono B1.out.size))
 have R2 := hid ((hb2.block w.heap.size S1.out).trans R1.out)
 clear hb2 C1
 go_wp2_with (first | (refine wpList_store_row rfl 34 _ _ rfl w.heap.size y rfl rfl 34 _ R2.out SY.out ZY.out OY.out ?_) | fail)
 refine bodyPost_ret (v := .agg y) (results_cell_row (p := 2) (ty := 34) rfl _ _ w.heap.size 34 y (0, 0) _ rfl (setRow_heap _ _ _ _ _ _ R2.out) Tryd.underlying34 rfl SY.out) rfl ?_
 exact ⟨rfl, bel_set5 B2.out (Nat.le_refl _) _⟩
theorem td_one {t : Nat} (ht : t = 3 \/ t = 4 \/ t = 8) (l : List Int) : tdL t [l] = digL (byL t [l]) := by
 have hok : TagOk t [l] := by
  rcases ht with rfl | rfl | rfl
  all_goals
   refine ⟨by omega, rfl, fun j hj => ?_⟩
   have : j = 0 := by simp at hj; omega
   subst this
   rfl
 unfold tdL byL
 rw [if_pos hok, if_pos hok]
end Go.Proofs.YtcpchhigiohlnaaDoor
namespace Go.Proofs.YtcpchhigiohlnaaDoor
open Go Go.RowKit Ev
def wRing : List Int := [115, 116, 114, 111, 110, 103, 114, 111, 111, 109, 32, 114, 105, 110, 103]
def rgB (x : List Int) (s : Nat) : List Int := num8 15 ++ (wRing ++ (num8 16 ++ (x ++ (num8 4 ++ bigL 4 s))))
def rgL (x : List Int) (s : Nat) : List Int := digL (rgB x s)
def X16 (x : List Int) : Prop := x.length = 16 /\ ByI x
def envR (x : List Int) (s : Nat) : Env := ⟨fun i => if i = 0 then (s : Int) else if i < 17 then x.getD (i - 1) 0 else (rgL x s).getD (i - 17) 0, fun _ => .tuple #[], fun _ _ _ => 0⟩
def expR : List SV := lI (num8 15) ++ (lI wRing ++ (lI (num8 16) ++ (vI 1 16 ++ (lI (num8 4) ++ bigE))))
theorem bigR_inst (x : List Int) (s : Nat) (hs : s < 4294967296) (ms : List Nat) : bigE.map (SV.inst (envR x s) ms) = ((bigL 4 s).map (Value.int .u8)).map some := by
 have e0 : IntKind.u64.wrap (s : Int) = (s : Int) := by rw [IntKind.wrap_u64]; omega
 have f : ∀ k : Nat, ((s : Int).fdiv (2 ^ k)) = ((s / 2 ^ k : Nat) : Int) := fun k => by
  rw [show (2 : Int) ^ k = ((2 ^ k : Nat) : Int) by simp, Int.ofNat_fdiv]
 have g : ∀ n : Nat, IntKind.u8.wrap (n : Int) = ((n % 256 : Nat) : Int) := fun n => by rw [IntKind.wrap_u8]; rfl
 simp only [bigE, bigL, List.map_cons, List.map_nil, SV.inst, Ex.den, envR, if_pos, e0, f, g, Nat.pow_zero, Nat.div_one]
theorem envR_x {x : List Int} (s : Nat) (i : Nat) (hi : i < 16) : (envR x s).int (1 + i) = x.getD i 0 := by
 simp only [envR]
 rw [if_neg (by omega), if_pos (by omega), show 1 + i - 1 = i by omega]
theorem envR_d (x : List Int) (s : Nat) (i : Nat) : (envR x s).int (17 + i) = (rgL x s).getD i 0 := by
 simp only [envR]
 rw [if_neg (by omega), if_neg (by omega), show 17 + i - 17 = i by omega]
theorem expR_inst {x : List Int} (hx : X16 x) (s : Nat) (hs : s < 4294967296) (ms : List Nat) : expR.map (SV.inst (envR x s) ms) = ((rgB x s).map (Value.int .u8)).map some := by
 unfold expR rgB
 simp only [List.map_append, lI_inst]
 rw [vI_inst (envR x s) ms 1 16 x hx.1 (fun i hi => envR_x s i hi), bigR_inst x s hs]
theorem rgB_byt {x : List Int} (hx : X16 x) (s : Nat) : ByI (rgB x s) := by
 have k : ∀ l : List Int, (l.all fun x => decide (0 <= x /\ x < 256)) = true -> ByI l := fun l h x hx => by simpa using List.all_eq_true.1 h x hx
 have a : ∀ a b : List Int, ByI a -> ByI b -> ByI (a ++ b) := fun a b ha hb x hx => (List.mem_append.1 hx).elim (ha x) (hb x)
 exact a _ _ (k _ (by decide)) (a _ _ (k _ (by decide)) (a _ _ (k _ (by decide)) (a _ _ hx.2 (a _ _ (k _ (by decide)) (bigL_byt 4 s)))))
theorem ring_ev : evCallF Tryd.prog noLore (conSum expR 17) 100 57 [.tv (.agg (vI 1 16)), .tv (.sc (.int .u32 (.var 0)))] HK = some (.tv (.agg (vI 17 32)), HK) := by kernel_rfl
theorem tring_any (w : World) (x : List Int) (s : Nat) (hx : X16 x) (hs : s < 4294967296) (hk : KC w) : Calls Tryd.prog 57 #[.agg (cellsB x), .int .u32 (s : Int)] w fun e w' => e = .returned (.agg (cellsB (rgL x s))) /\ Below w.heap.size w w' := by
 have hcon : ConOk Tryd.prog (envR x s) (conSum expR 17) := conSum_ok (m := rgB x s) (rgB_byt hx s) (by simp [rgB, num8, wRing, hx.1, bigL_length]) (expR_inst hx s hs) (fun i _ => envR_d x s i)
 refine (calls_of_evHF (noLore_ok (envR x s)) hcon mixedOrders 100 ring_ev (args := #[.agg (cellsB x), .int .u32 (s : Int)]) w ?_ (holdsK (envR x s) w hk)).mono ?_
 ·simp only [List.map_cons, List.map_nil]
  rw [agg_inst (vI_inst (envR x s) ms0 1 16 x hx.1 (fun i hi => envR_x s i hi))]
  simp [AV.inst, TV.inst, SV.inst, Ex.den, envR]
 ·rintro e w' ⟨ms, u, rfl, _, h1, _, h3⟩
  rw [agg_inst (vI_inst (envR x s) ms 17 32 (rgL x s) (digL_length _) (fun i _ => envR_d x s i))] at h1
  simp only [Option.some.injEq] at h1
  rw [<- h1]
  exact ⟨rfl, h3⟩
theorem rgL_D (x : List Int) (s : Nat) : D32 (rgL x s) := ⟨digL_length _, digL_byt _⟩
end Go.Proofs.YtcpchhigiohlnaaDoor
namespace Go.Proofs.YtcpchhigiohlnaaDoor
open Go Go.RowKit
theorem wpList_alloc_aggT {T : TypeId} {cs : Array Value} (hz : (Tryd.prog.info? T).map (·.zero) = some (some (.agg cs))) {ops : Array Oper} {rest : List Oper} {o : Oper} {a : Act} {w : World} {Q : Exit -> Act -> World -> Prop} (hgd : o.guard = none) (ho : o.op = .alloc T)
  (h : wpList Tryd.prog ops Q rest (a.put o.dst (.pointer (some ⟨w.heap.size, 0, none⟩))) (w.alloc (.cells cs T))) : wpList Tryd.prog ops Q (o :: rest) a w :=
 wpList_plain hgd fun _ hK => by
  have hr : (Instr.alloc T true (.tuple #[])).run Tryd.prog w = .ok (.pointer (some ⟨w.heap.size, 0, none⟩)) (w.alloc (.cells cs T)) := by
   cases hi : Tryd.prog.info? T with
   | none => simp [hi] at hz
   | some i0 =>
    simp [hi] at hz
    simp [Instr.alloc, zeroValue, typeInfo, hi, hz, newVar, newRow, Value.cells]
  unfold Oper.wp
  simp only [execOp, ho, Sem.run_bind, hr, Result.andThen_ok]
  exact hK _ _ h
theorem run_arrayAt16 (T : TypeId) (hT : Tryd.prog.underlying T = some (.array 16 5)) (b off c : Nat) (W : World) : (Instr.arrayAt T (.slice (some ⟨b, off, none⟩) 16 c)).run Tryd.prog W = .ok (.pointer (some ⟨b, off, none⟩)) W := by
 unfold Instr.arrayAt
 simp only [Sem.run_bind, run_underlying hT, Result.andThen_ok]
 rfl
def zeros16 : List Int := List.replicate 16 0
theorem size_index : (Tryd.prog.info? 84).map (·.size) = some 16 := by kernel_rfl
theorem size_key : (Tryd.prog.info? 32).map (·.size) = some 16 := by kernel_rfl
theorem zero_index : (Tryd.prog.info? 84).map (·.zero) = some (some (.agg (cellsB zeros16))) := by kernel_rfl
theorem zero_key : (Tryd.prog.info? 32).map (·.zero) = some (some (.agg (cellsB zeros16))) := by kernel_rfl
theorem HB.row {w : World} {g : Nat} {T : TypeId} {x : List Int} {n : Nat} (h : w.heap[g]? = some (.cells (cellsB x) T (0, 0))) (hn : x.length = n) (hm : n <= 1000) (hx : ∀ y ∈ x, 0 <= y /\ y < 256) : HB w (.slice (some ⟨g, 0, none⟩) n n) x := by
 refine ⟨⟨some ⟨g, 0, none⟩, n, by rw [hn], by omega, by unfold maxLen; omega, (fun e => by cases e), fun _ => ⟨g, 0, rfl, fun i hi => ?_⟩⟩, hx⟩
 rw [cell_of_row w _ (0 + i) _ _ _ h]
 simp [cellsB, List.getD, List.getElem?_eq_getElem hi]
theorem rangeT_take {w : World} {g : Nat} {T : TypeId} {D : List Int} (n : Nat) (h : w.heap[g]? = some (.cells (cellsB D) T (0, 0))) : w.rangeAt g 0 ((D.take n).map (Value.int .u8)) := fun j u hu => by
 rw [Nat.zero_add, cell_of_row w g j _ _ _ h]
 rw [List.getElem?_map] at hu
 have hj : j < (D.take n).length := by
  by_cases q : j < (D.take n).length
  ·exact q
  ·rw [List.getElem?_eq_none (by omega)] at hu; cases hu
 have hj2 : j < D.length := by rw [List.length_take] at hj; omega
 rw [List.getElem?_eq_getElem hj] at hu
 simp only [Option.map_some, Option.some.injEq] at hu
 subst hu
 simp [cellsB, List.getElem?_eq_getElem hj2]
theorem tdL_length (t : Nat) (ls : List (List Int)) : (tdL t ls).length = 32 := by
 unfold tdL
 split
 ·exact digL_length _
 ·exact zeros32_length
theorem tindexC (w : World) (x : List Int) (hx : X16 x) (hk : KC w) : Calls Tryd.prog 50 #[.agg (cellsB x)] w fun e w' => e = .returned (.agg (cellsB ((tdL 2 [x]).take 16))) /\ Below w.heap.size w w' := by
 obtain ⟨zd, HZD⟩ : ∃ zd, Hid (cellsB zeros32 = zd) := ⟨_, rfl⟩
 obtain ⟨zi, HZI⟩ : ∃ zd, Hid (cellsB zeros16 = zd) := ⟨_, rfl⟩
 have HZ0 : Hid ((Tryd.prog.info? 84).map (·.zero) = some (some (.agg zi))) := by rw [<- HZI.out]; exact hid zero_index
 obtain ⟨cl, HCL⟩ : ∃ c, Hid (cellsB x = c) := ⟨_, rfl⟩
 rw [HCL.out]
 have e3 : (w.alloc (.cells cl 32)).heap.size = w.heap.size + 1 := by simp
 obtain ⟨W0, hW0⟩ : ∃ W0, Hid ((w.alloc (.cells cl 32)).alloc (.cells zi 84) = W0) := ⟨_, rfl⟩
 have B0 : Hid (Below w.heap.size w W0) := by rw [<- hW0.out]; exact ((Below.refl _ w).alloc (Nat.le_refl _) _).alloc (by simp) _
 have Z0 : Hid (W0.heap.size = w.heap.size + 2) := by rw [<- hW0.out]; refine hid ?_; simp
 have H1 : Hid (W0.heap[w.heap.size]? = some (.cells cl 32 (0, 0))) := by
  rw [<- hW0.out]
  refine hid ?_
  rw [heap_alloc_old _ _ (by simp)]
  exact heap_alloc_new w _
 have H2 : Hid (W0.heap[w.heap.size + 1]? = some (.cells zi 84 (0, 0))) := by
  rw [<- hW0.out, <- e3]
  exact heap_alloc_new _ _
 obtain ⟨W1, hW1⟩ : ∃ W1, Hid (W0.alloc (.cells #[.slice (some ⟨w.heap.size, 0, none⟩) 16 16] 30) = W1) := ⟨_, rfl⟩
 have BA : Hid (Below W0.heap.size W0 W1) := by rw [<- hW1.out]; exact (Below.refl W0.heap.size W0).alloc (Nat.le_refl _) _
 have HA : Hid (W1.heap[W0.heap.size]? = some (.cells #[.slice (some ⟨w.heap.size, 0, none⟩) 16 16] 30 (0, 0))) := by rw [<- hW1.out]; exact heap_alloc_new W0 _
 have hz0 := Z0.out
 have HB1 : HB W1 (.slice (some ⟨w.heap.size, 0, none⟩) 16 16) x := HB.row (T := 32) (by rw [BA.out.block _ (by omega), H1.out, HCL.out]) hx.1 (by decide) hx.2
 have C1 := tofC W1 2 _ [x] (HL.one5 HA.out HB1) (fun q hq => by simp at hq; subst hq; rw [hx.1]; omega) ((hk.below B0.out).below BA.out)
 obtain ⟨D, HD⟩ : ∃ D, Hid (tdL 2 [x] = D) := ⟨_, rfl⟩
 have HDl : Hid (D.length = 32) := by rw [<- HD.out]; exact hid (tdL_length _ _)
 rw [HD.out] at C1 ⊢
 obtain ⟨dm, HDM⟩ : ∃ dm, Hid (cellsB D = dm) := ⟨_, rfl⟩
 rw [HDM.out] at C1
 have C1 := hid C1
 have SD : Hid ((Tryd.prog.info? 34).map (·.size) = some dm.size) := by refine hid ?_; rw [<- HDM.out, cellsB_size, HDl.out]; exact size_digest
 have OD : Hid (dm.all (·.oneCell') = true) := by refine hid ?_; rw [<- HDM.out]; exact cellsB_one _
 have ZD : Hid (zd.size = dm.size) := by refine hid ?_; rw [<- HZD.out, <- HDM.out, cellsB_size, cellsB_size, HDl.out, zeros32_length]
 obtain ⟨y, HY⟩ : ∃ y, Hid (cellsB (D.take 16) = y) := ⟨_, rfl⟩
 have hyl : (D.take 16).length = 16 := by rw [List.length_take, HDl.out]; rfl
 have SI : Hid ((Tryd.prog.info? 84).map (·.size) = some y.size) := by refine hid ?_; rw [<- HY.out, cellsB_size, hyl]; exact size_index
 have SI2 : Hid ((Tryd.prog.info? 84).map (·.size) = some ((D.take 16).map (Value.int .u8)).length) := by refine hid ?_; rw [List.length_map, hyl]; exact size_index
 have OY : Hid (y.all (·.oneCell') = true) := by refine hid ?_; rw [<- HY.out]; exact cellsB_one _
 have ZY : Hid (zi.size = y.size) := by refine hid ?_; rw [<- HZI.out, <- HY.out, cellsB_size, cellsB_size, hyl]; rfl
 have HY2 : Hid (((D.take 16).map (Value.int .u8)).toArray = y) := HY
 have harr := run_arrayAt16 84 Tryd.underlying84
 rw [HY.out]
 clear hx hk HB1 hyl hz0
 go_enter Tryd.func50, Tryd.ntmps50
 go_wp2_with (first | (refine wpList_alloc_aggT HZ0.out rfl rfl ?_; rw [hW0.out, e3]) | rw [hW1.out] | fail)
 refine C1.out.mono ?_
 rintro e w1 ⟨rfl, hb1⟩
 have B1 := hid ((B0.out.trans (BA.out.mono B0.out.size)).trans (hb1.mono (Nat.le_trans B0.out.size BA.out.size)))
 have ZA := hid (heap_alloc_new w1 (.cells zd 34))
 obtain ⟨w2, HW2⟩ : ∃ x, Hid ((w1.alloc (.cells zd 34)).setRow w1.heap.size dm = x) := ⟨_, rfl⟩
 have Y2 : Hid (w2.heap[w1.heap.size]? = some (.cells dm 34 (0, 0))) := by refine hid ?_; rw [<- HW2.out]; exact setRow_heap _ _ _ _ _ _ ZA.out
 have B2 : Hid (Below w.heap.size w w2) := by refine hid ?_; rw [<- HW2.out]; exact bel_set5 (B1.out.alloc B1.out.size _) B1.out.size _
 have s1 : w.heap.size + 2 <= w1.heap.size := by have := BA.out.size; have := hb1.size; have := Z0.out; omega
 have R2 : Hid (w2.heap[w.heap.size + 1]? = some (.cells zi 84 (0, 0))) := by
  refine hid ?_
  rw [<- HW2.out]
  have q1 : ((w1.alloc (.cells zd 34)).setRow w1.heap.size dm).heap[w.heap.size + 1]? = (w1.alloc (.cells zd 34)).heap[w.heap.size + 1]? := by simp [World.setRow, Array.getElem?_modify, show w1.heap.size ≠ w.heap.size + 1 by omega]
  rw [q1, heap_alloc_old w1 _ (by omega), hb1.block _ (by have := BA.out.size; have := Z0.out; omega), BA.out.block _ (by have := Z0.out; omega)]
  exact H2.out
 have RG : Hid (w2.rangeAt w1.heap.size 0 ((D.take 16).map (Value.int .u8))) := hid (rangeT_take 16 (by rw [HDM.out]; exact Y2.out))
 clear hb1 C1 s1
 go_wp2_with (first | (refine wpList_alloc_digest rfl rfl ?_; rw [HZD.out]) | (refine wpList_store_row rfl 34 _ _ rfl w1.heap.size dm rfl rfl 34 _ ZA.out SD.out ZD.out OD.out ?_; rw [HW2.out]) | (refine wpList_load_mid rfl 84 _ rfl w1.heap.size 0 rfl _ _ RG.out Tryd.underlying84 rfl SI2.out ?_; rw [HY2.out]) | (refine wpList_store_row rfl 84 _ _ rfl (w.heap.size + 1) y rfl rfl 84 _ R2.out SI.out ZY.out OY.out ?_) | fail)
 refine bodyPost_ret (v := .agg y) (results_cell_row (p := 2) (ty := 84) rfl _ _ (w.heap.size + 1) 84 y (0, 0) _ rfl (setRow_heap _ _ _ _ _ _ R2.out) Tryd.underlying84 rfl SI.out) rfl ?_
 exact ⟨rfl, bel_set5 B2.out (by omega) _⟩
def partT (L : List Int) (k : Nat) : List Int := L.take k ++ List.replicate (L.length - k) 0
theorem partT_length (L : List Int) (k : Nat) (h : k <= L.length) : (partT L k).length = L.length := by simp [partT]; omega
theorem partT_step (L : List Int) (k : Nat) (h : k < L.length) : (partT L k).set k (L.getD k 0) = partT L (k + 1) := by
 unfold partT
 rw [List.set_append_right _ _ (by rw [List.length_take]; omega), List.length_take, Nat.min_eq_left (Nat.le_of_lt h), Nat.sub_self, show L.length - k = (L.length - (k + 1)) + 1 by omega, List.replicate_succ, List.set_cons_zero, List.take_succ_eq_append_getElem h, getD_of_lt h, List.append_assoc]
 rfl
theorem partT_all (L : List Int) : partT L L.length = L := by simp [partT]
theorem partT_none (L : List Int) : partT L 0 = List.replicate L.length 0 := by simp [partT]
theorem cellsB_setT (l : List Int) (i : Nat) (x : Int) : (cellsB l).setIfInBounds i (.int .u8 x) = cellsB (l.set i x) := by
 unfold cellsB
 rw [List.map_set]
 simp
theorem td_ok {t : Nat} {ls : List (List Int)} (h : TagOk t ls) : tdL t ls = digL (byL t ls) := by
 unfold tdL byL
 rw [if_pos h, if_pos h]
theorem rindexC (w : World) (x : List Int) (hx : X16 x) : Calls Tryd.prog 51 #[.agg (cellsB x)] w fun e w' => e = .returned (.agg (cellsB ((digL (byL 2 [x])).take 16))) /\ Below w.heap.size w w' := by
 obtain ⟨zd, HZD⟩ : ∃ zd, Hid (cellsB zeros32 = zd) := ⟨_, rfl⟩
 obtain ⟨zi, HZI⟩ : ∃ zd, Hid (cellsB zeros16 = zd) := ⟨_, rfl⟩
 have HZ0 : Hid ((Tryd.prog.info? 84).map (·.zero) = some (some (.agg zi))) := by rw [<- HZI.out]; exact hid zero_index
 obtain ⟨cl, HCL⟩ : ∃ c, Hid (cellsB x = c) := ⟨_, rfl⟩
 rw [HCL.out]
 have e3 : (w.alloc (.cells cl 32)).heap.size = w.heap.size + 1 := by simp
 obtain ⟨W0, hW0⟩ : ∃ W0, Hid ((w.alloc (.cells cl 32)).alloc (.cells zi 84) = W0) := ⟨_, rfl⟩
 have B0 : Hid (Below w.heap.size w W0) := by rw [<- hW0.out]; exact ((Below.refl _ w).alloc (Nat.le_refl _) _).alloc (by simp) _
 have Z0 : Hid (W0.heap.size = w.heap.size + 2) := by rw [<- hW0.out]; refine hid ?_; simp
 have H1 : Hid (W0.heap[w.heap.size]? = some (.cells cl 32 (0, 0))) := by
  rw [<- hW0.out]
  refine hid ?_
  rw [heap_alloc_old _ _ (by simp)]
  exact heap_alloc_new w _
 have H2 : Hid (W0.heap[w.heap.size + 1]? = some (.cells zi 84 (0, 0))) := by
  rw [<- hW0.out, <- e3]
  exact heap_alloc_new _ _
 obtain ⟨W1, hW1⟩ : ∃ W1, Hid (W0.alloc (.cells #[.slice (some ⟨w.heap.size, 0, none⟩) 16 16] 30) = W1) := ⟨_, rfl⟩
 have BA : Hid (Below W0.heap.size W0 W1) := by rw [<- hW1.out]; exact (Below.refl W0.heap.size W0).alloc (Nat.le_refl _) _
 have HA : Hid (W1.heap[W0.heap.size]? = some (.cells #[.slice (some ⟨w.heap.size, 0, none⟩) 16 16] 30 (0, 0))) := by rw [<- hW1.out]; exact heap_alloc_new W0 _
 have hz0 := Z0.out
 have HB1 : HB W1 (.slice (some ⟨w.heap.size, 0, none⟩) 16 16) x := HB.row (T := 32) (by rw [BA.out.block _ (by omega), H1.out, HCL.out]) hx.1 (by decide) hx.2
 have C1 := rdigestC W1 2 _ [x] (HL.one5 HA.out HB1) (by simp [hx.1]) (fun q hq => by simp at hq; subst hq; exact hx.2)
 obtain ⟨D, HD⟩ : ∃ D, Hid (digL (byL 2 [x]) = D) := ⟨_, rfl⟩
 have HDl : Hid (D.length = 32) := by rw [<- HD.out]; exact hid (digL_length _)
 rw [HD.out] at C1 ⊢
 obtain ⟨dm, HDM⟩ : ∃ dm, Hid (cellsB D = dm) := ⟨_, rfl⟩
 rw [HDM.out] at C1
 have C1 := hid C1
 have SD : Hid ((Tryd.prog.info? 34).map (·.size) = some dm.size) := by refine hid ?_; rw [<- HDM.out, cellsB_size, HDl.out]; exact size_digest
 have OD : Hid (dm.all (·.oneCell') = true) := by refine hid ?_; rw [<- HDM.out]; exact cellsB_one _
 have ZD : Hid (zd.size = dm.size) := by refine hid ?_; rw [<- HZD.out, <- HDM.out, cellsB_size, cellsB_size, HDl.out, zeros32_length]
 obtain ⟨L, HLL⟩ : ∃ L, Hid (D.take 16 = L) := ⟨_, rfl⟩
 have hyl : L.length = 16 := by rw [<- HLL.out, List.length_take, HDl.out]; rfl
 have HYL := hid hyl
 rw [HLL.out]
 obtain ⟨y, HY⟩ : ∃ y, Hid (cellsB L = y) := ⟨_, rfl⟩
 have SI : Hid ((Tryd.prog.info? 84).map (·.size) = some y.size) := by refine hid ?_; rw [<- HY.out, cellsB_size, hyl]; exact size_index
 have OY : Hid (y.all (·.oneCell') = true) := by refine hid ?_; rw [<- HY.out]; exact cellsB_one _
 have ZY : Hid (zi.size = y.size) := by refine hid ?_; rw [<- HZI.out, <- HY.out, cellsB_size, cellsB_size, hyl]; rfl
 have ZP : Hid (zi = cellsB (partT L 0)) := by refine hid ?_; rw [partT_none, hyl, <- HZI.out]; rfl
 rw [HY.out]
 clear hx HB1 hyl hz0
 go_enter Tryd.func51, Tryd.ntmps51
 go_wp2_with (first | (refine wpList_alloc_aggT HZ0.out rfl rfl ?_; rw [hW0.out, e3]) | rw [hW1.out] | fail)
 refine C1.out.mono ?_
 rintro e w1 ⟨rfl, hb1⟩
 have B1 := hid ((B0.out.trans (BA.out.mono B0.out.size)).trans (hb1.mono (Nat.le_trans B0.out.size BA.out.size)))
 have ZA := hid (heap_alloc_new w1 (.cells zd 34))
 obtain ⟨w2, HW2⟩ : ∃ x, Hid ((w1.alloc (.cells zd 34)).setRow w1.heap.size dm = x) := ⟨_, rfl⟩
 have Y2 : Hid (w2.heap[w1.heap.size]? = some (.cells dm 34 (0, 0))) := by refine hid ?_; rw [<- HW2.out]; exact setRow_heap _ _ _ _ _ _ ZA.out
 have B2 : Hid (Below w.heap.size w w2) := by refine hid ?_; rw [<- HW2.out]; exact bel_set5 (B1.out.alloc B1.out.size _) B1.out.size _
 have s1 : w.heap.size + 2 <= w1.heap.size := by have := BA.out.size; have := hb1.size; have := Z0.out; omega
 have S2 : Hid (w2.heap.size = w1.heap.size + 1) := by refine hid ?_; rw [<- HW2.out]; simp [World.setRow]
 have R2 : Hid (w2.heap[w.heap.size + 1]? = some (.cells zi 84 (0, 0))) := by
  refine hid ?_
  rw [<- HW2.out]
  have q1 : ((w1.alloc (.cells zd 34)).setRow w1.heap.size dm).heap[w.heap.size + 1]? = (w1.alloc (.cells zd 34)).heap[w.heap.size + 1]? := by simp [World.setRow, Array.getElem?_modify, show w1.heap.size ≠ w.heap.size + 1 by omega]
  rw [q1, heap_alloc_old w1 _ (by omega), hb1.block _ (by have := BA.out.size; have := Z0.out; omega), BA.out.block _ (by have := Z0.out; omega)]
  exact H2.out
 obtain ⟨w3, HW3⟩ : ∃ x, Hid (w2.alloc (.cells zi 84) = x) := ⟨_, rfl⟩
 have B23 : Hid (Below w2.heap.size w2 w3) := by rw [<- HW3.out]; exact (Below.refl w2.heap.size w2).alloc (Nat.le_refl _) _
 have I3 : Hid (w3.heap[w2.heap.size]? = some (.cells (cellsB (partT L 0)) 84 (0, 0))) := by rw [<- HW3.out, <- ZP.out]; exact heap_alloc_new w2 _
 have Y3 : Hid (w3.heap[w1.heap.size]? = some (.cells dm 34 (0, 0))) := hid ((B23.out.block _ (by have := S2.out; omega)).trans Y2.out)
 have R3 : Hid (w3.heap[w.heap.size + 1]? = some (.cells zi 84 (0, 0))) := hid ((B23.out.block _ (by have := S2.out; omega)).trans R2.out)
 have B3 : Hid (Below w.heap.size w w3) := hid (B2.out.trans (B23.out.mono B2.out.size))
 have HN1 : Hid (w1.heap.size ≠ w2.heap.size) := hid (by have := S2.out; omega)
 have HN2 : Hid (w.heap.size + 1 ≠ w2.heap.size) := hid (by have := S2.out; omega)
 have HSB : Hid (w.heap.size <= w2.heap.size) := hid B2.out.size
 clear hb1 C1 s1
 go_wp2_with (first | (refine wpList_alloc_digest rfl rfl ?_; rw [HZD.out]) | (refine wpList_store_row rfl 34 _ _ rfl w1.heap.size dm rfl rfl 34 _ ZA.out SD.out ZD.out OD.out ?_; rw [HW2.out]) | (refine wpList_alloc_aggT HZ0.out rfl rfl ?_; rw [HW3.out]) | fail)
 go_loopw [5] (fun i wr => ∃ I : Nat, I <= 16 /\ i = .int .i64 (I : Int) /\ Hid (wr.heap[w2.heap.size]? = some (.cells (cellsB (partT L I)) 84 (0, 0))) /\ Hid (w3.grownBy wr (some w2.heap.size))) (fun i _ => 16 - (intOf i).toNat)
 case atStart => exact ⟨0, Nat.zero_le _, rfl, I3, ⟨rfl, rfl, rfl, Nat.le_refl _, fun _ _ _ => rfl⟩⟩
 case round =>
  obtain ⟨I, hI, rfl, HF, HG⟩ := hrel
  by_cases hlt : I < 16
  ·have hy : wr.heap[w1.heap.size]? = some (.cells dm 34 (0, 0)) := (HG.out.block _ (Array.getElem?_eq_some_iff.1 Y3.out).1 (fun e => HN1.out (by simpa using e))).trans Y3.out
   obtain ⟨x, HX⟩ : ∃ x, Hid (L.getD I 0 = x) := ⟨_, rfl⟩
   have hx : wr.cell? ⟨w1.heap.size, I, none⟩ = some (.int .u8 x) := by
    rw [cell_of_row wr _ _ _ _ _ hy, <- HDM.out, <- HX.out, <- HLL.out]
    have q := HDl.out
    simp [cellsB, List.getD, List.getElem?_take, show I < 16 from hlt, List.getElem?_eq_getElem (show I < D.length by omega)]
   have hcs := partT_length L I (by rw [HYL.out]; exact hI)
   have hci : ∃ z, wr.cell? ⟨w2.heap.size, I, none⟩ = some z := by
    rw [cell_of_row wr w2.heap.size I _ _ _ HF.out]
    exact ⟨_, Array.getElem?_eq_getElem (by rw [cellsB_size, hcs, HYL.out]; exact hlt)⟩
   obtain ⟨z, hz⟩ := hci
   have hfz : wr.frozen? ⟨w2.heap.size, I, none⟩ = false := by simp [World.frozen?, HF.out]
   have HST : Hid (partT L (I + 1) = (partT L I).set I x) := by
    show _ = _
    rw [<- HX.out]
    exact (partT_step L I (by rw [HYL.out]; exact hlt)).symm
   have hI16 : (I : Int) < 16 := by omega
   have hI32 : (I : Int) < 32 := by omega
   clear hcs hy
   go_wp2
   refine ⟨⟨I + 1, by omega, by go_num, ?_, ?_⟩, by simp [intOf]; omega⟩
   ·rw [HST.out, <- cellsB_setT]
    exact heap_setCell_same wr w2.heap.size I _ _ _ HF.out
   ·exact grown_trans HG.out (grown_set _ _ _ _)
  ·have hI' : I = 16 := by omega
   subst hI'
   have HFL : Hid (wr.heap[w2.heap.size]? = some (.cells y 84 (0, 0))) := by
    have q := HF.out
    rw [show partT L 16 = L by rw [<- HYL.out]; exact partT_all L, HY.out] at q
    exact q
   have R4 : Hid (wr.heap[w.heap.size + 1]? = some (.cells zi 84 (0, 0))) := hid ((HG.out.block _ (Array.getElem?_eq_some_iff.1 R3.out).1 (fun e => HN2.out (by simpa using e))).trans R3.out)
   have B4 : Hid (Below w.heap.size w wr) := hid (B3.out.grown HG.out B3.out.size (fun k e => by cases e; exact HSB.out))
   go_wp2_with (first | (refine wpList_load_row rfl 84 _ rfl w2.heap.size rfl 84 y (0, 0) _ HFL.out Tryd.underlying84 rfl SI.out ?_) | (refine wpList_store_row rfl 84 _ _ rfl (w.heap.size + 1) y rfl rfl 84 _ R4.out SI.out ZY.out OY.out ?_) | fail)
   refine bodyPost_ret (v := .agg y) (results_cell_row (p := 2) (ty := 84) rfl _ _ (w.heap.size + 1) 84 y (0, 0) _ rfl (setRow_heap _ _ _ _ _ _ R4.out) Tryd.underlying84 rfl SI.out) rfl ?_
   exact ⟨rfl, bel_set5 B4.out (by omega) _⟩
theorem trootC (w : World) (x : List Int) (hx : D32 x) (hk : KC w) : Calls Tryd.prog 52 #[.agg (cellsB x)] w fun e w' => e = .returned (.agg (cellsB (tdL 5 [x]))) /\ Below w.heap.size w w' := by
 obtain ⟨zd, HZD⟩ : ∃ zd, Hid (cellsB zeros32 = zd) := ⟨_, rfl⟩
 obtain ⟨cl, HCL⟩ : ∃ c, Hid (cellsB x = c) := ⟨_, rfl⟩
 rw [HCL.out]
 have e3 : (w.alloc (.cells cl 34)).heap.size = w.heap.size + 1 := by simp
 obtain ⟨W0, hW0⟩ : ∃ W0, Hid ((w.alloc (.cells cl 34)).alloc (.cells zd 34) = W0) := ⟨_, rfl⟩
 have B0 : Hid (Below w.heap.size w W0) := by rw [<- hW0.out]; exact ((Below.refl _ w).alloc (Nat.le_refl _) _).alloc (by simp) _
 have Z0 : Hid (W0.heap.size = w.heap.size + 2) := by rw [<- hW0.out]; refine hid ?_; simp
 have H1 : Hid (W0.heap[w.heap.size]? = some (.cells cl 34 (0, 0))) := by
  rw [<- hW0.out]
  refine hid ?_
  rw [heap_alloc_old _ _ (by simp)]
  exact heap_alloc_new w _
 have H2 : Hid (W0.heap[w.heap.size + 1]? = some (.cells zd 34 (0, 0))) := by
  rw [<- hW0.out, <- e3]
  exact heap_alloc_new _ _
 obtain ⟨W1, hW1⟩ : ∃ W1, Hid (W0.alloc (.cells #[.slice (some ⟨w.heap.size, 0, none⟩) 32 32] 30) = W1) := ⟨_, rfl⟩
 have BA : Hid (Below W0.heap.size W0 W1) := by rw [<- hW1.out]; exact (Below.refl W0.heap.size W0).alloc (Nat.le_refl _) _
 have HA : Hid (W1.heap[W0.heap.size]? = some (.cells #[.slice (some ⟨w.heap.size, 0, none⟩) 32 32] 30 (0, 0))) := by rw [<- hW1.out]; exact heap_alloc_new W0 _
 have hz0 := Z0.out
 have HB1 : HB W1 (.slice (some ⟨w.heap.size, 0, none⟩) 32 32) x := HB.row (T := 34) (by rw [BA.out.block _ (by omega), H1.out, HCL.out]) hx.1 (by decide) hx.2
 have C1 := tofC W1 5 _ [x] (HL.one5 HA.out HB1) (fun q hq => by simp at hq; subst hq; rw [hx.1]; omega) ((hk.below B0.out).below BA.out)
 obtain ⟨D, HD⟩ : ∃ D, Hid (tdL 5 [x] = D) := ⟨_, rfl⟩
 have HDl : Hid (D.length = 32) := by rw [<- HD.out]; exact hid (tdL_length _ _)
 rw [HD.out] at C1 ⊢
 obtain ⟨dm, HDM⟩ : ∃ dm, Hid (cellsB D = dm) := ⟨_, rfl⟩
 rw [HDM.out] at C1 ⊢
 have C1 := hid C1
 have SD : Hid ((Tryd.prog.info? 34).map (·.size) = some dm.size) := by refine hid ?_; rw [<- HDM.out, cellsB_size, HDl.out]; exact size_digest
 have OD : Hid (dm.all (·.oneCell') = true) := by refine hid ?_; rw [<- HDM.out]; exact cellsB_one _
 have ZD : Hid (zd.size = dm.size) := by refine hid ?_; rw [<- HZD.out, <- HDM.out, cellsB_size, cellsB_size, HDl.out, zeros32_length]
 clear hx hk HB1 hz0
 go_enter Tryd.func52, Tryd.ntmps52
 go_wp2_with (first | (refine wpList_alloc_digest rfl rfl ?_; rw [HZD.out, hW0.out, e3]) | rw [hW1.out] | fail)
 refine C1.out.mono ?_
 rintro e w1 ⟨rfl, hb1⟩
 have B1 := hid ((B0.out.trans (BA.out.mono B0.out.size)).trans (hb1.mono (Nat.le_trans B0.out.size BA.out.size)))
 have R2 : Hid (w1.heap[w.heap.size + 1]? = some (.cells zd 34 (0, 0))) := hid (by
  rw [hb1.block _ (by have := BA.out.size; have := Z0.out; omega), BA.out.block _ (by have := Z0.out; omega)]
  exact H2.out)
 clear hb1 C1
 go_wp2_with (first | (refine wpList_store_row rfl 34 _ _ rfl (w.heap.size + 1) dm rfl rfl 34 _ R2.out SD.out ZD.out OD.out ?_) | fail)
 refine bodyPost_ret (v := .agg dm) (results_cell_row (p := 2) (ty := 34) rfl _ _ (w.heap.size + 1) 34 dm (0, 0) _ rfl (setRow_heap _ _ _ _ _ _ R2.out) Tryd.underlying34 rfl SD.out) rfl ?_
 exact ⟨rfl, bel_set5 B1.out (by omega) _⟩
theorem rrootC (w : World) (x : List Int) (hx : D32 x) : Calls Tryd.prog 53 #[.agg (cellsB x)] w fun e w' => e = .returned (.agg (cellsB (digL (byL 5 [x])))) /\ Below w.heap.size w w' := by
 obtain ⟨zd, HZD⟩ : ∃ zd, Hid (cellsB zeros32 = zd) := ⟨_, rfl⟩
 obtain ⟨cl, HCL⟩ : ∃ c, Hid (cellsB x = c) := ⟨_, rfl⟩
 rw [HCL.out]
 have e3 : (w.alloc (.cells cl 34)).heap.size = w.heap.size + 1 := by simp
 obtain ⟨W0, hW0⟩ : ∃ W0, Hid ((w.alloc (.cells cl 34)).alloc (.cells zd 34) = W0) := ⟨_, rfl⟩
 have B0 : Hid (Below w.heap.size w W0) := by rw [<- hW0.out]; exact ((Below.refl _ w).alloc (Nat.le_refl _) _).alloc (by simp) _
 have Z0 : Hid (W0.heap.size = w.heap.size + 2) := by rw [<- hW0.out]; refine hid ?_; simp
 have H1 : Hid (W0.heap[w.heap.size]? = some (.cells cl 34 (0, 0))) := by
  rw [<- hW0.out]
  refine hid ?_
  rw [heap_alloc_old _ _ (by simp)]
  exact heap_alloc_new w _
 have H2 : Hid (W0.heap[w.heap.size + 1]? = some (.cells zd 34 (0, 0))) := by
  rw [<- hW0.out, <- e3]
  exact heap_alloc_new _ _
 obtain ⟨W1, hW1⟩ : ∃ W1, Hid (W0.alloc (.cells #[.slice (some ⟨w.heap.size, 0, none⟩) 32 32] 30) = W1) := ⟨_, rfl⟩
 have BA : Hid (Below W0.heap.size W0 W1) := by rw [<- hW1.out]; exact (Below.refl W0.heap.size W0).alloc (Nat.le_refl _) _
 have HA : Hid (W1.heap[W0.heap.size]? = some (.cells #[.slice (some ⟨w.heap.size, 0, none⟩) 32 32] 30 (0, 0))) := by rw [<- hW1.out]; exact heap_alloc_new W0 _
 have hz0 := Z0.out
 have HB1 : HB W1 (.slice (some ⟨w.heap.size, 0, none⟩) 32 32) x := HB.row (T := 34) (by rw [BA.out.block _ (by omega), H1.out, HCL.out]) hx.1 (by decide) hx.2
 have C1 := rdigestC W1 5 _ [x] (HL.one5 HA.out HB1) (by simp [hx.1]) (fun q hq => by simp at hq; subst hq; exact hx.2)
 obtain ⟨D, HD⟩ : ∃ D, Hid (digL (byL 5 [x]) = D) := ⟨_, rfl⟩
 have HDl : Hid (D.length = 32) := by rw [<- HD.out]; exact hid (digL_length _)
 rw [HD.out] at C1 ⊢
 obtain ⟨dm, HDM⟩ : ∃ dm, Hid (cellsB D = dm) := ⟨_, rfl⟩
 rw [HDM.out] at C1 ⊢
 have C1 := hid C1
 have SD : Hid ((Tryd.prog.info? 34).map (·.size) = some dm.size) := by refine hid ?_; rw [<- HDM.out, cellsB_size, HDl.out]; exact size_digest
 have OD : Hid (dm.all (·.oneCell') = true) := by refine hid ?_; rw [<- HDM.out]; exact cellsB_one _
 have ZD : Hid (zd.size = dm.size) := by refine hid ?_; rw [<- HZD.out, <- HDM.out, cellsB_size, cellsB_size, HDl.out, zeros32_length]
 clear hx HB1 hz0
 go_enter Tryd.func53, Tryd.ntmps53
 go_wp2_with (first | (refine wpList_alloc_digest rfl rfl ?_; rw [HZD.out, hW0.out, e3]) | rw [hW1.out] | fail)
 refine C1.out.mono ?_
 rintro e w1 ⟨rfl, hb1⟩
 have B1 := hid ((B0.out.trans (BA.out.mono B0.out.size)).trans (hb1.mono (Nat.le_trans B0.out.size BA.out.size)))
 have R2 : Hid (w1.heap[w.heap.size + 1]? = some (.cells zd 34 (0, 0))) := hid (by
  rw [hb1.block _ (by have := BA.out.size; have := Z0.out; omega), BA.out.block _ (by have := Z0.out; omega)]
  exact H2.out)
 clear hb1 C1
 go_wp2_with (first | (refine wpList_store_row rfl 34 _ _ rfl (w.heap.size + 1) dm rfl rfl 34 _ R2.out SD.out ZD.out OD.out ?_) | fail)
 refine bodyPost_ret (v := .agg dm) (results_cell_row (p := 2) (ty := 34) rfl _ _ (w.heap.size + 1) 34 dm (0, 0) _ rfl (setRow_heap _ _ _ _ _ _ R2.out) Tryd.underlying34 rfl SD.out) rfl ?_
 exact ⟨rfl, bel_set5 B1.out (by omega) _⟩
end Go.Proofs.YtcpchhigiohlnaaDoor
