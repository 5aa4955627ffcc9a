/- Of the road to tagCallsUptoCard_holds: ShaTake, ShaMade, ShaWrite, ShaPad, ShaSum. -/
import Derived.Test.YtcpchhigiohlnaaDoorG02
import Derived.Deep.RegionHeld3
import Derived.Deep.QuietTactic
import Derived.BigQuiet
import Derived.Test.YtcpchhigiohlnaaDoorG01
import Derived.Test.YtcpchhigiohlnaaDoorG00
import Derived.Laws.OwnMore
set_option linter.unusedVariables false
set_option linter.unusedSimpArgs false
set_option maxRecDepth 100000
set_option maxHeartbeats 16000000
namespace Go.Proofs.YtcpchhigiohlnaaDoor
open Go.RowKit
def Off (v : Value) (g : Nat) : Prop := ∀ p l c, v = .slice p l c -> 0 < l -> v.ownBlock ≠ some g
theorem off_suf (p : Option Addr) (c k l n g : Nat) (h : Off (.slice p l n) g) : Off (.slice (if c = k then p else p.map (·.add k)) (l - k) (c - k)) g := by
 intro p' l' c' e hl
 simp only [Value.slice.injEq] at e
 exact suf_own p c k l n g (h _ _ _ rfl (by omega))
theorem HB.aw {w w' : World} {u : Value} {l : List Int} {g : Nat} (h : HB w u l) (hg : w.grownBy w' (some g)) (hu : Off u g) : HB w' u l := by
 obtain ⟨⟨p, c, rfl, h2, h3, h6, h4⟩, h5⟩ := h
 refine ⟨⟨p, c, rfl, h2, h3, h6, fun hl => ?_⟩, h5⟩
 obtain ⟨b, off, rfl, hh⟩ := h4 hl
 exact ⟨b, off, rfl, fun j hj => hg.cell (hh j hj) (by
  intro e
  exact hu _ _ _ rfl (by omega) (by simpa [Value.ownBlock] using e))⟩
theorem take_hash (w : World) (g : Nat) (m : List Int) (v : Value) (b : List Int) (h : HM w g m) (hb : HB w v b) (hv : Off v g) (hk : KC w) (hg0 : g ≠ 0) (hlen : m.length + b.length <= 1152921504606846976) :
  Calls Tryd.prog 68 #[.pointer (some ⟨g, 0, none⟩), v] w fun e w' => e = .returned (.tuple #[]) /\ HM w' g (m ++ b) /\ w.grownBy w' (some g) := by
 obtain ⟨rest, hs, hrt, hmb⟩ := h
 obtain ⟨p, c, ev, hlc, hcm⟩ := hb.open
 unfold maxLen at hcm
 have HS := hid hs
 have HRT := hid hrt
 have HMB := hid hmb
 have HBv := hid hb
 have HKC := hid hk
 have c80 := hs.sz
 have hfz : w.frozen? ⟨g, 80, none⟩ = false := by have := (hs.th 80 (by decide)).2; simpa using this
 subst ev
 have HV := hid hv
 obtain ⟨n, HN⟩ : ∃ n, Hid (m.length = n) := ⟨_, rfl⟩
 rw [HN.out] at c80 hlen
 clear hs hrt hmb hb hk hv
 obtain ⟨N, HNN⟩ : ∃ N, Hid (n + b.length = N) := ⟨_, rfl⟩
 have hNc : ((n : Int) + (b.length : Int)) = (N : Int) := by rw [<- HNN.out]; omega
 obtain ⟨W1, hW1⟩ : ∃ W1, Hid (w.setCell ⟨g, 80, none⟩ (.int .i64 (N : Int)) = W1) := ⟨_, rfl⟩
 have HS1 : Hid (HSt W1 g (wAt m (n / 64)) rest N) := by
  rw [<- hW1.out, <- HN.out]
  exact HS.out.size N
 have G1 : Hid (w.grownBy W1 (some g)) := by rw [<- hW1.out]; exact grown_sets _ _ _ _
 have HB1 := hid (HBv.out.aw G1.out HV.out)
 have HK1 : Hid (KC W1) := fun t ht => G1.out.cell (HKC.out t ht) (by simpa using hg0.symm)
 obtain ⟨held, HH⟩ : ∃ held, Hid (n % 64 = held) := ⟨_, rfl⟩
 have hhc : ((n : Int) % 64) = (held : Int) := by rw [<- HH.out]; omega
 have hh64 : held < 64 := by rw [<- HH.out]; omega
 obtain ⟨M, HM2⟩ : ∃ M, Hid (m ++ b = M) := ⟨_, rfl⟩
 have HML : Hid (M.length = N) := by
  show _ = _
  rw [<- HM2.out, List.length_append, HN.out]
  exact HNN.out
 have HMB2 : Hid (∀ x ∈ M, 0 <= x /\ x < 256) := by
  rw [<- HM2.out]
  intro x hx
  rcases List.mem_append.1 hx with h1 | h1
  ·exact HMB.out x h1
  ·exact HBv.out.2 x h1
 rw [HM2.out]
 go_enter Tryd.func68, Tryd.ntmps68
 by_cases hheld : 0 < held
 ·have hsl := run_slice_rest g held hh64
  obtain ⟨k, HKK⟩ : ∃ k, Hid (k = min (64 - held) b.length) := ⟨_, rfl⟩
  have hcp := run_copy_rest W1 g held _ rest N HS1.out (by omega) 3 _ b HB1.out k HKK.out
  have hW1' := hW1.out
  have hkb : k <= b.length := by rw [HKK.out]; omega
  have hk64 : held + k <= 64 := by rw [HKK.out]; omega
  obtain ⟨p2, HP2⟩ : ∃ p2, Hid ((if c = k then p else p.map (·.add k)) = p2) := ⟨_, rfl⟩
  have hss := run_slice_suf p b.length c k hkb
  rw [HP2.out] at hss
  have HBS : Hid (HB W1 (.slice p2 (b.length - k) (c - k)) (b.drop k)) := by
   rw [<- HP2.out]
   exact HB1.out.suf k hkb
  have HOS : Hid (Off (.slice p2 (b.length - k) (c - k)) g) := by
   rw [<- HP2.out]
   exact off_suf p c k b.length c g HV.out
  obtain ⟨W2, hW2⟩ : ∃ W2, Hid (W1.setCells g (16 + held) (bcells (b.take k)) = W2) := ⟨_, rfl⟩
  rw [hW2.out] at hcp
  have HS2 : Hid (HSt W2 g (wAt m (n / 64)) (putAt rest held (b.take k)) N) := by
   rw [<- hW2.out]
   exact HS1.out.put held (b.take k) (by rw [List.length_take]; omega) (fun x hx => HB1.out.2 x (List.mem_of_mem_take hx))
  have G12 : Hid (W1.grownBy W2 (some g)) := by rw [<- hW2.out]; exact grown_setCells g _ _ _
  have G2 := hid (grown_tr G1.out G12.out)
  have HK2 : Hid (KC W2) := fun t ht => G2.out.cell (HKC.out t ht) (by simpa using hg0.symm)
  have HB2 := hid (HBS.out.aw G12.out HOS.out)
  clear hW2
  by_cases hret : held + k < 64
  -- all goes into the rest
  ·have hkk : k = b.length := by have := HKK.out; omega
   have HFN : Hid (HM W2 g M) := by
    rw [<- HM2.out]
    have hs2 := HS2.out
    rw [hkk, List.take_of_length_le (Nat.le_refl _), <- HNN.out, <- HH.out, <- HN.out] at hs2
    exact HM.fill hs2 HRT.out HS.out.rl HMB.out HBv.out.2 (by rw [HN.out, HH.out]; omega)
   clear hkk
   go_wp2_with (at_builtin; refine Lib.wpList_copy_run _ rfl _ _ 30 30 rfl _ _ rfl rfl hcp ?_)
   refine bodyPost_ret (results_none rfl _ _ _) rfl ?_
   exact ⟨rfl, HFN.out, G2.out⟩
  go_wp2_with (at_builtin; refine Lib.wpList_copy_run _ rfl _ _ 30 30 rfl _ _ rfl rfl hcp ?_)
  obtain ⟨ww, HWW⟩ : ∃ ww, Hid (wAt m (n / 64) = ww) := ⟨_, rfl⟩
  obtain ⟨bk, HBK⟩ : ∃ bk, Hid (putAt rest held (b.take k) = bk) := ⟨_, rfl⟩
  rw [HWW.out, HBK.out] at HS2
  obtain ⟨vv, HVE⟩ : ∃ vv, Hid (mixL ww bk = vv) := ⟨_, rfl⟩
  have HVV : Hid (W8 vv) := by rw [<- HVE.out]; exact HS2.out.w8.mix
  have CM := mix_any W2.drew ww bk HS2.out.w8 HS2.out.rl HS2.out.rb HK2.out
  rw [HVE.out] at CM
  have CM2 := hid CM
  have RW : Hid (W2.drew.rangeAt g 8 (wcells ww)) := HS2.out.wv
  have RB : Hid (W2.drew.rangeAt g 16 (bcells bk)) := HS2.out.rv
  have SW : Hid ((Tryd.prog.info? 69).map (·.size) = some (wcells ww).length) := by rw [wcells_length, HS2.out.w8.1]; exact size_w8
  have SB : Hid ((Tryd.prog.info? 71).map (·.size) = some (bcells bk).length) := by rw [bcells_length, HS2.out.rl]; exact size_b64
  have SV : Hid ((Tryd.prog.info? 69).map (·.size) = some (cellsW vv).size) := by rw [cellsW_size, HVV.out.1]; exact size_w8
  have SO : Hid ((cellsW vv).all (·.oneCell') = true) := cellsW_one _
  have HWS : Hid (wAt M (n / 64 + 1) = vv) := by
   show mixL (wAt M (n / 64)) (blkOf M (n / 64)) = vv
   have hk' := HKK.out
   have hb' : blkOf M (n / 64) = bk := by
    rw [<- HBK.out, <- HM2.out, <- HH.out, <- HN.out]
    exact (blk_fill HRT.out HS.out.rl (by rw [HN.out, HH.out]; omega) hkb).symm
   rw [hb', <- HM2.out, wAt_app (by rw [HN.out]; omega), HWW.out, HVE.out]
  have HMD : Hid (M.drop (64 * (n / 64 + 1)) = b.drop k) := by
   show _ = _
   have h2 := HH.out
   have hk' := HKK.out
   rw [<- HM2.out, List.drop_append, List.drop_eq_nil_of_le (by rw [HN.out]; omega), List.nil_append, HN.out, show 64 * (n / 64 + 1) - n = k by omega]
  clear CM
  refine wp_region_any (by kernel_rfl) ?_
  change wpAny _ _ _ _ _ _ _ (World.drew _)
  refine wpAny_take (i := 0) (oi := { dst := some 36, op := Op.move (Operand.tmp 0), type := 100, pos := "hash.go:41", after := #[], guard := none }) (v := .pointer (some ⟨g, 0, none⟩)) rfl (by kernel_rfl) (by kernel_rfl) (by kernel_rfl) (fun _ _ _ h => h) (Or.inl ⟨by rfl, ?q0⟩) ?_
  case q0 => intro w; first | (go_simp; done) | (go_simp; rfl)
  simp only [Act.put, lay6]
  refine wpAny_take (i := 1) (oi := { dst := some 37, op := Op.move (Operand.tmp 0), type := 100, pos := "hash.go:41", after := #[], guard := none }) (v := .pointer (some ⟨g, 0, none⟩)) rfl (by kernel_rfl) (by kernel_rfl) (by kernel_rfl) (fun _ _ _ h => h) (Or.inl ⟨by rfl, ?q1⟩) ?_
  case q1 => intro w; first | (go_simp; done) | (go_simp; rfl)
  simp only [Act.put, lay6]
  refine wpAny_take (i := 2) (oi := { dst := some 38, op := Op.nilCheck (Operand.tmp 37), type := 0, pos := "hash.go:41", after := #[{ on := 1, ground := Ground.data }], guard := none }) (v := .pointer (some ⟨g, 0, none⟩)) rfl (by kernel_rfl) (by kernel_rfl) (by kernel_rfl) (fun _ _ _ h => h) (Or.inl ⟨by rfl, ?q2⟩) ?_
  case q2 => intro w; first | (go_simp; done) | (go_simp; rfl)
  simp only [Act.put, lay6]
  refine wpAny_take (i := 3) (oi := { dst := some 39, op := Op.fieldAddr 109 (Operand.tmp 38) 1, type := 0, pos := "hash.go:41", after := #[{ on := 2, ground := Ground.data }], guard := none }) (v := .pointer (some ⟨g, 8, none⟩)) rfl (by kernel_rfl) (by kernel_rfl) (by kernel_rfl) (fun _ _ _ h => h) (Or.inl ⟨by rfl, ?q3⟩) ?_
  case q3 => intro w; first | (go_simp; done) | (go_simp; rfl)
  simp only [Act.put, lay6]
  refine wpAny_take (i := 5) (oi := { dst := some 41, op := Op.move (Operand.tmp 0), type := 100, pos := "hash.go:41", after := #[], guard := none }) (v := .pointer (some ⟨g, 0, none⟩)) rfl (by kernel_rfl) (by kernel_rfl) (by kernel_rfl) (fun _ _ _ h => h) (Or.inl ⟨by rfl, ?q5⟩) ?_
  case q5 => intro w; first | (go_simp; done) | (go_simp; rfl)
  simp only [Act.put, lay6]
  refine wpAny_take (i := 6) (oi := { dst := some 42, op := Op.nilCheck (Operand.tmp 41), type := 0, pos := "hash.go:41", after := #[{ on := 5, ground := Ground.data }], guard := none }) (v := .pointer (some ⟨g, 0, none⟩)) rfl (by kernel_rfl) (by kernel_rfl) (by kernel_rfl) (fun _ _ _ h => h) (Or.inl ⟨by rfl, ?q6⟩) ?_
  case q6 => intro w; first | (go_simp; done) | (go_simp; rfl)
  simp only [Act.put, lay6]
  refine wpAny_take (i := 7) (oi := { dst := some 43, op := Op.fieldAddr 109 (Operand.tmp 42) 2, type := 0, pos := "hash.go:41", after := #[{ on := 6, ground := Ground.data }], guard := none }) (v := .pointer (some ⟨g, 16, none⟩)) rfl (by kernel_rfl) (by kernel_rfl) (by kernel_rfl) (fun _ _ _ h => h) (Or.inl ⟨by rfl, ?q7⟩) ?_
  case q7 => intro w; first | (go_simp; done) | (go_simp; rfl)
  simp only [Act.put, lay6]
  refine wpAny_all (rs := [4, 8]) (by kernel_rfl) (by simp) (fun j hj => ?_)
  have hj2 : j = 4 \/ j = 8 := by simpa using hj
  clear hj
  rcases hj2 with rfl | rfl
  ·refine wpOp_of_wp (o := { dst := some 40, op := Op.load 69 (Operand.tmp 39), type := 69, pos := "hash.go:41", after := #[{ on := 3, ground := Ground.data }], guard := none }) rfl rfl ?_
   refine wp_load_mid 69 _ rfl g 8 rfl (wcells ww) _ RW.out Tryd.underlying69 rfl SW.out ?_
   simp only [Act.put, lay6]
   refine wpAny_all (rs := [8]) (by kernel_rfl) (by simp) (fun j hj => ?_)
   obtain rfl : j = 8 := by simpa using hj
   clear hj
   refine wpOp_of_wp (o := { dst := some 44, op := Op.load 71 (Operand.tmp 43), type := 71, pos := "hash.go:41", after := #[{ on := 7, ground := Ground.data }], guard := none }) rfl rfl ?_
   refine wp_load_mid 71 _ rfl g 16 rfl (bcells bk) _ RB.out Tryd.underlying71 rfl SB.out ?_
   simp only [Act.put, lay6]
   refine wpAny_all (rs := [9]) (by kernel_rfl) (by simp) (fun j hj => ?_)
   obtain rfl : j = 9 := by simpa using hj
   clear hj
   refine wpOp_of_wp (o := { dst := some 45, op := Op.call { callee := Callee.value (Operand.func 77), args := #[Operand.tmp 40, Operand.tmp 44], argTypes := #[69, 71] }, type := 69, pos := "hash.go:41", after := #[{ on := 4, ground := Ground.data }, { on := 8, ground := Ground.data }], guard := none }) rfl rfl ?_
   generalize hKK : wpAny _ _ _ _ _ _ = K
   go_simp
   refine (CM2.out).mono ?_
   rintro e wm ⟨rfl, hBm⟩
   rw [<- hKK]
   clear hKK K
   refine wpAny_take (i := 10) (oi := { dst := some 46, op := Op.nilCheck (Operand.tmp 36), type := 0, pos := "hash.go:41", after := #[{ on := 0, ground := Ground.data }, { on := 0, ground := Ground.phase }, { on := 1, ground := Ground.phase }, { on := 2, ground := Ground.phase }, { on := 3, ground := Ground.phase }, { on := 4, ground := Ground.phase }, { on := 5, ground := Ground.phase }, { on := 6, ground := Ground.phase }, { on := 7, ground := Ground.phase }, { on := 8, ground := Ground.phase }, { on := 9, ground := Ground.phase }], guard := none }) (v := .pointer (some ⟨g, 0, none⟩)) rfl (by kernel_rfl) (by kernel_rfl) (by kernel_rfl) (fun _ _ _ h => h) (Or.inl ⟨by rfl, ?q10⟩) ?_
   case q10 => intro w; first | (go_simp; done) | (go_simp; rfl)
   simp only [Act.put, lay6]
   refine wpAny_take (i := 11) (oi := { dst := some 47, op := Op.fieldAddr 109 (Operand.tmp 46) 1, type := 0, pos := "hash.go:41", after := #[{ on := 10, ground := Ground.data }, { on := 0, ground := Ground.phase }, { on := 1, ground := Ground.phase }, { on := 2, ground := Ground.phase }, { on := 3, ground := Ground.phase }, { on := 4, ground := Ground.phase }, { on := 5, ground := Ground.phase }, { on := 6, ground := Ground.phase }, { on := 7, ground := Ground.phase }, { on := 8, ground := Ground.phase }, { on := 9, ground := Ground.phase }], guard := none }) (v := .pointer (some ⟨g, 8, none⟩)) rfl (by kernel_rfl) (by kernel_rfl) (by kernel_rfl) (fun _ _ _ h => h) (Or.inl ⟨by rfl, ?q11⟩) ?_
   case q11 => intro w; first | (go_simp; done) | (go_simp; rfl)
   simp only [Act.put, lay6]
   have HSm := hid ((HS2.out.block (C := W2.drew) rfl).below hBm)
   have TH : Hid (wm.there g 8 (cellsW vv).size) := by
    rw [cellsW_size, HVV.out.1]
    exact there_sub HSm.out.th 8 8 (by decide)
   refine wpAny_all (rs := [12]) (by kernel_rfl) (by simp) (fun j hj => ?_)
   obtain rfl : j = 12 := by simpa using hj
   clear hj
   refine wpOp_of_wp (o := { dst := none, op := Op.store 69 (Operand.tmp 47) (Operand.tmp 45), type := 0, pos := "hash.go:41", after := #[{ on := 11, ground := Ground.data }, { on := 9, ground := Ground.data }, { on := 9, ground := Ground.chain }, { on := 0, ground := Ground.phase }, { on := 1, ground := Ground.phase }, { on := 2, ground := Ground.phase }, { on := 3, ground := Ground.phase }, { on := 4, ground := Ground.phase }, { on := 5, ground := Ground.phase }, { on := 6, ground := Ground.phase }, { on := 7, ground := Ground.phase }, { on := 8, ground := Ground.phase }, { on := 9, ground := Ground.phase }], guard := none }) rfl rfl ?_
   refine wp_store_mid 69 _ _ rfl g 8 (cellsW vv) rfl rfl TH.out SV.out SO.out ?_
   simp only [Act.put]
   refine wpAny_done (by kernel_rfl) ?_ _
   obtain ⟨W3, hW3⟩ : ∃ W3, Hid (wm.setCells g 8 (cellsW vv).toList = W3) := ⟨_, rfl⟩
   rw [hW3.out]
   have G23 : Hid (W2.grownBy W3 (some g)) := by
    rw [<- hW3.out]
    exact grown_tr (grown_tr (b := W2.drew) ⟨rfl, rfl, rfl, Nat.le_refl _, fun _ _ _ => rfl⟩ (grown_below hBm)) (grown_setCells g _ _ _)
   have HS3 : Hid (HSt W3 g (wAt M (n / 64 + 1)) bk N) := by
    rw [<- hW3.out, HWS.out]
    exact HSm.out.words vv HVV.out
   have HB3 : Hid (HB W3 (.slice p2 (b.length - k) (c - k)) (M.drop (64 * (n / 64 + 1)))) := by
    rw [HMD.out]
    exact HB2.out.aw G23.out HOS.out
   have HO3 := HOS
   have G3 := hid (grown_tr G2.out G23.out)
   have HL3 : Hid (64 * (n / 64 + 1) + (b.length - k) = N) := by
    show _ = _
    have h1 := HNN.out
    have h2 := HH.out
    omega
   have hl3 : b.length - k <= c - k := by omega
   have hc3 : c - k <= 9223372036854775807 := by omega
   clear hW3 hBm
   go_wp2
   clear hheld hhc
   go_loopw [1] (fun v wr => ∃ (cc : Nat) (pp : Option Addr) (L cp : Nat) (rr : List Int), v = .slice pp L cp /\ L <= cp /\ cp <= 9223372036854775807 /\ Hid (64 * cc + L = N) /\ Hid (HSt wr g (wAt M cc) rr N) /\ Hid (HB wr (.slice pp L cp) (M.drop (64 * cc))) /\ Hid (Off (.slice pp L cp) g) /\ Hid (w.grownBy wr (some g))) (fun v _ => lenV v)
   case atStart => exact ⟨_, _, _, _, _, rfl, hl3, hc3, HL3, HS3, HB3, HO3, G3⟩
   case round =>
    clear HL3 HS3 HB3 HO3 G3 hl3 hc3
    obtain ⟨cc, pp, L, cp, rr, rfl, hLc, hcp9, HLN, HS2, HB2, HO2, G2⟩ := hrel
    have HLL : Hid ((M.drop (64 * cc)).length = L) := by
     show _ = _
     rw [List.length_drop, HML.out]
     have := HLN.out
     omega
    by_cases hL : 64 <= L
    ·obtain ⟨W2, hW2⟩ : ∃ W2, Hid (W2 = wr) := ⟨_, rfl⟩
     rw [<- hW2.out] at HS2 HB2 G2 ⊢
     obtain ⟨bb, off, cp', ep, _, _, hcl⟩ := HB2.out.ne (by rw [HLL.out]; omega)
     simp only [Value.slice.injEq] at ep
     obtain ⟨rfl, -, rfl⟩ := ep
     obtain ⟨ww, HWW⟩ : ∃ ww, Hid (wAt M cc = ww) := ⟨_, rfl⟩
     obtain ⟨bk, HBK⟩ : ∃ bk, Hid (blkOf M cc = bk) := ⟨_, rfl⟩
     rw [HWW.out] at HS2
     have hbkl : bk.length = 64 := by
      rw [<- HBK.out]
      exact blkOf_length (by rw [HML.out, <- HLN.out]; omega)
     have hbkb : ∀ x ∈ bk, 0 <= x /\ x < 256 := by rw [<- HBK.out]; exact blkOf_byt HMB2.out cc
     obtain ⟨vv, HVE⟩ : ∃ vv, Hid (mixL ww bk = vv) := ⟨_, rfl⟩
     have HVV : Hid (W8 vv) := by rw [<- HVE.out]; exact HS2.out.w8.mix
     have HK2 : Hid (KC W2) := fun t ht => G2.out.cell (HKC.out t ht) (by simpa using hg0.symm)
     have CM := mix_any W2.drew ww bk HS2.out.w8 hbkl hbkb HK2.out
     rw [HVE.out] at CM
     have CM2 := hid CM
     have RW : Hid (W2.drew.rangeAt g 8 (wcells ww)) := HS2.out.wv
     have RB : Hid (W2.drew.rangeAt bb off (bcells bk)) := fun j u hu => by
      have hj : j < 64 := by have := (List.getElem?_eq_some_iff.1 hu).1; rw [bcells_length, hbkl] at this; exact this
      have h1 := hcl j (by rw [HLL.out]; omega)
      rw [show W2.drew.cell? ⟨bb, off + j, none⟩ = W2.cell? ⟨bb, off + j, none⟩ from rfl, h1]
      rw [<- HBK.out] at hu
      unfold blkOf at hu
      simp only [bcells, List.getElem?_map, List.getElem?_take, if_pos hj] at hu
      rw [List.getElem?_eq_getElem (show j < (M.drop (64 * cc)).length by rw [HLL.out]; omega), Option.map_some, <- getD_of_lt] at hu
      exact hu
     have SW : Hid ((Tryd.prog.info? 69).map (·.size) = some (wcells ww).length) := by rw [wcells_length, HS2.out.w8.1]; exact size_w8
     have SB : Hid ((Tryd.prog.info? 71).map (·.size) = some (bcells bk).length) := by rw [bcells_length, hbkl]; exact size_b64
     have SV : Hid ((Tryd.prog.info? 69).map (·.size) = some (cellsW vv).size) := by rw [cellsW_size, HVV.out.1]; exact size_w8
     have SO : Hid ((cellsW vv).all (·.oneCell') = true) := cellsW_one _
     have harr := run_arrayAt_b64 bb off L cp hL
     obtain ⟨p4, HP4⟩ : ∃ p4, Hid ((if cp = 64 then (some (⟨bb, off, none⟩ : Addr)) else (some (⟨bb, off, none⟩ : Addr)).map (·.add 64)) = p4) := ⟨_, rfl⟩
     have hss : ∀ W, (Instr.slice 30 (.slice (some ⟨bb, off, none⟩) L cp) (some (.int .i64 64)) none none).run Tryd.prog W = .ok (.slice p4 (L - 64) (cp - 64)) W := fun W => by
      rw [<- HP4.out]
      exact run_slice_suf (some ⟨bb, off, none⟩) L cp 64 hL W
     have HB4 : Hid (HB W2 (.slice p4 (L - 64) (cp - 64)) (M.drop (64 * (cc + 1)))) := by
      rw [<- HP4.out]
      have h1 : HB W2 (.slice (some ⟨bb, off, none⟩) (M.drop (64 * cc)).length cp) (M.drop (64 * cc)) := by rw [HLL.out]; exact HB2.out
      have h2 := h1.suf 64 (by rw [HLL.out]; exact hL)
      rw [HLL.out, List.drop_drop] at h2
      rwa [show 64 * cc + 64 = 64 * (cc + 1) by omega] at h2
     have HO4 : Hid (Off (.slice p4 (L - 64) (cp - 64)) g) := by
      rw [<- HP4.out]
      exact off_suf _ cp 64 L cp g HO2.out
     have HWS : Hid (wAt M (cc + 1) = vv) := by
      show mixL (wAt M cc) (blkOf M cc) = vv
      rw [HWW.out, HBK.out, HVE.out]
     clear CM hcl hbkl hbkb
     go_wp2
     refine wp_region_any (by kernel_rfl) ?_
     change wpAny _ _ _ _ _ _ _ (World.drew _)
     refine wpAny_take (i := 0) (oi := { dst := some 51, op := Op.move (Operand.tmp 0), type := 100, pos := "hash.go:44", after := #[], guard := none }) (v := .pointer (some ⟨g, 0, none⟩)) rfl (by kernel_rfl) (by kernel_rfl) (by kernel_rfl) (fun _ _ _ h => h) (Or.inl ⟨by rfl, ?q0⟩) ?_
     case q0 => intro w; first | (go_simp; done) | (go_simp; rfl)
     simp only [Act.put, lay6]
     refine wpAny_take (i := 1) (oi := { dst := some 52, op := Op.move (Operand.tmp 0), type := 100, pos := "hash.go:44", after := #[], guard := none }) (v := .pointer (some ⟨g, 0, none⟩)) rfl (by kernel_rfl) (by kernel_rfl) (by kernel_rfl) (fun _ _ _ h => h) (Or.inl ⟨by rfl, ?q1⟩) ?_
     case q1 => intro w; first | (go_simp; done) | (go_simp; rfl)
     simp only [Act.put, lay6]
     refine wpAny_take (i := 2) (oi := { dst := some 53, op := Op.nilCheck (Operand.tmp 52), type := 0, pos := "hash.go:44", after := #[{ on := 1, ground := Ground.data }], guard := none }) (v := .pointer (some ⟨g, 0, none⟩)) rfl (by kernel_rfl) (by kernel_rfl) (by kernel_rfl) (fun _ _ _ h => h) (Or.inl ⟨by rfl, ?q2⟩) ?_
     case q2 => intro w; first | (go_simp; done) | (go_simp; rfl)
     simp only [Act.put, lay6]
     refine wpAny_take (i := 3) (oi := { dst := some 54, op := Op.fieldAddr 109 (Operand.tmp 53) 1, type := 0, pos := "hash.go:44", after := #[{ on := 2, ground := Ground.data }], guard := none }) (v := .pointer (some ⟨g, 8, none⟩)) rfl (by kernel_rfl) (by kernel_rfl) (by kernel_rfl) (fun _ _ _ h => h) (Or.inl ⟨by rfl, ?q3⟩) ?_
     case q3 => intro w; first | (go_simp; done) | (go_simp; rfl)
     simp only [Act.put, lay6]
     refine wpAny_take (i := 5) (oi := { dst := some 56, op := Op.move (Operand.tmp 1), type := 30, pos := "hash.go:44", after := #[], guard := none }) (v := .slice (some ⟨bb, off, none⟩) L cp) rfl (by kernel_rfl) (by kernel_rfl) (by kernel_rfl) (fun _ _ _ h => h) (Or.inl ⟨by rfl, ?q5⟩) ?_
     case q5 => intro w; first | (go_simp; done) | (go_simp; rfl)
     simp only [Act.put, lay6]
     refine wpAny_take (i := 6) (oi := { dst := some 57, op := Op.sliceToArrayPointer 71 (Operand.tmp 56), type := 0, pos := "hash.go:44", after := #[{ on := 5, ground := Ground.data }], guard := none }) (v := .pointer (some ⟨bb, off, none⟩)) rfl (by kernel_rfl) (by kernel_rfl) (by kernel_rfl) (fun _ _ _ h => h) (Or.inl ⟨by rfl, ?q6⟩) ?_
     case q6 => intro w; first | (go_simp; done) | (go_simp; rfl)
     simp only [Act.put, lay6]
     refine wpAny_all (rs := [4, 7]) (by kernel_rfl) (by simp) (fun j hj => ?_)
     have hj2 : j = 4 \/ j = 7 := by simpa using hj
     clear hj
     rcases hj2 with rfl | rfl
     ·refine wpOp_of_wp (o := { dst := some 55, op := Op.load 69 (Operand.tmp 54), type := 69, pos := "hash.go:44", after := #[{ on := 3, ground := Ground.data }], guard := none }) rfl rfl ?_
      refine wp_load_mid 69 _ rfl g 8 rfl (wcells ww) _ RW.out Tryd.underlying69 rfl SW.out ?_
      simp only [Act.put, lay6]
      refine wpAny_all (rs := [7]) (by kernel_rfl) (by simp) (fun j hj => ?_)
      obtain rfl : j = 7 := by simpa using hj
      clear hj
      refine wpOp_of_wp (o := { dst := some 58, op := Op.load 71 (Operand.tmp 57), type := 71, pos := "hash.go:44", after := #[{ on := 6, ground := Ground.data }], guard := none }) rfl rfl ?_
      refine wp_load_mid 71 _ rfl bb off rfl (bcells bk) _ RB.out Tryd.underlying71 rfl SB.out ?_
      simp only [Act.put, lay6]
      refine wpAny_all (rs := [8]) (by kernel_rfl) (by simp) (fun j hj => ?_)
      obtain rfl : j = 8 := by simpa using hj
      clear hj
      refine wpOp_of_wp (o := { dst := some 59, op := Op.call { callee := Callee.value (Operand.func 77), args := #[Operand.tmp 55, Operand.tmp 58], argTypes := #[69, 71] }, type := 69, pos := "hash.go:44", after := #[{ on := 4, ground := Ground.data }, { on := 7, ground := Ground.data }], guard := none }) rfl rfl ?_
      generalize hKK : wpAny _ _ _ _ _ _ = K
      go_simp
      refine (CM2.out).mono ?_
      rintro e wm ⟨rfl, hBm⟩
      rw [<- hKK]
      clear hKK K
      refine wpAny_take (i := 9) (oi := { dst := some 60, op := Op.nilCheck (Operand.tmp 51), type := 0, pos := "hash.go:44", after := #[{ on := 0, ground := Ground.data }, { on := 0, ground := Ground.phase }, { on := 1, ground := Ground.phase }, { on := 2, ground := Ground.phase }, { on := 3, ground := Ground.phase }, { on := 4, ground := Ground.phase }, { on := 5, ground := Ground.phase }, { on := 6, ground := Ground.phase }, { on := 7, ground := Ground.phase }, { on := 8, ground := Ground.phase }], guard := none }) (v := .pointer (some ⟨g, 0, none⟩)) rfl (by kernel_rfl) (by kernel_rfl) (by kernel_rfl) (fun _ _ _ h => h) (Or.inl ⟨by rfl, ?q9⟩) ?_
      case q9 => intro w; first | (go_simp; done) | (go_simp; rfl)
      simp only [Act.put, lay6]
      refine wpAny_take (i := 10) (oi := { dst := some 61, op := Op.fieldAddr 109 (Operand.tmp 60) 1, type := 0, pos := "hash.go:44", after := #[{ on := 9, ground := Ground.data }, { on := 0, ground := Ground.phase }, { on := 1, ground := Ground.phase }, { on := 2, ground := Ground.phase }, { on := 3, ground := Ground.phase }, { on := 4, ground := Ground.phase }, { on := 5, ground := Ground.phase }, { on := 6, ground := Ground.phase }, { on := 7, ground := Ground.phase }, { on := 8, ground := Ground.phase }], guard := none }) (v := .pointer (some ⟨g, 8, none⟩)) rfl (by kernel_rfl) (by kernel_rfl) (by kernel_rfl) (fun _ _ _ h => h) (Or.inl ⟨by rfl, ?q10⟩) ?_
      case q10 => intro w; first | (go_simp; done) | (go_simp; rfl)
      simp only [Act.put, lay6]
      have HSm := hid ((HS2.out.block (C := W2.drew) rfl).below hBm)
      have TH : Hid (wm.there g 8 (cellsW vv).size) := by
       rw [cellsW_size, HVV.out.1]
       exact there_sub HSm.out.th 8 8 (by decide)
      refine wpAny_all (rs := [11]) (by kernel_rfl) (by simp) (fun j hj => ?_)
      obtain rfl : j = 11 := by simpa using hj
      clear hj
      refine wpOp_of_wp (o := { dst := none, op := Op.store 69 (Operand.tmp 61) (Operand.tmp 59), type := 0, pos := "hash.go:44", after := #[{ on := 10, ground := Ground.data }, { on := 8, ground := Ground.data }, { on := 8, ground := Ground.chain }, { on := 0, ground := Ground.phase }, { on := 1, ground := Ground.phase }, { on := 2, ground := Ground.phase }, { on := 3, ground := Ground.phase }, { on := 4, ground := Ground.phase }, { on := 5, ground := Ground.phase }, { on := 6, ground := Ground.phase }, { on := 7, ground := Ground.phase }, { on := 8, ground := Ground.phase }], guard := none }) rfl rfl ?_
      refine wp_store_mid 69 _ _ rfl g 8 (cellsW vv) rfl rfl TH.out SV.out SO.out ?_
      simp only [Act.put]
      refine wpAny_done (by kernel_rfl) ?_ _
      obtain ⟨W3, hW3⟩ : ∃ W3, Hid (wm.setCells g 8 (cellsW vv).toList = W3) := ⟨_, rfl⟩
      rw [hW3.out]
      have HS3 : Hid (HSt W3 g (wAt M (cc + 1)) rr N) := by
       rw [<- hW3.out, HWS.out]
       exact HSm.out.words vv HVV.out
      have G23 : Hid (W2.grownBy W3 (some g)) := by
       rw [<- hW3.out]
       exact grown_tr (grown_tr (b := W2.drew) ⟨rfl, rfl, rfl, Nat.le_refl _, fun _ _ _ => rfl⟩ (grown_below hBm)) (grown_setCells g _ _ _)
      have HB5 := hid (HB4.out.aw G23.out HO4.out)
      have G3 := hid (grown_tr G2.out G23.out)
      clear hW3 hBm
      go_wp2
      exact ⟨⟨cc + 1, p4, L - 64, cp - 64, rr, rfl, by omega, by omega, by have := HLN.out; show _ = _; omega, HS3, HB5, HO4, G3⟩, by simp [lenV]; omega⟩
     ·refine wpOp_of_wp (o := { dst := some 58, op := Op.load 71 (Operand.tmp 57), type := 71, pos := "hash.go:44", after := #[{ on := 6, ground := Ground.data }], guard := none }) rfl rfl ?_
      refine wp_load_mid 71 _ rfl bb off rfl (bcells bk) _ RB.out Tryd.underlying71 rfl SB.out ?_
      simp only [Act.put, lay6]
      refine wpAny_all (rs := [4]) (by kernel_rfl) (by simp) (fun j hj => ?_)
      obtain rfl : j = 4 := by simpa using hj
      clear hj
      refine wpOp_of_wp (o := { dst := some 55, op := Op.load 69 (Operand.tmp 54), type := 69, pos := "hash.go:44", after := #[{ on := 3, ground := Ground.data }], guard := none }) rfl rfl ?_
      refine wp_load_mid 69 _ rfl g 8 rfl (wcells ww) _ RW.out Tryd.underlying69 rfl SW.out ?_
      simp only [Act.put, lay6]
      refine wpAny_all (rs := [8]) (by kernel_rfl) (by simp) (fun j hj => ?_)
      obtain rfl : j = 8 := by simpa using hj
      clear hj
      refine wpOp_of_wp (o := { dst := some 59, op := Op.call { callee := Callee.value (Operand.func 77), args := #[Operand.tmp 55, Operand.tmp 58], argTypes := #[69, 71] }, type := 69, pos := "hash.go:44", after := #[{ on := 4, ground := Ground.data }, { on := 7, ground := Ground.data }], guard := none }) rfl rfl ?_
      generalize hKK : wpAny _ _ _ _ _ _ = K
      go_simp
      refine (CM2.out).mono ?_
      rintro e wm ⟨rfl, hBm⟩
      rw [<- hKK]
      clear hKK K
      refine wpAny_take (i := 9) (oi := { dst := some 60, op := Op.nilCheck (Operand.tmp 51), type := 0, pos := "hash.go:44", after := #[{ on := 0, ground := Ground.data }, { on := 0, ground := Ground.phase }, { on := 1, ground := Ground.phase }, { on := 2, ground := Ground.phase }, { on := 3, ground := Ground.phase }, { on := 4, ground := Ground.phase }, { on := 5, ground := Ground.phase }, { on := 6, ground := Ground.phase }, { on := 7, ground := Ground.phase }, { on := 8, ground := Ground.phase }], guard := none }) (v := .pointer (some ⟨g, 0, none⟩)) rfl (by kernel_rfl) (by kernel_rfl) (by kernel_rfl) (fun _ _ _ h => h) (Or.inl ⟨by rfl, ?q9⟩) ?_
      case q9 => intro w; first | (go_simp; done) | (go_simp; rfl)
      simp only [Act.put, lay6]
      refine wpAny_take (i := 10) (oi := { dst := some 61, op := Op.fieldAddr 109 (Operand.tmp 60) 1, type := 0, pos := "hash.go:44", after := #[{ on := 9, ground := Ground.data }, { on := 0, ground := Ground.phase }, { on := 1, ground := Ground.phase }, { on := 2, ground := Ground.phase }, { on := 3, ground := Ground.phase }, { on := 4, ground := Ground.phase }, { on := 5, ground := Ground.phase }, { on := 6, ground := Ground.phase }, { on := 7, ground := Ground.phase }, { on := 8, ground := Ground.phase }], guard := none }) (v := .pointer (some ⟨g, 8, none⟩)) rfl (by kernel_rfl) (by kernel_rfl) (by kernel_rfl) (fun _ _ _ h => h) (Or.inl ⟨by rfl, ?q10⟩) ?_
      case q10 => intro w; first | (go_simp; done) | (go_simp; rfl)
      simp only [Act.put, lay6]
      have HSm := hid ((HS2.out.block (C := W2.drew) rfl).below hBm)
      have TH : Hid (wm.there g 8 (cellsW vv).size) := by
       rw [cellsW_size, HVV.out.1]
       exact there_sub HSm.out.th 8 8 (by decide)
      refine wpAny_all (rs := [11]) (by kernel_rfl) (by simp) (fun j hj => ?_)
      obtain rfl : j = 11 := by simpa using hj
      clear hj
      refine wpOp_of_wp (o := { dst := none, op := Op.store 69 (Operand.tmp 61) (Operand.tmp 59), type := 0, pos := "hash.go:44", after := #[{ on := 10, ground := Ground.data }, { on := 8, ground := Ground.data }, { on := 8, ground := Ground.chain }, { on := 0, ground := Ground.phase }, { on := 1, ground := Ground.phase }, { on := 2, ground := Ground.phase }, { on := 3, ground := Ground.phase }, { on := 4, ground := Ground.phase }, { on := 5, ground := Ground.phase }, { on := 6, ground := Ground.phase }, { on := 7, ground := Ground.phase }, { on := 8, ground := Ground.phase }], guard := none }) rfl rfl ?_
      refine wp_store_mid 69 _ _ rfl g 8 (cellsW vv) rfl rfl TH.out SV.out SO.out ?_
      simp only [Act.put]
      refine wpAny_done (by kernel_rfl) ?_ _
      obtain ⟨W3, hW3⟩ : ∃ W3, Hid (wm.setCells g 8 (cellsW vv).toList = W3) := ⟨_, rfl⟩
      rw [hW3.out]
      have HS3 : Hid (HSt W3 g (wAt M (cc + 1)) rr N) := by
       rw [<- hW3.out, HWS.out]
       exact HSm.out.words vv HVV.out
      have G23 : Hid (W2.grownBy W3 (some g)) := by
       rw [<- hW3.out]
       exact grown_tr (grown_tr (b := W2.drew) ⟨rfl, rfl, rfl, Nat.le_refl _, fun _ _ _ => rfl⟩ (grown_below hBm)) (grown_setCells g _ _ _)
      have HB5 := hid (HB4.out.aw G23.out HO4.out)
      have G3 := hid (grown_tr G2.out G23.out)
      clear hW3 hBm
      go_wp2
      exact ⟨⟨cc + 1, p4, L - 64, cp - 64, rr, rfl, by omega, by omega, by have := HLN.out; show _ = _; omega, HS3, HB5, HO4, G3⟩, by simp [lenV]; omega⟩
    ·have hcp0 := run_copy_rest wr g 0 _ rr N HS2.out (by decide) 3 _ _ HB2.out L (by rw [HLL.out]; omega)
     rw [List.take_of_length_le (by rw [HLL.out]; exact Nat.le_refl _)] at hcp0
     have hsa := run_slice_all g
     have HFN : Hid (HM (wr.setCells g (16 + 0) (bcells (M.drop (64 * cc)))) g M) := by
      have h1 := HS2.out.put 0 (M.drop (64 * cc)) (by rw [HLL.out]; omega) (fun x hx => HMB2.out x (List.mem_of_mem_drop hx))
      rw [<- HML.out] at h1
      exact HM.last h1 (by rw [HML.out, <- HLN.out]; omega) (by rw [HML.out, <- HLN.out]; omega) HMB2.out
     have G3 := hid (grown_tr G2.out (grown_setCells g (bcells (M.drop (64 * cc))) (16 + 0) wr))
     obtain ⟨W3, hW3⟩ : ∃ W3, Hid (wr.setCells g (16 + 0) (bcells (M.drop (64 * cc))) = W3) := ⟨_, rfl⟩
     rw [hW3.out] at hcp0 HFN G3
     clear hW3
     go_wp2_with (at_builtin; refine Lib.wpList_copy_run _ rfl _ _ 30 30 rfl _ _ rfl rfl hcp0 ?_)
     go_end0
     exact ⟨rfl, HFN.out, G3.out⟩
  ·refine wpOp_of_wp (o := { dst := some 44, op := Op.load 71 (Operand.tmp 43), type := 71, pos := "hash.go:41", after := #[{ on := 7, ground := Ground.data }], guard := none }) rfl rfl ?_
   refine wp_load_mid 71 _ rfl g 16 rfl (bcells bk) _ RB.out Tryd.underlying71 rfl SB.out ?_
   simp only [Act.put, lay6]
   refine wpAny_all (rs := [4]) (by kernel_rfl) (by simp) (fun j hj => ?_)
   obtain rfl : j = 4 := by simpa using hj
   clear hj
   refine wpOp_of_wp (o := { dst := some 40, op := Op.load 69 (Operand.tmp 39), type := 69, pos := "hash.go:41", after := #[{ on := 3, ground := Ground.data }], guard := none }) rfl rfl ?_
   refine wp_load_mid 69 _ rfl g 8 rfl (wcells ww) _ RW.out Tryd.underlying69 rfl SW.out ?_
   simp only [Act.put, lay6]
   refine wpAny_all (rs := [9]) (by kernel_rfl) (by simp) (fun j hj => ?_)
   obtain rfl : j = 9 := by simpa using hj
   clear hj
   refine wpOp_of_wp (o := { dst := some 45, op := Op.call { callee := Callee.value (Operand.func 77), args := #[Operand.tmp 40, Operand.tmp 44], argTypes := #[69, 71] }, type := 69, pos := "hash.go:41", after := #[{ on := 4, ground := Ground.data }, { on := 8, ground := Ground.data }], guard := none }) rfl rfl ?_
   generalize hKK : wpAny _ _ _ _ _ _ = K
   go_simp
   refine (CM2.out).mono ?_
   rintro e wm ⟨rfl, hBm⟩
   rw [<- hKK]
   clear hKK K
   refine wpAny_take (i := 10) (oi := { dst := some 46, op := Op.nilCheck (Operand.tmp 36), type := 0, pos := "hash.go:41", after := #[{ on := 0, ground := Ground.data }, { on := 0, ground := Ground.phase }, { on := 1, ground := Ground.phase }, { on := 2, ground := Ground.phase }, { on := 3, ground := Ground.phase }, { on := 4, ground := Ground.phase }, { on := 5, ground := Ground.phase }, { on := 6, ground := Ground.phase }, { on := 7, ground := Ground.phase }, { on := 8, ground := Ground.phase }, { on := 9, ground := Ground.phase }], guard := none }) (v := .pointer (some ⟨g, 0, none⟩)) rfl (by kernel_rfl) (by kernel_rfl) (by kernel_rfl) (fun _ _ _ h => h) (Or.inl ⟨by rfl, ?q10⟩) ?_
   case q10 => intro w; first | (go_simp; done) | (go_simp; rfl)
   simp only [Act.put, lay6]
   refine wpAny_take (i := 11) (oi := { dst := some 47, op := Op.fieldAddr 109 (Operand.tmp 46) 1, type := 0, pos := "hash.go:41", after := #[{ on := 10, ground := Ground.data }, { on := 0, ground := Ground.phase }, { on := 1, ground := Ground.phase }, { on := 2, ground := Ground.phase }, { on := 3, ground := Ground.phase }, { on := 4, ground := Ground.phase }, { on := 5, ground := Ground.phase }, { on := 6, ground := Ground.phase }, { on := 7, ground := Ground.phase }, { on := 8, ground := Ground.phase }, { on := 9, ground := Ground.phase }], guard := none }) (v := .pointer (some ⟨g, 8, none⟩)) rfl (by kernel_rfl) (by kernel_rfl) (by kernel_rfl) (fun _ _ _ h => h) (Or.inl ⟨by rfl, ?q11⟩) ?_
   case q11 => intro w; first | (go_simp; done) | (go_simp; rfl)
   simp only [Act.put, lay6]
   have HSm := hid ((HS2.out.block (C := W2.drew) rfl).below hBm)
   have TH : Hid (wm.there g 8 (cellsW vv).size) := by
    rw [cellsW_size, HVV.out.1]
    exact there_sub HSm.out.th 8 8 (by decide)
   refine wpAny_all (rs := [12]) (by kernel_rfl) (by simp) (fun j hj => ?_)
   obtain rfl : j = 12 := by simpa using hj
   clear hj
   refine wpOp_of_wp (o := { dst := none, op := Op.store 69 (Operand.tmp 47) (Operand.tmp 45), type := 0, pos := "hash.go:41", after := #[{ on := 11, ground := Ground.data }, { on := 9, ground := Ground.data }, { on := 9, ground := Ground.chain }, { on := 0, ground := Ground.phase }, { on := 1, ground := Ground.phase }, { on := 2, ground := Ground.phase }, { on := 3, ground := Ground.phase }, { on := 4, ground := Ground.phase }, { on := 5, ground := Ground.phase }, { on := 6, ground := Ground.phase }, { on := 7, ground := Ground.phase }, { on := 8, ground := Ground.phase }, { on := 9, ground := Ground.phase }], guard := none }) rfl rfl ?_
   refine wp_store_mid 69 _ _ rfl g 8 (cellsW vv) rfl rfl TH.out SV.out SO.out ?_
   simp only [Act.put]
   refine wpAny_done (by kernel_rfl) ?_ _
   obtain ⟨W3, hW3⟩ : ∃ W3, Hid (wm.setCells g 8 (cellsW vv).toList = W3) := ⟨_, rfl⟩
   rw [hW3.out]
   have G23 : Hid (W2.grownBy W3 (some g)) := by
    rw [<- hW3.out]
    exact grown_tr (grown_tr (b := W2.drew) ⟨rfl, rfl, rfl, Nat.le_refl _, fun _ _ _ => rfl⟩ (grown_below hBm)) (grown_setCells g _ _ _)
   have HS3 : Hid (HSt W3 g (wAt M (n / 64 + 1)) bk N) := by
    rw [<- hW3.out, HWS.out]
    exact HSm.out.words vv HVV.out
   have HB3 : Hid (HB W3 (.slice p2 (b.length - k) (c - k)) (M.drop (64 * (n / 64 + 1)))) := by
    rw [HMD.out]
    exact HB2.out.aw G23.out HOS.out
   have HO3 := HOS
   have G3 := hid (grown_tr G2.out G23.out)
   have HL3 : Hid (64 * (n / 64 + 1) + (b.length - k) = N) := by
    show _ = _
    have h1 := HNN.out
    have h2 := HH.out
    omega
   have hl3 : b.length - k <= c - k := by omega
   have hc3 : c - k <= 9223372036854775807 := by omega
   clear hW3 hBm
   go_wp2
   clear hheld hhc
   go_loopw [1] (fun v wr => ∃ (cc : Nat) (pp : Option Addr) (L cp : Nat) (rr : List Int), v = .slice pp L cp /\ L <= cp /\ cp <= 9223372036854775807 /\ Hid (64 * cc + L = N) /\ Hid (HSt wr g (wAt M cc) rr N) /\ Hid (HB wr (.slice pp L cp) (M.drop (64 * cc))) /\ Hid (Off (.slice pp L cp) g) /\ Hid (w.grownBy wr (some g))) (fun v _ => lenV v)
   case atStart => exact ⟨_, _, _, _, _, rfl, hl3, hc3, HL3, HS3, HB3, HO3, G3⟩
   case round =>
    clear HL3 HS3 HB3 HO3 G3 hl3 hc3
    obtain ⟨cc, pp, L, cp, rr, rfl, hLc, hcp9, HLN, HS2, HB2, HO2, G2⟩ := hrel
    have HLL : Hid ((M.drop (64 * cc)).length = L) := by
     show _ = _
     rw [List.length_drop, HML.out]
     have := HLN.out
     omega
    by_cases hL : 64 <= L
    ·obtain ⟨W2, hW2⟩ : ∃ W2, Hid (W2 = wr) := ⟨_, rfl⟩
     rw [<- hW2.out] at HS2 HB2 G2 ⊢
     obtain ⟨bb, off, cp', ep, _, _, hcl⟩ := HB2.out.ne (by rw [HLL.out]; omega)
     simp only [Value.slice.injEq] at ep
     obtain ⟨rfl, -, rfl⟩ := ep
     obtain ⟨ww, HWW⟩ : ∃ ww, Hid (wAt M cc = ww) := ⟨_, rfl⟩
     obtain ⟨bk, HBK⟩ : ∃ bk, Hid (blkOf M cc = bk) := ⟨_, rfl⟩
     rw [HWW.out] at HS2
     have hbkl : bk.length = 64 := by
      rw [<- HBK.out]
      exact blkOf_length (by rw [HML.out, <- HLN.out]; omega)
     have hbkb : ∀ x ∈ bk, 0 <= x /\ x < 256 := by rw [<- HBK.out]; exact blkOf_byt HMB2.out cc
     obtain ⟨vv, HVE⟩ : ∃ vv, Hid (mixL ww bk = vv) := ⟨_, rfl⟩
     have HVV : Hid (W8 vv) := by rw [<- HVE.out]; exact HS2.out.w8.mix
     have HK2 : Hid (KC W2) := fun t ht => G2.out.cell (HKC.out t ht) (by simpa using hg0.symm)
     have CM := mix_any W2.drew ww bk HS2.out.w8 hbkl hbkb HK2.out
     rw [HVE.out] at CM
     have CM2 := hid CM
     have RW : Hid (W2.drew.rangeAt g 8 (wcells ww)) := HS2.out.wv
     have RB : Hid (W2.drew.rangeAt bb off (bcells bk)) := fun j u hu => by
      have hj : j < 64 := by have := (List.getElem?_eq_some_iff.1 hu).1; rw [bcells_length, hbkl] at this; exact this
      have h1 := hcl j (by rw [HLL.out]; omega)
      rw [show W2.drew.cell? ⟨bb, off + j, none⟩ = W2.cell? ⟨bb, off + j, none⟩ from rfl, h1]
      rw [<- HBK.out] at hu
      unfold blkOf at hu
      simp only [bcells, List.getElem?_map, List.getElem?_take, if_pos hj] at hu
      rw [List.getElem?_eq_getElem (show j < (M.drop (64 * cc)).length by rw [HLL.out]; omega), Option.map_some, <- getD_of_lt] at hu
      exact hu
     have SW : Hid ((Tryd.prog.info? 69).map (·.size) = some (wcells ww).length) := by rw [wcells_length, HS2.out.w8.1]; exact size_w8
     have SB : Hid ((Tryd.prog.info? 71).map (·.size) = some (bcells bk).length) := by rw [bcells_length, hbkl]; exact size_b64
     have SV : Hid ((Tryd.prog.info? 69).map (·.size) = some (cellsW vv).size) := by rw [cellsW_size, HVV.out.1]; exact size_w8
     have SO : Hid ((cellsW vv).all (·.oneCell') = true) := cellsW_one _
     have harr := run_arrayAt_b64 bb off L cp hL
     obtain ⟨p4, HP4⟩ : ∃ p4, Hid ((if cp = 64 then (some (⟨bb, off, none⟩ : Addr)) else (some (⟨bb, off, none⟩ : Addr)).map (·.add 64)) = p4) := ⟨_, rfl⟩
     have hss : ∀ W, (Instr.slice 30 (.slice (some ⟨bb, off, none⟩) L cp) (some (.int .i64 64)) none none).run Tryd.prog W = .ok (.slice p4 (L - 64) (cp - 64)) W := fun W => by
      rw [<- HP4.out]
      exact run_slice_suf (some ⟨bb, off, none⟩) L cp 64 hL W
     have HB4 : Hid (HB W2 (.slice p4 (L - 64) (cp - 64)) (M.drop (64 * (cc + 1)))) := by
      rw [<- HP4.out]
      have h1 : HB W2 (.slice (some ⟨bb, off, none⟩) (M.drop (64 * cc)).length cp) (M.drop (64 * cc)) := by rw [HLL.out]; exact HB2.out
      have h2 := h1.suf 64 (by rw [HLL.out]; exact hL)
      rw [HLL.out, List.drop_drop] at h2
      rwa [show 64 * cc + 64 = 64 * (cc + 1) by omega] at h2
     have HO4 : Hid (Off (.slice p4 (L - 64) (cp - 64)) g) := by
      rw [<- HP4.out]
      exact off_suf _ cp 64 L cp g HO2.out
     have HWS : Hid (wAt M (cc + 1) = vv) := by
      show mixL (wAt M cc) (blkOf M cc) = vv
      rw [HWW.out, HBK.out, HVE.out]
     clear CM hcl hbkl hbkb
     go_wp2
     refine wp_region_any (by kernel_rfl) ?_
     change wpAny _ _ _ _ _ _ _ (World.drew _)
     refine wpAny_take (i := 0) (oi := { dst := some 51, op := Op.move (Operand.tmp 0), type := 100, pos := "hash.go:44", after := #[], guard := none }) (v := .pointer (some ⟨g, 0, none⟩)) rfl (by kernel_rfl) (by kernel_rfl) (by kernel_rfl) (fun _ _ _ h => h) (Or.inl ⟨by rfl, ?q0⟩) ?_
     case q0 => intro w; first | (go_simp; done) | (go_simp; rfl)
     simp only [Act.put, lay6]
     refine wpAny_take (i := 1) (oi := { dst := some 52, op := Op.move (Operand.tmp 0), type := 100, pos := "hash.go:44", after := #[], guard := none }) (v := .pointer (some ⟨g, 0, none⟩)) rfl (by kernel_rfl) (by kernel_rfl) (by kernel_rfl) (fun _ _ _ h => h) (Or.inl ⟨by rfl, ?q1⟩) ?_
     case q1 => intro w; first | (go_simp; done) | (go_simp; rfl)
     simp only [Act.put, lay6]
     refine wpAny_take (i := 2) (oi := { dst := some 53, op := Op.nilCheck (Operand.tmp 52), type := 0, pos := "hash.go:44", after := #[{ on := 1, ground := Ground.data }], guard := none }) (v := .pointer (some ⟨g, 0, none⟩)) rfl (by kernel_rfl) (by kernel_rfl) (by kernel_rfl) (fun _ _ _ h => h) (Or.inl ⟨by rfl, ?q2⟩) ?_
     case q2 => intro w; first | (go_simp; done) | (go_simp; rfl)
     simp only [Act.put, lay6]
     refine wpAny_take (i := 3) (oi := { dst := some 54, op := Op.fieldAddr 109 (Operand.tmp 53) 1, type := 0, pos := "hash.go:44", after := #[{ on := 2, ground := Ground.data }], guard := none }) (v := .pointer (some ⟨g, 8, none⟩)) rfl (by kernel_rfl) (by kernel_rfl) (by kernel_rfl) (fun _ _ _ h => h) (Or.inl ⟨by rfl, ?q3⟩) ?_
     case q3 => intro w; first | (go_simp; done) | (go_simp; rfl)
     simp only [Act.put, lay6]
     refine wpAny_take (i := 5) (oi := { dst := some 56, op := Op.move (Operand.tmp 1), type := 30, pos := "hash.go:44", after := #[], guard := none }) (v := .slice (some ⟨bb, off, none⟩) L cp) rfl (by kernel_rfl) (by kernel_rfl) (by kernel_rfl) (fun _ _ _ h => h) (Or.inl ⟨by rfl, ?q5⟩) ?_
     case q5 => intro w; first | (go_simp; done) | (go_simp; rfl)
     simp only [Act.put, lay6]
     refine wpAny_take (i := 6) (oi := { dst := some 57, op := Op.sliceToArrayPointer 71 (Operand.tmp 56), type := 0, pos := "hash.go:44", after := #[{ on := 5, ground := Ground.data }], guard := none }) (v := .pointer (some ⟨bb, off, none⟩)) rfl (by kernel_rfl) (by kernel_rfl) (by kernel_rfl) (fun _ _ _ h => h) (Or.inl ⟨by rfl, ?q6⟩) ?_
     case q6 => intro w; first | (go_simp; done) | (go_simp; rfl)
     simp only [Act.put, lay6]
     refine wpAny_all (rs := [4, 7]) (by kernel_rfl) (by simp) (fun j hj => ?_)
     have hj2 : j = 4 \/ j = 7 := by simpa using hj
     clear hj
     rcases hj2 with rfl | rfl
     ·refine wpOp_of_wp (o := { dst := some 55, op := Op.load 69 (Operand.tmp 54), type := 69, pos := "hash.go:44", after := #[{ on := 3, ground := Ground.data }], guard := none }) rfl rfl ?_
      refine wp_load_mid 69 _ rfl g 8 rfl (wcells ww) _ RW.out Tryd.underlying69 rfl SW.out ?_
      simp only [Act.put, lay6]
      refine wpAny_all (rs := [7]) (by kernel_rfl) (by simp) (fun j hj => ?_)
      obtain rfl : j = 7 := by simpa using hj
      clear hj
      refine wpOp_of_wp (o := { dst := some 58, op := Op.load 71 (Operand.tmp 57), type := 71, pos := "hash.go:44", after := #[{ on := 6, ground := Ground.data }], guard := none }) rfl rfl ?_
      refine wp_load_mid 71 _ rfl bb off rfl (bcells bk) _ RB.out Tryd.underlying71 rfl SB.out ?_
      simp only [Act.put, lay6]
      refine wpAny_all (rs := [8]) (by kernel_rfl) (by simp) (fun j hj => ?_)
      obtain rfl : j = 8 := by simpa using hj
      clear hj
      refine wpOp_of_wp (o := { dst := some 59, op := Op.call { callee := Callee.value (Operand.func 77), args := #[Operand.tmp 55, Operand.tmp 58], argTypes := #[69, 71] }, type := 69, pos := "hash.go:44", after := #[{ on := 4, ground := Ground.data }, { on := 7, ground := Ground.data }], guard := none }) rfl rfl ?_
      generalize hKK : wpAny _ _ _ _ _ _ = K
      go_simp
      refine (CM2.out).mono ?_
      rintro e wm ⟨rfl, hBm⟩
      rw [<- hKK]
      clear hKK K
      refine wpAny_take (i := 9) (oi := { dst := some 60, op := Op.nilCheck (Operand.tmp 51), type := 0, pos := "hash.go:44", after := #[{ on := 0, ground := Ground.data }, { on := 0, ground := Ground.phase }, { on := 1, ground := Ground.phase }, { on := 2, ground := Ground.phase }, { on := 3, ground := Ground.phase }, { on := 4, ground := Ground.phase }, { on := 5, ground := Ground.phase }, { on := 6, ground := Ground.phase }, { on := 7, ground := Ground.phase }, { on := 8, ground := Ground.phase }], guard := none }) (v := .pointer (some ⟨g, 0, none⟩)) rfl (by kernel_rfl) (by kernel_rfl) (by kernel_rfl) (fun _ _ _ h => h) (Or.inl ⟨by rfl, ?q9⟩) ?_
      case q9 => intro w; first | (go_simp; done) | (go_simp; rfl)
      simp only [Act.put, lay6]
      refine wpAny_take (i := 10) (oi := { dst := some 61, op := Op.fieldAddr 109 (Operand.tmp 60) 1, type := 0, pos := "hash.go:44", after := #[{ on := 9, ground := Ground.data }, { on := 0, ground := Ground.phase }, { on := 1, ground := Ground.phase }, { on := 2, ground := Ground.phase }, { on := 3, ground := Ground.phase }, { on := 4, ground := Ground.phase }, { on := 5, ground := Ground.phase }, { on := 6, ground := Ground.phase }, { on := 7, ground := Ground.phase }, { on := 8, ground := Ground.phase }], guard := none }) (v := .pointer (some ⟨g, 8, none⟩)) rfl (by kernel_rfl) (by kernel_rfl) (by kernel_rfl) (fun _ _ _ h => h) (Or.inl ⟨by rfl, ?q10⟩) ?_
      case q10 => intro w; first | (go_simp; done) | (go_simp; rfl)
      simp only [Act.put, lay6]
      have HSm := hid ((HS2.out.block (C := W2.drew) rfl).below hBm)
      have TH : Hid (wm.there g 8 (cellsW vv).size) := by
       rw [cellsW_size, HVV.out.1]
       exact there_sub HSm.out.th 8 8 (by decide)
      refine wpAny_all (rs := [11]) (by kernel_rfl) (by simp) (fun j hj => ?_)
      obtain rfl : j = 11 := by simpa using hj
      clear hj
      refine wpOp_of_wp (o := { dst := none, op := Op.store 69 (Operand.tmp 61) (Operand.tmp 59), type := 0, pos := "hash.go:44", after := #[{ on := 10, ground := Ground.data }, { on := 8, ground := Ground.data }, { on := 8, ground := Ground.chain }, { on := 0, ground := Ground.phase }, { on := 1, ground := Ground.phase }, { on := 2, ground := Ground.phase }, { on := 3, ground := Ground.phase }, { on := 4, ground := Ground.phase }, { on := 5, ground := Ground.phase }, { on := 6, ground := Ground.phase }, { on := 7, ground := Ground.phase }, { on := 8, ground := Ground.phase }], guard := none }) rfl rfl ?_
      refine wp_store_mid 69 _ _ rfl g 8 (cellsW vv) rfl rfl TH.out SV.out SO.out ?_
      simp only [Act.put]
      refine wpAny_done (by kernel_rfl) ?_ _
      obtain ⟨W3, hW3⟩ : ∃ W3, Hid (wm.setCells g 8 (cellsW vv).toList = W3) := ⟨_, rfl⟩
      rw [hW3.out]
      have HS3 : Hid (HSt W3 g (wAt M (cc + 1)) rr N) := by
       rw [<- hW3.out, HWS.out]
       exact HSm.out.words vv HVV.out
      have G23 : Hid (W2.grownBy W3 (some g)) := by
       rw [<- hW3.out]
       exact grown_tr (grown_tr (b := W2.drew) ⟨rfl, rfl, rfl, Nat.le_refl _, fun _ _ _ => rfl⟩ (grown_below hBm)) (grown_setCells g _ _ _)
      have HB5 := hid (HB4.out.aw G23.out HO4.out)
      have G3 := hid (grown_tr G2.out G23.out)
      clear hW3 hBm
      go_wp2
      exact ⟨⟨cc + 1, p4, L - 64, cp - 64, rr, rfl, by omega, by omega, by have := HLN.out; show _ = _; omega, HS3, HB5, HO4, G3⟩, by simp [lenV]; omega⟩
     ·refine wpOp_of_wp (o := { dst := some 58, op := Op.load 71 (Operand.tmp 57), type := 71, pos := "hash.go:44", after := #[{ on := 6, ground := Ground.data }], guard := none }) rfl rfl ?_
      refine wp_load_mid 71 _ rfl bb off rfl (bcells bk) _ RB.out Tryd.underlying71 rfl SB.out ?_
      simp only [Act.put, lay6]
      refine wpAny_all (rs := [4]) (by kernel_rfl) (by simp) (fun j hj => ?_)
      obtain rfl : j = 4 := by simpa using hj
      clear hj
      refine wpOp_of_wp (o := { dst := some 55, op := Op.load 69 (Operand.tmp 54), type := 69, pos := "hash.go:44", after := #[{ on := 3, ground := Ground.data }], guard := none }) rfl rfl ?_
      refine wp_load_mid 69 _ rfl g 8 rfl (wcells ww) _ RW.out Tryd.underlying69 rfl SW.out ?_
      simp only [Act.put, lay6]
      refine wpAny_all (rs := [8]) (by kernel_rfl) (by simp) (fun j hj => ?_)
      obtain rfl : j = 8 := by simpa using hj
      clear hj
      refine wpOp_of_wp (o := { dst := some 59, op := Op.call { callee := Callee.value (Operand.func 77), args := #[Operand.tmp 55, Operand.tmp 58], argTypes := #[69, 71] }, type := 69, pos := "hash.go:44", after := #[{ on := 4, ground := Ground.data }, { on := 7, ground := Ground.data }], guard := none }) rfl rfl ?_
      generalize hKK : wpAny _ _ _ _ _ _ = K
      go_simp
      refine (CM2.out).mono ?_
      rintro e wm ⟨rfl, hBm⟩
      rw [<- hKK]
      clear hKK K
      refine wpAny_take (i := 9) (oi := { dst := some 60, op := Op.nilCheck (Operand.tmp 51), type := 0, pos := "hash.go:44", after := #[{ on := 0, ground := Ground.data }, { on := 0, ground := Ground.phase }, { on := 1, ground := Ground.phase }, { on := 2, ground := Ground.phase }, { on := 3, ground := Ground.phase }, { on := 4, ground := Ground.phase }, { on := 5, ground := Ground.phase }, { on := 6, ground := Ground.phase }, { on := 7, ground := Ground.phase }, { on := 8, ground := Ground.phase }], guard := none }) (v := .pointer (some ⟨g, 0, none⟩)) rfl (by kernel_rfl) (by kernel_rfl) (by kernel_rfl) (fun _ _ _ h => h) (Or.inl ⟨by rfl, ?q9⟩) ?_
      case q9 => intro w; first | (go_simp; done) | (go_simp; rfl)
      simp only [Act.put, lay6]
      refine wpAny_take (i := 10) (oi := { dst := some 61, op := Op.fieldAddr 109 (Operand.tmp 60) 1, type := 0, pos := "hash.go:44", after := #[{ on := 9, ground := Ground.data }, { on := 0, ground := Ground.phase }, { on := 1, ground := Ground.phase }, { on := 2, ground := Ground.phase }, { on := 3, ground := Ground.phase }, { on := 4, ground := Ground.phase }, { on := 5, ground := Ground.phase }, { on := 6, ground := Ground.phase }, { on := 7, ground := Ground.phase }, { on := 8, ground := Ground.phase }], guard := none }) (v := .pointer (some ⟨g, 8, none⟩)) rfl (by kernel_rfl) (by kernel_rfl) (by kernel_rfl) (fun _ _ _ h => h) (Or.inl ⟨by rfl, ?q10⟩) ?_
      case q10 => intro w; first | (go_simp; done) | (go_simp; rfl)
      simp only [Act.put, lay6]
      have HSm := hid ((HS2.out.block (C := W2.drew) rfl).below hBm)
      have TH : Hid (wm.there g 8 (cellsW vv).size) := by
       rw [cellsW_size, HVV.out.1]
       exact there_sub HSm.out.th 8 8 (by decide)
      refine wpAny_all (rs := [11]) (by kernel_rfl) (by simp) (fun j hj => ?_)
      obtain rfl : j = 11 := by simpa using hj
      clear hj
      refine wpOp_of_wp (o := { dst := none, op := Op.store 69 (Operand.tmp 61) (Operand.tmp 59), type := 0, pos := "hash.go:44", after := #[{ on := 10, ground := Ground.data }, { on := 8, ground := Ground.data }, { on := 8, ground := Ground.chain }, { on := 0, ground := Ground.phase }, { on := 1, ground := Ground.phase }, { on := 2, ground := Ground.phase }, { on := 3, ground := Ground.phase }, { on := 4, ground := Ground.phase }, { on := 5, ground := Ground.phase }, { on := 6, ground := Ground.phase }, { on := 7, ground := Ground.phase }, { on := 8, ground := Ground.phase }], guard := none }) rfl rfl ?_
      refine wp_store_mid 69 _ _ rfl g 8 (cellsW vv) rfl rfl TH.out SV.out SO.out ?_
      simp only [Act.put]
      refine wpAny_done (by kernel_rfl) ?_ _
      obtain ⟨W3, hW3⟩ : ∃ W3, Hid (wm.setCells g 8 (cellsW vv).toList = W3) := ⟨_, rfl⟩
      rw [hW3.out]
      have HS3 : Hid (HSt W3 g (wAt M (cc + 1)) rr N) := by
       rw [<- hW3.out, HWS.out]
       exact HSm.out.words vv HVV.out
      have G23 : Hid (W2.grownBy W3 (some g)) := by
       rw [<- hW3.out]
       exact grown_tr (grown_tr (b := W2.drew) ⟨rfl, rfl, rfl, Nat.le_refl _, fun _ _ _ => rfl⟩ (grown_below hBm)) (grown_setCells g _ _ _)
      have HB5 := hid (HB4.out.aw G23.out HO4.out)
      have G3 := hid (grown_tr G2.out G23.out)
      clear hW3 hBm
      go_wp2
      exact ⟨⟨cc + 1, p4, L - 64, cp - 64, rr, rfl, by omega, by omega, by have := HLN.out; show _ = _; omega, HS3, HB5, HO4, G3⟩, by simp [lenV]; omega⟩
    ·have hcp0 := run_copy_rest wr g 0 _ rr N HS2.out (by decide) 3 _ _ HB2.out L (by rw [HLL.out]; omega)
     rw [List.take_of_length_le (by rw [HLL.out]; exact Nat.le_refl _)] at hcp0
     have hsa := run_slice_all g
     have HFN : Hid (HM (wr.setCells g (16 + 0) (bcells (M.drop (64 * cc)))) g M) := by
      have h1 := HS2.out.put 0 (M.drop (64 * cc)) (by rw [HLL.out]; omega) (fun x hx => HMB2.out x (List.mem_of_mem_drop hx))
      rw [<- HML.out] at h1
      exact HM.last h1 (by rw [HML.out, <- HLN.out]; omega) (by rw [HML.out, <- HLN.out]; omega) HMB2.out
     have G3 := hid (grown_tr G2.out (grown_setCells g (bcells (M.drop (64 * cc))) (16 + 0) wr))
     obtain ⟨W3, hW3⟩ : ∃ W3, Hid (wr.setCells g (16 + 0) (bcells (M.drop (64 * cc))) = W3) := ⟨_, rfl⟩
     rw [hW3.out] at hcp0 HFN G3
     clear hW3
     go_wp2_with (at_builtin; refine Lib.wpList_copy_run _ rfl _ _ 30 30 rfl _ _ rfl rfl hcp0 ?_)
     go_end0
     exact ⟨rfl, HFN.out, G3.out⟩
 ·have HN0 : Hid (held = 0) := by show _ = _; omega
  obtain ⟨W3, HW3⟩ : ∃ W3, W3 = W1 := ⟨_, rfl⟩
  subst HW3
  have HS3 : Hid (HSt W3 g (wAt M (n / 64)) rest N) := by
   rw [<- HM2.out, wAt_app (by rw [HN.out]; omega)]
   exact HS1.out
  have HB3 : Hid (HB W3 (.slice p b.length c) (M.drop (64 * (n / 64)))) := by
   rw [<- HM2.out, show 64 * (n / 64) = m.length by rw [HN.out]; have := HH.out; have h0 := HN0.out; omega, List.drop_left]
   exact HB1.out
  have HO3 := HV
  have G3 := G1
  have HL3 : Hid (64 * (n / 64) + b.length = N) := by
   show _ = _
   have h1 := HNN.out
   have h2 := HH.out
   have h0 := HN0.out
   omega
  have hl3 : b.length <= c := hlc
  have hc3 : c <= 9223372036854775807 := by omega
  have hW1' := hW1.out
  go_wp2
  clear hheld hhc
  go_loopw [1] (fun v wr => ∃ (cc : Nat) (pp : Option Addr) (L cp : Nat) (rr : List Int), v = .slice pp L cp /\ L <= cp /\ cp <= 9223372036854775807 /\ Hid (64 * cc + L = N) /\ Hid (HSt wr g (wAt M cc) rr N) /\ Hid (HB wr (.slice pp L cp) (M.drop (64 * cc))) /\ Hid (Off (.slice pp L cp) g) /\ Hid (w.grownBy wr (some g))) (fun v _ => lenV v)
  case atStart => exact ⟨_, _, _, _, _, rfl, hl3, hc3, HL3, HS3, HB3, HO3, G3⟩
  case round =>
   clear HL3 HS3 HB3 HO3 G3 hl3 hc3
   obtain ⟨cc, pp, L, cp, rr, rfl, hLc, hcp9, HLN, HS2, HB2, HO2, G2⟩ := hrel
   have HLL : Hid ((M.drop (64 * cc)).length = L) := by
    show _ = _
    rw [List.length_drop, HML.out]
    have := HLN.out
    omega
   by_cases hL : 64 <= L
   ·obtain ⟨W2, hW2⟩ : ∃ W2, Hid (W2 = wr) := ⟨_, rfl⟩
    rw [<- hW2.out] at HS2 HB2 G2 ⊢
    obtain ⟨bb, off, cp', ep, _, _, hcl⟩ := HB2.out.ne (by rw [HLL.out]; omega)
    simp only [Value.slice.injEq] at ep
    obtain ⟨rfl, -, rfl⟩ := ep
    obtain ⟨ww, HWW⟩ : ∃ ww, Hid (wAt M cc = ww) := ⟨_, rfl⟩
    obtain ⟨bk, HBK⟩ : ∃ bk, Hid (blkOf M cc = bk) := ⟨_, rfl⟩
    rw [HWW.out] at HS2
    have hbkl : bk.length = 64 := by
     rw [<- HBK.out]
     exact blkOf_length (by rw [HML.out, <- HLN.out]; omega)
    have hbkb : ∀ x ∈ bk, 0 <= x /\ x < 256 := by rw [<- HBK.out]; exact blkOf_byt HMB2.out cc
    obtain ⟨vv, HVE⟩ : ∃ vv, Hid (mixL ww bk = vv) := ⟨_, rfl⟩
    have HVV : Hid (W8 vv) := by rw [<- HVE.out]; exact HS2.out.w8.mix
    have HK2 : Hid (KC W2) := fun t ht => G2.out.cell (HKC.out t ht) (by simpa using hg0.symm)
    have CM := mix_any W2.drew ww bk HS2.out.w8 hbkl hbkb HK2.out
    rw [HVE.out] at CM
    have CM2 := hid CM
    have RW : Hid (W2.drew.rangeAt g 8 (wcells ww)) := HS2.out.wv
    have RB : Hid (W2.drew.rangeAt bb off (bcells bk)) := fun j u hu => by
     have hj : j < 64 := by have := (List.getElem?_eq_some_iff.1 hu).1; rw [bcells_length, hbkl] at this; exact this
     have h1 := hcl j (by rw [HLL.out]; omega)
     rw [show W2.drew.cell? ⟨bb, off + j, none⟩ = W2.cell? ⟨bb, off + j, none⟩ from rfl, h1]
     rw [<- HBK.out] at hu
     unfold blkOf at hu
     simp only [bcells, List.getElem?_map, List.getElem?_take, if_pos hj] at hu
     rw [List.getElem?_eq_getElem (show j < (M.drop (64 * cc)).length by rw [HLL.out]; omega), Option.map_some, <- getD_of_lt] at hu
     exact hu
    have SW : Hid ((Tryd.prog.info? 69).map (·.size) = some (wcells ww).length) := by rw [wcells_length, HS2.out.w8.1]; exact size_w8
    have SB : Hid ((Tryd.prog.info? 71).map (·.size) = some (bcells bk).length) := by rw [bcells_length, hbkl]; exact size_b64
    have SV : Hid ((Tryd.prog.info? 69).map (·.size) = some (cellsW vv).size) := by rw [cellsW_size, HVV.out.1]; exact size_w8
    have SO : Hid ((cellsW vv).all (·.oneCell') = true) := cellsW_one _
    have harr := run_arrayAt_b64 bb off L cp hL
    obtain ⟨p4, HP4⟩ : ∃ p4, Hid ((if cp = 64 then (some (⟨bb, off, none⟩ : Addr)) else (some (⟨bb, off, none⟩ : Addr)).map (·.add 64)) = p4) := ⟨_, rfl⟩
    have hss : ∀ W, (Instr.slice 30 (.slice (some ⟨bb, off, none⟩) L cp) (some (.int .i64 64)) none none).run Tryd.prog W = .ok (.slice p4 (L - 64) (cp - 64)) W := fun W => by
     rw [<- HP4.out]
     exact run_slice_suf (some ⟨bb, off, none⟩) L cp 64 hL W
    have HB4 : Hid (HB W2 (.slice p4 (L - 64) (cp - 64)) (M.drop (64 * (cc + 1)))) := by
     rw [<- HP4.out]
     have h1 : HB W2 (.slice (some ⟨bb, off, none⟩) (M.drop (64 * cc)).length cp) (M.drop (64 * cc)) := by rw [HLL.out]; exact HB2.out
     have h2 := h1.suf 64 (by rw [HLL.out]; exact hL)
     rw [HLL.out, List.drop_drop] at h2
     rwa [show 64 * cc + 64 = 64 * (cc + 1) by omega] at h2
    have HO4 : Hid (Off (.slice p4 (L - 64) (cp - 64)) g) := by
     rw [<- HP4.out]
     exact off_suf _ cp 64 L cp g HO2.out
    have HWS : Hid (wAt M (cc + 1) = vv) := by
     show mixL (wAt M cc) (blkOf M cc) = vv
     rw [HWW.out, HBK.out, HVE.out]
    clear CM hcl hbkl hbkb
    go_wp2
    refine wp_region_any (by kernel_rfl) ?_
    change wpAny _ _ _ _ _ _ _ (World.drew _)
    refine wpAny_take (i := 0) (oi := { dst := some 51, op := Op.move (Operand.tmp 0), type := 100, pos := "hash.go:44", after := #[], guard := none }) (v := .pointer (some ⟨g, 0, none⟩)) rfl (by kernel_rfl) (by kernel_rfl) (by kernel_rfl) (fun _ _ _ h => h) (Or.inl ⟨by rfl, ?q0⟩) ?_
    case q0 => intro w; first | (go_simp; done) | (go_simp; rfl)
    simp only [Act.put, lay6]
    refine wpAny_take (i := 1) (oi := { dst := some 52, op := Op.move (Operand.tmp 0), type := 100, pos := "hash.go:44", after := #[], guard := none }) (v := .pointer (some ⟨g, 0, none⟩)) rfl (by kernel_rfl) (by kernel_rfl) (by kernel_rfl) (fun _ _ _ h => h) (Or.inl ⟨by rfl, ?q1⟩) ?_
    case q1 => intro w; first | (go_simp; done) | (go_simp; rfl)
    simp only [Act.put, lay6]
    refine wpAny_take (i := 2) (oi := { dst := some 53, op := Op.nilCheck (Operand.tmp 52), type := 0, pos := "hash.go:44", after := #[{ on := 1, ground := Ground.data }], guard := none }) (v := .pointer (some ⟨g, 0, none⟩)) rfl (by kernel_rfl) (by kernel_rfl) (by kernel_rfl) (fun _ _ _ h => h) (Or.inl ⟨by rfl, ?q2⟩) ?_
    case q2 => intro w; first | (go_simp; done) | (go_simp; rfl)
    simp only [Act.put, lay6]
    refine wpAny_take (i := 3) (oi := { dst := some 54, op := Op.fieldAddr 109 (Operand.tmp 53) 1, type := 0, pos := "hash.go:44", after := #[{ on := 2, ground := Ground.data }], guard := none }) (v := .pointer (some ⟨g, 8, none⟩)) rfl (by kernel_rfl) (by kernel_rfl) (by kernel_rfl) (fun _ _ _ h => h) (Or.inl ⟨by rfl, ?q3⟩) ?_
    case q3 => intro w; first | (go_simp; done) | (go_simp; rfl)
    simp only [Act.put, lay6]
    refine wpAny_take (i := 5) (oi := { dst := some 56, op := Op.move (Operand.tmp 1), type := 30, pos := "hash.go:44", after := #[], guard := none }) (v := .slice (some ⟨bb, off, none⟩) L cp) rfl (by kernel_rfl) (by kernel_rfl) (by kernel_rfl) (fun _ _ _ h => h) (Or.inl ⟨by rfl, ?q5⟩) ?_
    case q5 => intro w; first | (go_simp; done) | (go_simp; rfl)
    simp only [Act.put, lay6]
    refine wpAny_take (i := 6) (oi := { dst := some 57, op := Op.sliceToArrayPointer 71 (Operand.tmp 56), type := 0, pos := "hash.go:44", after := #[{ on := 5, ground := Ground.data }], guard := none }) (v := .pointer (some ⟨bb, off, none⟩)) rfl (by kernel_rfl) (by kernel_rfl) (by kernel_rfl) (fun _ _ _ h => h) (Or.inl ⟨by rfl, ?q6⟩) ?_
    case q6 => intro w; first | (go_simp; done) | (go_simp; rfl)
    simp only [Act.put, lay6]
    refine wpAny_all (rs := [4, 7]) (by kernel_rfl) (by simp) (fun j hj => ?_)
    have hj2 : j = 4 \/ j = 7 := by simpa using hj
    clear hj
    rcases hj2 with rfl | rfl
    ·refine wpOp_of_wp (o := { dst := some 55, op := Op.load 69 (Operand.tmp 54), type := 69, pos := "hash.go:44", after := #[{ on := 3, ground := Ground.data }], guard := none }) rfl rfl ?_
     refine wp_load_mid 69 _ rfl g 8 rfl (wcells ww) _ RW.out Tryd.underlying69 rfl SW.out ?_
     simp only [Act.put, lay6]
     refine wpAny_all (rs := [7]) (by kernel_rfl) (by simp) (fun j hj => ?_)
     obtain rfl : j = 7 := by simpa using hj
     clear hj
     refine wpOp_of_wp (o := { dst := some 58, op := Op.load 71 (Operand.tmp 57), type := 71, pos := "hash.go:44", after := #[{ on := 6, ground := Ground.data }], guard := none }) rfl rfl ?_
     refine wp_load_mid 71 _ rfl bb off rfl (bcells bk) _ RB.out Tryd.underlying71 rfl SB.out ?_
     simp only [Act.put, lay6]
     refine wpAny_all (rs := [8]) (by kernel_rfl) (by simp) (fun j hj => ?_)
     obtain rfl : j = 8 := by simpa using hj
     clear hj
     refine wpOp_of_wp (o := { dst := some 59, op := Op.call { callee := Callee.value (Operand.func 77), args := #[Operand.tmp 55, Operand.tmp 58], argTypes := #[69, 71] }, type := 69, pos := "hash.go:44", after := #[{ on := 4, ground := Ground.data }, { on := 7, ground := Ground.data }], guard := none }) rfl rfl ?_
     generalize hKK : wpAny _ _ _ _ _ _ = K
     go_simp
     refine (CM2.out).mono ?_
     rintro e wm ⟨rfl, hBm⟩
     rw [<- hKK]
     clear hKK K
     refine wpAny_take (i := 9) (oi := { dst := some 60, op := Op.nilCheck (Operand.tmp 51), type := 0, pos := "hash.go:44", after := #[{ on := 0, ground := Ground.data }, { on := 0, ground := Ground.phase }, { on := 1, ground := Ground.phase }, { on := 2, ground := Ground.phase }, { on := 3, ground := Ground.phase }, { on := 4, ground := Ground.phase }, { on := 5, ground := Ground.phase }, { on := 6, ground := Ground.phase }, { on := 7, ground := Ground.phase }, { on := 8, ground := Ground.phase }], guard := none }) (v := .pointer (some ⟨g, 0, none⟩)) rfl (by kernel_rfl) (by kernel_rfl) (by kernel_rfl) (fun _ _ _ h => h) (Or.inl ⟨by rfl, ?q9⟩) ?_
     case q9 => intro w; first | (go_simp; done) | (go_simp; rfl)
     simp only [Act.put, lay6]
     refine wpAny_take (i := 10) (oi := { dst := some 61, op := Op.fieldAddr 109 (Operand.tmp 60) 1, type := 0, pos := "hash.go:44", after := #[{ on := 9, ground := Ground.data }, { on := 0, ground := Ground.phase }, { on := 1, ground := Ground.phase }, { on := 2, ground := Ground.phase }, { on := 3, ground := Ground.phase }, { on := 4, ground := Ground.phase }, { on := 5, ground := Ground.phase }, { on := 6, ground := Ground.phase }, { on := 7, ground := Ground.phase }, { on := 8, ground := Ground.phase }], guard := none }) (v := .pointer (some ⟨g, 8, none⟩)) rfl (by kernel_rfl) (by kernel_rfl) (by kernel_rfl) (fun _ _ _ h => h) (Or.inl ⟨by rfl, ?q10⟩) ?_
     case q10 => intro w; first | (go_simp; done) | (go_simp; rfl)
     simp only [Act.put, lay6]
     have HSm := hid ((HS2.out.block (C := W2.drew) rfl).below hBm)
     have TH : Hid (wm.there g 8 (cellsW vv).size) := by
      rw [cellsW_size, HVV.out.1]
      exact there_sub HSm.out.th 8 8 (by decide)
     refine wpAny_all (rs := [11]) (by kernel_rfl) (by simp) (fun j hj => ?_)
     obtain rfl : j = 11 := by simpa using hj
     clear hj
     refine wpOp_of_wp (o := { dst := none, op := Op.store 69 (Operand.tmp 61) (Operand.tmp 59), type := 0, pos := "hash.go:44", after := #[{ on := 10, ground := Ground.data }, { on := 8, ground := Ground.data }, { on := 8, ground := Ground.chain }, { on := 0, ground := Ground.phase }, { on := 1, ground := Ground.phase }, { on := 2, ground := Ground.phase }, { on := 3, ground := Ground.phase }, { on := 4, ground := Ground.phase }, { on := 5, ground := Ground.phase }, { on := 6, ground := Ground.phase }, { on := 7, ground := Ground.phase }, { on := 8, ground := Ground.phase }], guard := none }) rfl rfl ?_
     refine wp_store_mid 69 _ _ rfl g 8 (cellsW vv) rfl rfl TH.out SV.out SO.out ?_
     simp only [Act.put]
     refine wpAny_done (by kernel_rfl) ?_ _
     obtain ⟨W3, hW3⟩ : ∃ W3, Hid (wm.setCells g 8 (cellsW vv).toList = W3) := ⟨_, rfl⟩
     rw [hW3.out]
     have HS3 : Hid (HSt W3 g (wAt M (cc + 1)) rr N) := by
      rw [<- hW3.out, HWS.out]
      exact HSm.out.words vv HVV.out
     have G23 : Hid (W2.grownBy W3 (some g)) := by
      rw [<- hW3.out]
      exact grown_tr (grown_tr (b := W2.drew) ⟨rfl, rfl, rfl, Nat.le_refl _, fun _ _ _ => rfl⟩ (grown_below hBm)) (grown_setCells g _ _ _)
     have HB5 := hid (HB4.out.aw G23.out HO4.out)
     have G3 := hid (grown_tr G2.out G23.out)
     clear hW3 hBm
     go_wp2
     exact ⟨⟨cc + 1, p4, L - 64, cp - 64, rr, rfl, by omega, by omega, by have := HLN.out; show _ = _; omega, HS3, HB5, HO4, G3⟩, by simp [lenV]; omega⟩
    ·refine wpOp_of_wp (o := { dst := some 58, op := Op.load 71 (Operand.tmp 57), type := 71, pos := "hash.go:44", after := #[{ on := 6, ground := Ground.data }], guard := none }) rfl rfl ?_
     refine wp_load_mid 71 _ rfl bb off rfl (bcells bk) _ RB.out Tryd.underlying71 rfl SB.out ?_
     simp only [Act.put, lay6]
     refine wpAny_all (rs := [4]) (by kernel_rfl) (by simp) (fun j hj => ?_)
     obtain rfl : j = 4 := by simpa using hj
     clear hj
     refine wpOp_of_wp (o := { dst := some 55, op := Op.load 69 (Operand.tmp 54), type := 69, pos := "hash.go:44", after := #[{ on := 3, ground := Ground.data }], guard := none }) rfl rfl ?_
     refine wp_load_mid 69 _ rfl g 8 rfl (wcells ww) _ RW.out Tryd.underlying69 rfl SW.out ?_
     simp only [Act.put, lay6]
     refine wpAny_all (rs := [8]) (by kernel_rfl) (by simp) (fun j hj => ?_)
     obtain rfl : j = 8 := by simpa using hj
     clear hj
     refine wpOp_of_wp (o := { dst := some 59, op := Op.call { callee := Callee.value (Operand.func 77), args := #[Operand.tmp 55, Operand.tmp 58], argTypes := #[69, 71] }, type := 69, pos := "hash.go:44", after := #[{ on := 4, ground := Ground.data }, { on := 7, ground := Ground.data }], guard := none }) rfl rfl ?_
     generalize hKK : wpAny _ _ _ _ _ _ = K
     go_simp
     refine (CM2.out).mono ?_
     rintro e wm ⟨rfl, hBm⟩
     rw [<- hKK]
     clear hKK K
     refine wpAny_take (i := 9) (oi := { dst := some 60, op := Op.nilCheck (Operand.tmp 51), type := 0, pos := "hash.go:44", after := #[{ on := 0, ground := Ground.data }, { on := 0, ground := Ground.phase }, { on := 1, ground := Ground.phase }, { on := 2, ground := Ground.phase }, { on := 3, ground := Ground.phase }, { on := 4, ground := Ground.phase }, { on := 5, ground := Ground.phase }, { on := 6, ground := Ground.phase }, { on := 7, ground := Ground.phase }, { on := 8, ground := Ground.phase }], guard := none }) (v := .pointer (some ⟨g, 0, none⟩)) rfl (by kernel_rfl) (by kernel_rfl) (by kernel_rfl) (fun _ _ _ h => h) (Or.inl ⟨by rfl, ?q9⟩) ?_
     case q9 => intro w; first | (go_simp; done) | (go_simp; rfl)
     simp only [Act.put, lay6]
     refine wpAny_take (i := 10) (oi := { dst := some 61, op := Op.fieldAddr 109 (Operand.tmp 60) 1, type := 0, pos := "hash.go:44", after := #[{ on := 9, ground := Ground.data }, { on := 0, ground := Ground.phase }, { on := 1, ground := Ground.phase }, { on := 2, ground := Ground.phase }, { on := 3, ground := Ground.phase }, { on := 4, ground := Ground.phase }, { on := 5, ground := Ground.phase }, { on := 6, ground := Ground.phase }, { on := 7, ground := Ground.phase }, { on := 8, ground := Ground.phase }], guard := none }) (v := .pointer (some ⟨g, 8, none⟩)) rfl (by kernel_rfl) (by kernel_rfl) (by kernel_rfl) (fun _ _ _ h => h) (Or.inl ⟨by rfl, ?q10⟩) ?_
     case q10 => intro w; first | (go_simp; done) | (go_simp; rfl)
     simp only [Act.put, lay6]
     have HSm := hid ((HS2.out.block (C := W2.drew) rfl).below hBm)
     have TH : Hid (wm.there g 8 (cellsW vv).size) := by
      rw [cellsW_size, HVV.out.1]
      exact there_sub HSm.out.th 8 8 (by decide)
     refine wpAny_all (rs := [11]) (by kernel_rfl) (by simp) (fun j hj => ?_)
     obtain rfl : j = 11 := by simpa using hj
     clear hj
     refine wpOp_of_wp (o := { dst := none, op := Op.store 69 (Operand.tmp 61) (Operand.tmp 59), type := 0, pos := "hash.go:44", after := #[{ on := 10, ground := Ground.data }, { on := 8, ground := Ground.data }, { on := 8, ground := Ground.chain }, { on := 0, ground := Ground.phase }, { on := 1, ground := Ground.phase }, { on := 2, ground := Ground.phase }, { on := 3, ground := Ground.phase }, { on := 4, ground := Ground.phase }, { on := 5, ground := Ground.phase }, { on := 6, ground := Ground.phase }, { on := 7, ground := Ground.phase }, { on := 8, ground := Ground.phase }], guard := none }) rfl rfl ?_
     refine wp_store_mid 69 _ _ rfl g 8 (cellsW vv) rfl rfl TH.out SV.out SO.out ?_
     simp only [Act.put]
     refine wpAny_done (by kernel_rfl) ?_ _
     obtain ⟨W3, hW3⟩ : ∃ W3, Hid (wm.setCells g 8 (cellsW vv).toList = W3) := ⟨_, rfl⟩
     rw [hW3.out]
     have HS3 : Hid (HSt W3 g (wAt M (cc + 1)) rr N) := by
      rw [<- hW3.out, HWS.out]
      exact HSm.out.words vv HVV.out
     have G23 : Hid (W2.grownBy W3 (some g)) := by
      rw [<- hW3.out]
      exact grown_tr (grown_tr (b := W2.drew) ⟨rfl, rfl, rfl, Nat.le_refl _, fun _ _ _ => rfl⟩ (grown_below hBm)) (grown_setCells g _ _ _)
     have HB5 := hid (HB4.out.aw G23.out HO4.out)
     have G3 := hid (grown_tr G2.out G23.out)
     clear hW3 hBm
     go_wp2
     exact ⟨⟨cc + 1, p4, L - 64, cp - 64, rr, rfl, by omega, by omega, by have := HLN.out; show _ = _; omega, HS3, HB5, HO4, G3⟩, by simp [lenV]; omega⟩
   ·have hcp0 := run_copy_rest wr g 0 _ rr N HS2.out (by decide) 3 _ _ HB2.out L (by rw [HLL.out]; omega)
    rw [List.take_of_length_le (by rw [HLL.out]; exact Nat.le_refl _)] at hcp0
    have hsa := run_slice_all g
    have HFN : Hid (HM (wr.setCells g (16 + 0) (bcells (M.drop (64 * cc)))) g M) := by
     have h1 := HS2.out.put 0 (M.drop (64 * cc)) (by rw [HLL.out]; omega) (fun x hx => HMB2.out x (List.mem_of_mem_drop hx))
     rw [<- HML.out] at h1
     exact HM.last h1 (by rw [HML.out, <- HLN.out]; omega) (by rw [HML.out, <- HLN.out]; omega) HMB2.out
    have G3 := hid (grown_tr G2.out (grown_setCells g (bcells (M.drop (64 * cc))) (16 + 0) wr))
    obtain ⟨W3, hW3⟩ : ∃ W3, Hid (wr.setCells g (16 + 0) (bcells (M.drop (64 * cc))) = W3) := ⟨_, rfl⟩
    rw [hW3.out] at hcp0 HFN G3
    clear hW3
    go_wp2_with (at_builtin; refine Lib.wpList_copy_run _ rfl _ _ 30 30 rfl _ _ rfl rfl hcp0 ?_)
    go_end0
    exact ⟨rfl, HFN.out, G3.out⟩
theorem made_any (w : World) (g : Nat) (bw : List Nat) (h8 : bw.length = 8) (hr : w.rangeAt g 0 (wcells bw)) :
  Calls Tryd.prog 78 #[.pointer (some ⟨g, 0, none⟩)] w fun e w' => e = .returned (.bool (decide (bw = iv))) /\ Below w.heap.size w w' := by
 obtain ⟨a, b, c, d, e, f, x, y, rfl⟩ : ∃ a b c d e f x y, bw = [a, b, c, d, e, f, x, y] := by
  match bw, h8 with
  | [a, b, c, d, e, f, x, y], _ => exact ⟨a, b, c, d, e, f, x, y, rfl⟩
 obtain ⟨m, HM⟩ : ∃ m, Hid (cellsW iv = m) := ⟨_, rfl⟩
 obtain ⟨q, HQ⟩ : ∃ q, Hid (decide (([a, b, c, d, e, f, x, y] : List Nat) = iv) = q) := ⟨_, rfl⟩
 rw [HQ.out]
 have heq : ∀ W, (binOp .eql 69 (.agg #[.int .u32 (a : Int), .int .u32 (b : Int), .int .u32 (c : Int), .int .u32 (d : Int), .int .u32 (e : Int), .int .u32 (f : Int), .int .u32 (x : Int), .int .u32 (y : Int)]) (.agg m)).run Tryd.prog W = .ok (.bool q) W := fun W => by
  rw [<- HM.out, <- HQ.out]
  exact run_eql_words W 8 69 Tryd.underlying69 [a, b, c, d, e, f, x, y] iv rfl rfl
 have CI : Hid (∀ W, Calls Tryd.prog 76 #[] W fun e w' => e = .returned (.agg m) /\ Below W.heap.size W w') := fun W => by rw [<- HM.out]; exact initial_any W
 have k0 : w.cell? ⟨g, 0, none⟩ = some (.int .u32 (a : Int)) := hr 0 _ rfl
 have k1 : w.cell? ⟨g, 1, none⟩ = some (.int .u32 (b : Int)) := hr 1 _ rfl
 have k2 : w.cell? ⟨g, 2, none⟩ = some (.int .u32 (c : Int)) := hr 2 _ rfl
 have k3 : w.cell? ⟨g, 3, none⟩ = some (.int .u32 (d : Int)) := hr 3 _ rfl
 have k4 : w.cell? ⟨g, 4, none⟩ = some (.int .u32 (e : Int)) := hr 4 _ rfl
 have k5 : w.cell? ⟨g, 5, none⟩ = some (.int .u32 (f : Int)) := hr 5 _ rfl
 have k6 : w.cell? ⟨g, 6, none⟩ = some (.int .u32 (x : Int)) := hr 6 _ rfl
 have k7 : w.cell? ⟨g, 7, none⟩ = some (.int .u32 (y : Int)) := hr 7 _ rfl
 have hgl : g < w.heap.size := World.block_lt_of_cell? w _ k0
 have C0 := hid (CI.out w.drew)
 clear hr
 go_enter Tryd.func78, Tryd.ntmps78
 go_wp2
 go_region_held3 (fun w' => w'.cell? ⟨g, 0, none⟩ = some (.int .u32 (a : Int)) /\ w'.cell? ⟨g, 1, none⟩ = some (.int .u32 (b : Int)) /\ w'.cell? ⟨g, 2, none⟩ = some (.int .u32 (c : Int)) /\ w'.cell? ⟨g, 3, none⟩ = some (.int .u32 (d : Int)) /\ w'.cell? ⟨g, 4, none⟩ = some (.int .u32 (e : Int)) /\ w'.cell? ⟨g, 5, none⟩ = some (.int .u32 (f : Int)) /\ w'.cell? ⟨g, 6, none⟩ = some (.int .u32 (x : Int)) /\ w'.cell? ⟨g, 7, none⟩ = some (.int .u32 (y : Int)))
  (first
   | exact ⟨k0, k1, k2, k3, k4, k5, k6, k7⟩
   | exact ⟨(hBm.cell (p := ⟨g, 0, none⟩) hgl).trans k0, (hBm.cell (p := ⟨g, 1, none⟩) hgl).trans k1, (hBm.cell (p := ⟨g, 2, none⟩) hgl).trans k2, (hBm.cell (p := ⟨g, 3, none⟩) hgl).trans k3, (hBm.cell (p := ⟨g, 4, none⟩) hgl).trans k4, (hBm.cell (p := ⟨g, 5, none⟩) hgl).trans k5, (hBm.cell (p := ⟨g, 6, none⟩) hgl).trans k6, (hBm.cell (p := ⟨g, 7, none⟩) hgl).trans k7⟩)
  ((go_at_call 76; refine C0.out.mono ?_; rintro e' wm ⟨rfl, hBm⟩))
 have HBM : Hid (Below w.heap.size w wm) := ⟨hBm.os, hBm.tape, hBm.output, hBm.size, hBm.block⟩
 clear hBm
 go_wp2
 go_ret
 exact ⟨rfl, HBM.out⟩
theorem HM.below {A C : World} {g : Nat} {m : List Int} (h : HM A g m) (hb : Below A.heap.size A C) : HM C g m := by
 obtain ⟨rest, h1, h2, h3⟩ := h
 exact ⟨rest, h1.below hb, h2, h3⟩
theorem HM.lt {w : World} {g : Nat} {m : List Int} (h : HM w g m) : g < w.heap.size := by
 obtain ⟨rest, h1, _⟩ := h
 exact h1.lt
theorem made_yes (w : World) (g : Nat) (m : List Int) (h : HM w g m) :
  Calls Tryd.prog 78 #[.pointer (some ⟨g, 0, none⟩)] w fun e w' => e = .returned (.bool true) /\ Below w.heap.size w w' := by
 obtain ⟨rest, h1, _⟩ := h
 have := made_any w g iv rfl h1.bw
 rwa [decide_eq_true rfl] at this
def padZ (n : Nat) : Nat := (64 - (n + 9) % 64) % 64
def padL (n : Nat) : List Int := [128] ++ (List.replicate (padZ n) 0 ++ bigL 8 (n * 8))
theorem padL_length (n : Nat) : (padL n).length = 9 + padZ n := by simp [padL, bigL_length]; omega
theorem padL_whole (n : Nat) : (n + (padL n).length) % 64 = 0 := by rw [padL_length]; unfold padZ; omega
theorem padL_byt (n : Nat) : ∀ x ∈ padL n, 0 <= x /\ x < 256 := by
 intro x hx
 unfold padL at hx
 rcases List.mem_append.1 hx with h | h
 ·have : x = 128 := by simpa using h
  omega
 ·rcases List.mem_append.1 h with h | h
  ·have := (List.mem_replicate.1 h).2
   omega
  ·exact bigL_byt _ _ x h
theorem own_mono4 {w : World} {B B' e n : Nat} {v : Value} {xs : List Value} (h : w.ownsRow B e 1 v n xs) (hb : B' <= B) : w.ownsRow B' e 1 v n xs := by
 refine ⟨h.1, ?_⟩
 rcases h.2 with h2 | ⟨g, cap, cur, h1, h2, h3⟩
 ·exact .inl h2
 ·exact .inr ⟨g, cap, cur, h1, Nat.le_trans hb h2, h3⟩
theorem pad_ok (w : World) (n : Nat) (hn : n <= 1152921504606846976) :
  Calls Tryd.prog 79 #[.int .i64 (n : Int)] w fun e w' => ∃ v', e = .returned (.tuple #[v', .int .i64 0]) /\ w'.ownsRow w.heap.size 5 1 v' (padL n).length ((padL n).map (Value.int .u8)) /\ Below w.heap.size w w' := by
 obtain ⟨i0, hi, hz0, hz1, hz2⟩ := info_parts info_u8
 obtain ⟨z, HZ⟩ : ∃ z, Hid (padZ n = z) := ⟨_, rfl⟩
 have hz64 : z < 64 := by rw [<- HZ.out]; unfold padZ; omega
 obtain ⟨w1, hmk, hown, hgr⟩ := run_make_full (P := Tryd.prog) w w.heap.size 30 5 i0 (.int .u8 0) 1 Tryd.underlying30 hi hz0 hz1 .i64 .i64 z (by rw [hz2]; omega) (by unfold maxLen; omega) (Nat.le_refl _)
 have e9 : (64 - ((n : Int) + 1 + 8) % 64) % 64 = (z : Int) := by rw [<- HZ.out]; unfold padZ; omega
 have HO := hid hown
 have HG := hid hgr
 clear hown hgr
 go_enter Tryd.func79, Tryd.ntmps79
 go_wp2_with fail
 have e8 : ((n : Int) * 8) = ((n * 8 : Nat) : Int) := by omega
 rw [e8]
 clear e8 e9 hmk
 refine (big_uint64 (n * 8) (by omega) _).mono ?_
 rintro e w2 ⟨v2, rfl, ho2, hB2⟩
 have hs1 : w.heap.size + 1 <= w1.heap.size := by have := HO.out.lt w.heap.size rfl; omega
 have hs2 : w1.heap.size + 1 <= w2.heap.size := by have := hB2.size; simpa using this
 have B1 : Below w.heap.size w w1 := (Below.refl _ w).grown HG.out (Nat.le_refl _) (fun k e => by cases e)
 have B2 : Below w.heap.size w w2 := (B1.alloc (by omega) (.cells #[.int .u8 128] 5)).trans (hB2.mono (by simp; omega))
 have Z1 : HB w1 (.slice (some ⟨w.heap.size, 0, none⟩) z z) (List.replicate z 0) := by
  have e : (madeCells (Value.int IntKind.u8 0).cells (z * 1)).toList = (List.replicate z (0 : Int)).map (Value.int .u8) := by
   rw [show (Value.int IntKind.u8 0).cells = #[Value.int .u8 0] from rfl, toList_madeCells_one]
   simp
  have h1 := HO.out
  rw [e] at h1
  exact HB.of_own (by simpa using h1) (fun x hx => by have := (List.mem_replicate.1 hx).2; omega)
 have Z2 : HB w2 (.slice (some ⟨w.heap.size, 0, none⟩) z z) (List.replicate z 0) := (Z1.below ((Below.refl _ w1).alloc (Nat.le_refl _) _)).below hB2
 have A2 : HB w2 (.slice (some ⟨w1.heap.size, 0, none⟩) 1 1) [128] := by
  have h1 : (w1.alloc (.cells #[.int .u8 128] 5)).ownsRow w1.heap.size 5 1 (.slice (some ⟨w1.heap.size, 0, none⟩) 1 1) 1 [.int .u8 128] := World.ownsRow_lit (base := w1.heap.size) (e := 5) (size := 1) w1 #[.int .u8 128] 1 (Nat.le_refl _) (by decide) rfl
  have h2 : HB (w1.alloc (.cells #[.int .u8 128] 5)) (.slice (some ⟨w1.heap.size, 0, none⟩) 1 1) [128] := HB.of_own (l := [128]) h1 (by decide)
  exact h2.below hB2
 have G2 : HB w2 v2 (bigL 8 (n * 8)) := HB.of_own (by rw [bigL_length]; exact ho2) (bigL_byt _ _)
 obtain ⟨p2, c2, e2, _, _⟩ := G2.open
 rw [bigL_length] at e2
 subst e2
 obtain ⟨W3, hW3⟩ : ∃ W3, Hid (w2.alloc (.cells #[.slice (some ⟨w1.heap.size, 0, none⟩) 1 1, .slice (some ⟨w.heap.size, 0, none⟩) z z, .slice p2 8 c2] 30) = W3) := ⟨_, rfl⟩
 have B23 : Below w2.heap.size w2 W3 := by rw [<- hW3.out]; exact (Below.refl _ w2).alloc (Nat.le_refl _) _
 have HL3 : HL W3 (.slice (some ⟨w2.heap.size, 0, none⟩) 3 3) [[128], List.replicate z 0, bigL 8 (n * 8)] := by
  refine ⟨_, 3, rfl, Nat.le_refl _, by decide, (fun e => by cases e), fun _ => ⟨w2.heap.size, 0, rfl, fun j hj => ?_⟩⟩
  have hrow : W3.heap[w2.heap.size]? = some (.cells #[.slice (some ⟨w1.heap.size, 0, none⟩) 1 1, .slice (some ⟨w.heap.size, 0, none⟩) z z, .slice p2 8 c2] 30 (0, 0)) := by rw [<- hW3.out]; exact heap_alloc_new w2 _
  match j, hj with
  | 0, _ => exact ⟨_, by rw [cell_of_row W3 w2.heap.size 0 _ _ _ hrow]; rfl, A2.below B23⟩
  | 1, _ => exact ⟨_, by rw [cell_of_row W3 w2.heap.size 1 _ _ _ hrow]; rfl, Z2.below B23⟩
  | 2, _ => exact ⟨_, by rw [cell_of_row W3 w2.heap.size 2 _ _ _ hrow]; rfl, G2.below B23⟩
 have HFL : ([[128], List.replicate z 0, bigL 8 (n * 8)] : List (List Int)).flatten = padL n := by
  unfold padL
  rw [HZ.out]
  simp
 have CJ := join_any W3 _ _ HL3 (by rw [HFL, padL_length, HZ.out]; omega)
 rw [HFL] at CJ
 have CJ2 := hid CJ
 have B3 := hid (B2.trans (B23.mono B2.size))
 have hs3 : w.heap.size <= W3.heap.size := B3.out.size
 clear CJ HL3 HFL A2 Z1 Z2 G2 B1 B2 B23 ho2 hB2
 go_wp2_with fail
 rw [hW3.out]
 refine CJ2.out.mono ?_
 rintro e w4 ⟨v4, rfl, ho4, hB4⟩
 have HO4 := hid ho4
 have HB4 := hid (B3.out.trans (hB4.mono hs3))
 clear ho4 hB4
 go_wp2
 go_ret2
 exact ⟨v4, rfl, own_mono4 HO4.out hs3, HB4.out⟩
def hcells (bw ww : List Nat) (rest : List Int) (n : Nat) : List Value := wcells bw ++ (wcells ww ++ (bcells rest ++ [.int .i64 (n : Int)]))
theorem hcells_length {bw ww : List Nat} {rest : List Int} {n : Nat} (h1 : bw.length = 8) (h2 : ww.length = 8) (h3 : rest.length = 64) : (hcells bw ww rest n).length = 81 := by
 simp [hcells, wcells_length, bcells_length, h1, h2, h3]
theorem HSt.all {w : World} {g n : Nat} {ww : List Nat} {rest : List Int} (h : HSt w g ww rest n) : w.rangeAt g 0 (hcells iv ww rest n) := by
 refine range_app h.bw ?_
 rw [wcells_length]
 refine range_app h.wv ?_
 rw [wcells_length, h.w8.1]
 refine range_app h.rv ?_
 rw [bcells_length, h.rl]
 exact range_cell h.sz
theorem size_hash : (Tryd.prog.info? 109).map (·.size) = some 81 := by kernel_rfl
theorem zero_hash : (Tryd.prog.info? 109).map (·.zero) = some (some (.agg (hcells (zerosW 8) (zerosW 8) (List.replicate 64 0) 0).toArray)) := by kernel_rfl
theorem HSt.of_block {w : World} {g n : Nat} {ww : List Nat} {rest : List Int} (hb : w.heap[g]? = some (.cells (hcells iv ww rest n).toArray 109 (0, 0))) (h8 : W8 ww) (hr : rest.length = 64) (hrb : ∀ x ∈ rest, 0 <= x /\ x < 256) : HSt w g ww rest n := by
 have key : ∀ j v, (hcells iv ww rest n)[j]? = some v -> w.cell? ⟨g, j, none⟩ = some v := fun j v hv => by
  rw [cell_of_row w g j _ _ _ hb]
  simpa using hv
 have hl := hcells_length (n := n) iv_W8.1 h8.1 hr
 have l1 : (wcells iv).length = 8 := by rw [wcells_length]; rfl
 have l2 : (wcells ww).length = 8 := by rw [wcells_length, h8.1]
 have l3 : (bcells rest).length = 64 := by rw [bcells_length, hr]
 refine ⟨fun j v hv => ?_, fun j v hv => ?_, fun j v hv => ?_, ?_, fun j hj => ?_, h8, hr, hrb⟩
 ·rw [Nat.zero_add]
  have hj := (List.getElem?_eq_some_iff.1 hv).1
  refine key j v ?_
  unfold hcells
  rw [List.getElem?_append_left hj]
  exact hv
 ·have hj := (List.getElem?_eq_some_iff.1 hv).1
  refine key (8 + j) v ?_
  unfold hcells
  rw [List.getElem?_append_right (by omega), l1, Nat.add_sub_cancel_left, List.getElem?_append_left hj]
  exact hv
 ·have hj := (List.getElem?_eq_some_iff.1 hv).1
  refine key (16 + j) v ?_
  unfold hcells
  rw [List.getElem?_append_right (by omega), l1, List.getElem?_append_right (by omega), l2, show 16 + j - 8 - 8 = j by omega, List.getElem?_append_left hj]
  exact hv
 ·refine key 80 _ ?_
  unfold hcells
  rw [List.getElem?_append_right (by omega), l1, List.getElem?_append_right (by omega), l2, List.getElem?_append_right (by omega), l3]
  rfl
 ·rw [Nat.zero_add]
  refine ⟨?_, by simp [World.frozen?, hb]⟩
  rw [cell_of_row w g j _ _ _ hb]
  simp [hl]
  exact hj
end Go.Proofs.YtcpchhigiohlnaaDoor
