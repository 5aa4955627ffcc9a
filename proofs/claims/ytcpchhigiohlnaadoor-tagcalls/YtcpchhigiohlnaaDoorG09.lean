/- Of the road to tagCallsUptoCard_holds: TgRead, Marks, MarksMore, Apart, LentKit, ListKit, ApartF, AptL0, PxKit, TcRdr. -/
import Derived.Test.YtcpchhigiohlnaaDoorG01
import Derived.Test.YtcpchhigiohlnaaDoorG08
import Derived.Deep.RegionHeld
import Derived.OrdersHeld
import Derived.Test.YtcpchhigiohlnaaDoorG00
import Derived.Deep.RegionHeld3
import Derived.Laws.AppendOwn
set_option linter.unusedVariables false
set_option linter.unusedSimpArgs false
set_option maxRecDepth 100000
set_option maxHeartbeats 16000000
namespace Go.Proofs.YtcpchhigiohlnaaDoor
open Go Go.RowKit
def WdQ (l : List Int) (t : Nat) (b : Bool) : Prop := (b = true /\ (1 <= t /\ t <= 9) /\ strI (wS t) = l) \/ (b = false /\ t = 0 /\ ∀ k, 1 <= k -> k <= 9 -> strI (wS k) ≠ l)
theorem worded_any (w : World) (v : Value) (l : List Int) (h : HB w v l) : Calls Tryd.prog 39 #[v] w fun e w' => ∃ (t : Nat) (b : Bool), e = .returned (.tuple #[.int .u8 (t : Int), .bool b]) /\ WdQ l t b /\ Below w.heap.size w w' := by
 have CW := hid word_tag
 have HH := hid h
 have CV := hid fun (W : World) (hW : Below w.heap.size w W) => conv_str (h.below hW)
 have SBL : Hid (sB (bS l) = l) := hid (sB_bS h.2)
 obtain ⟨p, c, rfl, _, _⟩ := h.open
 clear h
 obtain ⟨z, Hz⟩ : ∃ x, Hid (l.length = x) := ⟨_, rfl⟩
 rw [Hz.out] at CV
 rw [Hz.out]
 obtain ⟨bl, Hbl⟩ : ∃ x, Hid (bS l = x) := ⟨_, rfl⟩
 rw [Hbl.out] at CV SBL
 go_enter Tryd.func39, Tryd.ntmps39
 go_wp2
 go_loopw [4] (fun tt wr => ∃ k : Nat, 1 <= k /\ k <= 10 /\ tt = .int .u8 (k : Int) /\ Hid (∀ j, 1 <= j -> j < k -> strI (wS j) ≠ l) /\ Hid (Below w.heap.size w wr)) (fun tt _ => 10 - (intOf tt).toNat)
 case atStart => exact ⟨1, by omega, by omega, rfl, hid (fun j h1 h2 => by omega), hid (Below.refl _ _)⟩
 case round =>
  obtain ⟨k, hk1, hk2, rfl, HN, HBw⟩ := hrel
  by_cases hk : k <= 9
  case neg =>
   have HA : Hid (WdQ l 0 false) := hid (.inr ⟨rfl, rfl, fun j h1 h2 => HN.out j h1 (by omega)⟩)
   go_wp2
   go_ret2
   exact ⟨0, _, rfl, HA.out, HBw.out⟩
  case pos =>
   go_wp2
   refine wp_region_held_drew (S := Below wr.heap.size wr) (by kernel_rfl) (Below.refl _ _).drew (fun hHeld => ?_)
   have HS := hid hHeld
   clear hHeld
   change wpAnyH _ _ _ _ _ _ _ _ (World.drew _)
   refine wpAnyH_take (i := 0) (v := ?_) rfl (by kernel_rfl) (by kernel_rfl) (by kernel_rfl) (fun _ _ _ h => h) (Or.inl ⟨by rfl, ?q0⟩) HS.out ?_
   case q0 => intro w hSw; go_simp; rfl
   simp only [Act.put, lay6]
   refine wpAnyH_take (i := 2) (v := ?_) rfl (by kernel_rfl) (by kernel_rfl) (by kernel_rfl) (fun _ _ _ h => h) (Or.inl ⟨by rfl, ?q2⟩) HS.out ?_
   case q2 => intro w hSw; go_simp; rfl
   simp only [Act.put, lay6]
   refine wpAnyH_take (i := 3) (v := .string bl) rfl (by kernel_rfl) (by kernel_rfl) (by kernel_rfl) (fun _ _ _ h => h) (Or.inl ⟨by rfl, ?q3⟩) HS.out ?_
   case q3 => intro w hSw; have hcv := CV.out w (HBw.out.trans (hSw.mono HBw.out.size)); go_simp
   simp only [Act.put, lay6]
   refine wpAnyH_ready (rs := [1]) (by kernel_rfl) (by simp) ?_
   refine AllReadyH.cons rfl (fun K hK => ?_) AllReadyH.nil
   replace hK := hid hK
   go_simp
   refine (CW.out _ k).mono ?_
   rintro e w5 ⟨rfl, hw5⟩
   have hw5' := hw5.symm
   subst hw5'
   clear hw5
   refine hK.out _ _ HS.out (fun _ => ?_)
   clear hK K
   try simp only [Act.put, lay6]
   refine wpAnyH_take (i := 4) (v := .bool (decide (strI (wS k) = l))) rfl (by kernel_rfl) (by kernel_rfl) (by kernel_rfl) (fun _ _ _ h => h) (Or.inl ⟨by rfl, ?q4⟩) HS.out ?_
   case q4 => intro w hSw; go_simp; rw [eq_iff_sB, SBL.out]; rfl
   simp only [Act.put, lay6]
   refine wpAnyH_done (by kernel_rfl) ?_ _
   have HS' := hid (HBw.out.trans (HS.out.mono HBw.out.size))
   by_cases he : strI (wS k) = l
   case pos =>
    have HA : Hid (WdQ l k true) := hid (.inl ⟨rfl, ⟨hk1, hk⟩, he⟩)
    rw [decide_eq_true he]
    clear he
    go_wp2
    go_ret2
    exact ⟨k, _, rfl, HA.out, HS'.out⟩
   case neg =>
    have HNX : Hid (∀ j, 1 <= j -> j < k + 1 -> strI (wS j) ≠ l) := hid fun j h1 h2 => by
     by_cases e : j = k
     ·rw [e]; exact he
     ·exact HN.out j h1 (by omega)
    rw [decide_eq_false he]
    clear he
    go_wp2
    exact ⟨⟨k + 1, by omega, by omega, by go_num, HNX, HS'⟩, by simp [intOf]; omega⟩
theorem results_tmp4 {fn : Func} {t u v x : Tmp} (h : fn.results = #[.tmp t, .tmp u, .tmp v, .tmp x]) (tmps : Array Value) (P : Program) (w : World) :
  (results fn tmps).run P w = .ok (.tuple #[tmps.getD t undef, tmps.getD u undef, tmps.getD v undef, tmps.getD x undef]) w := by
 simp [results, h]
theorem wS_inj5 {t u : Nat} (ht : 1 <= t /\ t <= 9) (hu : 1 <= u /\ u <= 9) (h : strI (wS t) = strI (wS u)) : t = u := by
 have key : ∀ t, t < 10 -> ∀ u, u < 10 -> 1 <= t -> 1 <= u -> strI (wS t) = strI (wS u) -> t = u := by decide +kernel
 exact key t (by omega) u (by omega) ht.1 hu.1 h
theorem slice_l5 (W : World) (p : Option Addr) (n c : Nat) (h1 : 1 <= n) : (Instr.slice 24 (.slice p n c) (some (.int .i64 1)) none none).run Tryd.prog W = .ok (.slice (if c = 1 then p else p.map (·.add 1)) (n - 1) (c - 1)) W := by
 have hel : Tryd.prog.elem 24 = 30 := by kernel_rfl
 have hsz : ∀ w, Sem.run Tryd.prog (Go.sizeOf 30) w = .ok 1 w := fun w => by
  have hi : (Tryd.prog.info? 30).map (·.size) = some 1 := by kernel_rfl
  cases hh : Tryd.prog.info? 30 with
  | none => rw [hh] at hi; cases hi
  | some i0 =>
   rw [hh] at hi
   simp only [Option.map_some, Option.some.injEq] at hi
   simp [Go.sizeOf, typeInfo, hh, hi]
 have h := run_slice_l (P := Tryd.prog) W 24 p n c (by rw [hel]; exact Tryd.underlying24) .i64 1 (by omega) (by omega)
 rw [h, hel, hsz, Result.andThen_ok]
 unfold sliced
 rw [Nat.mul_one]
 rfl
theorem HL.tail5 {w : World} {p : Option Addr} {n c : Nat} {x : List Int} {ls : List (List Int)} (h : HL w (.slice p n c) (x :: ls)) : HL w (.slice (if c = 1 then p else p.map (·.add 1)) (n - 1) (c - 1)) ls := by
 obtain ⟨p0, c0, e0, h1, h2⟩ := h.open
 simp only [Value.slice.injEq] at e0
 obtain ⟨rfl, rfl, rfl⟩ := e0
 obtain ⟨b, off, c', e', _, _, hh⟩ := h.ne (by simp)
 simp only [Value.slice.injEq, true_and] at e'
 obtain ⟨rfl, rfl⟩ := e'
 rw [List.length_cons] at h1
 refine ⟨(if c = 1 then some ⟨b, off, none⟩ else (some (⟨b, off, none⟩ : Addr)).map (·.add 1)), c - 1, by rw [List.length_cons, Nat.add_sub_cancel], by omega, by omega, ?_, fun hne => ?_⟩
 ·intro e
  by_cases hc : c = 1
  ·omega
  ·rw [if_neg hc] at e; cases e
 ·have hl : 0 < ls.length := List.length_pos_iff.2 hne
  refine ⟨b, off + 1, ?_, fun j hj => ?_⟩
  ·rw [if_neg (by omega)]
   simp [Addr.add]
  ·obtain ⟨u, hu, hb⟩ := hh (j + 1) (by simp; omega)
   refine ⟨u, ?_, ?_⟩
   ·rw [<- hu]; congr 2; omega
   ·simpa using hb
end Go.Proofs.YtcpchhigiohlnaaDoor
namespace Go.Proofs.YtcpchhigiohlnaaDoor
open Go.RowKit
def mkB (k i : Nat) : Int := ((151 * k + 7 * i + 1) % 256 : Nat)
theorem mkB_byt (k i : Nat) : 0 <= mkB k i /\ mkB k i < 256 := by unfold mkB; omega
theorem mark_any (w : World) (k i : Nat) (hk : k <= 1125899906842624) (hi : i <= 1125899906842624) : Calls Tryd.prog 27 #[.int .i64 k, .int .i64 i] w fun e w' => e = .returned (.int .u8 (mkB k i)) /\ w' = w := by
 go_enter Tryd.func27, Tryd.ntmps27
 go_wp2
 go_ret
 exact ⟨by unfold mkB; first | rfl | (congr 2; done) | (congr 2; omega), rfl⟩
theorem mark_eq (w : World) (k i : Nat) (a b : Int) (ha : a = (k : Int)) (hb : b = (i : Int)) (hk : k <= 1125899906842624) (hi : i <= 1125899906842624) : Calls Tryd.prog 27 #[.int .i64 a, .int .i64 b] w fun e w' => e = .returned (.int .u8 (mkB k i)) /\ w' = w := by
 subst ha hb
 exact mark_any w k i hk hi
theorem wrap_succ (k : Nat) (h : k <= 1125899906842624) : IntKind.i64.wrap ((k : Int) + 1) = ((k + 1 : Nat) : Int) := by rw [IntKind.wrap_i64]; omega
def lent (l : List Int) : List Int := l ++ (List.range 70).map fun i => mkB 0 (l.length + i)
def lentTo (l : List Int) (m : Nat) : List Int := l ++ (List.range m).map fun i => mkB 0 (l.length + i)
theorem lent_length (l : List Int) : (lent l).length = l.length + 70 := by simp [lent]
theorem lentTo_succ (l : List Int) (m : Nat) : lentTo l (m + 1) = lentTo l m ++ [mkB 0 (l.length + m)] := by simp [lentTo, List.range_succ]
theorem lent_byt {l : List Int} (h : ∀ x ∈ l, 0 <= x /\ x < 256) : ∀ x ∈ lent l, 0 <= x /\ x < 256 := by
 intro x hx
 unfold lent at hx
 rcases List.mem_append.1 hx with hx | hx
 ·exact h x hx
 ·obtain ⟨i, _, rfl⟩ := List.mem_map.1 hx
  exact mkB_byt _ _
theorem lent_take (l : List Int) : (lent l).take l.length = l := by simp [lent]
theorem lent_any (w : World) (v : Value) (l : List Int) (h : HB w v l) (hbig : l.length <= 140737488351232) :
  Calls Tryd.prog 18 #[v] w fun e w' => ∃ v', e = .returned v' /\ w'.ownsRow w.heap.size 5 1 v' (lent l).length ((lent l).map (Value.int .u8)) /\ Below w.heap.size w w' := by
 obtain ⟨p, c, e, hlc, hm⟩ := h.open
 unfold maxLen at hm
 have A : Hid (0 < l.length -> ∃ b off, p = some ⟨b, off, none⟩ /\ ∀ j, j < l.length -> w.cell? ⟨b, off + j, none⟩ = some (.int .u8 (l.getD j 0))) := by
  intro h0
  obtain ⟨b, off, c', e', _, _, hh⟩ := h.ne h0
  rw [e] at e'
  simp only [Value.slice.injEq, true_and] at e'
  exact ⟨b, off, e'.1, hh⟩
 clear h
 subst e
 go_enter Tryd.func18, Tryd.ntmps18
 go_wp2
 go_loopw [3, 4] (fun o i wr => ∃ k : Nat, k <= l.length /\ i = .int .i64 k /\ Hid (wr.ownsRow w.heap.size 5 1 o k ((l.take k).map (Value.int .u8))) /\ Hid (Below w.heap.size w wr)) (fun _ i _ => l.length - (intOf i).toNat)
 case atStart => exact ⟨0, Nat.zero_le _, rfl, World.ownsRow_nil _ _ _ _, Below.refl _ _⟩
 case round =>
  obtain ⟨k, hk, rfl, HO, HBw⟩ := hrel
  by_cases hlt : k < l.length
  ·obtain ⟨b, off, rfl, hh⟩ := A.out (by omega)
   have hu0 := hh k hlt
   have hu := (HBw.out.cell (World.block_lt_of_cell? w _ hu0)).trans hu0
   have HS : Hid (l.take (k + 1) = l.take k ++ [l.getD k 0]) := by
    show _ = _
    rw [List.take_succ_eq_append_getElem hlt, getD_of_lt hlt]
   obtain ⟨x, HX⟩ : ∃ x, Hid (l.getD k 0 = x) := ⟨_, rfl⟩
   rw [HX.out] at hu HS
   clear hh hu0
   go_wp2_with (at_builtin; refine wpList_append_byte rfl _ _ rfl w.heap.size _ k _ rfl (HO.out.alloc _) ⟨wr.heap.size, 0, none⟩ 1 x rfl (by simp) ?q1 ?q2 ?_)
   case q1 => omega
   case q2 => have := HBw.out.size; simp; omega
   intro v' w2 hown2 hgr2 _
   have HO2 : Hid (w2.ownsRow w.heap.size 5 1 v' (k + 1) ((l.take (k + 1)).map (Value.int .u8))) := by
    rw [HS.out, List.map_append, List.map_take]
    exact hown2
   have HB2 := hid ((HBw.out.alloc HBw.out.size _).grown hgr2 (by have := HBw.out.size; simp; omega) (fun k e => (HO.out.lt k e).1))
   clear hown2 hgr2
   go_wp2
   exact ⟨⟨k + 1, by omega, by go_num, HO2, HB2⟩, by simp [intOf]; omega⟩
  ·have hkl : k = l.length := by omega
   have HO' : Hid (wr.ownsRow w.heap.size 5 1 u3 (l.length + 0) ((lentTo l 0).map (Value.int .u8))) := by
    show World.ownsRow _ _ _ _ _ _ _
    have := HO.out
    rw [hkl, List.take_of_length_le (Nat.le_refl _)] at this
    simpa [lentTo] using this
   clear hkl
   go_wp2
   go_loopw [3, 5] (fun o i wz => ∃ m : Nat, m <= 70 /\ i = .int .i64 m /\ Hid (wz.ownsRow w.heap.size 5 1 o (l.length + m) ((lentTo l m).map (Value.int .u8))) /\ Hid (Below w.heap.size w wz)) (fun _ i _ => 70 - (intOf i).toNat)
   case atStart => exact ⟨0, Nat.zero_le _, rfl, HO', HBw⟩
   case round =>
    clear HO' HBw HO
    obtain ⟨m, hm70, rfl, HO, HBw⟩ := hrel
    by_cases hlt2 : m < 70
    ·have hlt3 : (m : Int) < 70 := by omega
     have HS := hid (lentTo_succ l m)
     go_wp2_with fail
     have e1 : ((l.length : Int) + (m : Int)) = ((l.length + m : Nat) : Int) := by omega
     rw [e1]
     refine (mark_any wr 0 (l.length + m) (by omega) (by omega)).mono ?_
     rintro e wz ⟨rfl, hw⟩
     have hw' := hw.symm
     subst hw'
     clear hw e1
     go_wp2_with (at_builtin; refine wpList_append_byte rfl _ _ rfl w.heap.size _ (l.length + m) _ rfl (HO.out.alloc _) ⟨wr.heap.size, 0, none⟩ 1 (mkB 0 (l.length + m)) rfl (by simp) ?q1 ?q2 ?_)
     case q1 => omega
     case q2 => have := HBw.out.size; simp; omega
     intro v' w2 hown2 hgr2 _
     have HO2 : Hid (w2.ownsRow w.heap.size 5 1 v' (l.length + (m + 1)) ((lentTo l (m + 1)).map (Value.int .u8))) := by
      rw [HS.out, List.map_append]
      exact hown2
     have HB2 := hid ((HBw.out.alloc HBw.out.size _).grown hgr2 (by have := HBw.out.size; simp; omega) (fun k e => (HO.out.lt k e).1))
     clear hown2 hgr2
     go_wp2
     exact ⟨⟨m + 1, by omega, by go_num, HO2, HB2⟩, by simp [intOf]; omega⟩
    ·have e70 : m = 70 := by omega
     subst e70
     go_wp2
     go_ret
     refine ⟨_, rfl, ?_, HBw.out⟩
     rw [lent_length]
     exact HO.out
theorem kept_any (w : World) (vf vl : Value) (fl l : List Int) (hf : HB w vf fl) (hl : HB w vl l) (hbig : l.length <= 140737488351232) :
  Calls Tryd.prog 20 #[vf, vl] w fun e w' => e = .returned (.bool (decide (fl = lent l))) /\ Below w.heap.size w w' := by
 have HF := hid hf
 have HLl := hid hl
 obtain ⟨p1, c1, rfl, _, _⟩ := hf.open
 obtain ⟨p2, c2, rfl, _, _⟩ := hl.open
 clear hf hl
 go_enter Tryd.func20, Tryd.ntmps20
 go_wp2_with fail
 refine (lent_any w _ l HLl.out hbig).mono ?_
 rintro e w1 ⟨v1, rfl, hown, hB⟩
 have H1 := hid (HB.of_own hown (lent_byt HLl.out.2))
 have HF1 := hid (HF.out.below hB)
 have B1 := hid hB
 obtain ⟨p3, c3, e3, _, _⟩ := H1.out.open
 clear hown hB
 subst e3
 obtain ⟨ll, HLL⟩ : ∃ ll, Hid (lent l = ll) := ⟨_, rfl⟩
 rw [HLL.out] at H1 ⊢
 go_wp2_with fail
 refine (sameBytes_any w1 _ _ fl ll HF1.out H1.out).mono ?_
 rintro e w2 ⟨rfl, hD⟩
 have B2 := hid (B1.out.trans (hD.below _))
 obtain ⟨z, HZ⟩ : ∃ z, Hid (decide (fl = ll) = z) := ⟨_, rfl⟩
 rw [HZ.out]
 clear hD
 go_wp2
 go_ret
 exact ⟨by rw [HLL.out, HZ.out]; rfl, B2.out⟩
theorem over_any (w : World) (B : Nat) (v : Value) (n : Nat) (xs : List Value) (h : w.ownsRow B 5 1 v n xs) (hn : n <= 140737488355328) :
  Calls Tryd.prog 21 #[v] w fun e w' => e = .returned (.tuple #[]) /\ (∃ ys, w'.ownsRow B 5 1 v n ys) /\ w.grownBy w' v.ownBlock := by
 rcases h.2 with ⟨rfl, rfl⟩ | ⟨g, cap, cur, rfl, hbg, hg, hnc, hcm, hcs, htake⟩
 ·go_enter Tryd.func21, Tryd.ntmps21
  go_wp2
  go_loop [2] (fun i => i = .int .i64 0) (fun _ => 0)
  case atStart => rfl
  case round =>
   subst hrel
   go_wp2
   go_end0
   exact ⟨rfl, ⟨xs, h⟩, ⟨rfl, rfl, rfl, Nat.le_refl _, fun _ _ _ => rfl⟩⟩
 ·have HO := hid h
  clear h hg htake hcs hbg
  unfold maxLen at hcm
  go_enter Tryd.func21, Tryd.ntmps21
  go_wp2
  go_loopw [2] (fun i wr => ∃ k : Nat, k <= n /\ i = .int .i64 k /\ Hid (∃ ys, wr.ownsRow B 5 1 (.slice (some ⟨g, 0, none⟩) n cap) n ys) /\ Hid (w.grownBy wr (some g))) (fun i _ => n - (intOf i).toNat)
  case atStart => exact ⟨0, Nat.zero_le _, rfl, ⟨_, HO.out⟩, ⟨rfl, rfl, rfl, Nat.le_refl _, fun _ _ _ => rfl⟩⟩
  case round =>
   obtain ⟨k, hk, rfl, HY, HG⟩ := hrel
   by_cases hlt : k < n
   ·obtain ⟨ys, hy⟩ := HY.out
    have hc := hy.cellAt k (by omega)
    have hfz := hy.frozenAt k
    obtain ⟨z, hz⟩ : ∃ z, ys[k]? = some z := ⟨_, List.getElem?_eq_getElem (by have := hy.1; omega)⟩
    rw [hz] at hc
    have HYY := hid hy
    clear hz hy
    go_wp2_with fail
    have e1 : ((k : Int) + 3) = ((k + 3 : Nat) : Int) := by omega
    rw [e1]
    refine (mark_any wr 7 (k + 3) (by omega) (by omega)).mono ?_
    rintro e wz ⟨rfl, hw⟩
    have hw' := hw.symm
    subst hw'
    clear hw e1
    go_wp2
    exact ⟨⟨k + 1, by omega, by go_num, ⟨_, (HYY.out.stored k _).1⟩, ⟨HG.out.os, HG.out.tape, HG.out.output, by simpa using HG.out.size, fun i hi hne => by
     rw [heap_setCell_other _ _ _ _ (fun e => hne (by simp [e]))]
     exact HG.out.block i hi hne⟩⟩, by simp [intOf]; omega⟩
   ·go_wp2
    go_end0
    exact ⟨rfl, HY.out, HG.out⟩
theorem over_byt (w : World) (B : Nat) (v : Value) (l : List Int) (h : w.ownsRow B 5 1 v l.length (l.map (Value.int .u8))) (hl : ∀ x ∈ l, 0 <= x /\ x < 256) (hn : l.length <= 140737488355328) :
  Calls Tryd.prog 21 #[v] w fun e w' => e = .returned (.tuple #[]) /\ (∃ l' : List Int, l'.length = l.length /\ (∀ x ∈ l', 0 <= x /\ x < 256) /\ w'.ownsRow B 5 1 v l.length (l'.map (Value.int .u8))) /\ w.grownBy w' v.ownBlock := by
 obtain ⟨n, hnl⟩ : ∃ n, n = l.length := ⟨_, rfl⟩
 rw [<- hnl] at h hn ⊢
 rcases h.2 with ⟨rfl, h0⟩ | ⟨g, cap, cur, rfl, hbg, hg, hnc, hcm, hcs, htake⟩
 ·subst h0
  clear hnl h
  go_enter Tryd.func21, Tryd.ntmps21
  go_wp2
  go_loop [2] (fun i => i = .int .i64 0) (fun _ => 0)
  case atStart => rfl
  case round =>
   subst hrel
   go_wp2
   go_end0
   exact ⟨rfl, World.ownsRow_nil _ _ _ _, ⟨rfl, rfl, rfl, Nat.le_refl _, fun _ _ _ => rfl⟩⟩
 ·have HO : Hid (∃ l' : List Int, l'.length = n /\ (∀ x ∈ l', 0 <= x /\ x < 256) /\ w.ownsRow B 5 1 (.slice (some ⟨g, 0, none⟩) n cap) n (l'.map (Value.int .u8))) := ⟨l, hnl.symm, hl, h⟩
  clear h hg htake hcs hbg hl hnl
  unfold maxLen at hcm
  go_enter Tryd.func21, Tryd.ntmps21
  go_wp2
  go_loopw [2] (fun i wr => ∃ k : Nat, k <= n /\ i = .int .i64 k /\ Hid (∃ l' : List Int, l'.length = n /\ (∀ x ∈ l', 0 <= x /\ x < 256) /\ wr.ownsRow B 5 1 (.slice (some ⟨g, 0, none⟩) n cap) n (l'.map (Value.int .u8))) /\ Hid (w.grownBy wr (some g))) (fun i _ => n - (intOf i).toNat)
  case atStart => exact ⟨0, Nat.zero_le _, rfl, HO, ⟨rfl, rfl, rfl, Nat.le_refl _, fun _ _ _ => rfl⟩⟩
  case round =>
   clear HO
   obtain ⟨k, hk, rfl, HY, HG⟩ := hrel
   by_cases hlt : k < n
   ·obtain ⟨l', hl', hby', hy⟩ := HY.out
    have hc := hy.cellAt k (by omega)
    have hfz := hy.frozenAt k
    obtain ⟨z, hz⟩ : ∃ z, (l'.map (Value.int .u8))[k]? = some z := ⟨_, List.getElem?_eq_getElem (by rw [List.length_map]; omega)⟩
    rw [hz] at hc
    have HYY := hid hy
    have HL' := hid hl'
    have HBY := hid hby'
    clear hz hy hl' hby' HY
    go_wp2_with fail
    have e1 : ((k : Int) + 3) = ((k + 3 : Nat) : Int) := by omega
    rw [e1]
    refine (mark_any wr 7 (k + 3) (by omega) (by omega)).mono ?_
    rintro e wz ⟨rfl, hw⟩
    have hw' := hw.symm
    subst hw'
    clear hw e1
    go_wp2
    refine ⟨⟨k + 1, by omega, by go_num, ⟨l'.set k (mkB 7 (k + 3)), by rw [List.length_set]; exact HL'.out, fun x hx => ?_, by rw [List.map_set]; exact (HYY.out.stored k _).1⟩, ⟨HG.out.os, HG.out.tape, HG.out.output, by simpa using HG.out.size, fun i hi hne => by
     rw [heap_setCell_other _ _ _ _ (fun e => hne (by simp [e]))]
     exact HG.out.block i hi hne⟩⟩, by simp [intOf]; omega⟩
    rcases List.mem_or_eq_of_mem_set hx with h1 | h1
    ·exact HBY.out x h1
    ·rw [h1]; exact mkB_byt _ _
   ·go_wp2
    go_end0
    exact ⟨rfl, HY.out, HG.out⟩
def marksL (k n : Nat) : List Int := (List.range n).map (mkB k)
theorem marksL_length (k n : Nat) : (marksL k n).length = n := by simp [marksL]
theorem marksL_getD (k n i : Nat) (h : i < n) : (marksL k n).getD i 0 = mkB k i := by simp [marksL, List.getD, h]
theorem marksL_byt (k n : Nat) : ∀ x ∈ marksL k n, 0 <= x /\ x < 256 := by
 intro x hx
 obtain ⟨i, _, rfl⟩ := List.mem_map.1 hx
 exact mkB_byt _ _
theorem marksL_succ (k n : Nat) : marksL k (n + 1) = marksL k n ++ [mkB k n] := by simp [marksL, List.range_succ]
theorem marksL_take (k n m : Nat) (h : n <= m) : (marksL k m).take n = marksL k n := by
 unfold marksL
 rw [<- List.map_take, List.take_range]
 congr 2
 omega
def Apt (B : Nat) (w : World) (us : List Value) (ls : List (List Int)) : Prop :=
 us.length = ls.length /\ (∀ k, k < us.length -> w.ownsRow B 5 1 (us.getD k undef) (ls.getD k []).length ((ls.getD k []).map (Value.int .u8))) ∧
  ∀ i j, i < us.length -> j < us.length -> i ≠ j -> (us.getD i undef).ownBlock = none \/ (us.getD i undef).ownBlock ≠ (us.getD j undef).ownBlock
def HV (w : World) (v : Value) (us : List Value) : Prop :=
 ∃ (p : Option Addr) (c : Nat), v = .slice p us.length c /\ us.length <= c /\ c <= maxLen ∧
  (us ≠ [] -> ∃ b off, p = some ⟨b, off, none⟩ /\ BT w b 30 /\ ∀ k, k < us.length -> w.cell? ⟨b, off + k, none⟩ = some (us.getD k undef))
theorem BT.grown {w w' : World} {b : Nat} {T : TypeId} {row : Option Nat} (h : BT w b T) (hg : w.grownBy w' row) (hr : ∀ g, row = some g -> ∃ e, BT w g e /\ e ≠ T) : BT w' b T := by
 obtain ⟨cur, fz, hh⟩ := h
 refine ⟨cur, fz, ?_⟩
 rw [hg.block b (Array.getElem?_eq_some_iff.1 hh).1 ?_]
 ·exact hh
 ·intro e
  obtain ⟨e', ⟨cur', fz', hh'⟩, hne⟩ := hr b e.symm
  rw [hh] at hh'
  simp only [Option.some.injEq, Obj.cells.injEq] at hh'
  exact hne hh'.2.1.symm
theorem HV.grown {w w' : World} {v : Value} {us : List Value} {row : Option Nat} (h : HV w v us) (hg : w.grownBy w' row) (hr : ∀ g, row = some g -> BT w g 5) : HV w' v us := by
 obtain ⟨p, c, h1, h2, h3, h4⟩ := h
 refine ⟨p, c, h1, h2, h3, fun hne => ?_⟩
 obtain ⟨b, off, e, hb, hc⟩ := h4 hne
 have hb' : BT w' b 30 := hb.grown hg (fun g e => ⟨_, hr g e, by decide⟩)
 refine ⟨b, off, e, hb', fun k hk => hg.cell (hc k hk) ?_⟩
 intro e
 obtain ⟨cur, fz, hh⟩ := hb
 obtain ⟨cur', fz', hh'⟩ := hr b e.symm
 rw [hh] at hh'
 simp at hh'
theorem own_BT {w : World} {B n : Nat} {v : Value} {xs : List Value} {e : TypeId} (h : w.ownsRow B e 1 v n xs) : ∀ g, v.ownBlock = some g -> BT w g e := by
 intro g hg
 rcases h.2 with ⟨rfl, _⟩ | ⟨g', cap, cur, rfl, _, hh, _⟩
 ·simp [Value.ownBlock] at hg
 ·simp only [Value.ownBlock, Option.some.injEq] at hg
  subst hg
  exact ⟨cur, _, hh⟩
theorem BT.ne {w : World} {b g : Nat} {T U : TypeId} (h : BT w b T) (k : BT w g U) (hne : T ≠ U) : b ≠ g := by
 intro e
 subst e
 obtain ⟨cur, fz, hh⟩ := h
 obtain ⟨cur', fz', hh'⟩ := k
 rw [hh] at hh'
 simp only [Option.some.injEq, Obj.cells.injEq] at hh'
 exact hne hh'.2.1
theorem HV.block {w : World} {b off n c : Nat} {us : List Value} (h : HV w (.slice (some ⟨b, off, none⟩) n c) us) (h0 : 0 < us.length) : BT w b 30 := by
 obtain ⟨p, c', e, _, _, h4⟩ := h
 obtain ⟨b', off', e2, hb, _⟩ := h4 (by intro e; subst e; simp at h0)
 simp only [Value.slice.injEq] at e
 rw [<- e.1] at e2
 simp only [Option.some.injEq, Addr.mk.injEq, and_true] at e2
 rw [e2.1]
 exact hb
theorem getD_set {α : Type} (l : List α) (d x : α) (k j : Nat) (hk : k < l.length) : (l.set k x).getD j d = if j = k then x else l.getD j d := by
 by_cases h : j = k
 ·subst h
  simp [List.getD, hk]
 ·rw [if_neg h]
  simp only [List.getD]
  rw [List.getElem?_set_ne (Ne.symm h)]
theorem Apt.store {B : Nat} {w : World} {us : List Value} {ls : List (List Int)} (h : Apt B w us ls) (k i : Nat) (x : Int) (hk : k < us.length) {g cap n : Nat} (hu : us.getD k undef = .slice (some ⟨g, 0, none⟩) n cap) :
  Apt B (w.setCell ⟨g, i, none⟩ (.int .u8 x)) us (ls.set k ((ls.getD k []).set i x)) /\ w.grownBy (w.setCell ⟨g, i, none⟩ (.int .u8 x)) (some g) := by
 obtain ⟨h1, h2, h3⟩ := h
 have hok := h2 k hk
 rw [hu] at hok
 have hn : n = (ls.getD k []).length := by
  rcases hok.2 with ⟨e, _⟩ | ⟨_, _, _, e, _⟩
  ·cases e
  ·cases e; rfl
 subst hn
 have hst := hok.stored i (.int .u8 x)
 refine ⟨⟨by simpa using h1, fun j hj => ?_, h3⟩, hst.2⟩
 rw [getD_set ls [] _ k j (by omega)]
 by_cases hjk : j = k
 ·subst hjk
  rw [if_pos rfl, hu, List.length_set, List.map_set]
  exact hst.1
 ·rw [if_neg hjk]
  refine (h2 j hj).kept hst.2 ?_
  have := h3 j k hj hk hjk
  rw [hu] at this
  exact this
theorem Apt.slice {B : Nat} {w : World} {us : List Value} {ls : List (List Int)} (h : Apt B w us ls) (k : Nat) (hk : k < us.length) : ∃ p c, us.getD k undef = .slice p (ls.getD k []).length c := by
 rcases (h.2.1 k hk).2 with ⟨e, e2⟩ | ⟨g, cap, _, e, _⟩
 ·exact ⟨none, 0, by rw [e, e2]⟩
 ·exact ⟨_, _, e⟩
theorem Apt.some {B : Nat} {w : World} {us : List Value} {ls : List (List Int)} (h : Apt B w us ls) (k : Nat) (hk : k < us.length) (h0 : 0 < (ls.getD k []).length) : ∃ g c, us.getD k undef = .slice (Option.some ⟨g, 0, none⟩) (ls.getD k []).length c /\ c <= maxLen /\ (ls.getD k []).length <= c /\ B <= g /\ BT w g 5 := by
 rcases (h.2.1 k hk).2 with ⟨_, e2⟩ | ⟨g, cap, cur, e, hb, hh, h1, h2, _⟩
 ·omega
 ·exact ⟨g, cap, e, h2, h1, hb, cur, _, hh⟩
def Ph1 (B : Nat) (w : World) (us : List Value) (ls : List (List Int)) (K i : Nat) : Prop :=
 ∃ ms, Apt B w us ms /\ (∀ j, (ms.getD j []).length = (ls.getD j []).length) /\ (∀ j, j < K -> ms.getD j [] = marksL (j + 1) (ls.getD j []).length) /\ (ms.getD K []).take i = marksL (K + 1) i
theorem Ph1.start {B : Nat} {w : World} {us : List Value} {ls : List (List Int)} (h : Apt B w us ls) : Ph1 B w us ls 0 0 := ⟨ls, h, fun _ => rfl, fun j hj => by omega, by simp [marksL]⟩
theorem take_set_succ (l : List Int) (i : Nat) (x : Int) (hi : i < l.length) : (l.set i x).take (i + 1) = l.take i ++ [x] := by
 rw [List.take_succ_eq_append_getElem (by simpa using hi)]
 have e : (l.set i x).take i = l.take i := by
  apply List.ext_getElem?
  intro j
  simp only [List.getElem?_take]
  split
  ·rw [List.getElem?_set_ne (by omega)]
  ·rfl
 rw [e]
 simp
theorem Ph1.step {B : Nat} {w : World} {us : List Value} {ls : List (List Int)} {K i : Nat} (h : Ph1 B w us ls K i) (hK : K < us.length) (hi : i < (ls.getD K []).length) {g cap n : Nat} (hu : us.getD K undef = .slice (some ⟨g, 0, none⟩) n cap) :
  Ph1 B (w.setCell ⟨g, i, none⟩ (.int .u8 (mkB (K + 1) i))) us ls K (i + 1) /\ w.grownBy (w.setCell ⟨g, i, none⟩ (.int .u8 (mkB (K + 1) i))) (some g) := by
 obtain ⟨ms, ha, hl, hd, ht⟩ := h
 have hs := ha.store K i (mkB (K + 1) i) hK hu
 have hKm : K < ms.length := by have := ha.1; omega
 refine ⟨⟨_, hs.1, fun j => ?_, fun j hj => ?_, ?_⟩, hs.2⟩
 ·rw [getD_set ms [] _ K j hKm]
  split
  ·rename_i e; subst e; rw [List.length_set]; exact hl _
  ·exact hl j
 ·rw [getD_set ms [] _ K j hKm, if_neg (by omega)]
  exact hd j hj
 ·rw [getD_set ms [] _ K K hKm, if_pos rfl, take_set_succ _ _ _ (by rw [hl]; exact hi), ht, marksL_succ]
theorem Ph1.next {B : Nat} {w : World} {us : List Value} {ls : List (List Int)} {K i : Nat} (h : Ph1 B w us ls K i) (hi : (ls.getD K []).length <= i) : Ph1 B w us ls (K + 1) 0 := by
 obtain ⟨ms, ha, hl, hd, ht⟩ := h
 refine ⟨ms, ha, hl, fun j hj => ?_, by simp [marksL]⟩
 by_cases hj2 : j < K
 ·exact hd j hj2
 ·have e : j = K := by omega
  subst e
  have e1 := congrArg (List.take (ls.getD j []).length) ht
  rw [List.take_take, marksL_take _ _ _ hi] at e1
  rw [<- e1, List.take_of_length_le]
  rw [hl]
  omega
theorem Ph1.slice {B : Nat} {w : World} {us : List Value} {ls : List (List Int)} {K i : Nat} (h : Ph1 B w us ls K i) (k : Nat) (hk : k < us.length) : ∃ p c, us.getD k undef = .slice p (ls.getD k []).length c := by
 obtain ⟨ms, ha, hl, _, _⟩ := h
 obtain ⟨p, c, e⟩ := ha.slice k hk
 rw [hl] at e
 exact ⟨p, c, e⟩
theorem Ph1.some {B : Nat} {w : World} {us : List Value} {ls : List (List Int)} {K i : Nat} (h : Ph1 B w us ls K i) (k : Nat) (hk : k < us.length) (h0 : 0 < (ls.getD k []).length) : ∃ g c, us.getD k undef = .slice (Option.some ⟨g, 0, none⟩) (ls.getD k []).length c /\ c <= maxLen /\ (ls.getD k []).length <= c /\ B <= g /\ BT w g 5 /\ ∀ j, j < (ls.getD k []).length -> (∃ z, w.cell? ⟨g, j, none⟩ = Option.some z) /\ w.frozen? ⟨g, j, none⟩ = false := by
 obtain ⟨ms, ha, hl, _, _⟩ := h
 obtain ⟨g, c, e, h1, h2, h3, h4⟩ := ha.some k hk (by rw [hl]; exact h0)
 have hrow := ha.2.1 k hk
 rw [e] at hrow
 rw [hl] at e h2
 refine ⟨g, c, e, h1, h2, h3, h4, fun j hj => ⟨?_, hrow.frozenAt j⟩⟩
 have := hrow.cellAt j (by rw [hl]; omega)
 rw [this]
 exact ⟨_, List.getElem?_eq_getElem (by simp only [List.length_map]; rw [hl]; exact hj)⟩
theorem Ph1.drew {B : Nat} {w : World} {us : List Value} {ls : List (List Int)} {K i : Nat} (h : Ph1 B w us ls K i) : Ph1 B w.drew us ls K i := h
theorem HV.drew {w : World} {v : Value} {us : List Value} (h : HV w v us) : HV w.drew v us := h
theorem HB.away {w w' : World} {u : Value} {l : List Int} {row : Option Nat} (h : HB w u l) (hg : w.grownBy w' row) (hr : u.ownBlock = none \/ u.ownBlock ≠ row) : HB w' u l := by
 obtain ⟨⟨p, c, rfl, h2, h3, h6, h4⟩, h5⟩ := h
 refine ⟨⟨p, c, rfl, h2, h3, h6, fun hl => ?_⟩, h5⟩
 obtain ⟨b, off, rfl, hh⟩ := h4 hl
 refine ⟨b, off, rfl, fun j hj => hg.cell (hh j hj) ?_⟩
 rcases hr with hr | hr
 ·simp [Value.ownBlock] at hr
 ·exact hr
def Usf (w : World) (us : List Value) (ls : List (List Int)) : Prop :=
 (∀ i j, i < us.length -> j < us.length -> i ≠ j -> (us.getD i undef).ownBlock = none \/ (us.getD i undef).ownBlock ≠ (us.getD j undef).ownBlock) ∧
 (∀ j b, j < us.length -> (us.getD j undef).ownBlock = some b -> b < w.heap.size /\ ∃ c, us.getD j undef = .slice (some ⟨b, 0, none⟩) (ls.getD j []).length c /\ (ls.getD j []).length <= c /\ c <= maxLen) ∧
 (∀ j, j < us.length -> ∃ p c, us.getD j undef = .slice p (ls.getD j []).length c)
theorem Usf.grown {w w' : World} {us : List Value} {ls : List (List Int)} (h : Usf w us ls) (hs : w.heap.size <= w'.heap.size) : Usf w' us ls :=
 ⟨h.1, fun j b hj hb => ⟨Nat.lt_of_lt_of_le (h.2.1 j b hj hb).1 hs, (h.2.1 j b hj hb).2⟩, h.2.2⟩
def Pool (B : Nat) (w : World) (us : List Value) (ls : List (List Int)) (K L : Nat) (gl : List Value) : Prop :=
 gl.length = K /\ Usf w us ls ∧
 (∀ j, j < K -> w.ownsRow B 5 1 (gl.getD j undef) ((ls.getD j []).length + 70) ((marksL (j + 1) ((ls.getD j []).length + 70)).map (Value.int .u8)) /\ HB w (us.getD j undef) (marksL (j + 1) (ls.getD j []).length)) ∧
 (∀ j, L <= j -> j < us.length -> w.ownsRow B 5 1 (us.getD j undef) (ls.getD j []).length ((marksL (j + 1) (ls.getD j []).length).map (Value.int .u8))) ∧
 (∀ i j, i < K -> K <= j -> j < us.length -> (gl.getD i undef).ownBlock ≠ (us.getD j undef).ownBlock)
theorem Pool.grown {B : Nat} {w w' : World} {us : List Value} {ls : List (List Int)} {K L : Nat} {gl : List Value} {row : Option Nat} (h : Pool B w us ls K L gl) (hg : w.grownBy w' row)
  (hr1 : ∀ i, i < K -> (gl.getD i undef).ownBlock = none \/ (gl.getD i undef).ownBlock ≠ row) (hr2 : ∀ j, j < us.length -> (j < K \/ L <= j) -> (us.getD j undef).ownBlock = none \/ (us.getD j undef).ownBlock ≠ row) (hKL : K <= us.length) : Pool B w' us ls K L gl := by
 obtain ⟨h1, h2, h3, h4, h5⟩ := h
 refine ⟨h1, h2.grown hg.size, fun j hj => ⟨(h3 j hj).1.kept hg (hr1 j hj), (h3 j hj).2.away hg (hr2 j (by omega) (.inl hj))⟩, fun j hj hj2 => (h4 j hj hj2).kept hg (hr2 j hj2 (.inr hj)), h5⟩
def Cur (B : Nat) (w : World) (us : List Value) (ls : List (List Int)) (K : Nat) (gl : List Value) (g : Value) (m : Nat) : Prop :=
 Pool B w us ls K (K + 1) gl /\ w.ownsRow B 5 1 g ((ls.getD K []).length + m) ((marksL (K + 1) ((ls.getD K []).length + m)).map (Value.int .u8)) /\ HB w (us.getD K undef) (marksL (K + 1) (ls.getD K []).length) ∧
 (∀ i, i < K -> (gl.getD i undef).ownBlock ≠ g.ownBlock) /\ ∀ j, j < us.length -> j ≠ K -> (us.getD j undef).ownBlock = none \/ (us.getD j undef).ownBlock ≠ g.ownBlock
theorem Cur.start {B : Nat} {w : World} {us : List Value} {ls : List (List Int)} {K : Nat} {gl : List Value} (h : Pool B w us ls K K gl) (hK : K < us.length) : Cur B w us ls K gl (us.getD K undef) 0 := by
 obtain ⟨h1, h2, h3, h4, h5⟩ := h
 have hk := h4 K (Nat.le_refl _) hK
 refine ⟨⟨h1, h2, h3, fun j hj => h4 j (by omega), h5⟩, by simpa using hk, HB.of_own (by rw [marksL_length]; exact hk) (marksL_byt _ _), fun i hi => h5 i K hi (Nat.le_refl _) hK, fun j hj hne => h2.1 j K hj hK hne⟩
theorem Cur.finish {B : Nat} {w : World} {us : List Value} {ls : List (List Int)} {K : Nat} {gl : List Value} {g : Value} (h : Cur B w us ls K gl g 70) (hK : K < us.length) : Pool B w us ls (K + 1) (K + 1) (gl ++ [g]) := by
 obtain ⟨⟨h1, h2, h3, h4, h5⟩, hg, hu, hs1, hs2⟩ := h
 have gd : ∀ j, (gl ++ [g]).getD j undef = if j < K then gl.getD j undef else if j = K then g else undef := by
  intro j
  rw [getD_app, h1]
  split
  ·rfl
  ·split
   ·rename_i e; subst e; simp
   ·rename_i h6 h7
    have : 0 < j - K := by omega
    obtain ⟨t, ht⟩ : ∃ t, j - K = t + 1 := ⟨j - K - 1, by omega⟩
    rw [ht]; rfl
 refine ⟨by simp [h1], h2, fun j hj => ?_, h4, fun i j hi hj hj2 => ?_⟩
 ·rw [gd]
  by_cases hjk : j < K
  ·rw [if_pos hjk]; exact h3 j hjk
  ·have e : j = K := by omega
   subst e
   rw [if_neg hjk, if_pos rfl]
   exact ⟨hg, hu⟩
 ·rw [gd]
  by_cases hik : i < K
  ·rw [if_pos hik]; exact h5 i j hik (by omega) hj2
  ·have e : i = K := by omega
   subst e
   rw [if_neg hik, if_pos rfl]
   rcases hs2 j hj2 (by omega) with h | h
   ·rw [h]
    intro e
    rcases hg.2 with ⟨_, e2⟩ | ⟨g', cap, cur, e2, _⟩
    ·omega
    ·rw [e2] at e; simp [Value.ownBlock] at e
   ·exact Ne.symm h
theorem Cur.alloc {B : Nat} {w : World} {us : List Value} {ls : List (List Int)} {K : Nat} {gl : List Value} {g : Value} {m : Nat} (h : Cur B w us ls K gl g m) (hK : K < us.length) (o : Obj) : Cur B (w.alloc o) us ls K gl g m := by
 have hg := World.grownBy_alloc w o none
 have tr : ∀ x : Option Nat, x = none \/ x ≠ none := fun x => by cases x <;> simp
 exact ⟨h.1.grown hg (fun i _ => tr _) (fun j _ _ => tr _) (by omega), h.2.1.kept hg (tr _), h.2.2.1.away hg (tr _), h.2.2.2⟩
theorem Cur.step {B : Nat} {w w' : World} {us : List Value} {ls : List (List Int)} {K : Nat} {gl : List Value} {g g' : Value} {m : Nat} (h : Cur B w us ls K gl g m) (hK : K < us.length)
  (hown : w'.ownsRow B 5 1 g' ((ls.getD K []).length + m + 1) ((marksL (K + 1) ((ls.getD K []).length + m)).map (Value.int .u8) ++ [.int .u8 (mkB (K + 1) ((ls.getD K []).length + m))])) (hgr : w.grownBy w' g.ownBlock)
  (hd : g'.ownBlock = g.ownBlock \/ (g'.ownBlock = some w.heap.size /\ w.grownBy w' none)) : Cur B w' us ls K gl g' (m + 1) := by
 obtain ⟨hp, hg, hu, hs1, hs2⟩ := h
 have hp2 := hp
 obtain ⟨h1, h2, h3, h4, h5⟩ := hp2
 have hown2 : w'.ownsRow B 5 1 g' ((ls.getD K []).length + (m + 1)) ((marksL (K + 1) ((ls.getD K []).length + (m + 1))).map (Value.int .u8)) := by
  rw [<- Nat.add_assoc, marksL_succ, List.map_append]
  exact hown
 have tr : ∀ x : Option Nat, x = none \/ x ≠ none := fun x => by cases x <;> simp
 have hpool : Pool B w' us ls K (K + 1) gl := hp.grown hgr (fun i hi => .inr (hs1 i hi)) (fun j hj hj2 => hs2 j hj (by omega)) (by omega)
 rcases hd with hd | ⟨hd, hgn⟩
 ·refine ⟨hpool, hown2, ?_, fun i hi => by rw [hd]; exact hs1 i hi, fun j hj hne => by rw [hd]; exact hs2 j hj hne⟩
  by_cases hsame : (us.getD K undef).ownBlock = none \/ (us.getD K undef).ownBlock ≠ g.ownBlock
  ·exact hu.away hgr hsame
  ·obtain ⟨b, hb⟩ : ∃ b, (us.getD K undef).ownBlock = some b := by
    cases hx : (us.getD K undef).ownBlock with
    | none => exact absurd (.inl hx) hsame
    | some b => exact ⟨b, rfl⟩
   have hbg : g.ownBlock = some b := by
    apply Classical.byContradiction
    intro hn
    exact hsame (.inr (by rw [hb]; exact Ne.symm hn))
   obtain ⟨_, c, e, hc1, hc2⟩ := h2.2.1 K b hK hb
   rw [e]
   refine ⟨⟨some ⟨b, 0, none⟩, c, by rw [marksL_length], by rw [marksL_length]; exact hc1, hc2, (fun e => by cases e), fun _ => ⟨b, 0, rfl, fun j hj => ?_⟩⟩, marksL_byt _ _⟩
   rw [marksL_length] at hj
   obtain ⟨g2, cap, e2, _, _, _, hcell⟩ := ownsRow_cells hown2 (by omega)
   rw [hbg, e2] at hd
   simp only [Value.ownBlock, Option.some.injEq] at hd
   subst hd
   have hjl : j < (marksL (K + 1) ((ls.getD K []).length + (m + 1))).length := by rw [marksL_length]; omega
   have := hcell j (.int .u8 (mkB (K + 1) j)) (by
    rw [List.getElem?_map, List.getElem?_eq_getElem hjl, <- getD_of_lt hjl, marksL_getD _ _ _ (by omega)]; rfl)
   rw [this, marksL_getD _ _ _ hj]
 ·refine ⟨hpool, hown2, hu.away hgn (tr _), fun i hi => ?_, fun j hj hne => ?_⟩
  ·rw [hd]
   intro e
   have := ((h3 i hi).1.lt _ e).2
   omega
  ·rw [hd]
   right
   intro e
   have := (h2.2.1 j _ hj e).1
   omega
theorem Ph1.pool {B : Nat} {w : World} {us : List Value} {ls : List (List Int)} (h : Ph1 B w us ls us.length 0) : Pool B w us ls 0 0 [] := by
 obtain ⟨ms, ha, hl, hd, _⟩ := h
 refine ⟨rfl, ⟨ha.2.2, fun j b hj hb => ?_, fun j hj => ?_⟩, fun j hj => by omega, fun j _ hj => ?_, fun i j hi => by omega⟩
 ·have hrow := ha.2.1 j hj
  refine ⟨(hrow.lt b hb).2, ?_⟩
  rcases hrow.2 with ⟨e, _⟩ | ⟨g, cap, cur, e, _, _, h1, h2, _⟩
  ·rw [e] at hb; simp [Value.ownBlock] at hb
  ·rw [e] at hb
   simp only [Value.ownBlock, Option.some.injEq] at hb
   subst hb
   rw [hl] at e h1
   exact ⟨cap, e, h1, h2⟩
 ·obtain ⟨p, c, e⟩ := ha.slice j hj
  rw [hl] at e
  exact ⟨p, c, e⟩
 ·have := ha.2.1 j hj
  rw [hd j hj, marksL_length] at this
  exact this
theorem HV.apart {w w' : World} {v : Value} {us : List Value} {row : Option Nat} {N : Nat} (h : HV w v us) (hg : w.grownBy w' row) (hr : ∀ g, row = some g -> N <= g) (hv : ∀ b off n c, v = .slice (some ⟨b, off, none⟩) n c -> 0 < us.length -> b < N) : HV w' v us := by
 obtain ⟨p, c, h1, h2, h3, h4⟩ := h
 refine ⟨p, c, h1, h2, h3, fun hne => ?_⟩
 obtain ⟨b, off, e, ⟨cur, fz, hh⟩, hc⟩ := h4 hne
 have hb : b < N := hv b off us.length c (by rw [h1, e]) (by cases us with | nil => exact absurd rfl hne | cons _ _ => simp)
 have hne2 : some b ≠ row := fun e => by have := hr b e.symm; omega
 exact ⟨b, off, e, ⟨cur, fz, by rw [hg.block b (Array.getElem?_eq_some_iff.1 hh).1 hne2]; exact hh⟩, fun k hk => hg.cell (hc k hk) hne2⟩
theorem HV.cellAt {w : World} {b off n c : Nat} {us : List Value} (h : HV w (.slice (some ⟨b, off, none⟩) n c) us) (k : Nat) (hk : k < us.length) : w.cell? ⟨b, off + k, none⟩ = some (us.getD k undef) := by
 obtain ⟨p', c', e', _, _, h4⟩ := h
 obtain ⟨b', off', e2, _, hc⟩ := h4 (by intro e; subst e; simp at hk)
 simp only [Value.slice.injEq] at e'
 rw [<- e'.1] at e2
 simp only [Option.some.injEq, Addr.mk.injEq, and_true] at e2
 obtain ⟨rfl, rfl⟩ := e2
 exact hc k hk
end Go.Proofs.YtcpchhigiohlnaaDoor
namespace Go.Proofs.YtcpchhigiohlnaaDoor
open Go Go.RowKit
theorem lent_part {w : World} {B : Nat} {v : Value} {l : List Int} (h : w.ownsRow B 5 1 v (lent l).length ((lent l).map (Value.int .u8))) (hby : ∀ x ∈ l, 0 <= x /\ x < 256) :
  ∃ g c, v = .slice (some ⟨g, 0, none⟩) (l.length + 70) c /\ B <= g /\ g < w.heap.size /\ l.length + 70 <= c /\ c <= 9223372036854775807 /\ HB w (.slice (some ⟨g, 0, none⟩) l.length c) l /\ HB w (.slice (some ⟨g, 0, none⟩) (l.length + 70) c) (lent l) := by
 have hf := HB.of_own h (lent_byt hby)
 have hll := lent_length l
 rcases h.2 with ⟨_, e0⟩ | ⟨g, cap, cur, rfl, hb, hh, hn, hm, _⟩
 ·omega
 ·unfold maxLen at hm
  refine ⟨g, cap, by rw [hll], hb, (Array.getElem?_eq_some_iff.1 hh).1, by omega, hm, ?_, by rw [hll] at hf; exact hf⟩
  have h3 := hf.sliced 0 l.length cap (Nat.zero_le _) (by omega) (by omega) (Nat.le_refl _)
  rw [lent_take] at h3
  have e : (if cap = 0 then (some (⟨g, 0, none⟩ : Addr)) else (some (⟨g, 0, none⟩ : Addr)).map (·.add 0)) = some ⟨g, 0, none⟩ := by
   split
   ·rfl
   ·simp [Addr.add]
  rw [e] at h3
  simpa using h3
theorem own_pre {w : World} {B g n c : Nat} {l : List Int} (h : w.ownsRow B 5 1 (.slice (some ⟨g, 0, none⟩) n c) l.length (l.map (Value.int .u8))) (hl : ∀ x ∈ l, 0 <= x /\ x < 256) (m : Nat) (hm : m <= l.length) (hmc : m <= c) : HB w (.slice (some ⟨g, 0, none⟩) m c) (l.take m) := by
 have hf := HB.of_own h hl
 obtain ⟨p, c', e, h1, h2⟩ := hf.open
 simp only [Value.slice.injEq] at e
 obtain ⟨rfl, rfl, rfl⟩ := e
 have h3 := hf.sliced 0 m c (Nat.zero_le _) hm (by omega) (Nat.le_refl _)
 have e : (if c = 0 then (some (⟨g, 0, none⟩ : Addr)) else (some (⟨g, 0, none⟩ : Addr)).map (·.add 0)) = some ⟨g, 0, none⟩ := by
  split
  ·rfl
  ·simp [Addr.add]
 rw [e] at h3
 simpa using h3
theorem HB.other {w w' : World} {u : Value} {l : List Int} {g : Nat} (h : HB w u l) (hg : w.grownBy w' (some g)) (hr : u.ownBlock = none \/ u.ownBlock ≠ some g) : HB w' u l := h.away hg hr
end Go.Proofs.YtcpchhigiohlnaaDoor
namespace Go.Proofs.YtcpchhigiohlnaaDoor
open Go.RowKit
theorem Apt.away {B : Nat} {w w' : World} {us : List Value} {ls : List (List Int)} {row : Option Nat} (h : Apt B w us ls) (hg : w.grownBy w' row) (hr : ∀ k, row = Option.some k -> ∃ e, BT w k e /\ e ≠ 5) : Apt B w' us ls := by
 refine ⟨h.1, fun k hk => (h.2.1 k hk).kept hg ?_, h.2.2⟩
 cases hrow : row with
 | none => cases (us.getD k undef).ownBlock <;> simp
 | some q =>
  obtain ⟨e, ⟨cur, fz, hh⟩, hne⟩ := hr q hrow
  exact .inr (own_block_ne (h.2.1 k hk) hh (Ne.symm hne))
theorem own_slice {w : World} {B n : Nat} {e : TypeId} {v : Value} {xs : List Value} (h : w.ownsRow B e 1 v n xs) : ∃ p c, v = .slice p n c := by
 rcases h.2 with ⟨rfl, rfl⟩ | ⟨g, cap, cur, rfl, _⟩
 ·exact ⟨_, _, rfl⟩
 ·exact ⟨_, _, rfl⟩
theorem Dr.grownBy {w w' : World} (h : Dr w w') : w.grownBy w' none := by
 have b := h.below w.heap.size
 exact ⟨b.os, b.tape, b.output, b.size, fun k hk _ => b.block k hk⟩
theorem Apt.snoc {B : Nat} {w : World} {us : List Value} {ls : List (List Int)} (h : Apt B w us ls) {u : Value} {l : List Int} (hu : w.ownsRow B 5 1 u l.length (l.map (Value.int .u8))) (hd : ∀ j, j < us.length -> u.ownBlock = none \/ u.ownBlock ≠ (us.getD j undef).ownBlock) : Apt B w (us ++ [u]) (ls ++ [l]) := by
 obtain ⟨h1, h2, h3⟩ := h
 have gd : ∀ j, j < us.length + 1 -> (us ++ [u]).getD j undef = if j < us.length then us.getD j undef else u := by
  intro j hj
  rw [getD_app]
  split
  ·rfl
  ·have : j - us.length = 0 := by omega
   rw [this]; rfl
 refine ⟨by simp [h1], fun k hk => ?_, fun i j hi hj hij => ?_⟩
 ·rw [List.length_append, List.length_singleton] at hk
  rw [gd k hk, getD_app]
  by_cases hk2 : k < us.length
  ·rw [if_pos hk2, if_pos (by omega)]
   exact h2 k hk2
  ·have e : k - ls.length = 0 := by omega
   rw [if_neg hk2, if_neg (by omega), e]
   exact hu
 ·rw [List.length_append, List.length_singleton] at hi hj
  rw [gd i hi, gd j hj]
  by_cases hi2 : i < us.length
  ·by_cases hj2 : j < us.length
   ·rw [if_pos hi2, if_pos hj2]; exact h3 i j hi2 hj2 hij
   ·rw [if_pos hi2, if_neg hj2]
    rcases hd i hi2 with h | h
    ·rw [h]
     cases (us.getD i undef).ownBlock <;> simp
    ·exact .inr (Ne.symm h)
  ·have hj2 : j < us.length := by omega
   rw [if_neg hi2, if_pos hj2]
   exact hd j hj2
theorem run_append_slice (w : World) (base : Nat) (ty : TypeId) (v : Value) (n : Nat) (xs : List Value) (hown : w.ownsRow base 30 1 v n xs) (a : Addr) (c : Nat) (x : Value) (hx : w.cell? a = some x) (hx1 : x.oneCell' = true) (hn : (n + 1) * 24 <= 140737488355328) (hbase : base <= w.heap.size) :
  ∃ v' w', (Builtin.append_ #[24, 24] ty #[v, .slice (some a) 1 c]).run Tryd.prog w = .ok v' w' /\ w'.ownsRow base 30 1 v' (n + 1) (xs ++ [x]) /\ w.grownBy w' v.ownBlock ∧
   (v'.ownBlock = v.ownBlock \/ v'.ownBlock = some w.heap.size) := by
 obtain ⟨i0, hi, hz0, hz1, hz2⟩ := info_parts info_bytes
 have hnews : ∀ j u, [x][j]? = some u -> w.cell? (a.add j) = some u := by
  intro j u hj
  match j, hj with
  | 0, hj => simp at hj; subst hj; simpa [Addr.add] using hx
 have h1 : ∀ u ∈ [x], u.oneCell' = true := by intro u hu; simp at hu; subst hu; exact hx1
 obtain ⟨v', w', hr, h2, h3, _⟩ := run_append_own (P := Tryd.prog) w base 24 ty 30 i0 (.slice none 0 0) 1 24 Tryd.underlying24 hi hz0 hz1 hz2 rfl (by decide) v n xs hown a 1 c [x] rfl hnews h1 (by unfold maxLen; omega) hn hbase
 refine ⟨v', w', hr, h2, h3, ?_⟩
 rcases hown.2 with ⟨rfl, rfl⟩ | ⟨g, cap, cur, rfl, hbg, hg, hnc, hcm, hcs, htake⟩
 ·have hr2 := run_append_nil (P := Tryd.prog) w 24 ty 30 i0 (.slice none 0 0) Tryd.underlying24 hi hz0 a 1 c [x] (by rw [hz1]; rfl) hnews (by omega) (by omega) (by rw [hz2]; omega)
  rw [hr] at hr2
  simp only [Result.ok.injEq] at hr2
  obtain ⟨rfl, rfl⟩ := hr2
  exact .inr rfl
 ·by_cases hroom : n + 1 <= cap
  ·obtain ⟨w2, hr2, _⟩ := run_append_fits (P := Tryd.prog) w base 24 ty 30 i0 1 Tryd.underlying24 hi hz1 g n cap xs hown a 1 c [x] rfl hnews h1 hroom
   rw [hr] at hr2
   simp only [Result.ok.injEq] at hr2
   obtain ⟨rfl, rfl⟩ := hr2
   exact .inl rfl
  ·have hr2 := run_append_grow (P := Tryd.prog) w 24 ty 30 i0 (.slice none 0 0) Tryd.underlying24 hi hz0 ⟨g, 0, none⟩ n cap xs (by rw [hz1]; exact hown.1) (hown.cells (g := g) rfl) a 1 c [x] (by rw [hz1]; rfl) hnews (by omega) (by omega) (growslice_fits (by omega) (by rw [hz2]; exact hn))
   rw [hr] at hr2
   simp only [Result.ok.injEq] at hr2
   obtain ⟨rfl, rfl⟩ := hr2
   exact .inr rfl
theorem wpList_append_slice {w : World} {ops : Array Oper} {rest : List Oper} {o : Oper} {a : Act} {Q : Exit -> Act -> World -> Prop} (hgd : o.guard = none) (s x : Operand)
  (ho : o.op = .call { callee := .builtin .append, args := #[s, x], argTypes := #[24, 24] })
  (base : Nat) (v : Value) (n : Nat) (xs : List Value) (hs : a.eval s = v) (hown : w.ownsRow base 30 1 v n xs)
  (ad : Addr) (c : Nat) (y : Value) (hx : a.eval x = .slice (some ad) 1 c) (hy : w.cell? ad = some y) (hy1 : y.oneCell' = true) (hn : (n + 1) * 24 <= 140737488355328) (hbase : base <= w.heap.size)
  (h : ∀ v' w', w'.ownsRow base 30 1 v' (n + 1) (xs ++ [y]) -> w.grownBy w' v.ownBlock -> (v'.ownBlock = v.ownBlock \/ v'.ownBlock = some w.heap.size) -> wpList Tryd.prog ops Q rest (a.put o.dst v') w') : wpList Tryd.prog ops Q (o :: rest) a w := by
 refine wpList_plain hgd fun K hK => ?_
 obtain ⟨v', w', hr, h2, h3, h4⟩ := run_append_slice w base o.type v n xs hown ad c y hy hy1 hn hbase
 unfold Oper.wp execOp
 simp only [ho, resolve, invoke, builtin, Sem.run_bind, Sem.run_pure, Result.andThen_ok, List.map_toArray, List.map_cons, List.map_nil, hs, hx, hr]
 exact hK _ _ (h v' w' h2 h3 h4)
theorem lent_pre {w : World} {p : Option Addr} {c : Nat} {l : List Int} (h : HB w (.slice p (l.length + 70) c) (lent l)) (hc : l.length <= c) : HB w (.slice p l.length c) l := by
 have hll := lent_length l
 have h2 : HB w (.slice p (lent l).length c) (lent l) := by rw [hll]; exact h
 have h3 := h2.sliced 0 l.length c (Nat.zero_le _) (by rw [hll]; omega) hc (Nat.le_refl _)
 rw [lent_take] at h3
 have e : (if c = 0 then p else p.map (·.add 0)) = p := by
  split
  ·rfl
  ·cases p <;> simp [Addr.add]
 rw [e] at h3
 simpa using h3
structure Fr (S : Nat -> Prop) (w w' : World) : Prop where
 os : w'.os = w.os
 tape : w'.tape = w.tape
 output : w'.output = w.output
 size : w.heap.size <= w'.heap.size
 block : ∀ k, k < w.heap.size -> ¬ S k -> w'.heap[k]? = w.heap[k]?
theorem Fr.refl (S : Nat -> Prop) (w : World) : Fr S w w := ⟨rfl, rfl, rfl, Nat.le_refl _, fun _ _ _ => rfl⟩
theorem Fr.step {S : Nat -> Prop} {w w1 w2 : World} {row : Option Nat} (h : Fr S w w1) (hg : w1.grownBy w2 row) (hr : ∀ k, row = some k -> S k \/ w.heap.size <= k) : Fr S w w2 :=
 ⟨hg.os.trans h.os, hg.tape.trans h.tape, hg.output.trans h.output, Nat.le_trans h.size hg.size, fun k hk hs => (hg.block k (Nat.lt_of_lt_of_le hk h.size) (fun e => by
  rcases hr k e.symm with h1 | h1
  ·exact hs h1
  ·omega)).trans (h.block k hk hs)⟩
structure BF (B : Nat) (w w' : World) : Prop where
 bel : Below B w w'
 typ : ∀ (b : Nat) (cs : Array Value) (T : TypeId) (fz : Nat × Nat), w.heap[b]? = some (.cells cs T fz) -> T ≠ 5 -> w'.heap[b]? = w.heap[b]?
theorem BF.refl (B : Nat) (w : World) : BF B w w := ⟨Below.refl _ _, fun _ _ _ _ _ _ => rfl⟩
theorem BF.size {B : Nat} {w w' : World} (h : BF B w w') : w.heap.size <= w'.heap.size := h.bel.size
theorem BF.drew {B : Nat} {w w' : World} (h : BF B w w') : BF B w w'.drew := ⟨h.bel.drew, h.typ⟩
theorem BF.alloc {B : Nat} {w w' : World} (h : BF B w w') (hB : B <= w'.heap.size) (o : Obj) : BF B w (w'.alloc o) :=
 ⟨h.bel.alloc hB o, fun b cs T fz q n => (heap_alloc_old w' o (Nat.lt_of_lt_of_le (Array.getElem?_eq_some_iff.1 q).1 h.size)).trans (h.typ b cs T fz q n)⟩
theorem BF.setCell {B : Nat} {w w' : World} (h : BF B w w') {g i : Nat} (hp : B <= g) (u : Value) (hT : BT w' g 5) : BF B w (w'.setCell ⟨g, i, none⟩ u) :=
 ⟨h.bel.setCell hp u, fun b cs T fz q n => by
  have e := h.typ b cs T fz q n
  rw [<- e]
  obtain ⟨cur, f2, hh⟩ := hT
  have : g ≠ b := fun x => by
   rw [<- x] at q e
   rw [e, q] at hh
   simp only [Option.some.injEq, Obj.cells.injEq] at hh
   exact n hh.2.1
  simp [World.setCell, Array.getElem?_modify, this]⟩
theorem BF.grown {B : Nat} {w w' w2 : World} {row : Option Nat} (h : BF B w w') (hg : w'.grownBy w2 row) (hB : B <= w'.heap.size) (hr : ∀ k, row = some k -> B <= k) (hT : ∀ k, row = some k -> BT w' k 5 \/ w.heap.size <= k) : BF B w w2 :=
 ⟨h.bel.grown hg hB hr, fun b cs T fz q n => by
  have e := h.typ b cs T fz q n
  have hb := (Array.getElem?_eq_some_iff.1 q).1
  rw [<- e]
  refine hg.block b (Nat.lt_of_lt_of_le hb h.size) (fun x => ?_)
  rcases hT b x.symm with ⟨cur, f2, hh⟩ | h2
  ·rw [e, q] at hh
   simp only [Option.some.injEq, Obj.cells.injEq] at hh
   exact n hh.2.1
  ·omega⟩
theorem apart_anyF (B : Nat) (w : World) (v : Value) (us : List Value) (ls : List (List Int)) (hv : HV w v us) (ha : Apt B w us ls) (hB : B <= w.heap.size) (hn : us.length <= 5864062014634) (hls : ∀ k, (ls.getD k []).length <= 140737488351232) :
  Calls Tryd.prog 7 #[v] w fun e w' => e = .returned (.bool true) /\ BF B w w' := by
 obtain ⟨p, c, e, hlc, hm, hcell⟩ := id hv
 unfold maxLen at hm
 subst e
 have A : Hid (0 < us.length -> ∃ b off, p = some ⟨b, off, none⟩) := fun h0 => by
  obtain ⟨b, off, e, _⟩ := hcell (by intro e; subst e; simp at h0)
  exact ⟨b, off, e⟩
 have HV0 := hid hv
 have HA0 := hid (Ph1.start ha)
 have HLS := hid hls
 clear hcell hv ha hls
 go_enter Tryd.func7, Tryd.ntmps7
 go_wp2
 go_loopw [3] (fun k wr => ∃ K : Nat, K <= us.length /\ k = .int .i64 K /\ Hid (Ph1 B wr us ls K 0) /\ Hid (HV wr (.slice p us.length c) us) /\ Hid (BF B w wr)) (fun k _ => us.length - (intOf k).toNat)
 case atStart => exact ⟨0, Nat.zero_le _, rfl, HA0, HV0, BF.refl _ _⟩
 case round =>
  clear HA0 HV0
  obtain ⟨K, hK, rfl, HP, HVr, HBr⟩ := hrel
  by_cases hlt : K < us.length
  ·obtain ⟨b, off, rfl⟩ := A.out (by omega)
   have hcells : Hid (∀ wz, HV wz (.slice (some ⟨b, off, none⟩) us.length c) us -> wz.cell? ⟨b, off + K, none⟩ = some (us.getD K undef)) := by
    intro wz hz
    obtain ⟨p', c', e', _, _, h4⟩ := hz
    obtain ⟨b', off', e2, _, hc⟩ := h4 (by intro e; subst e; simp at hlt)
    simp only [Value.slice.injEq, true_and] at e'
    rw [<- e'.1] at e2
    simp only [Option.some.injEq, Addr.mk.injEq, and_true] at e2
    obtain ⟨rfl, rfl⟩ := e2
    exact hc K hlt
   obtain ⟨n, HN⟩ : ∃ n, Hid ((ls.getD K []).length = n) := ⟨_, rfl⟩
   have hn2 : n <= 140737488351232 := by rw [<- HN.out]; exact HLS.out K
   obtain ⟨pk, ck, HU⟩ : ∃ pk ck, Hid (us.getD K undef = .slice pk n ck) := by
    obtain ⟨pk, ck, e⟩ := HP.out.slice K hlt
    rw [HN.out] at e
    exact ⟨pk, ck, e⟩
   go_wp2
   go_loopw [4] (fun i wz => ∃ I : Nat, I <= n /\ i = .int .i64 I /\ Hid (Ph1 B wz us ls K I) /\ Hid (HV wz (.slice (some ⟨b, off, none⟩) us.length c) us) /\ Hid (BF B w wz)) (fun i _ => n - (intOf i).toNat)
   case atStart => exact ⟨0, Nat.zero_le _, rfl, HP, HVr, HBr⟩
   case round =>
    clear HP HVr HBr
    obtain ⟨I, hI, rfl, HP, HVr, HBr⟩ := hrel
    have hc1 := hcells.out wr HVr.out
    rw [HU.out] at hc1
    by_cases hli : I < n
    ·obtain ⟨g, ck', e, hck, hck2, hgB, hBT, hcc⟩ := HP.out.some K hlt (by rw [HN.out]; omega)
     rw [HU.out, HN.out] at e
     simp only [Value.slice.injEq, true_and] at e
     obtain ⟨rfl, rfl⟩ := e
     obtain ⟨⟨z, hz⟩, hfz⟩ := hcc I (by rw [HN.out]; exact hli)
     rw [HN.out] at hck2
     unfold maxLen at hck
     have HBT := hid hBT
     have hgb : b ≠ g := (HVr.out.block (by omega)).ne hBT (by decide)
     have hbg : g ≠ b := Ne.symm hgb
     clear hcc hBT
     go_wp2
     go_region_held3 (fun w' => w'.cell? ⟨b, off + K, none⟩ = some (.slice (some ⟨g, 0, none⟩) n ck)) (go_keep) ((go_at_call 27; refine (mark_eq _ (K + 1) I _ _ (wrap_succ K (by omega)) rfl (by omega) (by omega)).mono ?_; rintro e wz ⟨rfl, hw⟩; have hw' := hw.symm; subst hw'; clear hw))
     have hst := HP.out.step hlt (by rw [HN.out]; exact hli) HU.out
     have HP2 := hid hst.1.drew
     have HV2 := hid (HVr.out.grown hst.2 (fun g' e => by cases e; exact HBT.out)).drew
     have HB2 := hid (HBr.out.setCell (g := g) (i := I) hgB (.int .u8 (mkB (K + 1) I)) HBT.out).drew
     clear hst
     go_wp2
     exact ⟨⟨I + 1, by omega, by go_num, HP2, HV2, HB2⟩, by simp [intOf]; omega⟩
    ·have HP2 := hid (HP.out.next (by rw [HN.out]; omega))
     go_wp2
     exact ⟨⟨K + 1, by omega, by go_num, HP2, HVr, HBr⟩, by simp [intOf]; omega⟩
  ·have hKn : K = us.length := by omega
   have HPl : Hid (Pool B wr us ls 0 0 []) := by
    have := HP.out
    rw [hKn] at this
    exact this.pool
   obtain ⟨N, HN⟩ : ∃ N, Hid (wr.heap.size = N) := ⟨_, rfl⟩
   have HNu : Hid (∀ j b, j < us.length -> (us.getD j undef).ownBlock = some b -> b < N) := fun j b hj hb => by rw [<- HN.out]; exact (HPl.out.2.1.2.1 j b hj hb).1
   have HNv : Hid (∀ b off n c', Value.slice p us.length c = .slice (some ⟨b, off, none⟩) n c' -> 0 < us.length -> b < N) := fun b off n c' e h0 => by
    rw [<- HN.out]
    have h1 := HVr.out
    rw [e] at h1
    obtain ⟨cur, fz, hh⟩ := h1.block h0
    exact (Array.getElem?_eq_some_iff.1 hh).1
   have HNW : Hid (w.heap.size <= N) := by rw [<- HN.out]; exact HBr.out.size
   have HNB : Hid (B <= N) := by rw [<- HN.out]; exact Nat.le_trans hB HBr.out.size
   have HNs : Hid (N <= wr.heap.size) := by rw [HN.out]; exact Nat.le_refl N
   clear HP hKn HN
   go_wp2
   go_loopw [5, 6] (fun gs k wz => ∃ (K : Nat) (gl : List Value), K <= us.length /\ k = .int .i64 K /\ Hid (Pool B wz us ls K K gl) /\ Hid (wz.ownsRow N 30 1 gs K gl) /\ Hid (HV wz (.slice p us.length c) us) /\ Hid (BF B w wz) /\ Hid (N <= wz.heap.size)) (fun _ k _ => us.length - (intOf k).toNat)
   case atStart => exact ⟨0, [], Nat.zero_le _, rfl, HPl, World.ownsRow_nil _ _ _ _, HVr, HBr, HNs⟩
   case round =>
    clear HPl HVr HBr HNs hlt hK
    obtain ⟨K, gl, hK, rfl, HP, HG, HVr, HBr, HNs⟩ := hrel
    by_cases hlt : K < us.length
    ·obtain ⟨b, off, rfl⟩ := A.out (by omega)
     obtain ⟨n, HNn⟩ : ∃ n, Hid ((ls.getD K []).length = n) := ⟨_, rfl⟩
     have hn2 : n <= 140737488351232 := by rw [<- HNn.out]; exact HLS.out K
     obtain ⟨pk, ck, HU⟩ : ∃ pk ck, Hid (us.getD K undef = .slice pk n ck) := by
      obtain ⟨pk, ck, e⟩ := HP.out.2.1.2.2 K hlt
      rw [HNn.out] at e
      exact ⟨pk, ck, e⟩
     have hc1 := HVr.out.cellAt K hlt
     rw [HU.out] at hc1
     have HC := hid (Cur.start HP.out hlt)
     rw [HU.out] at HC
     go_wp2
     go_loopw [7, 8] (fun g i wz => ∃ m : Nat, m <= 70 /\ i = .int .i64 m /\ Hid (Cur B wz us ls K gl g m) /\ Hid (wz.ownsRow N 30 1 u5 K gl) /\ Hid (HV wz (.slice (some ⟨b, off, none⟩) us.length c) us) /\ Hid (BF B w wz) /\ Hid (N <= wz.heap.size)) (fun _ i _ => 70 - (intOf i).toNat)
     case atStart => exact ⟨0, Nat.zero_le _, rfl, HC, HG, HVr, HBr, HNs⟩
     case round =>
      clear HC HG HVr HBr HNs hc1
      obtain ⟨m, hm70, rfl, HC, HG, HVr, HBr, HNs⟩ := hrel
      have hc1 := HVr.out.cellAt K hlt
      rw [HU.out] at hc1
      by_cases hlm : m < 70
      ·have hlm2 : (m : Int) < 70 := by omega
       go_wp2_with fail
       refine (mark_eq wr (K + 1) (n + m) _ _ (by omega) (by omega) (by omega) (by omega)).mono ?_
       rintro e wz ⟨rfl, hw⟩
       have hw' := hw.symm
       subst hw'
       clear hw
       have HCa := hid (HC.out.alloc hlt (.cells #[.int .u8 (mkB (K + 1) (n + m))] 5))
       have HO := HCa.out.2.1
       rw [HNn.out] at HO
       have HOh := hid HO
       clear HO
       go_wp2_with (at_builtin; refine wpList_append_byte rfl _ _ rfl B _ (n + m) _ rfl HOh.out ⟨wr.heap.size, 0, none⟩ 1 (mkB (K + 1) (n + m)) rfl (by simp) ?q1 ?q2 ?_)
       case q1 => omega
       case q2 => have := HBr.out.size; simp; omega
       intro g' w2 hown2 hgr2 hd2
       have hBT := own_BT HOh.out
       have hal := World.grownBy_alloc wr (.cells #[.int .u8 (mkB (K + 1) (n + m))] 5) none
       have HC2 := hid (HCa.out.step hlt (by rw [HNn.out]; exact hown2) hgr2 (by rw [World.size_alloc]; exact hd2))
       have HG2 : Hid (w2.ownsRow N 30 1 u5 K gl) := by
        have h1 := HG.out.alloc (.cells #[.int .u8 (mkB (K + 1) (n + m))] 5)
        refine h1.kept hgr2 ?_
        cases hx : u7.ownBlock with
        | none => cases hy : u5.ownBlock <;> simp
        | some q =>
         obtain ⟨cur, fz, hh⟩ := hBT q hx
         exact .inr (own_block_ne h1 hh (by decide))
       have HV2 := hid ((HVr.out.grown hal (fun g e => by cases e)).grown hgr2 hBT)
       have HB2 := hid ((HBr.out.alloc (Nat.le_trans hB HBr.out.size) (.cells #[.int .u8 (mkB (K + 1) (n + m))] 5)).grown hgr2 (by have := HBr.out.size; simp; omega) (fun k e => (HOh.out.lt k e).1) (fun k e => .inl (hBT k e)))
       have HN2 : Hid (N <= w2.heap.size) := by have h1 := hgr2.size; have h2 := HNs.out; simp at h1; exact Nat.le_trans h2 (by omega)
       clear hown2 hgr2 hd2 hBT hal
       go_wp2
       exact ⟨⟨m + 1, by omega, by go_num, HC2, HG2, HV2, HB2, HN2⟩, by simp [intOf]; omega⟩
      ·have e70 : m = 70 := by omega
       subst e70
       have HPn := hid (HC.out.finish hlt)
       have HOg := HC.out.2.1
       rw [HNn.out] at HOg
       obtain ⟨pg, cg, eg, _, _⟩ : ∃ pg cg, u7 = .slice pg (n + 70) cg /\ True /\ True := by
        rcases HOg.2 with ⟨_, e⟩ | ⟨g', cap, cur, e, _⟩
        ·omega
        ·exact ⟨_, _, e, trivial, trivial⟩
       subst eg
       obtain ⟨i0, hi, hz0, hz1, hz2⟩ := info_parts info_bytes
       have HGa := hid (HG.out.alloc (.cells #[.slice pg (n + 70) cg] 30))
       have hal := World.grownBy_alloc wr (.cells #[.slice pg (n + 70) cg] 30) none
       have tr : ∀ x : Option Nat, x = none \/ x ≠ none := fun x => by cases x <;> simp
       have HPa := hid (HPn.out.grown hal (fun i _ => tr _) (fun j _ _ => tr _) (by omega))
       have HVa := hid (HVr.out.grown hal (fun g e => by cases e))
       have HBa := hid (HBr.out.alloc (Nat.le_trans hB HBr.out.size) (.cells #[.slice pg (n + 70) cg] 30))
       clear HOg tr hal
       go_wp2_with (at_builtin; refine wpList_append_own _ rfl _ _ 24 rfl N 30 i0 (.slice none 0 0) 1 24 Tryd.underlying24 hi hz0 hz1 hz2 rfl (by decide) _ K gl rfl HGa.out ⟨wr.heap.size, 0, none⟩ 1 1 [_] rfl rfl (cell_one_new _ _ _) ?q1 ?q2 ?q3 ?q4 ?_)
       case q1 => intro u hu; simp only [List.mem_singleton] at hu; subst hu; rfl
       case q2 => unfold maxLen; omega
       case q3 => omega
       case q4 => have := HNs.out; simp; omega
       intro gs' w2 hown2 hgr2 _
       have hlo : ∀ g, u5.ownBlock = some g -> N <= g := fun g e => (HGa.out.lt g e).1
       have HP2 : Hid (Pool B w2 us ls (K + 1) (K + 1) (gl ++ [.slice pg (n + 70) cg])) := by
        refine HPa.out.grown hgr2 (fun i hi => ?_) (fun j hj _ => ?_) (by omega)
        ·cases hx : u5.ownBlock with
         | none => cases hy : ((gl ++ [Value.slice pg (n + 70) cg]).getD i undef).ownBlock <;> simp
         | some q =>
          obtain ⟨cur, fz, hh⟩ := own_BT HGa.out q hx
          exact .inr (own_block_ne (HPa.out.2.2.1 i hi).1 hh (by decide))
        ·cases hx : (us.getD j undef).ownBlock with
         | none => exact .inl rfl
         | some q =>
          right
          intro e
          have h1 := HNu.out j q hj hx
          have h2 := hlo q e.symm
          omega
       have HV2 := hid (HVa.out.apart hgr2 hlo HNv.out)
       have HB2 := hid (HBa.out.grown hgr2 (by have := HBr.out.size; simp; omega) (fun k e => Nat.le_trans HNB.out (hlo k e)) (fun k e => .inr (Nat.le_trans HNW.out (hlo k e))))
       have HG2 : Hid (w2.ownsRow N 30 1 gs' (K + 1) (gl ++ [.slice pg (n + 70) cg])) := hown2
       have HN2 : Hid (N <= w2.heap.size) := by have h1 := hgr2.size; have h2 := HNs.out; simp at h1; exact Nat.le_trans h2 (by omega)
       clear hown2 hgr2 hlo
       go_wp2
       exact ⟨⟨K + 1, _, by omega, by go_num, HP2, HG2, HV2, HB2, HN2⟩, by simp [intOf]; omega⟩
    ·have hKn : K = us.length := by omega
     subst hKn
     obtain ⟨pg, cg, eg⟩ : ∃ pg cg, u5 = .slice pg us.length cg := by
      rcases HG.out.2 with ⟨e, e2⟩ | ⟨g', cap, cur, e, _⟩
      ·exact ⟨none, 0, by rw [e, e2]⟩
      ·exact ⟨_, _, e⟩
     subst eg
     go_wp2
     go_loop [9] (fun k => ∃ Q : Nat, Q <= us.length /\ k = .int .i64 Q) (fun k => us.length - (intOf k).toNat)
     case atStart => exact ⟨0, Nat.zero_le _, rfl⟩
     case round =>
      obtain ⟨Q, hQ, rfl⟩ := hrel
      by_cases hlq : Q < us.length
      ·obtain ⟨b, off, rfl⟩ := A.out (by omega)
       obtain ⟨n, HNn⟩ : ∃ n, Hid ((ls.getD Q []).length = n) := ⟨_, rfl⟩
       have hn2 : n <= 140737488351232 := by rw [<- HNn.out]; exact HLS.out Q
       have hc1 := HVr.out.cellAt Q hlq
       obtain ⟨hrow, hu⟩ := HP.out.2.2.1 Q hlq
       rw [HNn.out] at hrow hu
       obtain ⟨pk, ck, HU⟩ : ∃ pk ck, Hid (us.getD Q undef = .slice pk n ck) := by
        obtain ⟨pk, ck, e⟩ := HP.out.2.1.2.2 Q hlq
        rw [HNn.out] at e
        exact ⟨pk, ck, e⟩
       rw [HU.out] at hc1 hu
       obtain ⟨gg, capg, eg, _, hcg1, hcg2, hgc⟩ := ownsRow_cells HG.out (by omega)
       simp only [Value.slice.injEq, true_and] at eg
       obtain ⟨rfl, rfl⟩ := eg
       have hgl : gl.length = us.length := HP.out.1
       have hc2 := hgc Q (gl.getD Q undef) (by simp [List.getD, List.getElem?_eq_getElem (show Q < gl.length by omega)])
       rw [Nat.zero_add] at hc2
       obtain ⟨gq, capq, eq, _, hq1, hq2, hqc⟩ := ownsRow_cells hrow (by omega)
       rw [eq] at hc2
       have HQ : Hid (∀ I, I < n + 70 -> wr.cell? ⟨gq, I, none⟩ = some (.int .u8 (mkB (Q + 1) I))) := fun I hI => by
        have hjl : I < (marksL (Q + 1) (n + 70)).length := by rw [marksL_length]; exact hI
        have := hqc I (.int .u8 (mkB (Q + 1) I)) (by rw [List.getElem?_map, List.getElem?_eq_getElem hjl, <- getD_of_lt hjl, marksL_getD _ _ _ hI]; rfl)
        rwa [Nat.zero_add] at this
       have HUc : Hid (∀ I, I < n -> ∃ b' off', pk = some ⟨b', off', none⟩ /\ wr.cell? ⟨b', off' + I, none⟩ = some (.int .u8 (mkB (Q + 1) I)) /\ n <= ck) := fun I hI => by
        obtain ⟨b', off', c', e, h1, h2, hh⟩ := hu.ne (by rw [marksL_length]; omega)
        rw [marksL_length] at e hh h1
        simp only [Value.slice.injEq, true_and] at e
        obtain ⟨rfl, rfl⟩ := e
        have := hh I hI
        rw [marksL_getD _ _ _ hI] at this
        exact ⟨b', off', rfl, this, h1⟩
       unfold maxLen at hcg2 hq2
       clear hrow hu hgc hqc eq hgl
       go_wp2
       go_loop [10] (fun i => ∃ I : Nat, I <= n + 70 /\ i = .int .i64 I) (fun i => n + 70 - (intOf i).toNat)
       case atStart => exact ⟨0, Nat.zero_le _, rfl⟩
       case round =>
        obtain ⟨I, hI, rfl⟩ := hrel
        by_cases hli : I < n + 70
        ·have hx1 := HQ.out I hli
         have hli2 : (I : Int) < (n : Int) + 70 := by omega
         go_wp2_with fail
         refine (mark_eq wr (Q + 1) I _ _ (by omega) rfl (by omega) (by omega)).mono ?_
         rintro e wz ⟨rfl, hw⟩
         have hw' := hw.symm
         subst hw'
         clear hw
         obtain ⟨x, HX⟩ : ∃ x, Hid (mkB (Q + 1) I = x) := ⟨_, rfl⟩
         rw [HX.out] at hx1 ⊢
         have hxx : (x != x) = false := by simp
         by_cases hln : I < n
         ·have hdn : decide ((I : Int) < (n : Int)) = true := by simp; omega
          have hln2 : (I : Int) < (n : Int) := by omega
          obtain ⟨b', off', rfl, hx2, _⟩ := HUc.out I hln
          rw [HX.out] at hx2
          go_wp2
          exact ⟨⟨I + 1, by omega, by go_num⟩, by simp [intOf]; omega⟩
         ·have hdn : decide ((I : Int) < (n : Int)) = false := by simp; omega
          go_wp2
          exact ⟨⟨I + 1, by omega, by go_num⟩, by simp [intOf]; omega⟩
        ·have hli2 : ¬ ((I : Int) < (n : Int) + 70) := by omega
         go_wp2
         exact ⟨⟨Q + 1, by omega, by go_num⟩, by simp [intOf]; omega⟩
      ·go_wp2
       go_ret
       exact ⟨rfl, HBr.out⟩
abbrev TE : TypeId := 30
theorem own_atL {w : World} {B n : Nat} {e : TypeId} {v : Value} {xs : List Value} (h : w.ownsRow B e 1 v n xs) {b : Nat} (hb : v.ownBlock = some b) : b < w.heap.size /\ B <= b /\ ∃ cs, w.heap[b]? = some (.cells cs e (0, 0)) := by
 rcases h.2 with ⟨rfl, _⟩ | ⟨g, cap, cur, rfl, hB, hh, _⟩
 ·cases hb
 ·cases hb
  exact ⟨(Array.getElem?_eq_some_iff.1 hh).1, hB, _, hh⟩
theorem own_ofL {w w' : World} {B n : Nat} {e : TypeId} {v : Value} {xs : List Value} (h : w.ownsRow B e 1 v n xs) (hk : ∀ b, v.ownBlock = some b -> w'.heap[b]? = w.heap[b]?) : w'.ownsRow B e 1 v n xs := by
 refine ⟨h.1, ?_⟩
 rcases h.2 with q | ⟨g, cap, cur, rfl, hB, hh, r⟩
 ·exact .inl q
 ·exact .inr ⟨g, cap, cur, rfl, hB, (hk g rfl).trans hh, r⟩
theorem own_slcL {w : World} {B n : Nat} {e : TypeId} {v : Value} {xs : List Value} (h : w.ownsRow B e 1 v n xs) : ∃ p c, v = .slice p n c := by
 rcases h.2 with ⟨rfl, rfl⟩ | ⟨g, cap, cur, rfl, _⟩
 ·exact ⟨_, _, rfl⟩
 ·exact ⟨_, _, rfl⟩
theorem info_elL : (Tryd.prog.info? 30).map (fun i => (i.zero, i.size, i.bytes)) = some (some (.slice none 0 0), 1, 24) := by kernel_rfl
theorem info_ellL : (Tryd.prog.info? 24).map (fun i => (i.zero, i.size, i.bytes)) = some (some (.slice none 0 0), 1, 24) := by kernel_rfl
theorem run_appL (w : World) (base : Nat) (ty : TypeId) (v : Value) (n : Nat) (xs : List Value) (hown : w.ownsRow base TE 1 v n xs) (a : Addr) (c : Nat) (x : Value) (h1x : x.oneCell' = true) (hx : w.cell? a = some x) (hn : n + 1 <= 5000000000000) (hbase : base <= w.heap.size) :
  ∃ v' w', (Builtin.append_ #[24, 24] ty #[v, .slice (some a) 1 c]).run Tryd.prog w = .ok v' w' /\ w'.ownsRow base TE 1 v' (n + 1) (xs ++ [x]) /\ w.grownBy w' v.ownBlock ∧
   ((∃ g cap, v = .slice (some ⟨g, 0, none⟩) n cap /\ v' = .slice (some ⟨g, 0, none⟩) (n + 1) cap) \/ (v'.ownBlock = some w.heap.size /\ w.grownBy w' none)) := by
 obtain ⟨i0, hi, hz0, hz1, hz2⟩ := info_parts info_elL
 have hnews : ∀ j u, [x][j]? = some u -> w.cell? (a.add j) = some u := by
  intro j u hj
  match j, hj with
  | 0, hj => simp at hj; subst hj; simpa [Addr.add] using hx
 have h1 : ∀ u ∈ [x], u.oneCell' = true := by intro u hu; simp at hu; subst hu; exact h1x
 obtain ⟨v', w', hr, h2, h3, _⟩ := run_append_own (P := Tryd.prog) w base 24 ty TE i0 (.slice none 0 0) 1 24 Tryd.underlying24 hi hz0 hz1 hz2 rfl (by decide) v n xs hown a 1 c [x] rfl hnews h1 (by unfold maxLen; omega) (by omega) hbase
 refine ⟨v', w', hr, h2, h3, ?_⟩
 rcases hown.2 with ⟨rfl, rfl⟩ | ⟨g, cap, cur, rfl, hbg, hg, hnc, hcm, hcs, htake⟩
 ·have hr2 := run_append_nil (P := Tryd.prog) w 24 ty TE i0 (.slice none 0 0) Tryd.underlying24 hi hz0 a 1 c [x] (by rw [hz1]; rfl) hnews (by omega) (by omega) (by rw [hz2]; omega)
  rw [hr] at hr2
  simp only [Result.ok.injEq] at hr2
  obtain ⟨rfl, rfl⟩ := hr2
  exact .inr ⟨rfl, ⟨rfl, rfl, rfl, by simp, fun k hk _ => heap_alloc_old w.drew _ hk⟩⟩
 ·by_cases hroom : n + 1 <= cap
  ·obtain ⟨w2, hr2, _⟩ := run_append_fits (P := Tryd.prog) w base 24 ty TE i0 1 Tryd.underlying24 hi hz1 g n cap xs hown a 1 c [x] rfl hnews h1 hroom
   rw [hr] at hr2
   simp only [Result.ok.injEq] at hr2
   obtain ⟨rfl, rfl⟩ := hr2
   exact .inl ⟨g, cap, rfl, rfl⟩
  ·have hr2 := run_append_grow (P := Tryd.prog) w 24 ty TE i0 (.slice none 0 0) Tryd.underlying24 hi hz0 ⟨g, 0, none⟩ n cap xs (by rw [hz1]; exact hown.1) (hown.cells (g := g) rfl) a 1 c [x] (by rw [hz1]; rfl) hnews (by omega) (by omega) (growslice_fits (by omega) (by rw [hz2]; omega))
   rw [hr] at hr2
   simp only [Result.ok.injEq] at hr2
   obtain ⟨rfl, rfl⟩ := hr2
   exact .inr ⟨rfl, ⟨rfl, rfl, rfl, by simp, fun k hk _ => heap_alloc_old w.drew _ hk⟩⟩
theorem wp_appL {w : World} {o : Oper} {a : Act} {K : Act -> World -> Prop} {Q : Exit -> Act -> World -> Prop} (s x : Operand)
  (ho : o.op = .call { callee := .builtin .append, args := #[s, x], argTypes := #[24, 24] })
  (base : Nat) (v : Value) (n : Nat) (xs : List Value) (hs : a.eval s = v) (hown : w.ownsRow base TE 1 v n xs)
  (ad : Addr) (c : Nat) (y : Value) (hx : a.eval x = .slice (some ad) 1 c) (h1 : y.oneCell' = true) (hy : w.cell? ad = some y) (hn : n + 1 <= 5000000000000) (hbase : base <= w.heap.size)
  (h : ∀ v' w', w'.ownsRow base TE 1 v' (n + 1) (xs ++ [y]) -> w.grownBy w' v.ownBlock -> ((∃ g cap, v = .slice (some ⟨g, 0, none⟩) n cap /\ v' = .slice (some ⟨g, 0, none⟩) (n + 1) cap) \/ (v'.ownBlock = some w.heap.size /\ w.grownBy w' none)) -> K (a.put o.dst v') w') : o.wp Tryd.prog a w K Q := by
 obtain ⟨v', w', hr, h2, h3, h4⟩ := run_appL w base o.type v n xs hown ad c y h1 hy hn hbase
 unfold Oper.wp execOp
 simp only [ho, resolve, invoke, builtin, Sem.run_bind, Sem.run_pure, Result.andThen_ok, List.map_toArray, List.map_cons, List.map_nil, hs, hx, hr]
 exact h v' w' h2 h3 h4
theorem wpList_appL {w : World} {ops : Array Oper} {rest : List Oper} {o : Oper} {a : Act} {Q : Exit -> Act -> World -> Prop} (hgd : o.guard = none) (s x : Operand)
  (ho : o.op = .call { callee := .builtin .append, args := #[s, x], argTypes := #[24, 24] })
  (base : Nat) (v : Value) (n : Nat) (xs : List Value) (hs : a.eval s = v) (hown : w.ownsRow base TE 1 v n xs)
  (ad : Addr) (c : Nat) (y : Value) (hx : a.eval x = .slice (some ad) 1 c) (h1 : y.oneCell' = true) (hy : w.cell? ad = some y) (hn : n + 1 <= 5000000000000) (hbase : base <= w.heap.size)
  (h : ∀ v' w', w'.ownsRow base TE 1 v' (n + 1) (xs ++ [y]) -> w.grownBy w' v.ownBlock -> ((∃ g cap, v = .slice (some ⟨g, 0, none⟩) n cap /\ v' = .slice (some ⟨g, 0, none⟩) (n + 1) cap) \/ (v'.ownBlock = some w.heap.size /\ w.grownBy w' none)) -> wpList Tryd.prog ops Q rest (a.put o.dst v') w') : wpList Tryd.prog ops Q (o :: rest) a w :=
 wpList_plain hgd fun K hK => wp_appL s x ho base v n xs hs hown ad c y hx h1 hy hn hbase fun v' w' q1 q2 q3 => hK _ _ (h v' w' q1 q2 q3)
def HVL (w : World) (v : Value) (us : List Value) : Prop :=
 ∃ (p : Option Addr) (c : Nat), v = .slice p us.length c /\ us.length <= c /\ c <= maxLen ∧
  (us ≠ [] -> ∃ b off, p = some ⟨b, off, none⟩ /\ (∃ cs, w.heap[b]? = some (.cells cs 24 (0, 0))) /\ ∀ k, k < us.length -> w.cell? ⟨b, off + k, none⟩ = some (us.getD k undef))
def mkA (k j : Nat) : Array Value := #[.int .u8 ((k : Int) % 256), .int .u8 ((j : Int) % 256), .int .u8 ((j : Int) / 256 % 256)]
def mkLs (k j : Nat) : List Int := [(k : Int) % 256, (j : Int) % 256, (j : Int) / 256 % 256]
def Mkd (w : World) (u : Value) (k j : Nat) : Prop := ∃ b, u = .slice (some ⟨b, 0, none⟩) 3 3 /\ w.heap[b]? = some (.cells (mkA k j) 5 (0, 0))
theorem Mkd.hb {w : World} {u : Value} {k j : Nat} (h : Mkd w u k j) : HB w u (mkLs k j) := by
 obtain ⟨b, rfl, hb⟩ := h
 refine ⟨⟨_, 3, rfl, Nat.le_refl _, by unfold maxLen; omega, (fun e => by cases e), fun _ => ⟨b, 0, rfl, fun i hi => ?_⟩⟩, fun x hx => ?_⟩
 ·rw [cell_of_row _ _ _ _ _ _ hb]
  match i, hi with
  | 0, _ => rfl
  | 1, _ => rfl
  | 2, _ => rfl
 ·simp only [mkLs, List.mem_cons, List.not_mem_nil, or_false] at hx
  rcases hx with rfl | rfl | rfl <;> omega
def KT (w w' : World) : Prop := ∀ (b : Nat) (cs : Array Value), w.heap[b]? = some (.cells cs 5 (0, 0)) -> w'.heap[b]? = w.heap[b]?
theorem Mkd.keep {w w' : World} {u : Value} {k j : Nat} (h : Mkd w u k j) (hk : KT w w') : Mkd w' u k j := by
 obtain ⟨b, e, hb⟩ := h
 exact ⟨b, e, (hk b _ hb).trans hb⟩
theorem KT.below {w w' : World} (h : Below w.heap.size w w') : KT w w' := fun b cs q => h.block b (Array.getElem?_eq_some_iff.1 q).1
theorem KT.grown {w w' : World} {row : Option Nat} (hg : w.grownBy w' row) (hr : ∀ b, row = some b -> ∃ cs T, w.heap[b]? = some (.cells cs T (0, 0)) /\ T ≠ 5) : KT w w' := fun b cs q => hg.block b (Array.getElem?_eq_some_iff.1 q).1 (fun e => by
 obtain ⟨cs', T, q1, q2⟩ := hr b e.symm
 rw [q] at q1
 simp only [Option.some.injEq, Obj.cells.injEq] at q1
 exact q2 q1.2.1.symm)
def RowI (B : Nat) (w : World) (v : Value) (n k i : Nat) : Prop := ∃ xs : List Value, w.ownsRow B TE 1 v n xs /\ ∀ j, j < i -> j < n -> Mkd w (xs.getD j undef) k j
theorem RowI.keep {B : Nat} {w w' : World} {v : Value} {n k i : Nat} (h : RowI B w v n k i) (hk : KT w w') (hb : ∀ b, v.ownBlock = some b -> w'.heap[b]? = w.heap[b]?) : RowI B w' v n k i := by
 obtain ⟨xs, h1, h2⟩ := h
 exact ⟨xs, own_ofL h1 hb, fun j hj hn => (h2 j hj hn).keep hk⟩
theorem RowI.less {B : Nat} {w : World} {v : Value} {n k i i' : Nat} (h : RowI B w v n k i) (hi : i' <= i) : RowI B w v n k i' := by
 obtain ⟨xs, h1, h2⟩ := h
 exact ⟨xs, h1, fun j hj hn => h2 j (by omega) hn⟩
theorem RowI.pre {B : Nat} {w : World} {g n n' c k : Nat} (h : RowI B w (.slice (some ⟨g, 0, none⟩) n c) n k n) (hn : n' <= n) : RowI B w (.slice (some ⟨g, 0, none⟩) n' c) n' k n' := by
 obtain ⟨xs, h1, h2⟩ := h
 have hl : xs.length = n := by have := h1.1; omega
 refine ⟨xs.take n', ?_, fun j hj _ => ?_⟩
 ·rcases h1.2 with ⟨e, _⟩ | ⟨g', cap, cur, e, hB, hh, hnc, hcm, hcs, htk⟩
  ·cases e
  ·simp only [Value.slice.injEq, Option.some.injEq, Addr.mk.injEq, and_true, true_and] at e
   obtain ⟨rfl, rfl⟩ := e
   refine ⟨by simp; omega, .inr ⟨_, _, cur, rfl, hB, hh, by omega, hcm, hcs, ?_⟩⟩
   rw [<- htk, List.take_take]
   congr 1
   omega
 ·have e : (xs.take n').getD j undef = xs.getD j undef := by simp [List.getD, List.getElem?_take, hj]
  rw [e]
  exact h2 j (by omega) (by omega)
end Go.Proofs.YtcpchhigiohlnaaDoor
namespace Go.Proofs.YtcpchhigiohlnaaDoor
open Go Go.RowKit
theorem own_lowL {W : World} {B B' : Nat} {t : TypeId} {v : Value} {n : Nat} {xs : List Value} (ho : W.ownsRow B t 1 v n xs) (hB : B' <= B) : W.ownsRow B' t 1 v n xs := ⟨ho.1, ho.2.elim .inl fun ⟨gg, cap, cur, z1, z2, z3⟩ => .inr ⟨gg, cap, cur, z1, Nat.le_trans hB z2, z3⟩⟩
structure PX (B : Nat) (w : World) (v : Value) (xs : List Value) (ls : List (List Int)) : Prop where
 row : w.ownsRow B TE 1 v ls.length xs
 apt : Apt B w xs ls
 byt : ∀ j, j < ls.length -> BytI (ls.getD j [])
theorem PX.keep {B : Nat} {w w' : World} {v : Value} {xs : List Value} {ls : List (List Int)} (h : PX B w v xs ls) (hk : ∀ b, B <= b -> b < w.heap.size -> w'.heap[b]? = w.heap[b]?) : PX B w' v xs ls :=
 ⟨own_ofL h.row (fun b e => hk b (own_atL h.row e).2.1 (own_atL h.row e).1), ⟨h.apt.1, fun j hj => own_ofL (h.apt.2.1 j hj) (fun b e => hk b (own_atL (h.apt.2.1 j hj) e).2.1 (own_atL (h.apt.2.1 j hj) e).1), h.apt.2.2⟩, h.byt⟩
theorem PX.below {B : Nat} {w w' : World} {v : Value} {xs : List Value} {ls : List (List Int)} (h : PX B w v xs ls) (hb : Below w.heap.size w w') : PX B w' v xs ls := h.keep fun b _ q => hb.block b q
theorem PX.low {B B' : Nat} {w : World} {v : Value} {xs : List Value} {ls : List (List Int)} (h : PX B w v xs ls) (hB : B' <= B) : PX B' w v xs ls :=
 ⟨own_lowL h.row hB, ⟨h.apt.1, fun j hj => own_lowL (h.apt.2.1 j hj) hB, h.apt.2.2⟩, h.byt⟩
theorem PX.nil (B : Nat) (w : World) : PX B w (.slice none 0 0) [] [] := ⟨World.ownsRow_nil _ _ _ _, ⟨rfl, fun j hj => by simp at hj, fun i j hi => by simp at hi⟩, fun j hj => by simp at hj⟩
theorem PX.lies {B : Nat} {w : World} {v : Value} {xs : List Value} {ls : List (List Int)} (h : PX B w v xs ls) : (∀ b, v.ownBlock = some b -> B <= b /\ b < w.heap.size) /\ ∀ j, j < xs.length -> ∀ b, (xs.getD j undef).ownBlock = some b -> B <= b /\ b < w.heap.size :=
 ⟨fun b e => ⟨(own_atL h.row e).2.1, (own_atL h.row e).1⟩, fun j hj b e => ⟨(own_atL (h.apt.2.1 j hj) e).2.1, (own_atL (h.apt.2.1 j hj) e).1⟩⟩
theorem PX.fresh {B C n : Nat} {w w' : World} {v u : Value} {xs ys : List Value} {ls : List (List Int)} {e : TypeId} (h : PX B w v xs ls) (hu : w'.ownsRow C e 1 u n ys) (hC : w.heap.size <= C) : ∀ j, j < xs.length -> u.ownBlock = none \/ u.ownBlock ≠ (xs.getD j undef).ownBlock := by
 intro j hj
 cases e : u.ownBlock with
 | none => exact .inl rfl
 | some b =>
  refine .inr fun x => ?_
  have h1 := (own_atL hu e).2.1
  have h2 := (h.lies.2 j hj b x.symm).2
  omega
theorem apt_app {B : Nat} {w : World} {us vs : List Value} {ls ms : List (List Int)} (h : Apt B w us ls) (g : Apt B w vs ms) (hd : ∀ i j b, i < us.length -> j < vs.length -> (us.getD i undef).ownBlock = some b -> (vs.getD j undef).ownBlock ≠ some b) : Apt B w (us ++ vs) (ls ++ ms) := by
 refine ⟨by simp [h.1, g.1], fun k hk => ?_, fun i j hi hj hne => ?_⟩
 ·rw [getD_app, getD_app, <- h.1]
  split
  ·rename_i q; exact h.2.1 k q
  ·refine g.2.1 _ ?_
   rw [List.length_append] at hk
   omega
 ·rw [List.length_append] at hi hj
  rw [getD_app, getD_app]
  split <;> split
  ·rename_i q1 q2; exact h.2.2 i j q1 q2 hne
  ·rename_i q1 q2
   cases e : (us.getD i undef).ownBlock with
   | none => exact .inl rfl
   | some b => exact .inr fun x => hd i _ b q1 (by omega) e x.symm
  ·rename_i q1 q2
   cases e : (vs.getD (i - us.length) undef).ownBlock with
   | none => exact .inl rfl
   | some b => exact .inr fun x => hd j (i - us.length) b q2 (by omega) x.symm e
  ·exact g.2.2 _ _ (by omega) (by omega) (by omega)
theorem wpList_append_PX {B : Nat} {w : World} {ops : Array Oper} {rest : List Oper} {o : Oper} {a : Act} {Q : Exit -> Act -> World -> Prop} (hgd : o.guard = none) (s x : Operand)
  (ho : o.op = .call { callee := .builtin .append, args := #[s, x], argTypes := #[24, 24] })
  (v : Value) (xs : List Value) (ls : List (List Int)) (hs : a.eval s = v) (hown : PX B w v xs ls)
  (ad : Addr) (c : Nat) (u : Value) (l : List Int) (hx : a.eval x = .slice (some ad) 1 c) (hcell : ∀ j z, [u][j]? = some z -> w.cell? (ad.add j) = some z)
  (hu : w.ownsRow B 5 1 u l.length (l.map (Value.int .u8))) (hb : BytI l) (hd : ∀ j, j < xs.length -> u.ownBlock = none \/ u.ownBlock ≠ (xs.getD j undef).ownBlock)
  (hbytes : (ls.length + 1) * 24 <= 140737488355328) (hbase : B <= w.heap.size)
  (h : ∀ v' w', PX B w' v' (xs ++ [u]) (ls ++ [l]) -> w.grownBy w' v.ownBlock -> (∀ g, v.ownBlock = some g -> B <= g /\ BT w g 30) -> wpList Tryd.prog ops Q rest (a.put o.dst v') w') : wpList Tryd.prog ops Q (o :: rest) a w := by
 obtain ⟨i0, hi, hz0, hz1, hz2⟩ := info_parts info_bytes
 have hblk : ∀ g, v.ownBlock = some g -> B <= g /\ BT w g 30 := by
  intro g hg
  obtain ⟨_, h2, cs, hh⟩ := own_atL hown.row hg
  exact ⟨h2, cs, _, hh⟩
 have h1 : ∀ z ∈ [u], z.oneCell' = true := by
  intro z hz
  simp only [List.mem_singleton] at hz
  subst hz
  obtain ⟨p, c, rfl⟩ := own_slice hu
  rfl
 refine wpList_append_own w hgd s x 24 ho B 30 i0 (.slice none 0 0) 1 24 Tryd.underlying24 hi hz0 hz1 hz2 rfl (by decide) v ls.length xs hs hown.row ad 1 c [u] hx rfl hcell h1 (by unfold maxLen; omega) hbytes hbase (fun v' w' h2 h3 _ => h v' w' ?_ h3 hblk)
 have hr : ∀ k, v.ownBlock = Option.some k -> ∃ e, BT w k e /\ e ≠ 5 := fun k e => ⟨_, (hblk k e).2, by decide⟩
 have hk : w'.ownsRow B 5 1 u l.length (l.map (Value.int .u8)) := by
  refine hu.kept h3 ?_
  cases e : v.ownBlock with
  | none => cases u.ownBlock <;> simp
  | some q =>
   obtain ⟨_, cur, fz, hh⟩ := hblk q e
   exact .inr (own_block_ne hu hh (by decide))
 refine ⟨by rw [List.length_append]; exact h2, (hown.apt.away h3 hr).snoc hk hd, fun j hj => ?_⟩
 rw [List.length_append, List.length_singleton] at hj
 rw [getD_app]
 split
 ·exact hown.byt j ‹_›
 ·have e : j - ls.length = 0 := by omega
  rw [e]
  exact hb
theorem bwT_le (s : ByteArray) : bwT s <= 9 := by
 unfold bwT
 split; omega; split; omega; split; omega; split; omega; split; omega; split; omega; split; omega; split; omega; split <;> omega
def HLN (A : Nat) (w' : World) (v : Value) (ls : List (List Int)) : Prop := ∀ w'' : World, (∀ b, A <= b -> b < w'.heap.size -> w''.heap[b]? = w'.heap[b]?) -> HL w'' v ls
theorem PX.hl {B : Nat} {w : World} {v : Value} {xs : List Value} {ls : List (List Int)} (h : PX B w v xs ls) : HL w v ls := by
 have hx : xs.length = ls.length := h.apt.1
 rcases h.row.2 with ⟨e, h0⟩ | ⟨g, cap, cur, e, _, hh, h3, h4, h5, h6⟩
 ·refine ⟨none, 0, by rw [h0]; exact e, by omega, Nat.zero_le _, fun _ => rfl, fun hne => ?_⟩
  have : ls = [] := List.eq_nil_of_length_eq_zero (by omega)
  exact absurd this hne
 ·refine ⟨some ⟨g, 0, none⟩, cap, e, by omega, h4, (fun q => by cases q), fun _ => ⟨g, 0, rfl, fun k hk => ⟨xs.getD k undef, ?_, HB.of_own (h.apt.2.1 k (by omega)) (h.byt k hk)⟩⟩⟩
  rw [Nat.zero_add, cell_of_row _ _ _ _ _ _ hh]
  rw [Nat.mul_one] at h5 h6
  have : xs[k]? = cur[k]? := by rw [<- h6, List.getElem?_take, if_pos (by omega)]; simp
  rw [<- this, List.getElem?_eq_getElem (by omega)]
  simp [List.getD, List.getElem?_eq_getElem (show k < xs.length by omega)]
theorem PX.hln {B : Nat} {w : World} {v : Value} {xs : List Value} {ls : List (List Int)} (h : PX B w v xs ls) : HLN B w v ls := fun W hW => (h.keep hW).hl
def RrC (A : Nat) (w' : World) (raw : List Int) (t : Nat) (v : Value) (a E : Int) : Prop :=
 ∃ fs p b, cutF raw raw.length 0 [] = (fs, p, b) ∧
  ((b = false /\ t = 0 /\ v = .slice none 0 0 /\ a = (p : Nat) /\ E = 52) ∨
   (b = true /\ a = 0 /\ ∃ x ls, fs = x :: ls /\ ((bwT (bS x) = 0 /\ t = 0 /\ v = .slice none 0 0 /\ E = 50) ∨
    (bwT (bS x) ≠ 0 /\ ¬ FitQ (bwT (bS x)) ls /\ t = 0 /\ v = .slice none 0 0 /\ E = 51) ∨
    (bwT (bS x) ≠ 0 /\ FitQ (bwT (bS x)) ls /\ t = bwT (bS x) /\ HLN A w' v ls /\ E = 0))))
theorem RrC.bad {A0 : Nat} {w' : World} {raw : List Int} {A : Nat} (h : cutF raw raw.length 0 [] = ([], A, false)) : RrC A0 w' raw 0 (.slice none 0 0) (A : Int) 52 := ⟨_, _, _, h, .inl ⟨rfl, rfl, rfl, rfl, rfl⟩⟩
theorem rreadC (w : World) (v : Value) (raw : List Int) (h : HB w v raw) (hbig : raw.length <= 2000000) :
  Calls Tryd.prog 22 #[v] w fun e w' => ∃ (t : Nat) (v' : Value) (a E : Int), e = .returned (.tuple #[.int .u8 (t : Int), v', .int .i64 a, .int .i64 E]) /\ RrC w.heap.size w' raw t v' a E /\ Below w.heap.size w w' := by
 obtain ⟨p, c, e, hlc, hm⟩ := h.open
 have H := hid h
 clear h
 subst e
 unfold maxLen at hm
 obtain ⟨n, Hn⟩ : ∃ x, Hid (raw.length = x) := ⟨_, rfl⟩
 have hbig : n <= 2000000 := by rw [<- Hn.out]; exact hbig
 have hlc : n <= c := by rw [<- Hn.out]; exact hlc
 rw [Hn.out]
 have RUN := hid fun W lo hi h1 h2 => slice_lh W p n c lo hi h1 h2
 go_enter Tryd.func22, Tryd.ntmps22
 go_wp2
 go_loopw [6, 7] (fun fr ii wr => ∃ (ls : List (List Int)) (A : Nat), A <= n /\ 8 * ls.length <= A /\ ii = .int .i64 (A : Int) /\ Hid (∃ xs, PX w.heap.size wr fr xs ls) /\ Hid (∃ K, raw.length - A <= K /\ cutF raw K A ls = cutF raw raw.length 0 []) /\ Hid (Below w.heap.size w wr)) (fun _ ii _ => n - (intOf ii).toNat)
 case atStart => exact ⟨[], 0, by omega, by simp, rfl, hid ⟨[], PX.nil _ _⟩, hid ⟨raw.length, Nat.sub_le _ _, rfl⟩, hid (Below.refl _ _)⟩
 case round =>
  obtain ⟨ls, A, hA, h8l, rfl, HO, HK, HBw⟩ := hrel
  by_cases hlt : A < n
  case neg =>
   have HE : Hid (cutF raw raw.length 0 [] = (ls, 0, decide (0 < ls.length))) := hid (by obtain ⟨K, _, q⟩ := HK.out; rw [<- q, cutF_end _ _ _ (by rw [Hn.out]; exact hlt)])
   obtain ⟨xs0, hxs0⟩ := HO.out
   have HLf := hid hxs0.hl
   have HLN0 := hid hxs0.hln
   clear hxs0
   obtain ⟨pf, cf, ef, hcf, _⟩ := HLf.out.open
   subst ef
   cases ls with
   | nil =>
    have HA : Hid (cutF raw raw.length 0 [] = ([], 0, false)) := HE
    clear HLf HE HO HK h8l
    go_wp2
    try simp only [Exit.inBlock, Exit.then]
    refine bodyPost_ret (results_tmp4 rfl _ _ _) rfl ?_
    exact ⟨0, _, _, _, rfl, RrC.bad HA.out, HBw.out⟩
   | cons x ls =>
    have HA : Hid (cutF raw raw.length 0 [] = (x :: ls, 0, true)) := hid (by rw [HE.out]; simp)
    rw [List.length_cons] at hcf
    obtain ⟨nf, Hnf⟩ : ∃ y, Hid ((x :: ls).length = y) := ⟨_, rfl⟩
    have hnf : nf = ls.length + 1 := by rw [<- Hnf.out, List.length_cons]
    have HLf2 := HLf.out
    rw [Hnf.out] at HLf2 ⊢
    have HLf := hid HLf2
    obtain ⟨b0, o0, c0, e0, _, _, hh⟩ := HLf.out.ne (by simp)
    simp only [Value.slice.injEq] at e0
    obtain ⟨e1, e2, e3⟩ := e0
    clear e2 e3
    subst e1
    obtain ⟨u0, hu0, hbu0⟩ := hh 0 (by simp)
    have hbx : HB wr u0 x := by simpa using hbu0
    rw [Nat.add_zero] at hu0
    obtain ⟨px, cx, ex, _, _⟩ := hbx.open
    subst ex
    have hcv := conv_str hbx
    have hn1 : 1 <= nf := by omega
    have hn0 : ((nf : Int) == 0) = false := by simp; omega
    have hn2 : (0 : Int) < (nf : Int) := by omega
    have TL := hid HLf.out.tail5
    have TLN : Hid (∀ W : World, (∀ b, w.heap.size <= b -> b < wr.heap.size -> W.heap[b]? = wr.heap[b]?) -> HL W (.slice (if cf = 1 then some ⟨b0, o0, none⟩ else (some (⟨b0, o0, none⟩ : Addr)).map (·.add 1)) (nf - 1) (cf - 1)) ls) := hid fun W hW => by
     have q := HLN0.out W hW
     rw [Hnf.out] at q
     exact q.tail5
    clear HLN0
    obtain ⟨s0, HS0⟩ : ∃ y, Hid (bS x = y) := ⟨_, rfl⟩
    rw [HS0.out] at hcv
    have CB := hid fun W => rbyword_any W s0
    clear hh hbu0 hbx HLf2 HO HK HE
    have HT9 := hid (bwT_le s0)
    have HW : Hid (bwT (bS x) = bwT s0) := hid (by rw [HS0.out])
    obtain ⟨T, HT⟩ : ∃ y, Hid (bwT s0 = y) := ⟨_, rfl⟩
    rw [HT.out] at CB HT9 HW
    obtain ⟨pt, Hpt⟩ : ∃ y, Hid ((if cf = 1 then some ⟨b0, o0, none⟩ else (some (⟨b0, o0, none⟩ : Addr)).map (·.add 1)) = y) := ⟨_, rfl⟩
    have rsl : ∀ W, (Instr.slice 24 (.slice (some ⟨b0, o0, none⟩) nf cf) (some (.int .i64 1)) none none).run Tryd.prog W = .ok (.slice pt (nf - 1) (cf - 1)) W := fun W => by rw [<- Hpt.out]; exact slice_l5 W _ nf cf hn1
    have TL2 := TL.out
    rw [Hpt.out] at TL2
    have TL := hid TL2
    have TLN2 := TLN.out
    rw [Hpt.out] at TLN2
    have TLN := hid TLN2
    clear TL2 TLN2 HT HS0 hnf hcf hn1 h8l
    go_wp2_with fail
    refine (CB.out _).mono ?_
    rintro e w1 ⟨rfl, rfl⟩
    clear hcv CB
    by_cases hT0 : T = 0
    case pos =>
     subst hT0
     go_wp2
     try simp only [Exit.inBlock, Exit.then]
     refine bodyPost_ret (results_tmp4 rfl _ _ _) rfl ?_
     exact ⟨0, _, _, _, rfl, ⟨_, _, _, HA.out, .inr ⟨rfl, rfl, x, ls, rfl, .inl ⟨HW.out, rfl, rfl, rfl⟩⟩⟩, HBw.out⟩
    case neg =>
     have hTz : ((T : Int) == 0) = false := by simp; omega
     have HT1 := hid (show 1 <= T /\ T <= 9 from ⟨by omega, HT9.out⟩)
     have HNZ : Hid (bwT (bS x) ≠ 0) := hid (by rw [HW.out]; exact hT0)
     have CF := hid (rfitC w1 T HT1.out _ ls TL.out)
     clear hT0
     by_cases hf : FitQ T ls
     case neg =>
      have HNF : Hid (¬ FitQ (bwT (bS x)) ls) := hid (by rw [HW.out]; exact hf)
      rw [decide_eq_false hf] at CF
      clear hf
      go_wp2_with fail
      refine CF.out.mono ?_
      rintro e w2 ⟨rfl, rfl⟩
      go_wp2
      try simp only [Exit.inBlock, Exit.then]
      refine bodyPost_ret (results_tmp4 rfl _ _ _) rfl ?_
      exact ⟨0, _, _, _, rfl, ⟨_, _, _, HA.out, .inr ⟨rfl, rfl, x, ls, rfl, .inr (.inl ⟨HNZ.out, HNF.out, rfl, rfl, rfl⟩)⟩⟩, HBw.out⟩
     case pos =>
      have HNF : Hid (FitQ (bwT (bS x)) ls) := hid (by rw [HW.out]; exact hf)
      rw [decide_eq_true hf] at CF
      clear hf
      go_wp2_with fail
      refine CF.out.mono ?_
      rintro e w2 ⟨rfl, rfl⟩
      clear CF
      go_wp2
      go_quiet (fail)
      go_wp2
      try simp only [Exit.inBlock, Exit.then]
      refine bodyPost_ret (results_tmp4 rfl _ _ _) rfl ?_
      refine ⟨T, _, _, _, rfl, ⟨_, _, _, HA.out, .inr ⟨rfl, rfl, x, ls, rfl, .inr (.inr ⟨HNZ.out, HNF.out, HW.out.symm, ?_, rfl⟩)⟩⟩, ?_⟩
      ·exact fun W hW => TLN.out W (fun b q1 q2 => hW b q1 q2)
      ·exact HBw.out.trans (Dr.below ⟨_, rfl⟩ _)
  case pos =>
   by_cases h8 : A + 8 <= n
   case neg =>
    have HA : Hid (cutF raw raw.length 0 [] = ([], A, false)) := hid (by obtain ⟨K, hK, q⟩ := HK.out; rw [<- q, cutF_short _ _ _ (by rw [Hn.out]; exact hlt) (by rw [Hn.out]; exact h8) hK])
    go_wp2
    try simp only [Exit.inBlock, Exit.then]
    refine bodyPost_ret (results_tmp4 rfl _ _ _) rfl ?_
    exact ⟨0, _, _, _, rfl, RrC.bad HA.out, HBw.out⟩
   case pos =>
    have HBY := hid H.out.2
    have HVr : HB wr (.slice p raw.length c) raw := H.out.below HBw.out
    obtain ⟨b, off, c', e1, _, _, hcell⟩ := HVr.ne (by rw [Hn.out]; omega)
    simp only [Value.slice.injEq, true_and] at e1
    obtain ⟨rfl, rfl⟩ := e1
    have HC := hid hcell
    clear HVr hcell
    go_wp2
    go_loopw [8, 9] (fun nn ii wq => ∃ k : Nat, k <= 8 /\ ii = .int .i64 (k : Int) /\ nn = .int .u64 (valL ((raw.drop A).take k) : Int) /\ Hid (wq = wr)) (fun _ ii _ => 8 - (intOf ii).toNat)
    case atStart => exact ⟨0, by omega, rfl, rfl, rfl⟩
    case round =>
     obtain ⟨k, hk, rfl, rfl, HW⟩ := hrel
     have e := HW.out
     subst e
     by_cases hk8 : k < 8
     case pos =>
      have hc := HC.out (A + k) (by rw [Hn.out]; omega)
      obtain ⟨x, Hx⟩ : ∃ x, Hid (raw.getD (A + k) 0 = x) := ⟨_, rfl⟩
      have hxb : 0 <= x /\ x < 256 := by
       rw [<- Hx.out]
       exact HBY.out _ (by rw [List.getD_eq_getElem?_getD, List.getElem?_eq_getElem (by rw [Hn.out]; omega)]; exact List.getElem_mem _)
      rw [Hx.out] at hc
      have hby : ∀ x ∈ raw.drop A, 0 <= x /\ x < 256 := fun x hx => HBY.out x (List.mem_of_mem_drop hx)
      have hvb := valL_take_lt (raw.drop A) hby k
      have hvs : valL ((raw.drop A).take (k + 1)) = valL ((raw.drop A).take k) * 256 + x.toNat := by
       rw [List.take_succ_eq_append_getElem (by rw [List.length_drop, Hn.out]; omega), valL_snoc]
       congr 2
       rw [<- Hx.out, List.getElem_drop, List.getD_eq_getElem?_getD, List.getElem?_eq_getElem (by rw [Hn.out]; omega)]
       rfl
      have hpw : 256 ^ k <= 256 ^ 7 := Nat.pow_le_pow_right (by omega) (by omega)
      obtain ⟨V, HV⟩ : ∃ x, Hid (valL ((raw.drop A).take k) = x) := ⟨_, rfl⟩
      rw [HV.out] at hvb hvs
      rw [HV.out]
      have hV : V < 72057594037927936 := by omega
      have HVS := hid hvs
      have w1 : IntKind.u64.wrap ((V : Int) * 256) = (V : Int) * 256 := by rw [IntKind.wrap_u64]; omega
      have w2 : IntKind.u64.wrap x = x := by rw [IntKind.wrap_u64]; omega
      have w3 : IntKind.u64.wrap ((V : Int) * 256 + x) = (V : Int) * 256 + x := by rw [IntKind.wrap_u64]; omega
      clear hvs hvb hpw hby
      go_wp2
      exact ⟨⟨k + 1, by omega, by go_num, by rw [HVS.out]; congr 1; omega, hid trivial⟩, by simp [intOf]; omega⟩
     case neg =>
      have hk' : k = 8 := by omega
      subst hk'
      have hcA : ¬ c = A := by omega
      have hby : ∀ x ∈ raw.drop A, 0 <= x /\ x < 256 := fun x hx => HBY.out x (List.mem_of_mem_drop hx)
      have hNb : valL ((raw.drop A).take 8) < 18446744073709551616 := by
       have := valL_take_lt (raw.drop A) hby 8
       omega
      obtain ⟨N, HN⟩ : ∃ x, Hid (valL ((raw.drop A).take 8) = x) := ⟨_, rfl⟩
      have HKL : Hid (¬ N <= n - A - 8 -> cutF raw raw.length 0 [] = ([], A, false)) := hid fun q => by
       obtain ⟨K, hK, q1⟩ := HK.out
       rw [<- q1, cutF_long _ _ _ (by rw [Hn.out]; exact h8) (by rw [HN.out, Hn.out]; exact q) hK]
      have HKS : Hid (N <= n - A - 8 -> ∃ K, raw.length - (A + 8 + N) <= K /\ cutF raw K (A + 8 + N) (ls ++ [(raw.drop (A + 8)).take N]) = cutF raw raw.length 0 []) := hid fun q => by
       obtain ⟨K, hK, q1⟩ := HK.out
       obtain ⟨K', hK', q2⟩ := cutF_step K A ls (by rw [Hn.out]; exact h8) (by rw [HN.out, Hn.out]; exact q) hK
       rw [HN.out] at hK' q2
       exact ⟨K', hK', q2.symm.trans q1⟩
      rw [HN.out] at hNb ⊢
      clear hby
      have hwr : IntKind.u64.wrap ((n : Int) - (A : Int) - 8) = (n : Int) - (A : Int) - 8 := by rw [IntKind.wrap_u64]; omega
      by_cases hle : N <= n - A - 8
      case neg =>
       have HA : Hid (cutF raw raw.length 0 [] = ([], A, false)) := hid (HKL.out hle)
       have hd2 : (n : Int) - (A : Int) - 8 < (N : Int) := by omega
       clear HN
       go_wp2
       try simp only [Exit.inBlock, Exit.then]
       refine bodyPost_ret (results_tmp4 rfl _ _ _) rfl ?_
       exact ⟨0, _, _, _, rfl, RrC.bad HA.out, HBw.out⟩
      case pos =>
       have hd2 : ¬ (n : Int) - (A : Int) - 8 < (N : Int) := by omega
       have hwi : IntKind.i64.wrap (N : Int) = (N : Int) := by rw [IntKind.wrap_i64]; omega
       have HK2 := hid (HKS.out hle)
       have hsN := H.out.sliced (A + 8) (A + 8 + N) c (by omega) (by rw [Hn.out]; omega) (by omega) (Nat.le_refl _)
       rw [Nat.add_sub_cancel_left, List.drop_take, Nat.add_sub_cancel_left] at hsN
       have r2 := fun W => RUN.out W (A + 8) (A + 8 + N) (by omega) (by omega)
       rw [Nat.add_sub_cancel_left, show ((A + 8 + N : Nat) : Int) = (A : Int) + 8 + (N : Int) by omega, show ((A + 8 : Nat) : Int) = (A : Int) + 8 by omega] at r2
       obtain ⟨pn, Hpn⟩ : ∃ x, Hid ((if c = A + 8 then (some (⟨b, off, none⟩ : Addr)) else (some (⟨b, off, none⟩ : Addr)).map (·.add (A + 8))) = x) := ⟨_, rfl⟩
       rw [Hpn.out] at hsN r2
       have hl3 : ((raw.drop (A + 8)).take N).length = N := by rw [List.length_take, List.length_drop, Hn.out]; omega
       obtain ⟨l3, HL3⟩ : ∃ x, Hid ((raw.drop (A + 8)).take N = x) := ⟨_, rfl⟩
       rw [HL3.out] at hsN HK2 hl3
       have HSN := hid (hsN.below HBw.out)
       have HL3N := hid hl3
       clear hsN HKL HKS HK Hpn HL3 HN hl3
       go_wp2_with (at_builtin; refine wpList_append_HB rfl _ _ rfl wr.heap.size _ 0 [] rfl (World.ownsRow_nil _ _ _ _) _ l3 rfl HSN.out (by rw [HL3N.out]; omega) (Nat.le_refl _) ?_)
       intro v5 w5 ho5 hg5
       have b5 : Below wr.heap.size wr w5 := (Below.refl _ wr).grown hg5 (Nat.le_refl _) (fun k e => by cases e)
       have BYL : Hid (∀ x ∈ l3, 0 <= x /\ x < 256) := hid HSN.out.2
       obtain ⟨p5, c5, ev5, _, _⟩ := (HB.of_own ho5 BYL.out).open
       subst ev5
       have HO5 := hid ho5
       have hal : Below w5.heap.size w5 (w5.alloc (.cells #[.slice p5 l3.length c5] 30)) := (Below.refl _ _).alloc (Nat.le_refl _) _
       obtain ⟨ys, hys⟩ := HO.out
       have HO4 := hid ((hys.below b5).below hal)
       have HFR := hid (hys.fresh HO5.out (Nat.le_refl _))
       have HB4 := hid ((HBw.out.trans (b5.mono HBw.out.size)).trans (hal.mono (Nat.le_trans HBw.out.size b5.size)))
       have HU4 := hid (own_lowL (own_below HO5.out hal) HBw.out.size)
       have HBYI : Hid (BytI l3) := hid BYL.out
       clear ho5 hg5 b5 hal HSN HO r2 hys
       go_wp2_with (at_builtin; refine wpList_append_PX (B := w.heap.size) rfl _ _ rfl _ ys ls rfl HO4.out ⟨w5.heap.size, 0, none⟩ 1 _ l3 rfl (cell_one_new _ _ _) HU4.out HBYI.out HFR.out ?q3 HB4.out.size ?_)
       case q3 => omega
       intro v6 w6 hO6 hg6 hbk
       have HO6 : Hid (∃ xs, PX w.heap.size w6 v6 xs (ls ++ [l3])) := hid ⟨_, hO6⟩
       have HB6 := hid (HB4.out.grown hg6 HB4.out.size (fun k e => (hbk k e).1))
       clear hO6 hg6 hbk
       go_wp2
       exact ⟨⟨_, A + 8 + N, by omega, by simp; omega, by go_num, HO6, HK2, HB6⟩, by simp [intOf]; omega⟩
end Go.Proofs.YtcpchhigiohlnaaDoor
