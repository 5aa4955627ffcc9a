/- Of the road to shareOneCard_holds: TgRef2, SameBytes, TgRef3, TgTwo, TrDig, OpensDig. -/
import Derived.Test.YtdgollnapbonjaaGreatDoorG09
import Derived.Test.YtdgollnapbonjaaGreatDoorG00
import Derived.Test.YtdgollnapbonjaaGreatDoorChecked
import Derived.Deep.RegionHeld
import Derived.Test.YtdgollnapbonjaaGreatDoorG01
import Derived.Deep.Strs
import Derived.ChangeArms
set_option linter.unusedVariables false
set_option linter.unusedSimpArgs false
set_option maxRecDepth 100000
set_option maxHeartbeats 16000000
namespace Go.Proofs.YtdgollnapbonjaaGreatDoor
open Go.RowKit
def strI (s : ByteArray) : List Int := s.data.toList.map fun b => ((b.toNat : Nat) : Int)
theorem strI_length (s : ByteArray) : (strI s).length = s.size := by
 unfold strI
 rw [List.length_map, Array.length_toList]
 rfl
theorem wpList_bytes_str {ops : Array Oper} {rest : List Oper} {o : Oper} {a : Act} {w : World} {Q : Exit -> Act -> World -> Prop} (hgd : o.guard = none) (x : Operand) (ho : o.op = .convert 9 34 x) (s : ByteArray) (hx : a.eval x = .string s) (hs : s.size <= 1000)
  (h : ∀ v' w', HB w' v' (strI s) -> Below w.heap.size w w' -> wpList Tryz.prog ops Q rest (a.put o.dst v') w') : wpList Tryz.prog ops Q (o :: rest) a w :=
 wpList_plain hgd fun _ hK => by
  have hr := run_bytes_of_string (P := Tryz.prog) w 9 34 5 s Tryz.underlying9 Tryz.underlying34 Tryz.underlying5
  unfold Oper.wp
  simp only [execOp, ho, hx, Sem.run_bind, hr, Result.andThen_ok]
  have hge := grownCap_ge w s.size 0 5
  have hle := grownCap_le_maxLen w s.size 0 5 (by unfold maxLen; omega)
  refine hK _ _ (h _ _ ⟨⟨_, _, by rw [strI_length], by rw [strI_length]; exact hge, hle, (fun e => by cases e), fun _ => ⟨w.heap.size, 0, rfl, fun j hj => ?_⟩⟩, fun x hx => ?_⟩ ((Below.refl _ w).drew.alloc (Nat.le_refl _) _))
  ·have hb : (w.drew.alloc (.cells (bytesRow s (grownCap w s.size 0 5)) 5 ((bytesRow s (grownCap w s.size 0 5)).size, (bytesRow s (grownCap w s.size 0 5)).size + 1))).heap[w.heap.size]? = some (.cells (bytesRow s (grownCap w s.size 0 5)) 5 ((bytesRow s (grownCap w s.size 0 5)).size, (bytesRow s (grownCap w s.size 0 5)).size + 1)) := heap_alloc_new w.drew _
   rw [cell_of_row _ _ _ _ _ _ hb]
   have hj2 : j < s.data.size := by rw [strI_length] at hj; exact hj
   have hj3 : j < s.size := hj2
   simp [bytesRow, Array.getElem?_append, hj3, strI, List.getD, Array.getElem?_eq_getElem hj2]
  ·unfold strI at hx
   obtain ⟨b, _, rfl⟩ := List.mem_map.1 hx
   have := b.toNat_lt
   omega
def snode : ByteArray := ⟨((if 6 = 6 then wNode else wPad).map fun x => UInt8.ofNat x.toNat).toArray⟩
theorem snode_strI : strI snode = if 6 = 6 then wNode else wPad := by decide
theorem rword_node (w : World) : Calls Tryz.prog 47 #[.int .u8 6] w fun e w' => e = .returned (.string snode) /\ w' = w := by
 go_enter Tryz.func47, Tryz.ntmps47
 go_wp2
 go_ret
 exact ⟨rfl, rfl⟩
theorem rfits_node (w : World) (v : Value) (l r : List Int) (h : HL w v [l, r]) (hl : l.length = 32) (hr : r.length = 32) : Calls Tryz.prog 48 #[.int .u8 6, v] w fun e w' => e = .returned (.bool true) /\ w' = w := by
 obtain ⟨b, off, c, rfl, hc1, hc2, hh⟩ := h.ne (by simp)
 obtain ⟨u0, h0, hb0⟩ := hh 0 (by simp)
 obtain ⟨u1, h1, hb1⟩ := hh 1 (by simp)
 obtain ⟨p0, c0, rfl, _, _⟩ := hb0.open
 obtain ⟨p1, c1, rfl, _, _⟩ := hb1.open
 simp only [List.getD_cons_zero, List.getD_cons_succ, hl, hr, List.length_cons, List.length_nil, Nat.add_zero, Nat.zero_add, Nat.reduceAdd] at h0 h1 ⊢
 clear hh hb0 hb1 h
 go_enter Tryz.func48, Tryz.ntmps48
 go_wp2
 go_ret
 exact ⟨rfl, rfl⟩
def frK (wd : List Int) (ps : List (List Int)) (k : Nat) : List Int := framed (wd :: ps.take k)
theorem frK_zero (wd : List Int) (ps : List (List Int)) : frK wd ps 0 = fr1 wd := by simp [frK, framed, pcs, fr1]
theorem frK_snoc (wd : List Int) (ps : List (List Int)) (k : Nat) (hk : k < ps.length) : frK wd ps (k + 1) = frK wd ps k ++ fr1 (ps.getD k []) := by
 unfold frK framed
 rw [List.take_succ_eq_append_getElem hk]
 have e : ps.getD k [] = ps[k] := by simp [List.getD, List.getElem?_eq_getElem hk]
 rw [e]
 simp only [pcs, fr1, List.flatMap_cons, List.flatMap_append, List.flatMap_nil, List.flatten_append, List.flatten_cons, List.flatten_nil, List.append_nil, List.append_assoc, List.cons_append, List.nil_append]
theorem frK_all (wd : List Int) (ps : List (List Int)) : frK wd ps ps.length = framed (wd :: ps) := by simp [frK]
theorem frK_le (wd : List Int) (ps : List (List Int)) (k : Nat) : (frK wd ps k).length <= wd.length + 8 + (ps.flatten.length + 8 * ps.length) := by
 unfold frK
 rw [framed_length]
 have := flat_take_le ps k
 simp only [List.flatten_cons, List.length_append, List.length_cons, List.length_take]
 omega
theorem framed_byt : ∀ (ps : List (List Int)), (∀ l ∈ ps, ∀ x ∈ l, 0 <= x /\ x < 256) -> ∀ x ∈ framed ps, 0 <= x /\ x < 256 := by
 intro ps h x hx
 unfold framed pcs at hx
 obtain ⟨l, h1, h2⟩ := List.mem_flatten.1 hx
 obtain ⟨q, h3, h4⟩ := List.mem_flatMap.1 h1
 simp only [List.mem_cons, List.not_mem_nil, or_false] at h4
 rcases h4 with rfl | rfl
 ·exact bigL_byt _ _ x h2
 ·exact h _ h3 x h2
theorem rbytes_node (w : World) (v : Value) (ps : List (List Int)) (h : HL w v ps) (hF : ∀ w', Below w.heap.size w w' -> Calls Tryz.prog 48 #[.int .u8 6, v] w' fun e w'' => e = .returned (.bool true) /\ w'' = w') (hbig : ps.flatten.length + 8 * ps.length <= 100000000000000) :
  Calls Tryz.prog 29 #[.int .u8 6, v] w fun e w' => ∃ v', e = .returned (.tuple #[v', .int .i64 0]) /\ w'.ownsRow w.heap.size 5 1 v' (framed (strI snode :: ps)).length ((framed (strI snode :: ps)).map (Value.int .u8)) /\ Below w.heap.size w w' := by
 have hsz : snode.size <= 1000 := by decide
 have hse : snode.toList.isEmpty = false := by decide +kernel
 have A0 := hid h
 obtain ⟨p, c, e, hlc, hm⟩ := h.open
 unfold maxLen at hm
 have A : Hid (0 < ps.length -> ∃ b off, p = some ⟨b, off, none⟩ /\ ∀ j, j < ps.length -> ∃ u, w.cell? ⟨b, off + j, none⟩ = some u /\ HB w u (ps.getD j [])) := by
  intro h0
  obtain ⟨b, off, c', e', _, _, hh⟩ := h.ne h0
  rw [e] at e'
  simp only [Value.slice.injEq, true_and] at e'
  exact ⟨b, off, e'.1, hh⟩
 have HF := hid hF
 obtain ⟨n, HN⟩ : ∃ n, Hid (ps.length = n) := ⟨_, rfl⟩
 have HBig := hid hbig
 rw [HN.out] at e hlc hbig
 subst e
 clear h hF
 go_enter Tryz.func29, Tryz.ntmps29
 go_wp2_with fail
 refine (rword_node _).mono ?_
 rintro e w1 ⟨rfl, rfl⟩
 go_wp2_with fail
 refine (HF.out _ (Below.refl _ _)).mono ?_
 rintro e w2 ⟨rfl, rfl⟩
 go_wp2_with fail
 refine (rword_node _).mono ?_
 rintro e w3 ⟨rfl, rfl⟩
 go_wp2_with (refine wpList_bytes_str rfl _ rfl snode rfl hsz ?_)
 intro v4 w4 hb4 hB4
 have HB4 := hid hb4
 have BL4 := hid hB4
 clear hb4 hB4
 go_wp2_with fail
 refine (rframe_any w4 v4 _ HB4.out (by rw [strI_length]; omega)).mono ?_
 rintro e w5 ⟨v5, rfl, ho5, hB5⟩
 have HO5 : Hid (w5.ownsRow w3.heap.size 5 1 v5 (frK (strI snode) ps 0).length ((frK (strI snode) ps 0).map (Value.int .u8))) := by
  rw [frK_zero]
  exact own_mono ho5 BL4.out.size
 have BL5 := hid (BL4.out.trans (hB5.mono BL4.out.size))
 clear ho5 hB5
 go_wp2
 go_loopw [6, 7] (fun o i wr => ∃ k : Nat, k <= n /\ i = .int .i64 k /\ Hid (wr.ownsRow w3.heap.size 5 1 o (frK (strI snode) ps k).length ((frK (strI snode) ps k).map (Value.int .u8))) /\ Hid (Below w3.heap.size w3 wr)) (fun _ i _ => n - (intOf i).toNat)
 case atStart => exact ⟨0, Nat.zero_le _, rfl, HO5, BL5⟩
 case round =>
  obtain ⟨k, hk, rfl, HO, HBel⟩ := hrel
  by_cases hlt : k < n
  ·obtain ⟨b, off, rfl, hh⟩ := A.out (by rw [HN.out]; omega)
   obtain ⟨u, hu0, hb⟩ := hh k (by rw [HN.out]; exact hlt)
   have hu : wr.cell? ⟨b, off + k, none⟩ = some u := (HBel.out.cell (World.block_lt_of_cell? w3 _ hu0)).trans hu0
   have HBu := hid (hb.below HBel.out)
   have hls : (ps.getD k []).length <= 100000000000000 := by
    have h1 := flat_take_le ps (k + 1)
    rw [flat_snoc ps k (by rw [HN.out]; exact hlt), List.length_append] at h1
    have := HBig.out
    omega
   have HS := hid (frK_snoc (strI snode) ps k (by rw [HN.out]; exact hlt))
   have HLe := hid (frK_le (strI snode) ps (k + 1))
   rw [HS.out, List.length_append, strI_length] at HLe
   clear hh hb hu0
   go_wp2_with fail
   refine (rframe_any wr u _ HBu.out (by omega)).mono ?_
   rintro e w6 ⟨v6, rfl, ho6, hB6⟩
   have HB6 : Hid (HB w6 v6 (fr1 (ps.getD k []))) := HB.of_own ho6 (fr1_byt HBu.out.2)
   have HO6 := hid (own_below HO.out hB6)
   have BL6 := hid (HBel.out.trans (hB6.mono HBel.out.size))
   clear ho6 hB6
   go_wp2_with (at_builtin; refine wpList_append_HB rfl _ _ rfl w3.heap.size _ _ _ rfl HO6.out _ _ rfl HB6.out ?q1 ?q2 ?_)
   case q1 => have := HLe.out; have := HBig.out; omega
   case q2 => exact BL6.out.size
   intro v7 w7 ho7 hg7
   have HO7 : Hid (w7.ownsRow w3.heap.size 5 1 v7 (frK (strI snode) ps (k + 1)).length ((frK (strI snode) ps (k + 1)).map (Value.int .u8))) := by
    rw [HS.out, List.length_append, List.map_append]
    exact ho7
   have BL7 : Hid (Below w3.heap.size w3 w7) := BL6.out.grown hg7 BL6.out.size (fun k e => (HO6.out.lt k e).1)
   clear ho7 hg7
   go_wp2
   exact ⟨⟨k + 1, by omega, by go_num, HO7, BL7⟩, by simp [intOf]; omega⟩
  ·have hkn : k = ps.length := by rw [HN.out]; omega
   have HO8 := hid HO.out
   rw [hkn, frK_all] at HO8
   go_wp2
   go_ret2
   exact ⟨_, rfl, HO8.out, HBel.out⟩
theorem take_eq_step (la lb : List Int) (k : Nat) (ha : k < la.length) (hb : k < lb.length) (h : la.take k = lb.take k) (e : la.getD k 0 = lb.getD k 0) : la.take (k + 1) = lb.take (k + 1) := by
 rw [List.take_succ_eq_append_getElem ha, List.take_succ_eq_append_getElem hb, h]
 have e1 : la.getD k 0 = la[k] := by simp [List.getD, List.getElem?_eq_getElem ha]
 have e2 : lb.getD k 0 = lb[k] := by simp [List.getD, List.getElem?_eq_getElem hb]
 rw [e1, e2] at e
 rw [e]
theorem take_ne (la lb : List Int) (k : Nat) (e : la.getD k 0 ≠ lb.getD k 0) : la ≠ lb := fun h => e (by rw [h])
theorem sameBytes_any (w : World) (va vb : Value) (la lb : List Int) (ha : HB w va la) (hb : HB w vb lb) :
  Calls Tryz.prog 27 #[va, vb] w fun e w' => e = .returned (.bool (decide (la = lb))) /\ Dr w w' := by
 by_cases hlen : la.length = lb.length
 ·by_cases h0 : 0 < la.length
  ·obtain ⟨b1, o1, c1, rfl, hc1, hm1, hk1⟩ := ha.ne h0
   obtain ⟨b2, o2, c2, rfl, hc2, hm2, hk2⟩ := hb.ne (by omega)
   unfold maxLen at hm1 hm2
   have hm : la.length <= 9223372036854775807 := by omega
   have HL : Hid (la.length = lb.length) := hlen
   rw [<- hlen]
   have hcd : ∀ j, j < la.length -> w.cell? ⟨b2, o2 + j, none⟩ = some (.int .u8 (lb.getD j 0)) := fun j hj => hk2 j (by omega)
   clear hlen hk2
   go_enter Tryz.func27, Tryz.ntmps27
   go_wp2
   go_loopw [5] (fun i wr => ∃ k : Nat, k <= la.length /\ i = .int .i64 k /\ la.take k = lb.take k /\ Dr w wr) (fun i _ => la.length - (intOf i).toNat)
   case atStart => exact ⟨0, Nat.zero_le _, rfl, rfl, Dr.refl _⟩
   case round =>
    obtain ⟨k, hk, rfl, ht, q, rfl⟩ := hrel
    by_cases hlt : k < la.length
    ·have g1 := hk1 k hlt
     have g2 := hcd k hlt
     obtain ⟨x, hx⟩ : ∃ x, la.getD k 0 = x := ⟨_, rfl⟩
     obtain ⟨y, hy⟩ : ∃ y, lb.getD k 0 = y := ⟨_, rfl⟩
     rw [hx] at g1
     rw [hy] at g2
     have HX := hid hx
     have HY := hid hy
     clear hx hy hk1 hcd
     by_cases he : x = y
     ·have hne : (x != y) = false := by simpa using he
      have HE := hid he
      clear he
      go_wp2
      go_quiet (fail)
      go_wp2
      exact ⟨⟨k + 1, by omega, by go_num, take_eq_step la lb k hlt (by have := HL.out; omega) ht (by rw [HX.out, HY.out, HE.out]), Dr.one _ _⟩, by simp [intOf]; omega⟩
     ·have hne : (x != y) = true := by simpa using he
      go_wp2
      go_quiet (fail)
      go_wp2
      go_ret
      exact ⟨by simp [take_ne la lb k (by rw [HX.out, HY.out]; exact he)], (Dr.one _ _).drewN _⟩
    ·go_wp2
     go_ret
     have e : la = lb := by
      have h1 := List.take_of_length_le (show la.length <= k by omega)
      have h2 := List.take_of_length_le (show lb.length <= k by have := HL.out; omega)
      rw [<- h1, <- h2, ht]
     exact ⟨by simp [e], Dr.one _ _⟩
  ·obtain ⟨p1, c1, rfl, _, _⟩ := ha.open
   obtain ⟨p2, c2, rfl, _, _⟩ := hb.open
   have e1 : la = [] := List.length_eq_zero_iff.1 (by omega)
   have e2 : lb = [] := List.length_eq_zero_iff.1 (by omega)
   subst e1 e2
   go_enter Tryz.func27, Tryz.ntmps27
   go_wp2
   go_loop [5] (fun i => i = .int .i64 0) (fun _ => 0)
   case atStart => rfl
   case round =>
    subst hrel
    go_wp2
    go_ret
    exact ⟨rfl, Dr.refl _⟩
 ·obtain ⟨p1, c1, rfl, _, _⟩ := ha.open
  obtain ⟨p2, c2, rfl, _, _⟩ := hb.open
  have hne : ((la.length : Int) != (lb.length : Int)) = true := by rw [bne_iff_ne]; omega
  go_enter Tryz.func27, Tryz.ntmps27
  go_wp2
  go_ret
  exact ⟨by simp [show la ≠ lb from fun e => hlen (by rw [e])], Dr.refl _⟩
theorem framed_node (l r : List Int) (hl : l.length = 32) (hr : r.length = 32) : framed (strI snode :: [l, r]) = ndB l r := by
 rw [snode_strI]
 simp [framed, pcs, ndB, hl, hr, bigL, num8, wNode]
theorem clash_any (w : World) (u v : Value) (x y : List Int) (hx : HB w u x) (hy : HB w v y) (lx : x.length <= 100000000) (ly : y.length <= 100000000) :
  Calls Tryz.prog 9 #[u, v] w fun e w' => e = .returned (.bool (decide (x ≠ y /\ digL x = digL y))) /\ Below w.heap.size w w' := by
 have HX := hid hx
 have HY := hid hy
 have CS := hid (sameBytes_any w u v x y hx hy)
 clear hx hy
 go_enter Tryz.func9, Tryz.ntmps9
 go_wp2_with fail
 refine CS.out.mono ?_
 rintro e w1 ⟨rfl, hd1⟩
 have BL1 := hid (hd1.below w.heap.size)
 have HX1 := hid (HX.out.dr hd1)
 have HY1 := hid (HY.out.dr hd1)
 clear hd1 CS
 by_cases hxy : x = y
 ·have hdx : decide (x = y) = true := by simpa using hxy
  have hF : decide (x ≠ y /\ digL x = digL y) = false := by simp [hxy]
  have HF := hid hF
  clear hF
  rw [hdx]
  go_wp2
  go_ret
  exact ⟨by rw [HF.out]; rfl, BL1.out⟩
 ·have hdx : decide (x = y) = false := by simpa using hxy
  have hF : decide (x ≠ y /\ digL x = digL y) = decide (digL x = digL y) := by simp [hxy]
  have HF := hid hF
  rw [hdx]
  clear hF hdx
  go_wp2_with fail
  refine (rsum_any w1 u x HX1.out (by omega)).mono ?_
  rintro e w2 ⟨rfl, hB2⟩
  have HY2 := hid (HY1.out.below hB2)
  have BL2 := hid (BL1.out.trans (hB2.mono BL1.out.size))
  clear hB2
  obtain ⟨dx, HDX⟩ : ∃ d, Hid (digL x = d) := ⟨_, rfl⟩
  have hlx : dx.length = 32 := by rw [<- HDX.out]; exact digL_length x
  rw [HDX.out]
  go_wp2_with fail
  refine (rsum_any w2 v y HY2.out (by omega)).mono ?_
  rintro e w3 ⟨rfl, hB3⟩
  have BL3 := hid (BL2.out.trans (hB3.mono BL2.out.size))
  clear hB3
  obtain ⟨dy, HDY⟩ : ∃ d, Hid (digL y = d) := ⟨_, rfl⟩
  have hly : dy.length = 32 := by rw [<- HDY.out]; exact digL_length y
  rw [HDY.out]
  have hq := fun w => run_eql_bytes w 32 23 Tryz.underlying23 dx dy hlx hly
  go_wp2
  go_ret
  exact ⟨by rw [HF.out, HDX.out, HDY.out]; rfl, BL3.out⟩
def dc (d : List Int) : List Value := d.map (Value.int .u8)
theorem dc_arr (d : List Int) : (dc d).toArray = cellsB d := rfl
theorem dc_length (d : List Int) : (dc d).length = d.length := by simp [dc]
def HDs (w : World) (v : Value) (ds : List (List Int)) : Prop :=
 (∃ (p : Option Addr) (c : Nat), v = .slice p ds.length c /\ ds.length <= c /\ c <= maxLen /\ (p = none -> c = 0) ∧
  (ds ≠ [] -> ∃ b off, p = some ⟨b, off, none⟩ /\ ∀ i, i < ds.length -> w.rangeAt b (off + i * 32) (dc (ds.getD i [])))) /\ ∀ d ∈ ds, D32 d
theorem HDs.open {w : World} {v : Value} {ds : List (List Int)} (h : HDs w v ds) : ∃ (p : Option Addr) (c : Nat), v = .slice p ds.length c /\ ds.length <= c /\ c <= maxLen := by
 obtain ⟨⟨p, c, h1, h2, h3, _⟩, _⟩ := h
 exact ⟨p, c, h1, h2, h3⟩
theorem HDs.ne {w : World} {v : Value} {ds : List (List Int)} (h : HDs w v ds) (hl : 0 < ds.length) :
  ∃ b off c, v = .slice (some ⟨b, off, none⟩) ds.length c /\ ds.length <= c /\ c <= maxLen /\ b < w.heap.size /\ ∀ i, i < ds.length -> w.rangeAt b (off + i * 32) (dc (ds.getD i [])) := by
 obtain ⟨⟨p, c, h1, h2, h3, _, h4⟩, h5⟩ := h
 obtain ⟨b, off, rfl, hc⟩ := h4 (by intro e; subst e; simp at hl)
 refine ⟨b, off, c, h1, h2, h3, ?_, hc⟩
 have h6 := hc 0 hl
 have hd : D32 (ds.getD 0 []) := by
  have e : ds.getD 0 [] = ds[0] := by simp [List.getD, List.getElem?_eq_getElem hl]
  rw [e]; exact h5 _ (List.getElem_mem hl)
 have h7 := h6 0 _ (List.getElem?_eq_getElem (by rw [dc_length, hd.1]; omega))
 exact World.block_lt_of_cell? w _ h7
theorem getD_D {ds : List (List Int)} (h : ∀ d ∈ ds, D32 d) (i : Nat) (hi : i < ds.length) : D32 (ds.getD i []) := by
 have e : ds.getD i [] = ds[i] := by simp [List.getD, List.getElem?_eq_getElem hi]
 rw [e]; exact h _ (List.getElem_mem hi)
theorem range_below {w w' : World} {B b o : Nat} {cs : List Value} (h : w.rangeAt b o cs) (hB : Below B w w') (hb : b < B) : w'.rangeAt b o cs := fun j v hv => (hB.cell (p := ⟨b, o + j, none⟩) hb).trans (h j v hv)
theorem HDs.below {w w' : World} {v : Value} {ds : List (List Int)} (h : HDs w v ds) (hB : Below w.heap.size w w') : HDs w' v ds := by
 refine ⟨?_, h.2⟩
 by_cases h0 : 0 < ds.length
 ·obtain ⟨b, off, c, h1, h2, h3, h4, h5⟩ := h.ne h0
  exact ⟨_, c, h1, h2, h3, (fun e => by cases e), fun _ => ⟨b, off, rfl, fun i hi => range_below (h5 i hi) hB h4⟩⟩
 ·obtain ⟨⟨p, c, h1, h2, h3, h4, h5⟩, _⟩ := h
  exact ⟨p, c, h1, h2, h3, h4, fun hne => absurd (List.length_pos_iff.2 hne) h0⟩
theorem size_dig {d : List Int} (h : D32 d) : (Tryz.prog.info? 23).map (·.size) = some (dc d).length := by rw [dc_length, h.1]; exact size_digest
theorem results_cell2 {P : Program} {fn : Func} {p q : Tmp} {ty : TypeId} (h : fn.results = #[.cell p ty, .cell q ty]) (tmps : Array Value) (w : World) (g g' : Nat) (t : TypeId) (cs cs' : Array Value) (fr fr' : Nat × Nat) (d : TypeDesc)
  (hp : tmps.getD p undef = .pointer (some ⟨g, 0, none⟩)) (hq : tmps.getD q undef = .pointer (some ⟨g', 0, none⟩)) (hg : w.heap[g]? = some (.cells cs t fr)) (hg' : w.heap[g']? = some (.cells cs' t fr'))
  (hu : P.underlying ty = some d) (hd : (match d with | .struct _ | .array _ _ => true | _ => false) = true) (hi : (P.info? ty).map (·.size) = some cs.size) (hi' : (P.info? ty).map (·.size) = some cs'.size) :
  (results fn tmps).run P w = .ok (.tuple #[.agg cs, .agg cs']) w := by
 have hp' : tmps[p]?.getD undef = .pointer (some ⟨g, 0, none⟩) := by simpa using hp
 have hq' : tmps[q]?.getD undef = .pointer (some ⟨g', 0, none⟩) := by simpa using hq
 simp [results, h, hp', hq', asAddr, run_loadVar_row w g t ty cs fr d hg hu hd hi, run_loadVar_row w g' t ty cs' fr' d hg' hu hd hi']
theorem results_cellt {P : Program} {fn : Func} {p u : Tmp} {ty : TypeId} (h : fn.results = #[.cell p ty, .tmp u]) (tmps : Array Value) (w : World) (g : Nat) (t : TypeId) (cs : Array Value) (fr : Nat × Nat) (d : TypeDesc)
  (hp : tmps.getD p undef = .pointer (some ⟨g, 0, none⟩)) (hg : w.heap[g]? = some (.cells cs t fr))
  (hu : P.underlying ty = some d) (hd : (match d with | .struct _ | .array _ _ => true | _ => false) = true) (hi : (P.info? ty).map (·.size) = some cs.size) (x : Value) (hx : tmps.getD u undef = x) :
  (results fn tmps).run P w = .ok (.tuple #[.agg cs, x]) w := by
 have hp' : tmps[p]?.getD undef = .pointer (some ⟨g, 0, none⟩) := by simpa using hp
 have hx' : tmps[u]?.getD undef = x := by simpa using hx
 simp [results, h, hp', hx', asAddr, run_loadVar_row w g t ty cs fr d hg hu hd hi]
theorem beneath_any (w : World) (v : Value) (ds : List (List Int)) (x : Nat) (h : HDs w v ds) (hx : 1 <= x) (hx2 : 2 * x < ds.length) :
  Calls Tryz.prog 94 #[v, .int .i64 (x : Int)] w fun e w' => e = .returned (.tuple #[.agg (cellsB (ds.getD (2 * x - 1) [])), .agg (cellsB (ds.getD (2 * x) []))]) /\ Below w.heap.size w w' := by
 obtain ⟨zd, HZD⟩ : ∃ zd, Hid (cellsB zeros32 = zd) := ⟨_, rfl⟩
 obtain ⟨b, off, c, ev, hc1, hc2, hbl, hr⟩ := h.ne (by omega)
 have hd1 := getD_D h.2 (2 * x - 1) (by omega)
 have hd2 := getD_D h.2 (2 * x) (by omega)
 have R1 := hid (hr (2 * x - 1) (by omega))
 have R2 := hid (hr (2 * x) hx2)
 clear h hr
 obtain ⟨n, HN⟩ : ∃ n, Hid (ds.length = n) := ⟨_, rfl⟩
 rw [HN.out] at ev hc1 hx2
 subst ev
 unfold maxLen at hc2
 generalize ds.getD (2 * x - 1) [] = d1 at hd1 R1 ⊢
 generalize ds.getD (2 * x) [] = d2 at hd2 R2 ⊢
 go_enter Tryz.func94, Tryz.ntmps94
 go_wp2_with (refine wpList_alloc_digest rfl rfl ?_; rw [HZD.out])
 obtain ⟨W0, hW0⟩ : ∃ W0, Hid ((w.alloc (.cells zd 23)).alloc (.cells zd 23) = W0) := ⟨_, rfl⟩
 have e1 : (w.alloc (.cells zd 23)).heap.size = w.heap.size + 1 := by simp
 have HB0 : Hid (Below w.heap.size w W0) := by
  rw [<- hW0.out]
  exact ((Below.refl _ w).alloc (Nat.le_refl _) _).alloc (by simp) _
 have H1 : Hid (W0.heap[w.heap.size]? = some (.cells zd 23 (0, 0))) := by rw [<- hW0.out]; exact heap_alloc2_old _ _ _
 have H2 : Hid (W0.heap[w.heap.size + 1]? = some (.cells zd 23 (0, 0))) := by rw [<- hW0.out]; exact heap_alloc2_new _ _ _
 rw [hW0.out, e1]
 simp only [Act.put, lay6]
 have ew1 : IntKind.i64.wrap (2 * (x : Int)) = 2 * (x : Int) := by rw [IntKind.wrap_i64]; omega
 have ew2 : IntKind.i64.wrap (2 * (x : Int) - 1) = 2 * (x : Int) - 1 := by rw [IntKind.wrap_i64]; omega
 have et1 : (2 * (x : Int) - 1).toNat = 2 * x - 1 := by omega
 have et2 : (2 * (x : Int)).toNat = 2 * x := by omega
 refine wp_region_held_drew (S := Below w.heap.size w) (by kernel_rfl) HB0.out.drew (fun hHeld => ?_)
 have HS := hid hHeld
 clear hHeld
 change wpAnyH _ _ _ _ _ _ _ _ (World.drew _)
 refine wpAnyH_take (i := 0) (v := ?_) rfl (by kernel_rfl) (by kernel_rfl) (by kernel_rfl) (fun _ _ _ h => h) (Or.inl ⟨by rfl, ?q0⟩) HS.out ?_
 case q0 => intro w hSw; go_simp; rfl
 simp only [Act.put, lay6]
 refine wpAnyH_take (i := 1) (v := ?_) rfl (by kernel_rfl) (by kernel_rfl) (by kernel_rfl) (fun _ _ _ h => h) (Or.inl ⟨by rfl, ?q1⟩) HS.out ?_
 case q1 => intro w hSw; go_simp; rfl
 simp only [Act.put, lay6]
 refine wpAnyH_take (i := 2) (v := .int .i64 (2 * (x : Int))) rfl (by kernel_rfl) (by kernel_rfl) (by kernel_rfl) (fun _ _ _ h => h) (Or.inl ⟨by rfl, ?q2⟩) HS.out ?_
 case q2 => intro w hSw; go_simp
 simp only [Act.put, lay6]
 refine wpAnyH_take (i := 3) (v := .int .i64 (2 * (x : Int) - 1)) rfl (by kernel_rfl) (by kernel_rfl) (by kernel_rfl) (fun _ _ _ h => h) (Or.inl ⟨by rfl, ?q3⟩) HS.out ?_
 case q3 => intro w hSw; go_simp
 simp only [Act.put, lay6]
 refine wpAnyH_take (i := 4) (v := .pointer (some ⟨b, off + (2 * x - 1) * 32, none⟩)) rfl (by kernel_rfl) (by kernel_rfl) (by kernel_rfl) (fun _ _ _ h => h) (Or.inl ⟨by rfl, ?q4⟩) HS.out ?_
 case q4 => intro w hSw; go_simp; intro hq; exfalso; omega
 simp only [Act.put, lay6]
 refine wpAnyH_take (i := 5) rfl (by kernel_rfl) (by kernel_rfl) (by kernel_rfl) (fun _ _ _ h => h) (yieldsIf_load_mid (by rfl) 23 _ rfl b (off + (2 * x - 1) * 32) rfl (dc d1) _ (fun W hW => range_below R1.out hW hbl) Tryz.underlying23 rfl (size_dig hd1)) HS.out ?_
 simp only [Act.put, lay6]
 refine wpAnyH_take (i := 6) (v := ?_) rfl (by kernel_rfl) (by kernel_rfl) (by kernel_rfl) (fun _ _ _ h => h) (Or.inl ⟨by rfl, ?q6⟩) HS.out ?_
 case q6 => intro w hSw; go_simp; rfl
 simp only [Act.put, lay6]
 refine wpAnyH_take (i := 7) (v := ?_) rfl (by kernel_rfl) (by kernel_rfl) (by kernel_rfl) (fun _ _ _ h => h) (Or.inl ⟨by rfl, ?q7⟩) HS.out ?_
 case q7 => intro w hSw; go_simp; rfl
 simp only [Act.put, lay6]
 refine wpAnyH_take (i := 8) (v := .int .i64 (2 * (x : Int))) rfl (by kernel_rfl) (by kernel_rfl) (by kernel_rfl) (fun _ _ _ h => h) (Or.inl ⟨by rfl, ?q8⟩) HS.out ?_
 case q8 => intro w hSw; go_simp
 simp only [Act.put, lay6]
 refine wpAnyH_take (i := 9) (v := .pointer (some ⟨b, off + 2 * x * 32, none⟩)) rfl (by kernel_rfl) (by kernel_rfl) (by kernel_rfl) (fun _ _ _ h => h) (Or.inl ⟨by rfl, ?q9⟩) HS.out ?_
 case q9 => intro w hSw; go_simp; intro hq; exfalso; omega
 simp only [Act.put, lay6]
 refine wpAnyH_take (i := 10) rfl (by kernel_rfl) (by kernel_rfl) (by kernel_rfl) (fun _ _ _ h => h) (yieldsIf_load_mid (by rfl) 23 _ rfl b (off + 2 * x * 32) rfl (dc d2) _ (fun W hW => range_below R2.out hW hbl) Tryz.underlying23 rfl (size_dig hd2)) HS.out ?_
 simp only [Act.put, lay6]
 rw [dc_arr, dc_arr]
 obtain ⟨c1, HC1⟩ : ∃ c1, Hid (cellsB d1 = c1) := ⟨_, rfl⟩
 obtain ⟨c2, HC2⟩ : ∃ c2, Hid (cellsB d2 = c2) := ⟨_, rfl⟩
 have hz : zd.size = 32 := by rw [<- HZD.out]; rfl
 have hs1 : c1.size = 32 := by rw [<- HC1.out, cellsB_size, hd1.1]
 have hs2 : c2.size = 32 := by rw [<- HC2.out, cellsB_size, hd2.1]
 have SD1 : Hid ((Tryz.prog.info? 23).map (·.size) = some c1.size) := by rw [hs1]; exact size_digest
 have SD2 : Hid ((Tryz.prog.info? 23).map (·.size) = some c2.size) := by rw [hs2]; exact size_digest
 have O1 : Hid (c1.all (·.oneCell') = true) := by rw [<- HC1.out]; exact cellsB_one _
 have O2 : Hid (c2.all (·.oneCell') = true) := by rw [<- HC2.out]; exact cellsB_one _
 rw [HC1.out, HC2.out]
 refine wpAnyH_ready (rs := [11]) (by kernel_rfl) (by simp) ?_
 refine AllReadyH.cons rfl (fun K hK => ?_) AllReadyH.nil
 rw [if_pos (by rfl)]
 refine wp_store_row 23 _ _ rfl w.heap.size c1 rfl rfl 23 _ H1.out SD1.out (by rw [hz, hs1]) O1.out ?_
 refine hK.out _ _ (below_setRow HS.out (Nat.le_refl _) _) (fun _ => ?_)
 clear hK K
 refine wpAnyH_ready (rs := [12]) (by kernel_rfl) (by simp) ?_
 refine AllReadyH.cons rfl (fun K hK => ?_) AllReadyH.nil
 rw [if_pos (by rfl)]
 have H2b : Hid ((W0.drew.setRow w.heap.size c1).heap[w.heap.size + 1]? = some (.cells zd 23 (0, 0))) := by
  refine hid ?_
  rw [setRow_other _ _ _ _ (by omega)]
  exact H2.out
 refine wp_store_row 23 _ _ rfl (w.heap.size + 1) c2 rfl rfl 23 _ H2b.out SD2.out (by rw [hz, hs2]) O2.out ?_
 refine hK.out _ _ (below_setRow (below_setRow HS.out (Nat.le_refl _) _) (Nat.le_succ _) _) (fun _ => ?_)
 clear hK K
 refine wpAnyH_done (by kernel_rfl) ?_ _
 go_wp2
 have HA : Hid (((W0.drew.setRow w.heap.size c1).setRow (w.heap.size + 1) c2).heap[w.heap.size]? = some (.cells c1 23 (0, 0))) := by
  refine hid ?_
  rw [setRow_other _ _ _ _ (by omega)]
  exact setRow_heap _ _ _ _ _ _ H1.out
 refine bodyPost_ret (v := .tuple #[.agg c1, .agg c2]) (results_cell2 (p := 4) (q := 5) (ty := 23) rfl _ _ w.heap.size (w.heap.size + 1) 23 c1 c2 (0, 0) (0, 0) _ rfl rfl HA.out (setRow_heap _ _ _ _ _ _ H2b.out) Tryz.underlying23 rfl SD1.out SD2.out) rfl ?_
 exact ⟨by rw [HC1.out, HC2.out], below_setRow (below_setRow HS.out (Nat.le_refl _) _) (Nat.le_succ _) _⟩
theorem twoBox (w : World) (zd c1 c2 : Array Value) :
  ((w.alloc (.cells zd 23)).alloc (.cells zd 23)).heap[w.heap.size]? = some (.cells zd 23 (0, 0)) ∧
  (((w.alloc (.cells zd 23)).alloc (.cells zd 23)).setRow w.heap.size c1).heap[w.heap.size + 1]? = some (.cells zd 23 (0, 0)) ∧
  ((((w.alloc (.cells zd 23)).alloc (.cells zd 23)).setRow w.heap.size c1).setRow (w.heap.size + 1) c2).heap[w.heap.size]? = some (.cells c1 23 (0, 0)) ∧
  ((((w.alloc (.cells zd 23)).alloc (.cells zd 23)).setRow w.heap.size c1).setRow (w.heap.size + 1) c2).heap[w.heap.size + 1]? = some (.cells c2 23 (0, 0)) ∧
  Below w.heap.size w ((((w.alloc (.cells zd 23)).alloc (.cells zd 23)).setRow w.heap.size c1).setRow (w.heap.size + 1) c2) := by
 have h1 : ((w.alloc (.cells zd 23)).alloc (.cells zd 23)).heap[w.heap.size]? = some (.cells zd 23 (0, 0)) := heap_alloc2_old _ _ _
 have h2 : (((w.alloc (.cells zd 23)).alloc (.cells zd 23)).setRow w.heap.size c1).heap[w.heap.size + 1]? = some (.cells zd 23 (0, 0)) := by
  rw [setRow_other _ _ _ _ (by omega)]
  exact heap_alloc2_new _ _ _
 refine ⟨h1, h2, ?_, setRow_heap _ _ _ _ _ _ h2, ?_⟩
 ·rw [setRow_other _ _ _ _ (by omega)]
  exact setRow_heap _ _ _ _ _ _ h1
 ·exact below_setRow (below_setRow (((Below.refl _ w).alloc (Nat.le_refl _) _).alloc (by simp) _) (Nat.le_refl _) _) (by omega) _
theorem above_any (w : World) (v : Value) (ds : List (List Int)) (x : Nat) (h : HDs w v ds) (hx : 1 <= x) (hx2 : 2 * x < ds.length) (hk : KC w) :
  Calls Tryz.prog 78 #[v, .int .i64 (x : Int)] w fun e w' => e = .returned (.agg (cellsB (ndL (ds.getD (2 * x - 1) []) (ds.getD (2 * x) [])))) /\ Below w.heap.size w w' := by
 obtain ⟨zd, HZD⟩ : ∃ zd, Hid (cellsB zeros32 = zd) := ⟨_, rfl⟩
 have hd1 := getD_D h.2 (2 * x - 1) (by omega)
 have hd2 := getD_D h.2 (2 * x) (by omega)
 obtain ⟨W0, hW0⟩ : ∃ W0, Hid (w.alloc (.cells zd 23) = W0) := ⟨_, rfl⟩
 have HB0 : Hid (Below w.heap.size w W0) := by rw [<- hW0.out]; exact (Below.refl _ w).alloc (Nat.le_refl _) _
 have HR0 : Hid (W0.heap[w.heap.size]? = some (.cells zd 23 (0, 0))) := by rw [<- hW0.out]; exact heap_alloc_new w _
 have hS0 : W0.heap.size = w.heap.size + 1 := by rw [<- hW0.out]; simp
 have CB := hid (beneath_any W0 v ds x (h.below HB0.out) hx hx2)
 have HK := hid hk
 clear h hk
 generalize ds.getD (2 * x - 1) [] = d1 at hd1 CB ⊢
 generalize ds.getD (2 * x) [] = d2 at hd2 CB ⊢
 obtain ⟨c1, HC1⟩ : ∃ c1, Hid (cellsB d1 = c1) := ⟨_, rfl⟩
 obtain ⟨c2, HC2⟩ : ∃ c2, Hid (cellsB d2 = c2) := ⟨_, rfl⟩
 have hz : zd.size = 32 := by rw [<- HZD.out]; rfl
 have hs1 : c1.size = 32 := by rw [<- HC1.out, cellsB_size, hd1.1]
 have hs2 : c2.size = 32 := by rw [<- HC2.out, cellsB_size, hd2.1]
 have SD1 : Hid ((Tryz.prog.info? 23).map (·.size) = some c1.size) := by rw [hs1]; exact size_digest
 have SD2 : Hid ((Tryz.prog.info? 23).map (·.size) = some c2.size) := by rw [hs2]; exact size_digest
 have O1 : Hid (c1.all (·.oneCell') = true) := by rw [<- HC1.out]; exact cellsB_one _
 have O2 : Hid (c2.all (·.oneCell') = true) := by rw [<- HC2.out]; exact cellsB_one _
 rw [HC1.out, HC2.out] at CB
 go_enter Tryz.func78, Tryz.ntmps78
 go_wp2_with (refine wpList_alloc_digest rfl rfl ?_; rw [HZD.out, hW0.out])
 refine CB.out.mono ?_
 rintro e w1 ⟨rfl, hB1⟩
 have BL1 := hid (HB0.out.trans (hB1.mono (by omega)))
 have HR1 : Hid (w1.heap[w.heap.size]? = some (.cells zd 23 (0, 0))) := (hB1.block _ (by omega)).trans HR0.out
 have hw1 : w.heap.size < w1.heap.size := by have := hB1.size; omega
 have X := hid (twoBox w1 zd c1 c2)
 have e1 : (w1.alloc (.cells zd 23)).heap.size = w1.heap.size + 1 := by simp
 have Z1 : Hid (zd.size = c1.size) := by rw [hz, hs1]; exact rfl
 have Z2 : Hid (zd.size = c2.size) := by rw [hz, hs2]; exact rfl
 clear hB1 CB hs1 hs2 hz
 go_wp2_with (first
  | (refine wpList_alloc_digest rfl rfl ?_; rw [HZD.out]; try rw [e1])
  | (refine wpList_store_row rfl 23 _ _ rfl w1.heap.size c1 rfl rfl 23 _ X.out.1 SD1.out Z1.out O1.out ?_)
  | (refine wpList_store_row rfl 23 _ _ rfl (w1.heap.size + 1) c2 rfl rfl 23 _ X.out.2.1 SD2.out Z2.out O2.out ?_)
  | (refine wpList_load_row rfl 23 _ rfl w1.heap.size rfl 23 c1 (0, 0) _ X.out.2.2.1 Tryz.underlying23 rfl SD1.out ?_)
  | (refine wpList_load_row rfl 23 _ rfl (w1.heap.size + 1) rfl 23 c2 (0, 0) _ X.out.2.2.2.1 Tryz.underlying23 rfl SD2.out ?_))
 obtain ⟨W2, hW2⟩ : ∃ W2, Hid ((((w1.alloc (.cells zd 23)).alloc (.cells zd 23)).setRow w1.heap.size c1).setRow (w1.heap.size + 1) c2 = W2) := ⟨_, rfl⟩
 have BB : Hid (Below w1.heap.size w1 W2) := by rw [<- hW2.out]; exact X.out.2.2.2.2
 rw [hW2.out]
 clear X
 have BL2 := hid (BL1.out.trans (BB.out.mono BL1.out.size))
 have CN := hid (node_any W2 d1 d2 hd1 hd2 (HK.out.below BL2.out))
 rw [HC1.out, HC2.out] at CN
 refine CN.out.mono ?_
 rintro e w3 ⟨rfl, hB3⟩
 obtain ⟨dm, HD⟩ : ∃ dm, Hid (cellsB (ndL d1 d2) = dm) := ⟨_, rfl⟩
 have hds : dm.size = 32 := by rw [<- HD.out, cellsB_size, (ndL_D d1 d2).1]
 have SD : Hid ((Tryz.prog.info? 23).map (·.size) = some dm.size) := by rw [hds]; exact size_digest
 have OD : Hid (dm.all (·.oneCell') = true) := by rw [<- HD.out]; exact cellsB_one _
 have ZD : Hid (zd.size = dm.size) := by rw [hds, <- HZD.out]; rfl
 have HR3 : Hid (w3.heap[w.heap.size]? = some (.cells zd 23 (0, 0))) := by
  refine hid ?_
  rw [hB3.block _ (by have := BB.out.size; omega), BB.out.block _ hw1]
  exact HR1.out
 have HBF := hid (below_setRow (BL2.out.trans (hB3.mono BL2.out.size)) (g := w.heap.size) (Nat.le_refl _) dm)
 rw [HD.out]
 clear hB3 hds CN
 go_wp2_with (refine wpList_store_row rfl 23 _ _ rfl w.heap.size dm rfl rfl 23 _ HR3.out SD.out ZD.out OD.out ?_)
 refine bodyPost_ret (v := .agg dm) (results_cell_row (p := 4) (ty := 23) rfl _ _ w.heap.size 23 dm (0, 0) _ rfl (setRow_heap _ _ _ _ _ _ HR3.out) Tryz.underlying23 rfl SD.out) rfl ?_
 exact ⟨by rw [HD.out], HBF.out⟩
end Go.Proofs.YtdgollnapbonjaaGreatDoor
namespace Go.Proofs.YtdgollnapbonjaaGreatDoor
open Go.ChangeShapes Go.WideShapes Go.ChangeAt Go.RowKit
variable {H : Type} {enc : TypeId × Value -> H} {W : World}
theorem Opn.cells_dig : Tryz.prog.cellsOf 23 = 32 := by kernel_rfl
theorem Opn.cells_u8d : Tryz.prog.cellsOf 5 = 1 := by kernel_rfl
theorem open_dig {base fuel : Nat} {cs : List Value} {x : DataW H × List MemPlace} (h : DataW.trod enc Tryz.prog W base (fun _ => true) true fuel 23 cs = some x) : ∃ d : List Int, D32 d /\ cs = dc d := by
 obtain ⟨xs, m, rfl, rfl, hl, hxl, hx⟩ := DataW.trod_array Tryz.underlying23 h
 rw [Opn.cells_dig] at hl
 have each : ∀ j, j < 32 -> ∃ k : Int, (0 <= k /\ k < 256) /\ cs[j]? = some (.int .u8 k) := fun j hj => by
  have hj2 := hx j hj
  rw [Opn.cells_u8d, List.getElem?_eq_getElem (by omega)] at hj2
  obtain ⟨z, e1, _, w1⟩ := DataW.trod_int Tryz.underlying5 hj2
  refine ⟨z, by have := bounds_u8 w1; omega, ?_⟩
  have e2 : ((cs.drop (j * 1)).take 1)[0]? = some (.int .u8 z) := by rw [e1]; rfl
  rw [List.getElem?_take, if_pos (by decide), List.getElem?_drop] at e2
  simpa using e2
 refine ⟨(List.range 32).map fun j => if hj : j < 32 then Classical.choose (each j hj) else 0, ⟨by simp, fun y hy => ?_⟩, ?_⟩
 ·obtain ⟨j, hj, rfl⟩ := List.mem_map.1 hy
  have hj' := List.mem_range.1 hj
  simp only [hj', dif_pos]
  exact (Classical.choose_spec (each j hj')).1
 ·unfold dc
  rw [List.map_map]
  refine List.ext_getElem? fun j => ?_
  by_cases hj : j < 32
  ·rw [(Classical.choose_spec (each j hj)).2]
   simp [hj]
  ·rw [List.getElem?_eq_none (by omega), List.getElem?_eq_none (by simp; omega)]
theorem open_HDs {base : Nat} {v : Value} {d : DataW H} {p : List MemPlace} (h : DataW.Trod enc Tryz.prog W base (fun _ => true) true 26 v d p) (hv : ∃ a n c, v = .slice a n c) : ∃ ds, HDs W v ds := by
 obtain ⟨a, n, c, rfl⟩ := hv
 obtain ⟨fuel, hf⟩ := h
 rcases Go.Deep.open_slice Tryz.underlying26 hf with ⟨hcs, hx⟩ | ⟨a, len, cap, m, n, D, Pl, hcs, hb, hl, hm, hmm, hx, hel⟩
 ·simp only [Value.cells, List.cons.injEq, and_true] at hcs
  rw [hcs]
  exact ⟨[], ⟨none, 0, rfl, Nat.le_refl _, Nat.zero_le _, fun _ => rfl, fun h => absurd rfl h⟩, fun d hd => by cases hd⟩
 ·simp only [Value.cells, List.cons.injEq, and_true] at hcs
  rw [hcs]
  simp only [if_true] at hmm
  subst hmm
  have each : ∀ i, i < len -> ∃ t : List Int, D32 t /\ ∀ j u, (dc t)[j]? = some u -> W.cell? ((a.add (i * 32)).add j) = some u := by
   intro i hi
   obtain ⟨cs', h1, h2⟩ := hel i (by omega)
   rw [Opn.cells_dig] at h1
   obtain ⟨dd, d1, d2⟩ := open_dig h2
   obtain ⟨_, _, hc⟩ := World.cells?_some h1
   refine ⟨dd, d1, fun j u hj => ?_⟩
   have hj2 : j < 32 := by
    have := (List.getElem?_eq_some_iff.1 hj).1
    rwa [dc_length, d1.1] at this
   rw [hc j hj2, d2]
   exact hj
  have hch : ∃ T : Nat -> List Int, ∀ i, i < len -> D32 (T i) /\ ∀ j u, (dc (T i))[j]? = some u -> W.cell? ((a.add (i * 32)).add j) = some u := by
   refine ⟨fun i => if hi : i < len then Classical.choose (each i hi) else [], fun i hi => ?_⟩
   simp only [hi, dif_pos]
   exact Classical.choose_spec (each i hi)
  obtain ⟨T, hT⟩ := hch
  have hlen : ((List.range len).map T).length = len := by simp
  refine ⟨(List.range len).map T, ⟨some a, m, by rw [hlen], by rw [hlen]; omega, hm, (fun e => by cases e), fun hne => ?_⟩, fun d hd => ?_⟩
  ·obtain ⟨b, off, sp⟩ := a
   have h0 : 0 < len := by
    apply Classical.byContradiction
    intro h
    exact hne (by rw [show len = 0 by omega]; rfl)
   have hsp : sp = none := by
    have := (hT 0 h0).2 0 _ (List.getElem?_eq_getElem (by rw [dc_length, (hT 0 h0).1.1]; omega))
    simpa [Addr.add] using World.cell?_spot this
   subst hsp
   refine ⟨b, off, rfl, fun i hi j u hj => ?_⟩
   rw [hlen] at hi
   have e : ((List.range len).map T).getD i [] = T i := by simp [List.getD, hi]
   rw [e] at hj
   have := (hT i hi).2 j u hj
   simpa only [Go.WideShapes.add_plain] using this
  ·obtain ⟨i, hi, rfl⟩ := List.mem_map.1 hd
   exact (hT i (List.mem_range.1 hi)).1
end Go.Proofs.YtdgollnapbonjaaGreatDoor
