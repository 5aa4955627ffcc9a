/- The law OctetXor, walked: it answers true for every two lists within the reach, and turns nothing that was there. -/
import Derived.Test.YtiodfpaifkcmoaaRefXor
import Derived.Test.YtiodfpaifkcmoaaApart
namespace Go.Proofs.Ytiodfpaifkcmoaa
open Go.RowKit

theorem HV.two (w : World) (a b : Value) : HV (w.alloc (.cells #[a, b] 23)) (.slice (some ⟨w.heap.size, 0, none⟩) 2 2) [a, b] := by
  refine ⟨_, _, rfl, by simp, by decide, fun _ => ⟨w.heap.size, 0, rfl, ⟨_, _, heap_alloc_new w _⟩, fun k hk => ?_⟩⟩
  match k, hk with
  | 0, _ => simp
  | 1, _ => simp

/-- A lent list: its row, and the slice that is lent. -/
theorem lent_part {w : World} {B : Nat} {v : Value} {l : List Int} (h : w.ownsRow B 5 1 v (lent l).length ((lent l).map (Value.int .u8))) (hby : ∀ x ∈ l, 0 ≤ x ∧ x < 256) :
    ∃ g c, v = .slice (some ⟨g, 0, none⟩) (l.length + 70) c ∧ B ≤ g ∧ g < w.heap.size ∧ l.length + 70 ≤ c ∧ c ≤ 9223372036854775807 ∧ HB w (.slice (some ⟨g, 0, none⟩) l.length c) l ∧ HB w (.slice (some ⟨g, 0, none⟩) (l.length + 70) c) (lent l) := by
  have hf := HB.of_own h (lent_byt hby)
  have hll := lent_length l
  rcases h.2 with ⟨_, e0⟩ | ⟨g, cap, cur, rfl, hb, hh, hn, hm, _⟩
  · omega
  · unfold maxLen at hm
    refine ⟨g, cap, by rw [hll], hb, (Array.getElem?_eq_some_iff.1 hh).1, by omega, hm, ?_, by rw [hll] at hf; exact hf⟩
    have h3 := hf.sliced 0 l.length cap (Nat.zero_le _) (by omega) (by omega) (Nat.le_refl _)
    rw [lent_take] at h3
    have e : (if cap = 0 then (some (⟨g, 0, none⟩ : Addr)) else (some (⟨g, 0, none⟩ : Addr)).map (·.add 0)) = some ⟨g, 0, none⟩ := by
      split
      · rfl
      · simp [Addr.add]
    rw [e] at h3
    simpa using h3

set_option maxRecDepth 100000 in
set_option maxHeartbeats 4000000 in
theorem xor_walk (w : World) (va vb : Value) (la lb : List Int) (ha : HB w va la) (hb : HB w vb lb) (hla : la.length ≤ 140737488351232) (hlb : lb.length ≤ 140737488351232) :
    Calls Try.prog 5 #[va, vb] w fun e w' => e = .returned (.bool true) ∧ Below w.heap.size w w' := by
  have HA := hid ha
  have HBb := hid hb
  obtain ⟨pa, ca, ea, _, hca⟩ := ha.open
  obtain ⟨pb, cb, eb, _, hcb⟩ := hb.open
  clear ha hb
  subst ea eb
  unfold maxLen at hca hcb
  have sz := size_u8
  go_enter Try.func5, Try.ntmps5
  go_wp2_with fail
  refine (lent_any w _ la HA.out hla).mono ?_
  rintro e w1 ⟨vx, rfl, hox, hB1⟩
  obtain ⟨gx, cx, ex, hgx, hgx1, hcx, hcx2, hx, hfx⟩ := lent_part hox HA.out.2
  have OX := hid hox
  have X0 := hid hx
  have XF := hid hfx
  have B1 := hid hB1
  have hs1 := hB1.size
  clear hox hx hfx hB1
  subst ex
  go_wp2_with fail
  refine (lent_any w1 _ lb (HBb.out.below B1.out) hlb).mono ?_
  rintro e w2 ⟨vy, rfl, hoy, hB2⟩
  obtain ⟨gy, cy, ey, hgy, hgy2, hcy, hcy2, hy, hfy⟩ := lent_part hoy HBb.out.2
  have OY := hid hoy
  have Y0 := hid hy
  have YF := hid hfy
  have B2 := hid hB2
  have hs2 := hB2.size
  clear hoy hy hfy hB2
  subst ey
  go_wp2_with fail
  have hcx' : la.length ≤ cx := by omega
  have hcy' : lb.length ≤ cy := by omega
  have C3 := hid (xor_any w2.drew _ _ la lb ((X0.out.below B2.out).drewN 1) (Y0.out.drewN 1) hla)
  refine wp_region_any (by kernel_rfl) ?_
  change wpAny _ _ _ _ _ _ _ (World.drew _)
  refine wpAny_take (i := 0) (v := ?_) rfl (by kernel_rfl) (by kernel_rfl) (by kernel_rfl) (fun _ _ _ h => h) (Or.inl ⟨by rfl, ?q0⟩) ?_
  case q0 => intro w; go_simp; rfl
  refine wpAny_take (i := 1) (v := ?_) rfl (by kernel_rfl) (by kernel_rfl) (by kernel_rfl) (fun _ _ _ h => h) (Or.inl ⟨by rfl, ?q1⟩) ?_
  case q1 => intro w; go_simp; rfl
  refine wpAny_take (i := 2) (v := ?_) rfl (by kernel_rfl) (by kernel_rfl) (by kernel_rfl) (fun _ _ _ h => h) (Or.inl ⟨by rfl, ?q2⟩) ?_
  case q2 => intro w; go_simp; rfl
  refine wpAny_take (i := 3) (v := ?_) rfl (by kernel_rfl) (by kernel_rfl) (by kernel_rfl) (fun _ _ _ h => h) (Or.inl ⟨by rfl, ?q3⟩) ?_
  case q3 => intro w; go_simp; rfl
  refine wpAny_take (i := 4) (v := ?_) rfl (by kernel_rfl) (by kernel_rfl) (by kernel_rfl) (fun _ _ _ h => h) (Or.inl ⟨by rfl, ?q4⟩) ?_
  case q4 => intro w; go_simp; rfl
  refine wpAny_take (i := 5) (v := ?_) rfl (by kernel_rfl) (by kernel_rfl) (by kernel_rfl) (fun _ _ _ h => h) (Or.inl ⟨by rfl, ?q5⟩) ?_
  case q5 => intro w; go_simp; rfl
  refine wpAny_take (i := 6) (v := ?_) rfl (by kernel_rfl) (by kernel_rfl) (by kernel_rfl) (fun _ _ _ h => h) (Or.inl ⟨by rfl, ?q6⟩) ?_
  case q6 => intro w; go_simp; rfl
  refine wpAny_take (i := 7) (v := ?_) rfl (by kernel_rfl) (by kernel_rfl) (by kernel_rfl) (fun _ _ _ h => h) (Or.inl ⟨by rfl, ?q7⟩) ?_
  case q7 => intro w; go_simp; rfl
  refine wpAny_ready (rs := [8]) (by kernel_rfl) (by simp) ?_
  refine AllReady.cons rfl (fun K hK => ?_) AllReady.nil
  go_simp
  refine (C3.out).mono ?_
  rintro e w3 ⟨vl, rfl, hol, hB3⟩
  refine hK _ _ ?_
  clear hK K
  refine wpAny_take (i := 9) (v := ?_) rfl (by kernel_rfl) (by kernel_rfl) (by kernel_rfl) (fun _ _ _ h => h) (Or.inl ⟨by rfl, ?q9⟩) ?_
  case q9 => intro w; go_simp; rfl
  refine wpAny_take (i := 10) (v := ?_) rfl (by kernel_rfl) (by kernel_rfl) (by kernel_rfl) (fun _ _ _ h => h) (Or.inl ⟨by rfl, ?q10⟩) ?_
  case q10 => intro w; go_simp; rfl
  refine wpAny_take (i := 11) (v := ?_) rfl (by kernel_rfl) (by kernel_rfl) (by kernel_rfl) (fun _ _ _ h => h) (Or.inl ⟨by rfl, ?q11⟩) ?_
  case q11 => intro w; go_simp; rfl
  refine wpAny_take (i := 12) (v := ?_) rfl (by kernel_rfl) (by kernel_rfl) (by kernel_rfl) (fun _ _ _ h => h) (Or.inl ⟨by rfl, ?q12⟩) ?_
  case q12 => intro w; go_simp; rfl
  refine wpAny_take (i := 13) (v := ?_) rfl (by kernel_rfl) (by kernel_rfl) (by kernel_rfl) (fun _ _ _ h => h) (Or.inl ⟨by rfl, ?q13⟩) ?_
  case q13 => intro w; go_simp; rfl
  refine wpAny_done (by kernel_rfl) ?_ _
  have B3 : Hid (Below w2.heap.size w2 w3) := ⟨hB3.os, hB3.tape, hB3.output, hB3.size, hB3.block⟩
  have OL : Hid (w3.ownsRow w2.heap.size 5 1 vl (xorA la lb).length ((xorA la lb).map (Value.int .u8))) := hol
  have hs3 := B3.out.size
  clear hol hB3 C3
  have X3 := hid ((X0.out.below B2.out).below B3.out)
  have Y3 := hid (Y0.out.below B3.out)
  have C4 := hid (xor_any w3.drew _ _ la lb (X3.out.drewN 1) (Y3.out.drewN 1) hla)
  go_wp2_with fail
  refine wp_region_any (by kernel_rfl) ?_
  change wpAny _ _ _ _ _ _ _ (World.drew _)
  refine wpAny_take (i := 0) (v := ?_) rfl (by kernel_rfl) (by kernel_rfl) (by kernel_rfl) (fun _ _ _ h => h) (Or.inl ⟨by rfl, ?q0⟩) ?_
  case q0 => intro w; go_simp; rfl
  refine wpAny_take (i := 1) (v := ?_) rfl (by kernel_rfl) (by kernel_rfl) (by kernel_rfl) (fun _ _ _ h => h) (Or.inl ⟨by rfl, ?q1⟩) ?_
  case q1 => intro w; go_simp; rfl
  refine wpAny_take (i := 2) (v := ?_) rfl (by kernel_rfl) (by kernel_rfl) (by kernel_rfl) (fun _ _ _ h => h) (Or.inl ⟨by rfl, ?q2⟩) ?_
  case q2 => intro w; go_simp; rfl
  refine wpAny_take (i := 3) (v := ?_) rfl (by kernel_rfl) (by kernel_rfl) (by kernel_rfl) (fun _ _ _ h => h) (Or.inl ⟨by rfl, ?q3⟩) ?_
  case q3 => intro w; go_simp; rfl
  refine wpAny_take (i := 4) (v := ?_) rfl (by kernel_rfl) (by kernel_rfl) (by kernel_rfl) (fun _ _ _ h => h) (Or.inl ⟨by rfl, ?q4⟩) ?_
  case q4 => intro w; go_simp; rfl
  refine wpAny_take (i := 5) (v := ?_) rfl (by kernel_rfl) (by kernel_rfl) (by kernel_rfl) (fun _ _ _ h => h) (Or.inl ⟨by rfl, ?q5⟩) ?_
  case q5 => intro w; go_simp; rfl
  refine wpAny_take (i := 6) (v := ?_) rfl (by kernel_rfl) (by kernel_rfl) (by kernel_rfl) (fun _ _ _ h => h) (Or.inl ⟨by rfl, ?q6⟩) ?_
  case q6 => intro w; go_simp; rfl
  refine wpAny_take (i := 7) (v := ?_) rfl (by kernel_rfl) (by kernel_rfl) (by kernel_rfl) (fun _ _ _ h => h) (Or.inl ⟨by rfl, ?q7⟩) ?_
  case q7 => intro w; go_simp; rfl
  refine wpAny_ready (rs := [8]) (by kernel_rfl) (by simp) ?_
  refine AllReady.cons rfl (fun K hK => ?_) AllReady.nil
  go_simp
  refine (C4.out).mono ?_
  rintro e w4 ⟨vm, rfl, hom, hB4⟩
  refine hK _ _ ?_
  clear hK K
  refine wpAny_take (i := 9) (v := ?_) rfl (by kernel_rfl) (by kernel_rfl) (by kernel_rfl) (fun _ _ _ h => h) (Or.inl ⟨by rfl, ?q9⟩) ?_
  case q9 => intro w; go_simp; rfl
  refine wpAny_take (i := 10) (v := ?_) rfl (by kernel_rfl) (by kernel_rfl) (by kernel_rfl) (fun _ _ _ h => h) (Or.inl ⟨by rfl, ?q10⟩) ?_
  case q10 => intro w; go_simp; rfl
  refine wpAny_take (i := 11) (v := ?_) rfl (by kernel_rfl) (by kernel_rfl) (by kernel_rfl) (fun _ _ _ h => h) (Or.inl ⟨by rfl, ?q11⟩) ?_
  case q11 => intro w; go_simp; rfl
  refine wpAny_take (i := 12) (v := ?_) rfl (by kernel_rfl) (by kernel_rfl) (by kernel_rfl) (fun _ _ _ h => h) (Or.inl ⟨by rfl, ?q12⟩) ?_
  case q12 => intro w; go_simp; rfl
  refine wpAny_take (i := 13) (v := ?_) rfl (by kernel_rfl) (by kernel_rfl) (by kernel_rfl) (fun _ _ _ h => h) (Or.inl ⟨by rfl, ?q13⟩) ?_
  case q13 => intro w; go_simp; rfl
  refine wpAny_done (by kernel_rfl) ?_ _
  have B4 : Hid (Below w3.heap.size w3 w4) := ⟨hB4.os, hB4.tape, hB4.output, hB4.size, hB4.block⟩
  have OM : Hid (w4.ownsRow w3.heap.size 5 1 vm (xorA la lb).length ((xorA la lb).map (Value.int .u8))) := hom
  have hs4 := B4.out.size
  clear hom hB4 C4
  have X4 := hid (X3.out.below B4.out)
  have Y4 := hid (Y3.out.below B4.out)
  have C5 := hid (less_any w4.drew _ _ la lb (X4.out.drewN 1) (Y4.out.drewN 1))
  go_wp2_with fail
  refine wp_region_any (by kernel_rfl) ?_
  change wpAny _ _ _ _ _ _ _ (World.drew _)
  refine wpAny_take (i := 0) (v := ?_) rfl (by kernel_rfl) (by kernel_rfl) (by kernel_rfl) (fun _ _ _ h => h) (Or.inl ⟨by rfl, ?q0⟩) ?_
  case q0 => intro w; go_simp; rfl
  refine wpAny_take (i := 1) (v := ?_) rfl (by kernel_rfl) (by kernel_rfl) (by kernel_rfl) (fun _ _ _ h => h) (Or.inl ⟨by rfl, ?q1⟩) ?_
  case q1 => intro w; go_simp; rfl
  refine wpAny_take (i := 2) (v := ?_) rfl (by kernel_rfl) (by kernel_rfl) (by kernel_rfl) (fun _ _ _ h => h) (Or.inl ⟨by rfl, ?q2⟩) ?_
  case q2 => intro w; go_simp; rfl
  refine wpAny_take (i := 3) (v := ?_) rfl (by kernel_rfl) (by kernel_rfl) (by kernel_rfl) (fun _ _ _ h => h) (Or.inl ⟨by rfl, ?q3⟩) ?_
  case q3 => intro w; go_simp; rfl
  refine wpAny_take (i := 4) (v := ?_) rfl (by kernel_rfl) (by kernel_rfl) (by kernel_rfl) (fun _ _ _ h => h) (Or.inl ⟨by rfl, ?q4⟩) ?_
  case q4 => intro w; go_simp; rfl
  refine wpAny_take (i := 5) (v := ?_) rfl (by kernel_rfl) (by kernel_rfl) (by kernel_rfl) (fun _ _ _ h => h) (Or.inl ⟨by rfl, ?q5⟩) ?_
  case q5 => intro w; go_simp; rfl
  refine wpAny_take (i := 6) (v := ?_) rfl (by kernel_rfl) (by kernel_rfl) (by kernel_rfl) (fun _ _ _ h => h) (Or.inl ⟨by rfl, ?q6⟩) ?_
  case q6 => intro w; go_simp; rfl
  refine wpAny_take (i := 7) (v := ?_) rfl (by kernel_rfl) (by kernel_rfl) (by kernel_rfl) (fun _ _ _ h => h) (Or.inl ⟨by rfl, ?q7⟩) ?_
  case q7 => intro w; go_simp; rfl
  refine wpAny_ready (rs := [8]) (by kernel_rfl) (by simp) ?_
  refine AllReady.cons rfl (fun K hK => ?_) AllReady.nil
  go_simp
  refine (C5.out).mono ?_
  rintro e w5 ⟨rfl, hw5⟩
  refine hK _ _ ?_
  clear hK K
  refine wpAny_take (i := 9) (v := ?_) rfl (by kernel_rfl) (by kernel_rfl) (by kernel_rfl) (fun _ _ _ h => h) (Or.inl ⟨by rfl, ?q9⟩) ?_
  case q9 => intro w; go_simp; rfl
  refine wpAny_done (by kernel_rfl) ?_ _
  have B5 : Hid (Below w4.heap.size w4 w5) := by rw [hw5]; exact (Dr.one w4 1).below _
  have hs5 : w4.heap.size ≤ w5.heap.size := B5.out.size
  clear hw5 C5
  obtain ⟨pl, cl, el⟩ := own_slc OL.out
  obtain ⟨pm, cm, em⟩ := own_slc OM.out
  obtain ⟨xe, HXE⟩ : ∃ xe, Hid (xorE la lb = xe) := ⟨_, rfl⟩
  obtain ⟨xa, HXA⟩ : ∃ xa, Hid (xorA la lb = xa) := ⟨_, rfl⟩
  obtain ⟨lt, HLT⟩ : ∃ lt, Hid (ltL la lb = lt) := ⟨_, rfl⟩
  have HXB : Hid (∀ x ∈ xa, 0 ≤ x ∧ x < 256) := by rw [← HXA.out]; exact xorA_byt HA.out.2 HBb.out.2
  have hxal : xa.length ≤ 140737488351232 := by rw [← HXA.out]; exact Nat.le_trans (xorA_length la lb) hla
  rw [HXA.out] at el em OL OM
  rw [HXE.out, HLT.out]
  subst el em
  have q1 : (xe == xe) = true := by simp
  have q2 : (lt == lt) = true := by simp
  have tr : ∀ z : Option Nat, z = none ∨ z ≠ none := fun z => by cases z <;> simp
  have X5 := hid ((((XF.out.below B2.out).below B3.out).below B4.out).below B5.out)
  have Y5 := hid (((YF.out.below B3.out).below B4.out).below B5.out)
  have B25 := hid (B3.out.trans ((B4.out.trans (B5.out.mono hs4)).mono hs3))
  have B15 := hid (B2.out.trans (B25.out.mono hs2))
  have B05 := hid (B1.out.trans (B15.out.mono hs1))
  have OX5 := hid ((OX.out.kept (grown_below (r := none) B15.out) (tr _)))
  have OY5 := hid ((OY.out.kept (grown_below (r := none) B25.out) (tr _)))
  have OL5 := hid ((OL.out.kept (grown_below (r := none) (B4.out.trans (B5.out.mono hs4))) (tr _)))
  have OM5 := hid ((OM.out.kept (grown_below (r := none) B5.out) (tr _)))
  have gl := hid OL.out.lt
  have gm := hid OM.out.lt
  clear OX OY OL OM X0 Y0 XF YF X3 Y3 X4 Y4 B15 B1 B2 B3 B4 B5
  go_wp2_with fail
  refine (kept_any w5 _ _ (lent la) la X5.out (HA.out.below B05.out) hla).mono ?_
  rintro e w6 ⟨rfl, hB6⟩
  rw [decide_eq_true rfl]
  have B56 := hid hB6
  have hs6 := hB6.size
  have B06 := hid (B05.out.trans (hB6.mono B05.out.size))
  clear hB6
  go_wp2_with fail
  refine (kept_any w6 _ _ (lent lb) lb (Y5.out.below B56.out) (HBb.out.below B06.out) hlb).mono ?_
  rintro e w7 ⟨rfl, hB7⟩
  rw [decide_eq_true rfl]
  have B57 := hid (B56.out.trans (hB7.mono hs6))
  have hs7 := hB7.size
  have B07 := hid (B05.out.trans (B57.out.mono B05.out.size))
  have OX7 := hid (OX5.out.kept (grown_below (r := none) B57.out) (tr _))
  have OY7 := hid (OY5.out.kept (grown_below (r := none) B57.out) (tr _))
  have OL7 := hid (OL5.out.kept (grown_below (r := none) B57.out) (tr _))
  have OM7 := hid (OM5.out.kept (grown_below (r := none) B57.out) (tr _))
  clear hB7 B56 B06 OX5 OY5 OL5 OM5 X5 Y5 B05 B57
  have hlla := lent_length la
  have hllb := lent_length lb
  rw [hlla] at OX7
  rw [hllb] at OY7
  clear hlla hllb
  go_wp2_with fail
  refine (over_any w7 _ _ _ _ OX7.out (by omega)).mono ?_
  rintro e w8 ⟨rfl, -, hg8⟩
  have G8 : Hid (w7.grownBy w8 (some gx)) := hg8
  have hs8 := hg8.size
  have OY8 := hid (OY7.out.kept G8.out (.inr (by simp [Value.ownBlock]; omega)))
  have OL8 := hid (OL7.out.kept G8.out (by rcases tr (Value.ownBlock (.slice pl xa.length cl)) with h | h; · exact .inl h
                                           · refine .inr fun e => ?_; have := (gl.out gx e).1; omega))
  have OM8 := hid (OM7.out.kept G8.out (by rcases tr (Value.ownBlock (.slice pm xa.length cm)) with h | h; · exact .inl h
                                           · refine .inr fun e => ?_; have := (gm.out gx e).1; omega))
  have B08 := hid (B07.out.grown G8.out B07.out.size (fun k e => by cases e; exact hgx))
  clear hg8 OX7 OY7 OL7 OM7 G8 B07
  go_wp2_with fail
  refine (over_any w8 _ _ _ _ OY8.out (by omega)).mono ?_
  rintro e w9 ⟨rfl, -, hg9⟩
  have G9 : Hid (w8.grownBy w9 (some gy)) := hg9
  have hs9 := hg9.size
  have OL9 := hid (OL8.out.kept G9.out (by rcases tr (Value.ownBlock (.slice pl xa.length cl)) with h | h; · exact .inl h
                                           · refine .inr fun e => ?_; have := (gl.out gy e).1; omega))
  have OM9 := hid (OM8.out.kept G9.out (by rcases tr (Value.ownBlock (.slice pm xa.length cm)) with h | h; · exact .inl h
                                           · refine .inr fun e => ?_; have := (gm.out gy e).1; omega))
  have B09 := hid (B08.out.grown G9.out B08.out.size (fun k e => by cases e; omega))
  clear hg9 OY8 OL8 OM8 G9 B08
  have CR := rxor_any w9 _ _ la lb (HA.out.below B09.out) (HBb.out.below B09.out) hla
  rw [HXE.out, HXA.out] at CR
  have C10 := hid CR
  clear CR
  go_wp2_with fail
  refine C10.out.mono ?_
  rintro e w10 ⟨vn, rfl, hon, hB10⟩
  obtain ⟨pn, cn, en⟩ := own_slc hon
  subst en
  have N10 := hid (HB.of_own hon HXB.out)
  have OL10 := hid (OL9.out.kept (grown_below (r := none) hB10) (tr _))
  have OM10 := hid (OM9.out.kept (grown_below (r := none) hB10) (tr _))
  have hs10 := hB10.size
  have B010 := hid (B09.out.trans (hB10.mono B09.out.size))
  have CL := rless_any w10 _ _ la lb (HA.out.below B010.out) (HBb.out.below B010.out)
  rw [HLT.out] at CL
  have C11 := hid CL
  clear hon hB10 OL9 OM9 B09 C10 CL
  go_wp2_with fail
  refine C11.out.mono ?_
  rintro e w11 ⟨rfl, hD⟩
  have D11 := hid hD
  clear hD C11
  have L10 := hid (HB.of_own OL10.out HXB.out)
  have M10 := hid (HB.of_own OM10.out HXB.out)
  go_wp2_with fail
  refine (sameBytes_any w11 _ _ xa xa (L10.out.dr D11.out) (N10.out.dr D11.out)).mono ?_
  rintro e w12 ⟨rfl, hD12⟩
  rw [decide_eq_true rfl]
  have D12 := hid (D11.out.trans hD12)
  clear hD12 D11
  go_wp2_with fail
  refine (sameBytes_any w12 _ _ xa xa (M10.out.dr D12.out) (N10.out.dr D12.out)).mono ?_
  rintro e w13 ⟨rfl, hD13⟩
  rw [decide_eq_true rfl]
  have D13 := hid (D12.out.trans hD13)
  clear hD13 D12 L10 M10 N10
  go_wp2_with fail
  have hne : Value.ownBlock (.slice pl xa.length cl) = none ∨ Value.ownBlock (.slice pl xa.length cl) ≠ Value.ownBlock (.slice pm xa.length cm) := by
    rcases tr (Value.ownBlock (.slice pl xa.length cl)) with h | h
    · exact .inl h
    · refine .inr fun e => ?_
      obtain ⟨k, hk⟩ := Option.ne_none_iff_exists'.1 h
      have h1 := gl.out k hk
      have h2 := gm.out k (e ▸ hk)
      omega
  have hne' : Value.ownBlock (.slice pm xa.length cm) = none ∨ Value.ownBlock (.slice pm xa.length cm) ≠ Value.ownBlock (.slice pl xa.length cl) := by
    rcases tr (Value.ownBlock (.slice pm xa.length cm)) with h | h
    · exact .inl h
    · refine .inr fun e => ?_
      obtain ⟨k, hk⟩ := Option.ne_none_iff_exists'.1 h
      have h1 := gm.out k hk
      have h2 := gl.out k (e ▸ hk)
      omega
  have hd := grown_below (r := none) (D13.out.below w10.heap.size)
  have hal := World.grownBy_alloc w13 (.cells #[.slice pl xa.length cl, .slice pm xa.length cm] 23) none
  have hAp : Apt w.heap.size (w13.alloc (.cells #[.slice pl xa.length cl, .slice pm xa.length cm] 23)) [.slice pl xa.length cl, .slice pm xa.length cm] [xa, xa] := by
    refine ⟨rfl, fun k hk => ?_, fun i j hi hj hij => ?_⟩
    · match k, hk with
      | 0, _ => exact own_mono ((OL10.out.kept hd (tr _)).kept hal (tr _)) (by omega)
      | 1, _ => exact own_mono ((OM10.out.kept hd (tr _)).kept hal (tr _)) (by omega)
    · have hi2 : i = 0 ∨ i = 1 := by simp at hi; omega
      have hj2 : j = 0 ∨ j = 1 := by simp at hj; omega
      rcases hi2 with rfl | rfl <;> rcases hj2 with rfl | rfl <;> first | exact absurd rfl hij | exact hne | exact hne'
  have B13 := hid (B010.out.trans ((D13.out.below _).mono B010.out.size))
  refine (apart_any w.heap.size _ _ _ _ (HV.two w13 _ _) hAp (by have := B13.out.size; simp; omega) (by simp) (fun k => ?_)).mono ?_
  · match k with
    | 0 => exact hxal
    | 1 => exact hxal
    | k + 2 => simp
  rintro e w14 ⟨rfl, hB14⟩
  have B14 := hid ((B13.out.alloc B13.out.size _).trans hB14)
  clear hB14 hAp hne hne' hd hal
  go_wp2
  go_ret
  exact ⟨rfl, B14.out⟩
end Go.Proofs.Ytiodfpaifkcmoaa
