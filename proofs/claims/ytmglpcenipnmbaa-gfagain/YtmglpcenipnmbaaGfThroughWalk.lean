/- The law GfThrough, walked. -/
import Derived.Test.YtmglpcenipnmbaaGfThrLaw
set_option linter.unusedSimpArgs false
set_option linter.unusedVariables false
namespace Go.Proofs.Ytmglpcenipnmbaa
open Go Go.RowKit

def eX : Nat → Nat := fun i => if i = 0 then 77 else 78
def eY : Nat → Nat := fun i => if i = 0 then 1 else 2
theorem ptl_two : ptl 2 eX eY = [.int .u8 77, .int .u8 1, .int .u8 78, .int .u8 2] := rfl
theorem HPt.lit (w : World) : HPt (w.alloc (.cells #[.int .u8 77, .int .u8 1, .int .u8 78, .int .u8 2] 54)) (.slice (some ⟨w.heap.size, 0, none⟩) 2 2) 2 eX eY := by
  refine ⟨_, _, rfl, Nat.le_refl _, by decide, fun i => ?_, fun i => ?_, fun _ => ⟨w.heap.size, 0, rfl, fun i hi => ?_⟩⟩
  · unfold eX; split <;> decide
  · unfold eY; split <;> decide
  · have : i = 0 ∨ i = 1 := by omega
    rcases this with rfl | rfl
    · exact ⟨by rw [cell_of_row _ w.heap.size _ _ _ _ (heap_alloc_new w _)]; rfl, by rw [cell_of_row _ w.heap.size _ _ _ _ (heap_alloc_new w _)]; rfl⟩
    · exact ⟨by rw [cell_of_row _ w.heap.size _ _ _ _ (heap_alloc_new w _)]; rfl, by rw [cell_of_row _ w.heap.size _ _ _ _ (heap_alloc_new w _)]; rfl⟩
/-- The first points of a row of one's own. -/
theorem HPt.of_own {w : World} {B g n c k : Nat} {X Y : Nat → Nat} {xs : List Value} (h : w.ownsRow B 54 2 (.slice (some ⟨g, 0, none⟩) k c) k xs) (hX : ∀ i, X i < 256) (hY : ∀ i, Y i < 256) (hn : n ≤ k)
    (hx : ∀ (j : Nat) (u : Value), (ptl n X Y)[j]? = some u → xs[j]? = some u) : HPt w (.slice (some ⟨g, 0, none⟩) n c) n X Y := by
  have hc := h.cells (g := g) rfl
  rcases h.2 with ⟨e, _⟩ | ⟨g', cap, cur, e, _, _, h3, h4, _⟩
  · cases e
  · cases e
    refine ⟨_, _, rfl, by omega, h4, hX, hY, fun _ => ⟨g, 0, rfl, fun i hi => ⟨?_, ?_⟩⟩⟩
    · have := hc (i * 2) _ (hx _ _ (ptl_fst X Y hi))
      rw [Go.WideShapes.add_plain] at this
      exact this
    · have := hc (i * 2 + 1) _ (hx _ _ (ptl_snd X Y hi))
      rw [Go.WideShapes.add_plain] at this
      exact this
theorem own_cell2 {w : World} {B g c k : Nat} {xs : List Value} (h : w.ownsRow B 54 2 (.slice (some ⟨g, 0, none⟩) k c) k xs) {j : Nat} {u : Value} (hj : xs[j]? = some u) : w.cell? ⟨g, j, none⟩ = some u := by
  have := h.cells (g := g) rfl j u hj
  rw [Go.WideShapes.add_plain, Nat.zero_add] at this
  exact this
theorem own2_below {w w' : World} {B n : Nat} {e : TypeId} {v : Value} {xs : List Value} (h : w.ownsRow B e 2 v n xs) (hb : Below w.heap.size w w') : w'.ownsRow B e 2 v n xs :=
  h.kept ⟨hb.os, hb.tape, hb.output, hb.size, fun k hk _ => hb.block k hk⟩ (none_or _)

theorem HV.pair (w : World) (a b : Value) : HV (w.alloc (.cells #[a, b] 38)) (.slice (some ⟨w.heap.size, 0, none⟩) 2 2) [a, b] := by
  refine ⟨_, _, rfl, by simp, by decide, fun _ => ⟨w.heap.size, 0, rfl, ⟨_, _, heap_alloc_new w _⟩, fun k hk => ?_⟩⟩
  match k, hk with
  | 0, _ => simp
  | 1, _ => simp

set_option maxRecDepth 100000 in
set_option maxHeartbeats 16000000 in
theorem through_walk (w : World) (v : Value) (n : Nat) (X Y : Nat → Nat) (h : HPt w v n X Y) (h0 : ∀ c, v = .slice none n c → c = 0) (hn : n ≤ 70368744175616) :
    Calls Try.prog 7 #[v] w fun e w' => e = .returned (.bool true) ∧ Below w.heap.size w w' := by
  have HP := hid h
  obtain ⟨p, c, rfl, hnc, hcm, hX, hY, -⟩ := id h
  have HX := hid hX
  have HY := hid hY
  have H0 := hid h0
  unfold maxLen at hcm
  have sz := size_pt
  have su := size_u8
  clear h hX hY h0
  go_enter Try.func7, Try.ntmps7
  go_wp2_with (at_builtin; refine wpList_append_pts rfl _ _ rfl w.heap.size _ 0 [] rfl (World.ownsRow_nil _ _ _ _) _ n X Y rfl HP.out H0.out (by omega) (Nat.le_refl _) ?_)
  intro v1 w1 ho1 hg1
  have B1 : Hid (Below w.heap.size w w1) := (Below.refl _ w).grown hg1 (Nat.le_refl _) (fun k e => by cases e)
  have O1 := hid ho1
  have hs1 := B1.out.size
  clear ho1 hg1
  go_wp2_with (at_builtin; refine wpList_append_pts rfl _ _ rfl w.heap.size _ n (ptl n X Y) rfl (O1.out.alloc _) _ 2 eX eY rfl (HPt.lit w1) ?q1 (by omega) ?q2 ?_)
  case q1 => intro c e; cases e
  case q2 => rw [World.size_alloc]; omega
  intro v2 w2 ho2 hg2
  rw [ptl_two] at ho2
  have hs0 : (w1.alloc (.cells #[.int .u8 77, .int .u8 1, .int .u8 78, .int .u8 2] 54)).heap.size = w1.heap.size + 1 := World.size_alloc _ _
  have B2 : Hid (Below w.heap.size w w2) := (B1.out.alloc hs1 _).grown hg2 (by omega) (fun k e => (O1.out.lt k e).1)
  have hs2 := B2.out.size
  obtain ⟨g, cap, rfl, hgb, hcap, hcm2⟩ : ∃ g cap, v2 = .slice (some ⟨g, 0, none⟩) (n + 2) cap ∧ w.heap.size ≤ g ∧ n + 2 ≤ cap ∧ cap ≤ 9223372036854775807 := by
    rcases ho2.2 with ⟨_, e⟩ | ⟨g, cap, cur, e, h1, _, h2, h3, _⟩
    · omega
    · exact ⟨g, cap, e, h1, h2, h3⟩
  have hgl := (ho2.lt g rfl).2
  obtain ⟨XS, hXS⟩ : ∃ XS, XS = ptl n X Y ++ [.int .u8 77, .int .u8 1, .int .u8 78, .int .u8 2] := ⟨_, rfl⟩
  rw [← hXS] at ho2
  have O2 := hid ho2
  have XE := hid hXS
  have P2 : Hid (HPt w2 (.slice (some ⟨g, 0, none⟩) n cap) n X Y) := HPt.of_own ho2 HX.out HY.out (by omega) (fun j u hj => by
    rw [hXS, List.getElem?_append_left (by exact (List.getElem?_eq_some_iff.1 hj).1)]
    exact hj)
  have hncap : n ≤ cap := by omega
  clear ho2 hg2 hs0 B1 O1 hs1 hXS
  have C3 := hid ((gthrough_any w2 _ n X Y P2.out).mono fun _ _ h => ThrPost.tr h)
  go_wp2_with fail
  refine C3.out.mono ?_
  rintro e w3 ⟨p3, c3, L, rfl, hL, ho3, hB3⟩
  have HL := hid hL
  have OP3 := hid ho3
  have hs3 := hB3.size
  have P3 := hid (P2.out.below hB3)
  have O3 := hid (own2_below O2.out hB3)
  have B03 := hid (B2.out.trans (hB3.mono hs2))
  clear hL ho3 hB3 C3 O2 B2 P2
  have C4 := hid ((gthrough_any w3 _ n X Y P3.out).mono fun _ _ h => ThrPost.tr h)
  go_wp2_with fail
  refine C4.out.mono ?_
  rintro e w4 ⟨p4, c4, L', rfl, hL, ho4, hB4⟩
  obtain rfl := ThrRow.one HX.out HL.out hL
  have OQ4 := hid ho4
  have hs4 := hB4.size
  have NPQ := hid (own_ne OP3.out OQ4.out (Nat.le_refl _))
  have OP4 := hid (own_below OP3.out hB4)
  have O4 := hid (own2_below O3.out hB4)
  have B04 := hid (B03.out.trans (hB4.mono B03.out.size))
  clear hL ho4 hB4 C4 O3 B03 P3 OP3
  go_wp2
  go_loopw [8] (fun i wr => ∃ k : Nat, k ≤ n ∧ i = .int .i64 (k : Int) ∧ Hid (∃ ys, wr.ownsRow w.heap.size 54 2 (.slice (some ⟨g, 0, none⟩) (n + 2) cap) (n + 2) ys ∧ ∀ j : Nat, k * 2 ≤ j → ys[j]? = XS[j]?) ∧ Hid (w4.grownBy wr (some g))) (fun i _ => n - (intOf i).toNat)
  case atStart => exact ⟨0, Nat.zero_le _, rfl, ⟨_, O4.out, fun _ _ => rfl⟩, ⟨rfl, rfl, rfl, Nat.le_refl _, fun _ _ _ => rfl⟩⟩
  case round =>
    obtain ⟨k, hk, rfl, HY2, HG⟩ := hrel
    obtain ⟨ys, hoy, hyx⟩ := HY2.out
    have BR : Hid (Below w.heap.size w wr) := B04.out.grown HG.out B04.out.size (fun r e => by cases e; exact hgb)
    by_cases hlast : k = n
    · have hl1 : ¬ (k : Int) < (n : Int) := by omega
      subst hlast
      have z0 : wr.cell? ⟨g, k * 2, none⟩ = some (.int .u8 77) := own_cell2 hoy (by rw [hyx _ (Nat.le_refl _), XE.out, List.getElem?_append_right (by rw [ptl_length]; omega), ptl_length, Nat.sub_self]; rfl)
      have z1 : wr.cell? ⟨g, k * 2 + 1, none⟩ = some (.int .u8 1) := own_cell2 hoy (by rw [hyx _ (by omega), XE.out, List.getElem?_append_right (by rw [ptl_length]; omega), ptl_length, show k * 2 + 1 - k * 2 = 1 by omega]; rfl)
      have z2 : wr.cell? ⟨g, (k + 1) * 2, none⟩ = some (.int .u8 78) := own_cell2 hoy (by rw [hyx _ (by omega), XE.out, List.getElem?_append_right (by rw [ptl_length]; omega), ptl_length, show (k + 1) * 2 - k * 2 = 2 by omega]; rfl)
      have z3 : wr.cell? ⟨g, (k + 1) * 2 + 1, none⟩ = some (.int .u8 2) := own_cell2 hoy (by rw [hyx _ (by omega), XE.out, List.getElem?_append_right (by rw [ptl_length]; omega), ptl_length, show (k + 1) * 2 + 1 - k * 2 = 3 by omega]; rfl)
      have hsr := HG.out.size
      have OP5 := hid (own_other OP4.out HG.out (by omega))
      have OQ5 := hid (own_other OQ4.out HG.out (by omega))
      have C5 := hid ((rthrough_any wr _ k X Y (HP.out.below BR.out)).mono fun _ _ h => ThrPost.tr h)
      clear hoy hyx HY2 O4 OP4 OQ4 HG B04
      go_wp2_with fail
      refine C5.out.mono ?_
      rintro e w5 ⟨p5, c5, L', rfl, hL, ho5, hB5⟩
      obtain rfl := ThrRow.one HX.out HL.out hL
      have LB := hid HL.out.byt
      have OR6 := hid ho5
      have hs6 := hB5.size
      have OP6 := hid (own_below OP5.out hB5)
      have OQ6 := hid (own_below OQ5.out hB5)
      have B06 := hid (BR.out.trans (hB5.mono BR.out.size))
      have hq1 : (thrN k X != thrN k X) = false := by simp
      clear hL ho5 hB5 C5 OP5 OQ5 BR z0 z1 z2 z3
      go_wp2_with fail
      refine (sameBytes_any w5 _ _ L L (HB.of_own OP6.out LB.out.1) (HB.of_own OR6.out LB.out.1)).mono ?_
      rintro e w7 ⟨rfl, hD7⟩
      rw [decide_eq_true rfl]
      have B7 := hid (hD7.below w5.heap.size)
      have hs7 := B7.out.size
      clear hD7
      go_wp2_with fail
      refine (sameBytes_any w7 _ _ L L ((HB.of_own OQ6.out LB.out.1).below B7.out) ((HB.of_own OR6.out LB.out.1).below B7.out)).mono ?_
      rintro e w8 ⟨rfl, hD8⟩
      rw [decide_eq_true rfl]
      have B8 := hid (B7.out.trans ((hD8.below w7.heap.size).mono hs7))
      clear hD8 B7
      have OP8 := hid (own_below OP6.out B8.out)
      have OQ8 := hid (own_below OQ6.out B8.out)
      have B08 := hid (B06.out.trans (B8.out.mono B06.out.size))
      have hs8 := B8.out.size
      clear OP6 OQ6 OR6 B8 B06
      go_wp2_with fail
      have hal := World.grownBy_alloc w8 (.cells #[.slice p3 L.length c3, .slice p4 L.length c4] 38) none
      have hAp : Apt w.heap.size (w8.alloc (.cells #[.slice p3 L.length c3, .slice p4 L.length c4] 38)) [.slice p3 L.length c3, .slice p4 L.length c4] [L, L] := by
        refine ⟨rfl, fun k hk => ?_, fun i j hi hj hij => ?_⟩
        · match k, hk with
          | 0, _ => exact own_mono (OP8.out.kept hal (none_or _)) (by omega)
          | 1, _ => exact own_mono (OQ8.out.kept hal (none_or _)) (by omega)
        · have hi2 : i = 0 ∨ i = 1 := by simp at hi; omega
          have hj2 : j = 0 ∨ j = 1 := by simp at hj; omega
          rcases hi2 with rfl | rfl <;> rcases hj2 with rfl | rfl <;> first | exact absurd rfl hij | exact NPQ.out.1 | exact NPQ.out.2
      refine (apart_any w.heap.size _ _ _ _ (HV.pair w8 _ _) hAp (by have := B08.out.size; simp; omega) (by simp) (fun k => ?_)).mono ?_
      · have h1 := LB.out.2
        match k with
        | 0 => show L.length ≤ _; omega
        | 1 => show L.length ≤ _; omega
        | k + 2 => simp
      rintro e w9 ⟨rfl, hB9⟩
      have B9 := hid ((B08.out.alloc B08.out.size _).trans hB9)
      have hs9 := B9.out.size
      clear hB9 hAp hal
      go_wp2_with fail
      refine (awake_any w9).mono ?_
      rintro e w10 ⟨rfl, hB10⟩
      have B10 := hid (B9.out.trans (hB10.mono hs9))
      clear hB10
      go_wp2
      go_ret
      exact ⟨rfl, B10.out⟩
    · have hl1 : (k : Int) < (n : Int) := by omega
      have q0 : wr.cell? ⟨g, k * 2, none⟩ = some (.int .u8 (X k : Int)) := own_cell2 hoy (by rw [hyx _ (Nat.le_refl _), XE.out, List.getElem?_append_left (by rw [ptl_length]; omega), ptl_fst X Y (by omega)])
      have q1 : wr.cell? ⟨g, k * 2 + 1, none⟩ = some (.int .u8 (Y k : Int)) := own_cell2 hoy (by rw [hyx _ (by omega), XE.out, List.getElem?_append_left (by rw [ptl_length]; omega), ptl_snd X Y (by omega)])
      obtain ⟨p', c', ee, -, -, -, -, h6⟩ := HP.out.below BR.out
      simp only [Value.slice.injEq, true_and] at ee
      obtain ⟨rfl, rfl⟩ := ee
      obtain ⟨b, off, rfl, hcl⟩ := h6 (by omega)
      have r0 := (hcl k (by omega)).1
      have r1 : wr.cell? ⟨b, off + k * 2 + 1, none⟩ = some (.int .u8 (Y k : Int)) := by rw [Nat.add_assoc]; exact (hcl k (by omega)).2
      have OY := hid hoy
      have HYX := hid hyx
      clear hcl h6 hoy hyx HY2
      go_wp2_with fail
      go_quiet (fail)
      obtain ⟨wd, hwd⟩ : ∃ wd, Hid (wr.drewN nq = wd) := ⟨_, rfl⟩
      rw [hwd.out]
      have OYd : Hid (wd.ownsRow w.heap.size 54 2 (.slice (some ⟨g, 0, none⟩) (n + 2) cap) (n + 2) ys) := by rw [← hwd.out]; exact OY.out
      have GD : Hid (w4.grownBy wd (some g)) := by rw [← hwd.out]; exact ⟨HG.out.os, HG.out.tape, HG.out.output, HG.out.size, HG.out.block⟩
      have d0 : wd.cell? ⟨g, k * 2, none⟩ = some (.int .u8 (X k : Int)) := by rw [← hwd.out]; exact q0
      have d1 : wd.cell? ⟨g, k * 2 + 1, none⟩ = some (.int .u8 (Y k : Int)) := by rw [← hwd.out]; exact q1
      have f0 := OYd.out.frozenAt (k * 2)
      have f1 := OYd.out.frozenAt (k * 2 + 1)
      clear q0 q1 r0 r1 OY HG hwd
      have ST : Hid (((wd.setCell ⟨g, k * 2, none⟩ (.int .u8 1)).setCell ⟨g, k * 2 + 1, none⟩ (.int .u8 1)).ownsRow w.heap.size 54 2 (.slice (some ⟨g, 0, none⟩) (n + 2) cap) (n + 2) ((ys.set (k * 2) (.int .u8 1)).set (k * 2 + 1) (.int .u8 1)) ∧ w4.grownBy ((wd.setCell ⟨g, k * 2, none⟩ (.int .u8 1)).setCell ⟨g, k * 2 + 1, none⟩ (.int .u8 1)) (some g)) := by
        have s1 := OYd.out.stored (k * 2) (.int .u8 1)
        have s2 := s1.1.stored (k * 2 + 1) (.int .u8 1)
        exact ⟨s2.1, (GD.out.trans s1.2).trans s2.2⟩
      go_wp2
      exact ⟨⟨k + 1, by omega, by go_num, ⟨_, ST.out.1, fun j hj => by rw [List.getElem?_set_ne (by omega), List.getElem?_set_ne (by omega)]; exact HYX.out j (by omega)⟩, ST.out.2⟩, by simp [intOf]; omega⟩
end Go.Proofs.Ytmglpcenipnmbaa
