/- Of the road to tagCallsUptoCard_holds: ApartG, TcLaw, OpensTc. -/
import Derived.Test.YtcpchhigiohlnaaDoorG09
import Derived.Test.YtcpchhigiohlnaaDoorG00
import Derived.Deep.RegionHeld3
import Derived.Test.YtcpchhigiohlnaaDoorG15
import Derived.Test.YtcpchhigiohlnaaDoorG10
import Derived.Deep.Slices
import Derived.ChangeArms
set_option linter.unusedVariables false
set_option linter.unusedSimpArgs false
set_option maxRecDepth 100000
set_option maxHeartbeats 16000000
namespace Go.Proofs.YtcpchhigiohlnaaDoor
open Go.RowKit
def InU (us : List Value) (b : Nat) : Prop := ∃ j, j < us.length /\ (us.getD j undef).ownBlock = some b
structure BG (us : List Value) (B : Nat) (w w' : World) : Prop where
 bel : Below B w w'
 loc : ∀ b, b < w.heap.size -> ¬ InU us b -> w'.heap[b]? = w.heap[b]?
theorem BG.refl (us : List Value) (B : Nat) (w : World) : BG us B w w := ⟨Below.refl _ _, fun _ _ _ => rfl⟩
theorem BG.size {us : List Value} {B : Nat} {w w' : World} (h : BG us B w w') : w.heap.size <= w'.heap.size := h.bel.size
theorem BG.drew {us : List Value} {B : Nat} {w w' : World} (h : BG us B w w') : BG us B w w'.drew := ⟨h.bel.drew, h.loc⟩
theorem BG.alloc {us : List Value} {B : Nat} {w w' : World} (h : BG us B w w') (hB : B <= w'.heap.size) (o : Obj) : BG us B w (w'.alloc o) :=
 ⟨h.bel.alloc hB o, fun b q n => (heap_alloc_old w' o (Nat.lt_of_lt_of_le q h.size)).trans (h.loc b q n)⟩
theorem BG.setCell {us : List Value} {B : Nat} {w w' : World} (h : BG us B w w') {g i : Nat} (hp : B <= g) (u : Value) (hT : InU us g) : BG us B w (w'.setCell ⟨g, i, none⟩ u) :=
 ⟨h.bel.setCell hp u, fun b q n => by
  have e := h.loc b q n
  rw [<- e]
  have : g ≠ b := fun x => n (x ▸ hT)
  simp [World.setCell, Array.getElem?_modify, this]⟩
theorem BG.grown {us : List Value} {B : Nat} {w w' w2 : World} {row : Option Nat} (h : BG us B w w') (hg : w'.grownBy w2 row) (hB : B <= w'.heap.size) (hr : ∀ k, row = some k -> B <= k) (hT : ∀ k, row = some k -> InU us k \/ w.heap.size <= k) : BG us B w w2 :=
 ⟨h.bel.grown hg hB hr, fun b q n => by
  have e := h.loc b q n
  rw [<- e]
  refine hg.block b (Nat.lt_of_lt_of_le q h.size) (fun x => ?_)
  rcases hT b x.symm with h2 | h2
  ·exact n h2
  ·omega⟩
theorem apart_anyG (B : Nat) (w : World) (v : Value) (us : List Value) (ls : List (List Int)) (hv : HV w v us) (ha : Apt B w us ls) (hB : B <= w.heap.size) (hn : us.length <= 5864062014634) (hls : ∀ k, (ls.getD k []).length <= 140737488351232) :
  Calls Tryd.prog 7 #[v] w fun e w' => e = .returned (.bool true) /\ BG us B w w' := by
 obtain ⟨p, c, e, hlc, hm, hcell⟩ := id hv
 unfold maxLen at hm
 subst e
 have A : Hid (0 < us.length -> ∃ b off, p = some ⟨b, off, none⟩) := fun h0 => by
  obtain ⟨b, off, e, _⟩ := hcell (by intro e; subst e; simp at h0)
  exact ⟨b, off, e⟩
 have HV0 := hid hv
 have HA0 := hid (Ph1.start ha)
 have HLS := hid hls
 clear hcell hv ha hls
 go_enter Tryd.func7, Tryd.ntmps7
 go_wp2
 go_loopw [3] (fun k wr => ∃ K : Nat, K <= us.length /\ k = .int .i64 K /\ Hid (Ph1 B wr us ls K 0) /\ Hid (HV wr (.slice p us.length c) us) /\ Hid (BG us B w wr)) (fun k _ => us.length - (intOf k).toNat)
 case atStart => exact ⟨0, Nat.zero_le _, rfl, HA0, HV0, BG.refl _ _ _⟩
 case round =>
  clear HA0 HV0
  obtain ⟨K, hK, rfl, HP, HVr, HBr⟩ := hrel
  by_cases hlt : K < us.length
  ·obtain ⟨b, off, rfl⟩ := A.out (by omega)
   have hcells : Hid (∀ wz, HV wz (.slice (some ⟨b, off, none⟩) us.length c) us -> wz.cell? ⟨b, off + K, none⟩ = some (us.getD K undef)) := by
    intro wz hz
    obtain ⟨p', c', e', _, _, h4⟩ := hz
    obtain ⟨b', off', e2, _, hc⟩ := h4 (by intro e; subst e; simp at hlt)
    simp only [Value.slice.injEq, true_and] at e'
    rw [<- e'.1] at e2
    simp only [Option.some.injEq, Addr.mk.injEq, and_true] at e2
    obtain ⟨rfl, rfl⟩ := e2
    exact hc K hlt
   obtain ⟨n, HN⟩ : ∃ n, Hid ((ls.getD K []).length = n) := ⟨_, rfl⟩
   have hn2 : n <= 140737488351232 := by rw [<- HN.out]; exact HLS.out K
   obtain ⟨pk, ck, HU⟩ : ∃ pk ck, Hid (us.getD K undef = .slice pk n ck) := by
    obtain ⟨pk, ck, e⟩ := HP.out.slice K hlt
    rw [HN.out] at e
    exact ⟨pk, ck, e⟩
   go_wp2
   go_loopw [4] (fun i wz => ∃ I : Nat, I <= n /\ i = .int .i64 I /\ Hid (Ph1 B wz us ls K I) /\ Hid (HV wz (.slice (some ⟨b, off, none⟩) us.length c) us) /\ Hid (BG us B w wz)) (fun i _ => n - (intOf i).toNat)
   case atStart => exact ⟨0, Nat.zero_le _, rfl, HP, HVr, HBr⟩
   case round =>
    clear HP HVr HBr
    obtain ⟨I, hI, rfl, HP, HVr, HBr⟩ := hrel
    have hc1 := hcells.out wr HVr.out
    rw [HU.out] at hc1
    by_cases hli : I < n
    ·obtain ⟨g, ck', e, hck, hck2, hgB, hBT, hcc⟩ := HP.out.some K hlt (by rw [HN.out]; omega)
     rw [HU.out, HN.out] at e
     simp only [Value.slice.injEq, true_and] at e
     obtain ⟨rfl, rfl⟩ := e
     obtain ⟨⟨z, hz⟩, hfz⟩ := hcc I (by rw [HN.out]; exact hli)
     rw [HN.out] at hck2
     unfold maxLen at hck
     have HBT := hid hBT
     have hgb : b ≠ g := (HVr.out.block (by omega)).ne hBT (by decide)
     have hbg : g ≠ b := Ne.symm hgb
     clear hcc hBT
     go_wp2
     go_region_held3 (fun w' => w'.cell? ⟨b, off + K, none⟩ = some (.slice (some ⟨g, 0, none⟩) n ck)) (go_keep) ((go_at_call 27; refine (mark_eq _ (K + 1) I _ _ (wrap_succ K (by omega)) rfl (by omega) (by omega)).mono ?_; rintro e wz ⟨rfl, hw⟩; have hw' := hw.symm; subst hw'; clear hw))
     have hst := HP.out.step hlt (by rw [HN.out]; exact hli) HU.out
     have HP2 := hid hst.1.drew
     have HV2 := hid (HVr.out.grown hst.2 (fun g' e => by cases e; exact HBT.out)).drew
     have HB2 := hid (HBr.out.setCell (g := g) (i := I) hgB (.int .u8 (mkB (K + 1) I)) ⟨K, hlt, by rw [HU.out]; rfl⟩).drew
     clear hst
     go_wp2
     exact ⟨⟨I + 1, by omega, by go_num, HP2, HV2, HB2⟩, by simp [intOf]; omega⟩
    ·have HP2 := hid (HP.out.next (by rw [HN.out]; omega))
     go_wp2
     exact ⟨⟨K + 1, by omega, by go_num, HP2, HVr, HBr⟩, by simp [intOf]; omega⟩
  ·have hKn : K = us.length := by omega
   have HPl : Hid (Pool B wr us ls 0 0 []) := by
    have := HP.out
    rw [hKn] at this
    exact this.pool
   obtain ⟨N, HN⟩ : ∃ N, Hid (wr.heap.size = N) := ⟨_, rfl⟩
   have HNu : Hid (∀ j b, j < us.length -> (us.getD j undef).ownBlock = some b -> b < N) := fun j b hj hb => by rw [<- HN.out]; exact (HPl.out.2.1.2.1 j b hj hb).1
   have HNv : Hid (∀ b off n c', Value.slice p us.length c = .slice (some ⟨b, off, none⟩) n c' -> 0 < us.length -> b < N) := fun b off n c' e h0 => by
    rw [<- HN.out]
    have h1 := HVr.out
    rw [e] at h1
    obtain ⟨cur, fz, hh⟩ := h1.block h0
    exact (Array.getElem?_eq_some_iff.1 hh).1
   have HNW : Hid (w.heap.size <= N) := by rw [<- HN.out]; exact HBr.out.size
   have HNB : Hid (B <= N) := by rw [<- HN.out]; exact Nat.le_trans hB HBr.out.size
   have HNs : Hid (N <= wr.heap.size) := by rw [HN.out]; exact Nat.le_refl N
   clear HP hKn HN
   go_wp2
   go_loopw [5, 6] (fun gs k wz => ∃ (K : Nat) (gl : List Value), K <= us.length /\ k = .int .i64 K /\ Hid (Pool B wz us ls K K gl) /\ Hid (wz.ownsRow N 30 1 gs K gl) /\ Hid (HV wz (.slice p us.length c) us) /\ Hid (BG us B w wz) /\ Hid (N <= wz.heap.size)) (fun _ k _ => us.length - (intOf k).toNat)
   case atStart => exact ⟨0, [], Nat.zero_le _, rfl, HPl, World.ownsRow_nil _ _ _ _, HVr, HBr, HNs⟩
   case round =>
    clear HPl HVr HBr HNs hlt hK
    obtain ⟨K, gl, hK, rfl, HP, HG, HVr, HBr, HNs⟩ := hrel
    by_cases hlt : K < us.length
    ·obtain ⟨b, off, rfl⟩ := A.out (by omega)
     obtain ⟨n, HNn⟩ : ∃ n, Hid ((ls.getD K []).length = n) := ⟨_, rfl⟩
     have hn2 : n <= 140737488351232 := by rw [<- HNn.out]; exact HLS.out K
     obtain ⟨pk, ck, HU⟩ : ∃ pk ck, Hid (us.getD K undef = .slice pk n ck) := by
      obtain ⟨pk, ck, e⟩ := HP.out.2.1.2.2 K hlt
      rw [HNn.out] at e
      exact ⟨pk, ck, e⟩
     have hc1 := HVr.out.cellAt K hlt
     rw [HU.out] at hc1
     have HC := hid (Cur.start HP.out hlt)
     rw [HU.out] at HC
     go_wp2
     go_loopw [7, 8] (fun g i wz => ∃ m : Nat, m <= 70 /\ i = .int .i64 m /\ Hid (Cur B wz us ls K gl g m) /\ Hid (∀ k, g.ownBlock = some k -> InU us k \/ N <= k) /\ Hid (wz.ownsRow N 30 1 u5 K gl) /\ Hid (HV wz (.slice (some ⟨b, off, none⟩) us.length c) us) /\ Hid (BG us B w wz) /\ Hid (N <= wz.heap.size)) (fun _ i _ => 70 - (intOf i).toNat)
     case atStart => exact ⟨0, Nat.zero_le _, rfl, HC, (fun k e => .inl ⟨K, hlt, by rw [HU.out]; exact e⟩), HG, HVr, HBr, HNs⟩
     case round =>
      clear HC HG HVr HBr HNs hc1
      obtain ⟨m, hm70, rfl, HC, HIN, HG, HVr, HBr, HNs⟩ := hrel
      have hc1 := HVr.out.cellAt K hlt
      rw [HU.out] at hc1
      by_cases hlm : m < 70
      ·have hlm2 : (m : Int) < 70 := by omega
       go_wp2_with fail
       refine (mark_eq wr (K + 1) (n + m) _ _ (by omega) (by omega) (by omega) (by omega)).mono ?_
       rintro e wz ⟨rfl, hw⟩
       have hw' := hw.symm
       subst hw'
       clear hw
       have HCa := hid (HC.out.alloc hlt (.cells #[.int .u8 (mkB (K + 1) (n + m))] 5))
       have HO := HCa.out.2.1
       rw [HNn.out] at HO
       have HOh := hid HO
       clear HO
       go_wp2_with (at_builtin; refine wpList_append_byte rfl _ _ rfl B _ (n + m) _ rfl HOh.out ⟨wr.heap.size, 0, none⟩ 1 (mkB (K + 1) (n + m)) rfl (by simp) ?q1 ?q2 ?_)
       case q1 => omega
       case q2 => have := HBr.out.size; simp; omega
       intro g' w2 hown2 hgr2 hd2
       have hBT := own_BT HOh.out
       have hal := World.grownBy_alloc wr (.cells #[.int .u8 (mkB (K + 1) (n + m))] 5) none
       have HC2 := hid (HCa.out.step hlt (by rw [HNn.out]; exact hown2) hgr2 (by rw [World.size_alloc]; exact hd2))
       have HG2 : Hid (w2.ownsRow N 30 1 u5 K gl) := by
        have h1 := HG.out.alloc (.cells #[.int .u8 (mkB (K + 1) (n + m))] 5)
        refine h1.kept hgr2 ?_
        cases hx : u7.ownBlock with
        | none => cases hy : u5.ownBlock <;> simp
        | some q =>
         obtain ⟨cur, fz, hh⟩ := hBT q hx
         exact .inr (own_block_ne h1 hh (by decide))
       have HV2 := hid ((HVr.out.grown hal (fun g e => by cases e)).grown hgr2 hBT)
       have HB2 := hid ((HBr.out.alloc (Nat.le_trans hB HBr.out.size) (.cells #[.int .u8 (mkB (K + 1) (n + m))] 5)).grown hgr2 (by have := HBr.out.size; simp; omega) (fun k e => (HOh.out.lt k e).1) (fun k e => (HIN.out k e).imp id (fun q => Nat.le_trans HNW.out q)))
       have HIN2 : Hid (∀ k, g'.ownBlock = some k -> InU us k \/ N <= k) := fun k e => by
        rcases hd2 with hd | hd
        ·exact HIN.out k (hd ▸ e)
        ·right
         have h2 := HNs.out
         have h3 := hd.1.symm.trans e
         simp only [Option.some.injEq] at h3
         omega
       have HN2 : Hid (N <= w2.heap.size) := by have h1 := hgr2.size; have h2 := HNs.out; simp at h1; exact Nat.le_trans h2 (by omega)
       clear hown2 hgr2 hd2 hBT hal
       go_wp2
       exact ⟨⟨m + 1, by omega, by go_num, HC2, HIN2, HG2, HV2, HB2, HN2⟩, by simp [intOf]; omega⟩
      ·have e70 : m = 70 := by omega
       subst e70
       have HPn := hid (HC.out.finish hlt)
       have HOg := HC.out.2.1
       rw [HNn.out] at HOg
       obtain ⟨pg, cg, eg, _, _⟩ : ∃ pg cg, u7 = .slice pg (n + 70) cg /\ True /\ True := by
        rcases HOg.2 with ⟨_, e⟩ | ⟨g', cap, cur, e, _⟩
        ·omega
        ·exact ⟨_, _, e, trivial, trivial⟩
       subst eg
       obtain ⟨i0, hi, hz0, hz1, hz2⟩ := info_parts info_bytes
       have HGa := hid (HG.out.alloc (.cells #[.slice pg (n + 70) cg] 30))
       have hal := World.grownBy_alloc wr (.cells #[.slice pg (n + 70) cg] 30) none
       have tr : ∀ x : Option Nat, x = none \/ x ≠ none := fun x => by cases x <;> simp
       have HPa := hid (HPn.out.grown hal (fun i _ => tr _) (fun j _ _ => tr _) (by omega))
       have HVa := hid (HVr.out.grown hal (fun g e => by cases e))
       have HBa := hid (HBr.out.alloc (Nat.le_trans hB HBr.out.size) (.cells #[.slice pg (n + 70) cg] 30))
       clear HOg tr hal
       go_wp2_with (at_builtin; refine wpList_append_own _ rfl _ _ 24 rfl N 30 i0 (.slice none 0 0) 1 24 Tryd.underlying24 hi hz0 hz1 hz2 rfl (by decide) _ K gl rfl HGa.out ⟨wr.heap.size, 0, none⟩ 1 1 [_] rfl rfl (cell_one_new _ _ _) ?q1 ?q2 ?q3 ?q4 ?_)
       case q1 => intro u hu; simp only [List.mem_singleton] at hu; subst hu; rfl
       case q2 => unfold maxLen; omega
       case q3 => omega
       case q4 => have := HNs.out; simp; omega
       intro gs' w2 hown2 hgr2 _
       have hlo : ∀ g, u5.ownBlock = some g -> N <= g := fun g e => (HGa.out.lt g e).1
       have HP2 : Hid (Pool B w2 us ls (K + 1) (K + 1) (gl ++ [.slice pg (n + 70) cg])) := by
        refine HPa.out.grown hgr2 (fun i hi => ?_) (fun j hj _ => ?_) (by omega)
        ·cases hx : u5.ownBlock with
         | none => cases hy : ((gl ++ [Value.slice pg (n + 70) cg]).getD i undef).ownBlock <;> simp
         | some q =>
          obtain ⟨cur, fz, hh⟩ := own_BT HGa.out q hx
          exact .inr (own_block_ne (HPa.out.2.2.1 i hi).1 hh (by decide))
        ·cases hx : (us.getD j undef).ownBlock with
         | none => exact .inl rfl
         | some q =>
          right
          intro e
          have h1 := HNu.out j q hj hx
          have h2 := hlo q e.symm
          omega
       have HV2 := hid (HVa.out.apart hgr2 hlo HNv.out)
       have HB2 := hid (HBa.out.grown hgr2 (by have := HBr.out.size; simp; omega) (fun k e => Nat.le_trans HNB.out (hlo k e)) (fun k e => .inr (Nat.le_trans HNW.out (hlo k e))))
       have HG2 : Hid (w2.ownsRow N 30 1 gs' (K + 1) (gl ++ [.slice pg (n + 70) cg])) := hown2
       have HN2 : Hid (N <= w2.heap.size) := by have h1 := hgr2.size; have h2 := HNs.out; simp at h1; exact Nat.le_trans h2 (by omega)
       clear hown2 hgr2 hlo
       go_wp2
       exact ⟨⟨K + 1, _, by omega, by go_num, HP2, HG2, HV2, HB2, HN2⟩, by simp [intOf]; omega⟩
    ·have hKn : K = us.length := by omega
     subst hKn
     obtain ⟨pg, cg, eg⟩ : ∃ pg cg, u5 = .slice pg us.length cg := by
      rcases HG.out.2 with ⟨e, e2⟩ | ⟨g', cap, cur, e, _⟩
      ·exact ⟨none, 0, by rw [e, e2]⟩
      ·exact ⟨_, _, e⟩
     subst eg
     go_wp2
     go_loop [9] (fun k => ∃ Q : Nat, Q <= us.length /\ k = .int .i64 Q) (fun k => us.length - (intOf k).toNat)
     case atStart => exact ⟨0, Nat.zero_le _, rfl⟩
     case round =>
      obtain ⟨Q, hQ, rfl⟩ := hrel
      by_cases hlq : Q < us.length
      ·obtain ⟨b, off, rfl⟩ := A.out (by omega)
       obtain ⟨n, HNn⟩ : ∃ n, Hid ((ls.getD Q []).length = n) := ⟨_, rfl⟩
       have hn2 : n <= 140737488351232 := by rw [<- HNn.out]; exact HLS.out Q
       have hc1 := HVr.out.cellAt Q hlq
       obtain ⟨hrow, hu⟩ := HP.out.2.2.1 Q hlq
       rw [HNn.out] at hrow hu
       obtain ⟨pk, ck, HU⟩ : ∃ pk ck, Hid (us.getD Q undef = .slice pk n ck) := by
        obtain ⟨pk, ck, e⟩ := HP.out.2.1.2.2 Q hlq
        rw [HNn.out] at e
        exact ⟨pk, ck, e⟩
       rw [HU.out] at hc1 hu
       obtain ⟨gg, capg, eg, _, hcg1, hcg2, hgc⟩ := ownsRow_cells HG.out (by omega)
       simp only [Value.slice.injEq, true_and] at eg
       obtain ⟨rfl, rfl⟩ := eg
       have hgl : gl.length = us.length := HP.out.1
       have hc2 := hgc Q (gl.getD Q undef) (by simp [List.getD, List.getElem?_eq_getElem (show Q < gl.length by omega)])
       rw [Nat.zero_add] at hc2
       obtain ⟨gq, capq, eq, _, hq1, hq2, hqc⟩ := ownsRow_cells hrow (by omega)
       rw [eq] at hc2
       have HQ : Hid (∀ I, I < n + 70 -> wr.cell? ⟨gq, I, none⟩ = some (.int .u8 (mkB (Q + 1) I))) := fun I hI => by
        have hjl : I < (marksL (Q + 1) (n + 70)).length := by rw [marksL_length]; exact hI
        have := hqc I (.int .u8 (mkB (Q + 1) I)) (by rw [List.getElem?_map, List.getElem?_eq_getElem hjl, <- getD_of_lt hjl, marksL_getD _ _ _ hI]; rfl)
        rwa [Nat.zero_add] at this
       have HUc : Hid (∀ I, I < n -> ∃ b' off', pk = some ⟨b', off', none⟩ /\ wr.cell? ⟨b', off' + I, none⟩ = some (.int .u8 (mkB (Q + 1) I)) /\ n <= ck) := fun I hI => by
        obtain ⟨b', off', c', e, h1, h2, hh⟩ := hu.ne (by rw [marksL_length]; omega)
        rw [marksL_length] at e hh h1
        simp only [Value.slice.injEq, true_and] at e
        obtain ⟨rfl, rfl⟩ := e
        have := hh I hI
        rw [marksL_getD _ _ _ hI] at this
        exact ⟨b', off', rfl, this, h1⟩
       unfold maxLen at hcg2 hq2
       clear hrow hu hgc hqc eq hgl
       go_wp2
       go_loop [10] (fun i => ∃ I : Nat, I <= n + 70 /\ i = .int .i64 I) (fun i => n + 70 - (intOf i).toNat)
       case atStart => exact ⟨0, Nat.zero_le _, rfl⟩
       case round =>
        obtain ⟨I, hI, rfl⟩ := hrel
        by_cases hli : I < n + 70
        ·have hx1 := HQ.out I hli
         have hli2 : (I : Int) < (n : Int) + 70 := by omega
         go_wp2_with fail
         refine (mark_eq wr (Q + 1) I _ _ (by omega) rfl (by omega) (by omega)).mono ?_
         rintro e wz ⟨rfl, hw⟩
         have hw' := hw.symm
         subst hw'
         clear hw
         obtain ⟨x, HX⟩ : ∃ x, Hid (mkB (Q + 1) I = x) := ⟨_, rfl⟩
         rw [HX.out] at hx1 ⊢
         have hxx : (x != x) = false := by simp
         by_cases hln : I < n
         ·have hdn : decide ((I : Int) < (n : Int)) = true := by simp; omega
          have hln2 : (I : Int) < (n : Int) := by omega
          obtain ⟨b', off', rfl, hx2, _⟩ := HUc.out I hln
          rw [HX.out] at hx2
          go_wp2
          exact ⟨⟨I + 1, by omega, by go_num⟩, by simp [intOf]; omega⟩
         ·have hdn : decide ((I : Int) < (n : Int)) = false := by simp; omega
          go_wp2
          exact ⟨⟨I + 1, by omega, by go_num⟩, by simp [intOf]; omega⟩
        ·have hli2 : ¬ ((I : Int) < (n : Int) + 70) := by omega
         go_wp2
         exact ⟨⟨Q + 1, by omega, by go_num⟩, by simp [intOf]; omega⟩
      ·go_wp2
       go_ret
       exact ⟨rfl, HBr.out⟩
end Go.Proofs.YtcpchhigiohlnaaDoor
namespace Go.Proofs.YtcpchhigiohlnaaDoor
open Go Go.RowKit
theorem BkX.below {B g : Nat} {P : Nat -> Prop} {w w' : World} {v1 v2 v3 v4 : Value} {x1 x2 : List Value} {l1 l2 : List (List Int)} {us ms : List Value} {xss : List (List Value)} {lss mss : List (List (List Int))} (h : BkX B g P w v1 v2 v3 v4 x1 x2 l1 l2 us ms xss lss mss) (hb : Below w.heap.size w w') : BkX B g P w' v1 v2 v3 v4 x1 x2 l1 l2 us ms xss lss mss :=
 h.keep hb.size (fun b q => hb.block b (h.pl b q).2)
theorem Bkt.below {B g n : Nat} {w w' : World} (h : Bkt B g w n) (hb : Below w.heap.size w w') : Bkt B g w' (n + 1) := by
 obtain ⟨v1, v2, v3, v4, x1, x2, l, us, ms, xss, lss, hbx, h1, h2, h3, h4⟩ := h
 exact ⟨_, _, _, _, _, _, _, _, _, _, _, (hbx.below hb).mono (fun b q => ⟨q.1, Nat.lt_of_lt_of_le q.2 hb.size⟩) (fun b q => q), by omega, by omega, h3, h4⟩
theorem Bkt.size {B g n : Nat} {w : World} (h : Bkt B g w n) : B <= w.heap.size := by
 obtain ⟨v1, v2, v3, v4, x1, x2, l, us, ms, xss, lss, hbx, h1, h2, h3, h4⟩ := h
 have := hbx.pl g hbx.pg
 omega
theorem askC (B n : Nat) (hnn : n <= 3000000) (w : World) (g : Nat) (o : Tc) (ho : o.ok) (hk : KC w) (hwB : ∀ W : World, Below B w W -> HTc W o) (hbk : Bkt B g w n) : Calls Tryd.prog 5 #[.pointer (some ⟨g, 0, none⟩), .agg o.cs.toArray] w fun e w' => e = .returned (.bool true) /\ Bkt B g w' (n + 1) /\ Below B w w' := by
 have ht := hwB w (Below.refl _ _)
 have one : ∀ {e : Ending} {w' : World}, (e = .returned (.bool true) /\ Below w.heap.size w w') -> e = .returned (.bool true) /\ Bkt B g w' (n + 1) /\ Below B w w' := fun {e w'} h => ⟨h.1, hbk.below h.2, h.2.mono hbk.size⟩
 have two : ∀ {e : Ending} {w' : World}, (e = .returned (.bool true) /\ Bkt B g w' (n + 1) /\ (∀ b, b < B -> w'.heap[b]? = w.heap[b]?) /\ w.heap.size <= w'.heap.size /\ w'.os = w.os /\ w'.tape = w.tape /\ w'.output = w.output) -> e = .returned (.bool true) /\ Bkt B g w' (n + 1) /\ Below B w w' := fun {e w'} ⟨h1, h2, h3, h4, h5, h6, h7⟩ => ⟨h1, h2, ⟨h5, h6, h7, h4, h3⟩⟩
 by_cases h0 : o.cl = 0
 ·exact (ask_b B n hnn w g o ho ht hk (.inl h0) hwB hbk).mono fun e w' h => two h
 by_cases h1 : o.cl = 1
 ·exact (ask_b B n hnn w g o ho ht hk (.inr h1) hwB hbk).mono fun e w' h => two h
 by_cases h2 : o.cl = 2
 ·exact (ask_read B n hnn w g o ho ht hk h2 hbk).mono fun e w' h => two h
 by_cases h3 : o.cl = 3
 ·exact (ask_key w g o ho ht hk h3).mono fun e w' h => one h
 by_cases h4 : o.cl = 4
 ·exact (ask_word w g o ho ht hk h4).mono fun e w' h => one h
 ·exact (ask_each w g o ho ht hk ⟨h0, h1, h2, h3, h4⟩).mono fun e w' h => one h
def Tc.zz : Tc := ⟨0, 0, undef, [], undef, [], 0, 0, 0, [], [], [], 0⟩
def HTs (w : World) (v : Value) (os : List Tc) : Prop :=
 (∃ (p : Option Addr) (c : Nat), v = .slice p os.length c /\ os.length <= c /\ c <= maxLen /\ (0 < os.length -> ∃ b off, p = some ⟨b, off, none⟩ /\ ∀ i, i < os.length -> ∀ j u, (os.getD i Tc.zz).cs[j]? = some u -> w.cell? ⟨b, off + i * 88 + j, none⟩ = some u)) /\ ∀ i, i < os.length -> (os.getD i Tc.zz).ok /\ HTc w (os.getD i Tc.zz)
theorem wpList_load_midT {P : Program} {ops : Array Oper} {rest : List Oper} {op : Oper} {a : Act} {w : World} {Q : Exit -> Act -> World -> Prop} (hw : Region.wanted op (yielded ops a.tmps) = true) (ty : TypeId) (x : Operand) (ho : op.op = .load ty x)
  (b o : Nat) (hx : a.eval x = .pointer (some ⟨b, o, none⟩)) (cs : List Value) (d : TypeDesc) (hc : w.rangeAt b o cs)
  (hu : P.underlying ty = some d) (hd : d.isRow = true) (hi : (P.info? ty).map (·.size) = some cs.length)
  (h : wpList P ops Q rest (a.put op.dst (.agg cs.toArray)) w) : wpList P ops Q (op :: rest) a w := by
 refine wpList_step fun K hK => ?_
 simp only [hw, if_true]
 exact wp_load_mid ty x ho b o hx cs d hc hu hd hi (hK _ _ h)
theorem zero_book : (Tryd.prog.info? 27).map (·.zero) = some (some (.agg #[.slice none 0 0, .slice none 0 0, .slice none 0 0, .slice none 0 0])) := by kernel_rfl
theorem HV.ofPX {B : Nat} {w : World} {v : Value} {xs : List Value} {ls : List (List Int)} (h : PX B w v xs ls) : HV w v xs := by
 have hx : xs.length = ls.length := h.apt.1
 rcases h.row.2 with ⟨e, h0⟩ | ⟨g, cap, cur, e, _, hh, h3, h4, h5, h6⟩
 ·refine ⟨none, 0, by rw [hx, h0]; exact e, by omega, Nat.zero_le _, fun hne => ?_⟩
  have : xs = [] := List.eq_nil_of_length_eq_zero (by omega)
  exact absurd this hne
 ·refine ⟨Option.some ⟨g, 0, none⟩, cap, by rw [hx]; exact e, by omega, h4, fun _ => ⟨g, 0, rfl, ⟨cur, _, hh⟩, fun k hk => ?_⟩⟩
  rw [Nat.zero_add, cell_of_row _ _ _ _ _ _ hh]
  rw [Nat.mul_one] at h5 h6
  have : xs[k]? = cur[k]? := by rw [<- h6, List.getElem?_take, if_pos (by omega)]; simp
  rw [<- this, List.getElem?_eq_getElem hk]
  simp [List.getD, List.getElem?_eq_getElem hk]
theorem HVL.ofOwn {B : Nat} {w : World} {v : Value} {us : List Value} (h : w.ownsRow B 24 1 v us.length us) : HVL w v us := by
 rcases h.2 with ⟨e, h0⟩ | ⟨g, cap, cur, e, _, hh, h3, h4, h5, h6⟩
 ·refine ⟨none, 0, by rw [h0]; exact e, by omega, Nat.zero_le _, fun hne => ?_⟩
  have : us = [] := List.eq_nil_of_length_eq_zero h0
  exact absurd this hne
 ·refine ⟨Option.some ⟨g, 0, none⟩, cap, e, h3, h4, fun _ => ⟨g, 0, rfl, ⟨cur, hh⟩, fun k hk => ?_⟩⟩
  rw [Nat.zero_add, cell_of_row _ _ _ _ _ _ hh]
  rw [Nat.mul_one] at h5 h6
  have : us[k]? = cur[k]? := by rw [<- h6, List.getElem?_take, if_pos (by omega)]; simp
  rw [<- this, List.getElem?_eq_getElem hk]
  simp [List.getD, List.getElem?_eq_getElem hk]
theorem flat_all {lss : List (List (List Int))} {M : Nat} (h : ∀ ls ∈ lss, ∀ q ∈ ls, q.length <= M) (k : Nat) : (lss.flatten.getD k []).length <= M := by
 by_cases hk : k < lss.flatten.length
 ·have e : lss.flatten.getD k [] = lss.flatten[k] := by simp [List.getD, List.getElem?_eq_getElem hk]
  rw [e]
  obtain ⟨ls, h1, h2⟩ := List.mem_flatten.1 (List.getElem_mem hk)
  exact h ls h1 _ h2
 ·simp [List.getD, List.getElem?_eq_none (by omega : lss.flatten.length <= k)]
theorem flat_few : ∀ {xss : List (List Value)}, (∀ k, k < xss.length -> (xss.getD k []).length <= 3) -> xss.flatten.length <= 3 * xss.length
 | [], _ => by simp
 | x :: xss, h => by
  have h0 := h 0 (by simp)
  have ih := flat_few (xss := xss) (fun k hk => by have := h (k + 1) (by simp; omega); simpa using this)
  simp only [List.flatten_cons, List.length_append, List.length_cons]
  simp at h0
  omega
theorem tagCalls_walk (w : World) (v : Value) (os : List Tc) (h : HTs w v os) (hn : os.length <= 300000) (hk : KC w) :
  Calls Tryd.prog 3 #[v] w fun e w' => e = .returned (.bool true) /\ Below w.heap.size w w' := by
 have C0 := hid (tlives_any w hk)
 obtain ⟨⟨p, c, rfl, hlc, hcm, hcell⟩, hels⟩ := h
 unfold maxLen at hcm
 have HC := hid hcell
 have HE := hid hels
 obtain ⟨n, HN⟩ : ∃ n, Hid (os.length = n) := ⟨_, rfl⟩
 rw [HN.out] at hlc hn ⊢
 have HK := hid hk
 have NNL := hid hn
 have ZB := hid zero_book
 clear hcell hels hk
 go_enter Tryd.func3, Tryd.ntmps3
 go_wp2_with fail
 refine C0.out.mono ?_
 rintro e w1 ⟨rfl, hb1⟩
 have B1 := hid hb1
 obtain ⟨w2, HW2⟩ : ∃ x, Hid (w1.alloc (.cells #[.slice none 0 0, .slice none 0 0, .slice none 0 0, .slice none 0 0] 27) = x) := ⟨_, rfl⟩
 have G2 : Hid (w2.heap[w1.heap.size]? = some (.cells #[.slice none 0 0, .slice none 0 0, .slice none 0 0, .slice none 0 0] 27 (0, 0))) := by rw [<- HW2.out]; exact heap_alloc_new w1 _
 have B2 : Hid (Below w.heap.size w w2) := by rw [<- HW2.out]; exact hid (hb1.alloc hb1.size _)
 have BK2 : Hid (Bkt w.heap.size w1.heap.size w2 0) := hid ⟨_, _, _, _, _, _, _, _, _, _, _, (BkX.nil G2.out hb1.size).mono (fun b q => by
  have e : b = w1.heap.size := q
  subst e
  exact ⟨hb1.size, (Array.getElem?_eq_some_iff.1 G2.out).1⟩) (fun b q => q), Nat.le_refl _, Nat.le_refl _, fun q hq => (by cases hq), fun q hq => (by cases hq)⟩
 clear hb1 C0
 go_wp2_with (first | (refine wpList_alloc_aggT ZB.out rfl rfl ?_; rw [HW2.out]) | rw [HW2.out] | fail)
 go_loopw [4] (fun i wr => ∃ k : Nat, k <= n /\ i = .int .i64 (k : Int) /\ Hid (Bkt w.heap.size w1.heap.size wr (2 * k)) /\ Hid (Below w.heap.size w wr)) (fun i _ => n - (intOf i).toNat)
 case atStart => exact ⟨0, Nat.zero_le _, rfl, BK2, B2⟩
 case round =>
  clear BK2 B2 G2
  obtain ⟨k, hk, rfl, BK, BR⟩ := hrel
  by_cases hlt : k < n
  ·obtain ⟨b, off, ep, hcs⟩ := HC.out (by rw [HN.out]; omega)
   subst ep
   have hok := HE.out k (by rw [HN.out]; exact hlt)
   obtain ⟨o, HO⟩ : ∃ x, Hid (os.getD k Tc.zz = x) := ⟨_, rfl⟩
   have hcs2 := hcs k (by rw [HN.out]; exact hlt)
   rw [HO.out] at hok hcs2
   have OK := hid hok.1
   have HT := hid hok.2
   have CS := hid hcs2
   have RG : Hid (∀ W : World, Below w.heap.size w W -> W.rangeAt b (off + k * 88) o.cs) := hid fun W hW j u hu => by
    have q := CS.out j u hu
    exact (hW.cell (p := ⟨b, off + k * 88 + j, none⟩) (World.block_lt_of_cell? w _ q)).trans q
   have SZ : Hid ((Tryd.prog.info? 37).map (·.size) = some o.cs.length) := by rw [Tc.len hok.1]; exact hid size_op
   have CA := hid fun (W : World) (m : Nat) (hm : m <= 3000000) (hW : Below w.heap.size w W) (hb : Bkt w.heap.size w1.heap.size W m) => askC w.heap.size m hm W w1.heap.size o OK.out (HK.out.below hW) (fun W' hW' => HT.out.below (hW.trans hW')) hb
   obtain ⟨A, HA⟩ : ∃ A, Hid (o.cs.toArray = A) := ⟨_, rfl⟩
   rw [HA.out] at CA
   have hlt2 := hlt
   clear hcs hcs2 hok
   go_wp2_with (first | (refine wpList_load_mid rfl 37 _ rfl b (off + k * 88) rfl _ _ (RG.out _ BR.out) Tryd.underlying37 rfl SZ.out ?_; rw [HA.out]) | fail)
   refine (CA.out _ (2 * k) (by have := NNL.out; omega) BR.out BK.out).mono ?_
   rintro e w5 ⟨rfl, hbk5, hb5⟩
   have BK5 := hid hbk5
   have B5 := hid (BR.out.trans hb5)
   clear hbk5 hb5
   go_wp2_with (first | (refine wpList_load_midT (by rfl) 37 _ rfl b (off + k * 88) rfl _ _ (RG.out _ B5.out) Tryd.underlying37 rfl SZ.out ?_; rw [HA.out]) | fail)
   refine (CA.out _ (2 * k + 1) (by have := NNL.out; omega) B5.out BK5.out).mono ?_
   rintro e w6 ⟨rfl, hbk6, hb6⟩
   have BK6 : Hid (Bkt w.heap.size w1.heap.size w6 (2 * (k + 1))) := hid (by rw [show 2 * (k + 1) = 2 * k + 1 + 1 by omega]; exact hbk6)
   have B6 := hid (B5.out.trans hb6)
   clear hbk6 hb6
   go_wp2
   exact ⟨⟨k + 1, by omega, by go_num, BK6, B6⟩, by simp [intOf]; omega⟩
  ·have hk' : k = n := by omega
   subst hk'
   obtain ⟨v1, v2, v3, v4, x1, x2, l, us, ms, xss, lss, hbx, hl1, hl2, hl3, hl4⟩ := BK.out
   have BX := hid hbx
   have HL1 := hid hl1
   have HL2 := hid hl2
   have HL3 := hid hl3
   have HL4 := hid hl4
   clear hbx hl1 hl2 hl3 hl4 BK HC HE hlt
   obtain ⟨wo, hwo⟩ : ∃ x, x = wr := ⟨_, rfl⟩
   subst hwo
   obtain ⟨a1, j1, e1⟩ := own_slice BX.out.p1.row
   obtain ⟨a2, j2, e2⟩ := own_slice BX.out.p2.row
   obtain ⟨a3, j3, e3⟩ := own_slice BX.out.r3
   obtain ⟨a4, j4, e4⟩ := own_slice BX.out.r4
   obtain ⟨nl, HNL⟩ : ∃ x, Hid (l.length = x) := ⟨_, rfl⟩
   obtain ⟨nu, HNU⟩ : ∃ x, Hid (us.length = x) := ⟨_, rfl⟩
   obtain ⟨nm, HNM⟩ : ∃ x, Hid (ms.length = x) := ⟨_, rfl⟩
   rw [HNL.out] at e1 e2
   rw [HNU.out] at e3
   rw [HNM.out] at e4
   subst e1 e2 e3 e4
   have NUM : Hid (nu = nm /\ nu = xss.length /\ nu = lss.length) := hid (by have h1 := BX.out.c1; have h2 := BX.out.c2; have h3 := BX.out.c3; have := HNU.out; have := HNM.out; omega)
   have CB : Hid (∀ W : World, Below wo.heap.size wo W -> W.cell? ⟨w1.heap.size, 0, none⟩ = some (.slice a1 nl j1) /\ W.cell? ⟨w1.heap.size, 1, none⟩ = some (.slice a2 nl j2) /\ W.cell? ⟨w1.heap.size, 2, none⟩ = some (.slice a3 nu j3) /\ W.cell? ⟨w1.heap.size, 3, none⟩ = some (.slice a4 nm j4)) := hid fun W hW => by
    have q := (BX.out.below hW).cell
    rw [cell_of_row W _ _ _ _ _ q, cell_of_row W _ _ _ _ _ q, cell_of_row W _ _ _ _ _ q, cell_of_row W _ _ _ _ _ q]
    exact ⟨rfl, rfl, rfl, rfl⟩
   obtain ⟨c0, c1, c2, c3⟩ := CB.out wo (Below.refl _ _)
   have CSL := sameLists_any wo _ _ l l BX.out.p1.hl BX.out.p2.hl
   rw [decide_eq_true rfl] at CSL
   have CSL := hid CSL
   go_wp2_with fail
   refine CSL.out.mono ?_
   rintro e w5 ⟨rfl, q, rfl⟩
   have D5 := hid ((Dr.one wo q).below wo.heap.size)
   clear c0 c1 c2 c3 CSL
   go_wp2
   go_loopw [5] (fun i wz => ∃ q : Nat, q <= nu /\ i = .int .i64 (q : Int) /\ Hid (Below wo.heap.size wo wz)) (fun i _ => nu - (intOf i).toNat)
   case atStart => exact ⟨0, Nat.zero_le _, rfl, D5⟩
   case round =>
    clear D5
    obtain ⟨q, hq, rfl, BZ⟩ := hrel
    have BXz := hid (BX.out.below BZ.out)
    have Bz : Hid (Below w.heap.size w wr) := hid (BR.out.trans (BZ.out.mono BR.out.size))
    obtain ⟨c0, c1, c2, c3⟩ := CB.out wr BZ.out
    by_cases hlq : q < nu
    ·have hqx : q < xss.length := by have := NUM.out; omega
     have hqm : q < lss.length := by have := NUM.out; omega
     have EL := hid (BXz.out.el q hqx)
     obtain ⟨pu, ju, eu⟩ := own_slice EL.out.row
     obtain ⟨S, hS1, hS2⟩ := BXz.out.me q hqm
     have HM : Hid (∀ W : World, Below wr.heap.size wr W -> HL W (ms.getD q undef) (lss.getD q [])) := hid fun W hW => hS2 W (fun i hi => hW.block i (BXz.out.pl i (hS1 i hi).1).2)
     obtain ⟨pm, jm, em, _, _⟩ := (HM.out wr (Below.refl _ _)).open
     obtain ⟨ll, HLL⟩ : ∃ x, Hid (lss.getD q [] = x) := ⟨_, rfl⟩
     obtain ⟨nn, HNN2⟩ : ∃ x, Hid (ll.length = x) := ⟨_, rfl⟩
     rw [HLL.out] at eu em EL HM
     rw [HNN2.out] at eu em
     have CU : Hid (∀ W : World, Below wr.heap.size wr W -> ∃ b3, a3 = some ⟨b3, 0, none⟩ /\ W.cell? ⟨b3, q, none⟩ = some (.slice pu nn ju)) := hid fun W hW => by
      have hv := HVL.ofOwn (BXz.out.below hW).r3
      rcases (BXz.out.below hW).r3.2 with ⟨e, h0⟩ | ⟨g3, cap, cur, e, _, hh, h3, h4, h5, h6⟩
      ·rw [HNU.out] at h0; omega
      ·simp only [Value.slice.injEq] at e
       obtain ⟨e1, e2, e3⟩ := e
       refine ⟨g3, e1, ?_⟩
       subst e1
       have := hv.at rfl (k := q) (by rw [HNU.out]; exact hlq)
       rw [Nat.zero_add, eu] at this
       exact this
     have CM : Hid (∀ W : World, Below wr.heap.size wr W -> ∃ b4, a4 = some ⟨b4, 0, none⟩ /\ W.cell? ⟨b4, q, none⟩ = some (.slice pm nn jm)) := hid fun W hW => by
      have hv := HVL.ofOwn (BXz.out.below hW).r4
      rcases (BXz.out.below hW).r4.2 with ⟨e, h0⟩ | ⟨g3, cap, cur, e, _, hh, h3, h4, h5, h6⟩
      ·have := NUM.out; rw [HNM.out] at h0; omega
      ·simp only [Value.slice.injEq] at e
       obtain ⟨e1, e2, e3⟩ := e
       refine ⟨g3, e1, ?_⟩
       subst e1
       have := hv.at rfl (k := q) (by have := NUM.out; rw [HNM.out]; omega)
       rw [Nat.zero_add, em] at this
       exact this
     obtain ⟨b3, e3, cu0⟩ := CU.out wr (Below.refl _ _)
     obtain ⟨b4, e4, cm0⟩ := CM.out wr (Below.refl _ _)
     subst e3 e4
     have ZC : Hid (∀ W : World, Below wr.heap.size wr W -> W.cell? ⟨w1.heap.size, 2, none⟩ = some (.slice (some ⟨b3, 0, none⟩) nu j3) /\ W.cell? ⟨w1.heap.size, 3, none⟩ = some (.slice (some ⟨b4, 0, none⟩) nm j4) /\ W.cell? ⟨b3, q, none⟩ = some (.slice pu nn ju) /\ W.cell? ⟨b4, q, none⟩ = some (.slice pm nn jm)) := hid fun W hW => by
      obtain ⟨_, _, q2, q3⟩ := CB.out W (below_th BZ.out hW)
      obtain ⟨b3', e3, q4⟩ := CU.out W hW
      obtain ⟨b4', e4, q5⟩ := CM.out W hW
      simp only [Option.some.injEq, Addr.mk.injEq, and_true] at e3 e4
      subst e3 e4
      exact ⟨q2, q3, q4, q5⟩
     rw [eu] at EL
     rw [em] at HM
     have CT : Hid (∀ W : World, Below wr.heap.size wr W -> Calls Tryd.prog 6 #[.slice pu nn ju, .slice pm nn jm] W fun e w' => e = .returned (.bool true) /\ Dr W w') := hid fun W hW => by
      have := sameLists_any W _ _ ll ll (EL.out.below hW).hl (HM.out W hW)
      rwa [decide_eq_true rfl] at this
     have hqn : (q : Int) < (nu : Int) := by omega
     have hqm2 : (q : Int) < (nm : Int) := by have := NUM.out; omega
     have hqm3 : q < nm := by have := NUM.out; omega
     clear cu0 cm0 CU CM hS1 hS2 eu em
     go_wp2_with fail
     as_aux_lemma =>
      refine wp_region_held_drew (S := fun W' => Below wr.heap.size wr W') (by kernel_rfl) ((Below.refl _ wr).drew) (fun hHeld => ?_)
      have HS := hid hHeld
      clear hHeld
      change wpAnyH _ _ _ _ _ _ _ _ (World.drew _)
      refine wpAnyH_take (i := 0) (v := ?_) rfl (by kernel_rfl) (by kernel_rfl) (by kernel_rfl) (fun _ _ _ h => h) (Or.inl ⟨by rfl, ?q0_r14⟩) HS.out ?_
      case q0_r14 => intro w hSw; obtain ⟨z0, z1, z2, z3⟩ := ZC.out _ hSw; go_simp; rfl
      simp only [Act.put, lay6]
      refine wpAnyH_take (i := 1) (v := ?_) rfl (by kernel_rfl) (by kernel_rfl) (by kernel_rfl) (fun _ _ _ h => h) (Or.inl ⟨by rfl, ?q1_r14⟩) HS.out ?_
      case q1_r14 => intro w hSw; obtain ⟨z0, z1, z2, z3⟩ := ZC.out _ hSw; go_simp; rfl
      simp only [Act.put, lay6]
      refine wpAnyH_take (i := 2) (v := ?_) rfl (by kernel_rfl) (by kernel_rfl) (by kernel_rfl) (fun _ _ _ h => h) (Or.inl ⟨by rfl, ?q2_r14⟩) HS.out ?_
      case q2_r14 => intro w hSw; obtain ⟨z0, z1, z2, z3⟩ := ZC.out _ hSw; go_simp; rfl
      simp only [Act.put, lay6]
      refine wpAnyH_take (i := 3) (v := ?_) rfl (by kernel_rfl) (by kernel_rfl) (by kernel_rfl) (fun _ _ _ h => h) (Or.inl ⟨by rfl, ?q3_r14⟩) HS.out ?_
      case q3_r14 => intro w hSw; obtain ⟨z0, z1, z2, z3⟩ := ZC.out _ hSw; go_simp; rfl
      simp only [Act.put, lay6]
      refine wpAnyH_take (i := 4) (v := ?_) rfl (by kernel_rfl) (by kernel_rfl) (by kernel_rfl) (fun _ _ _ h => h) (Or.inl ⟨by rfl, ?q4_r14⟩) HS.out ?_
      case q4_r14 => intro w hSw; obtain ⟨z0, z1, z2, z3⟩ := ZC.out _ hSw; go_simp; rfl
      simp only [Act.put, lay6]
      refine wpAnyH_take (i := 5) (v := ?_) rfl (by kernel_rfl) (by kernel_rfl) (by kernel_rfl) (fun _ _ _ h => h) (Or.inl ⟨by rfl, ?q5_r14⟩) HS.out ?_
      case q5_r14 => intro w hSw; obtain ⟨z0, z1, z2, z3⟩ := ZC.out _ hSw; go_simp; rfl
      simp only [Act.put, lay6]
      refine wpAnyH_take (i := 6) (v := ?_) rfl (by kernel_rfl) (by kernel_rfl) (by kernel_rfl) (fun _ _ _ h => h) (Or.inl ⟨by rfl, ?q6_r14⟩) HS.out ?_
      case q6_r14 => intro w hSw; obtain ⟨z0, z1, z2, z3⟩ := ZC.out _ hSw; go_simp; rfl
      simp only [Act.put, lay6]
      refine wpAnyH_take (i := 7) (v := ?_) rfl (by kernel_rfl) (by kernel_rfl) (by kernel_rfl) (fun _ _ _ h => h) (Or.inl ⟨by rfl, ?q7_r14⟩) HS.out ?_
      case q7_r14 => intro w hSw; obtain ⟨z0, z1, z2, z3⟩ := ZC.out _ hSw; go_simp; rfl
      simp only [Act.put, lay6]
      refine wpAnyH_take (i := 8) (v := ?_) rfl (by kernel_rfl) (by kernel_rfl) (by kernel_rfl) (fun _ _ _ h => h) (Or.inl ⟨by rfl, ?q8_r14⟩) HS.out ?_
      case q8_r14 => intro w hSw; obtain ⟨z0, z1, z2, z3⟩ := ZC.out _ hSw; go_simp; rfl
      simp only [Act.put, lay6]
      refine wpAnyH_take (i := 9) (v := ?_) rfl (by kernel_rfl) (by kernel_rfl) (by kernel_rfl) (fun _ _ _ h => h) (Or.inl ⟨by rfl, ?q9_r14⟩) HS.out ?_
      case q9_r14 => intro w hSw; obtain ⟨z0, z1, z2, z3⟩ := ZC.out _ hSw; go_simp; rfl
      simp only [Act.put, lay6]
      refine wpAnyH_ready (rs := [10]) (by kernel_rfl) (by simp) ?_
      refine AllReadyH.cons rfl (fun K hK => ?_) AllReadyH.nil
      replace hK := hid hK
      go_simp
      refine (CT.out _ HS.out).mono ?_
      rintro e w6 ⟨rfl, r, rfl⟩
      have S8 := hid (HS.out.trans ((Dr.one _ r).below wr.heap.size))
      refine hK.out _ _ S8.out (fun _ => ?_)
      clear hK K
      try simp only [Act.put, lay6]
      replace HS := S8
      refine wpAnyH_take (i := 11) (v := ?_) rfl (by kernel_rfl) (by kernel_rfl) (by kernel_rfl) (fun _ _ _ h => h) (Or.inl ⟨by rfl, ?q11_r14⟩) HS.out ?_
      case q11_r14 => intro w hSw; obtain ⟨z0, z1, z2, z3⟩ := ZC.out _ hSw; go_simp; rfl
      simp only [Act.put, lay6]
      refine wpAnyH_done (by kernel_rfl) ?_ _
      clear HS S8 ZC CT
      have BN : Hid (Below wo.heap.size wo (wr.drewN (1 + r))) := hid (BZ.out.trans (((Dr.one wr (1 + r)).below wr.heap.size).mono BZ.out.size))
      have hnu7 : nu <= 700000 := by have := NUM.out; have := HL2.out; have := NNL.out; omega
      go_wp2
      exact ⟨⟨q + 1, by omega, by go_num, BN⟩, by simp [intOf]; omega⟩
    ·have hq' : q = nu := by omega
     subst hq'
     have CA := apart_anyG w.heap.size wr _ x1 l (HV.ofPX BXz.out.p1) BXz.out.p1.apt Bz.out.size (by have := BXz.out.p1.apt.1; have := HL1.out; have := NNL.out; omega) (fun j => by
      by_cases hj : j < l.length
      ·have := HL3.out (l.getD j []) (by
        have : l.getD j [] = l[j] := by simp [List.getD, hj]
        rw [this]; exact List.getElem_mem _)
       omega
      ·simp [List.getD, List.getElem?_eq_none (by omega : l.length <= j)])
     have CA := hid CA
     clear hlq
     go_wp2_with fail
     as_aux_lemma =>
      refine CA.out.mono ?_
      rintro e w7 ⟨rfl, hg7⟩
      have LOC : Hid (∀ b, b < wr.heap.size -> (∃ cs T, wr.heap[b]? = some (.cells cs T (0, 0)) /\ T ≠ 5) -> w7.heap[b]? = wr.heap[b]?) := hid fun b hb ⟨cs, T, h1, h2⟩ => hg7.loc b hb (fun ⟨j, hj, e⟩ => by
       obtain ⟨_, _, cs', h3⟩ := own_atL (BXz.out.p1.apt.2.1 j hj) e
       rw [h1] at h3
       simp only [Option.some.injEq, Obj.cells.injEq] at h3
       exact h2 h3.2.1)
      have kpr : ∀ {B' n' : Nat} {e : TypeId} {u : Value} {zs : List Value}, wr.ownsRow B' e 1 u n' zs -> e ≠ 5 -> w7.ownsRow B' e 1 u n' zs := fun {B' n' e u zs} o hne => own_ofL o (fun b q => by
       obtain ⟨h1, _, cs, h3⟩ := own_atL o q
       exact LOC.out b h1 ⟨_, _, h3, hne⟩)
      have R3 := kpr BXz.out.r3 (by decide)
      have AP7 : Apt w.heap.size w7 xss.flatten lss.flatten := apt_ofT BXz.out.ap (fun j hj b e => hg7.loc b (own_atL (BXz.out.ap.2.1 j hj) e).1 (fun ⟨i, hi, e2⟩ => BXz.out.cr i hi j hj b e2 e))
      have FEW : ∀ k, k < xss.length -> (xss.getD k []).length <= 3 := fun k hk => by
       have h1 := (BXz.out.el k hk).apt.1
       have h2 := HL4.out (lss.getD k []) (by
        have hk2 : k < lss.length := by have := NUM.out; omega
        have : lss.getD k [] = lss[k] := by simp [List.getD, hk2]
        rw [this]; exact List.getElem_mem _)
       omega
      have CL := apartLists_any w.heap.size w7 _ us xss lss.flatten (HVL.ofOwn R3) BXz.out.c1 (fun k hk => by
       have hkx : k < xss.length := by rw [<- BXz.out.c1]; exact hk
       have h1 := kpr (BXz.out.el k hkx).row (by decide)
       rwa [<- (BXz.out.el k hkx).apt.1] at h1) BXz.out.dis AP7 (Nat.le_trans Bz.out.size hg7.bel.size) (by have := NUM.out; have := HNU.out; have := HL2.out; have := NNL.out; omega) (fun k => by
       by_cases hk : k < xss.length
       ·have := FEW k hk; omega
       ·simp [List.getD, List.getElem?_eq_none (by omega : xss.length <= k)]) (by have := flat_few FEW; have := NUM.out; have := HL2.out; have := NNL.out; omega) (fun k => by have := flat_all (M := 2000000) (fun ls h1 q h2 => (HL4.out ls h1).2 q h2) k; omega)
      have CL := hid CL
      have G7 : w7.heap[w1.heap.size]? = wr.heap[w1.heap.size]? := LOC.out _ (Array.getElem?_eq_some_iff.1 BXz.out.cell).1 ⟨_, _, BXz.out.cell, by decide⟩
      have k2 : w7.cell? ⟨w1.heap.size, 2, none⟩ = some (.slice a3 q j3) := by
       rw [cell_of_row w7 _ _ _ _ _ (G7.trans BXz.out.cell)]
       rfl
      have B7 := hid (Bz.out.trans hg7.bel)
      clear c0 c1 c2 c3 kpr R3 AP7 FEW G7 hg7 CA
      go_wp2_with fail
      refine CL.out.mono ?_
      rintro e w8 ⟨rfl, hb8⟩
      have B8 := hid (B7.out.trans hb8)
      clear hb8 CL k2
      go_wp2
      go_ret
      exact ⟨rfl, B8.out⟩
end Go.Proofs.YtcpchhigiohlnaaDoor
namespace Go.Proofs.YtcpchhigiohlnaaDoor
open Go.ChangeShapes Go.WideShapes Go.ChangeAt Go.RowKit
variable {H : Type} {enc : TypeId × Value -> H} {W : World}
theorem bulk_memK {H : Type} {d : DataW H} : ∀ {l : List (DataW H)}, d ∈ l -> Rows.uptoBulk d <= Rows.uptoBulkAll l
 | [], h => by cases h
 | x :: r, h => by
  rcases List.mem_cons.1 h with rfl | h
  ·simp only [Rows.uptoBulkAll]; omega
  ·have := bulk_memK h
   simp only [Rows.uptoBulkAll]; omega
theorem bulk_posK {H : Type} (d : DataW H) : 1 <= Rows.uptoBulk d := by
 cases d with
 | lit l => cases l <;> simp [Rows.uptoBulk]
 | _ => simp [Rows.uptoBulk]
theorem bulk_lenK {H : Type} {n : Nat} : ∀ (l : List (DataW H)), (∀ d ∈ l, n <= Rows.uptoBulk d) -> l.length * n <= Rows.uptoBulkAll l
 | [], _ => by simp
 | x :: r, h => by
  have h1 := h x (by simp)
  have h2 := bulk_lenK r (fun d hd => h d (by simp [hd]))
  simp only [Rows.uptoBulkAll, List.length_cons]
  rw [Nat.add_mul]
  omega
theorem open_bytK {base fuel : Nat} {cs : List Value} {x : DataW H × List MemPlace} (h : DataW.trod enc Tryd.prog W base (fun _ => true) true fuel 30 cs = some x) : ∃ v l, cs = [v] /\ HB W v l /\ l.length <= Rows.uptoBulk x.1 := by
 obtain ⟨d, p⟩ := x
 obtain ⟨q, c', l, hcs, h1, h2, h3, h4, h5, h6⟩ := open_row Tryd.underlying30 Tryd.underlying5 Opn.cells_u8 h
 exact ⟨_, l, hcs, ⟨⟨q, c', rfl, h1, h2, h3, h4⟩, byte_wf h5⟩, by show l.length <= Rows.uptoBulk d; omega⟩
theorem open_intK {base fuel : Nat} {cs : List Value} {x : DataW H × List MemPlace} (h : DataW.trod enc Tryd.prog W base (fun _ => true) true fuel 3 cs = some x) : ∃ z : Int, cs = [.int .i64 z] /\ -9223372036854775808 <= z /\ z <= 9223372036854775807 := by
 obtain ⟨z, e1, _, w1⟩ := DataW.trod_int Tryd.underlying3 h
 have := bounds_i64 w1
 exact ⟨z, e1, by omega, by omega⟩
theorem part_bulkK {xs : List (DataW H × List MemPlace)} {i : Nat} {x : DataW H × List MemPlace} (h : xs[i]? = some x) : Rows.uptoBulk x.1 <= Rows.uptoBulkAll (xs.map (·.1)) :=
 bulk_memK (List.mem_map.2 ⟨x, List.mem_of_getElem? h, rfl⟩)
theorem part_ofK {cs : List Value} {o n : Nat} {l : List Value} (h : (cs.drop o).take n = l) (hn : l.length = n) (m : List Value) (hm : cs.drop (o + n) = m) : cs.drop o = l ++ m := by
 rw [<- List.take_append_drop n (cs.drop o), h, List.drop_drop, hm]
theorem Opn.cells_intK : Tryd.prog.cellsOf 3 = 1 := by kernel_rfl
theorem Opn.cells_bytesK : Tryd.prog.cellsOf 30 = 1 := by kernel_rfl
theorem Opn.cells_u32K : Tryd.prog.cellsOf 35 = 1 := by kernel_rfl
theorem Opn.cells_listsK : Tryd.prog.cellsOf 24 = 1 := by kernel_rfl
theorem Opn.cells_keyK : Tryd.prog.cellsOf 32 = 16 := by kernel_rfl
theorem Opn.cells_digK : Tryd.prog.cellsOf 34 = 32 := by kernel_rfl
theorem open_lstK {base fuel : Nat} {cs : List Value} {x : DataW H × List MemPlace} (h : DataW.trod enc Tryd.prog W base (fun _ => true) true fuel 24 cs = some x) : ∃ v ls, cs = [v] /\ HL W v ls /\ ls.flatten.length + ls.length + 1 <= Rows.uptoBulk x.1 := by
 obtain ⟨d, p⟩ := x
 obtain ⟨v, hv, hc⟩ : ∃ v : Value, (∃ a n c, v = .slice a n c) /\ cs = [v] := by
  rcases Go.Deep.open_slice Tryd.underlying24 h with ⟨hcs, _⟩ | ⟨a, len, cap, m, n, D, Pl, hcs, _⟩
  ·exact ⟨_, ⟨_, _, _, rfl⟩, hcs⟩
  ·exact ⟨_, ⟨_, _, _, rfl⟩, hcs⟩
 obtain ⟨ls, h1, h2⟩ := open_HL (base := base) (v := v) (d := d) (p := p) ⟨fuel, by
  obtain ⟨a, n, c, rfl⟩ := hv
  subst hc
  exact h⟩ hv
 exact ⟨v, ls, hc, h1, h2⟩
theorem open_keyK {base fuel : Nat} {cs : List Value} {x : DataW H × List MemPlace} (h : DataW.trod enc Tryd.prog W base (fun _ => true) true fuel 32 cs = some x) : ∃ d : List Int, (d.length = 16 /\ ∀ x ∈ d, 0 <= x /\ x < 256) /\ cs = d.map (Value.int .u8) := by
 obtain ⟨xs, m, rfl, rfl, hl, hxl, hx⟩ := DataW.trod_array Tryd.underlying32 h
 rw [Opn.cells_keyK] at hl
 have each : ∀ j, j < 16 -> ∃ k : Int, (0 <= k /\ k < 256) /\ cs[j]? = some (.int .u8 k) := fun j hj => by
  have hj2 := hx j hj
  rw [Opn.cells_u8, List.getElem?_eq_getElem (by omega)] at hj2
  obtain ⟨z, e1, _, w1⟩ := DataW.trod_int Tryd.underlying5 hj2
  refine ⟨z, by have := bounds_u8 w1; omega, ?_⟩
  have e2 : ((cs.drop (j * 1)).take 1)[0]? = some (.int .u8 z) := by rw [e1]; rfl
  rw [List.getElem?_take, if_pos (by decide), List.getElem?_drop] at e2
  simpa using e2
 refine ⟨(List.range 16).map fun j => if hj : j < 16 then Classical.choose (each j hj) else 0, ⟨by simp, fun y hy => ?_⟩, ?_⟩
 ·obtain ⟨j, hj, rfl⟩ := List.mem_map.1 hy
  have hj' := List.mem_range.1 hj
  simp only [hj', dif_pos]
  exact (Classical.choose_spec (each j hj')).1
 ·rw [List.map_map]
  refine List.ext_getElem? fun j => ?_
  by_cases hj : j < 16
  ·rw [(Classical.choose_spec (each j hj)).2]
   simp [hj]
  ·rw [List.getElem?_eq_none (by omega), List.getElem?_eq_none (by simp; omega)]
theorem open_digK {base fuel : Nat} {cs : List Value} {x : DataW H × List MemPlace} (h : DataW.trod enc Tryd.prog W base (fun _ => true) true fuel 34 cs = some x) : ∃ d : List Int, (d.length = 32 /\ ∀ x ∈ d, 0 <= x /\ x < 256) /\ cs = d.map (Value.int .u8) := by
 obtain ⟨xs, m, rfl, rfl, hl, hxl, hx⟩ := DataW.trod_array Tryd.underlying34 h
 rw [Opn.cells_digK] at hl
 have each : ∀ j, j < 32 -> ∃ k : Int, (0 <= k /\ k < 256) /\ cs[j]? = some (.int .u8 k) := fun j hj => by
  have hj2 := hx j hj
  rw [Opn.cells_u8, List.getElem?_eq_getElem (by omega)] at hj2
  obtain ⟨z, e1, _, w1⟩ := DataW.trod_int Tryd.underlying5 hj2
  refine ⟨z, by have := bounds_u8 w1; omega, ?_⟩
  have e2 : ((cs.drop (j * 1)).take 1)[0]? = some (.int .u8 z) := by rw [e1]; rfl
  rw [List.getElem?_take, if_pos (by decide), List.getElem?_drop] at e2
  simpa using e2
 refine ⟨(List.range 32).map fun j => if hj : j < 32 then Classical.choose (each j hj) else 0, ⟨by simp, fun y hy => ?_⟩, ?_⟩
 ·obtain ⟨j, hj, rfl⟩ := List.mem_map.1 hy
  have hj' := List.mem_range.1 hj
  simp only [hj', dif_pos]
  exact (Classical.choose_spec (each j hj')).1
 ·rw [List.map_map]
  refine List.ext_getElem? fun j => ?_
  by_cases hj : j < 32
  ·rw [(Classical.choose_spec (each j hj)).2]
   simp [hj]
  ·rw [List.getElem?_eq_none (by omega), List.getElem?_eq_none (by simp; omega)]
theorem open_u8K {base fuel : Nat} {cs : List Value} {x : DataW H × List MemPlace} (h : DataW.trod enc Tryd.prog W base (fun _ => true) true fuel 5 cs = some x) : ∃ z : Nat, z < 256 /\ cs = [.int .u8 (z : Int)] := by
 obtain ⟨z, e1, _, w1⟩ := DataW.trod_int Tryd.underlying5 h
 have := bounds_u8 w1
 exact ⟨z.toNat, by omega, by rw [e1, Int.toNat_of_nonneg (by omega)]⟩
theorem open_u32K {base fuel : Nat} {cs : List Value} {x : DataW H × List MemPlace} (h : DataW.trod enc Tryd.prog W base (fun _ => true) true fuel 35 cs = some x) : ∃ z : Nat, z < 4294967296 /\ cs = [.int .u32 (z : Int)] := by
 obtain ⟨z, e1, _, w1⟩ := DataW.trod_int Tryd.underlying35 h
 have hz : 0 <= z /\ z < 4294967296 := by
  simp [Lit.wf, IntKind.min, IntKind.max, IntKind.signed, IntKind.bits] at w1
  omega
 exact ⟨z.toNat, by omega, by rw [e1, Int.toNat_of_nonneg hz.1]⟩
theorem Opn.cells_tc : Tryd.prog.cellsOf 37 = 88 := by kernel_rfl
theorem open_tcL {base fuel : Nat} {cs : List Value} {x : DataW H × List MemPlace} (hm : DataW.trod enc Tryd.prog W base (fun _ => true) true fuel 37 cs = some x) (hB : Rows.uptoBulk x.1 <= 1048576) :
  (∃ o : Tc, (o.ok /\ HTc W o) /\ cs = o.cs) /\ 4 <= Rows.uptoBulk x.1 := by
 obtain ⟨xs, n, rfl, rfl, hl, hxl, hf⟩ := DataW.trod_struct Tryd.underlying37 hm
 rw [Opn.cells_tc] at hl
 have g : ∀ (i : Nat) (f : Field), _ -> DataW.trod enc Tryd.prog W base (fun _ => true) true n f.type ((cs.drop f.offset).take (Tryd.prog.cellsOf f.type)) = xs[i]? := fun i f hi => hf i f hi
 have hx : ∀ i, i < 11 -> ∃ x, xs[i]? = some x := fun i hi => ⟨_, List.getElem?_eq_getElem (by rw [hxl]; exact hi)⟩
 obtain ⟨x0, e0⟩ := hx 0 (by omega)
 have f0 : DataW.trod enc Tryd.prog W base (fun _ => true) true n 3 ((cs.drop 0).take (Tryd.prog.cellsOf 3)) = xs[0]? := g 0 _ rfl
 obtain ⟨x1, e1⟩ := hx 1 (by omega)
 have f1 : DataW.trod enc Tryd.prog W base (fun _ => true) true n 5 ((cs.drop 1).take (Tryd.prog.cellsOf 5)) = xs[1]? := g 1 _ rfl
 obtain ⟨x2, e2⟩ := hx 2 (by omega)
 have f2 : DataW.trod enc Tryd.prog W base (fun _ => true) true n 24 ((cs.drop 2).take (Tryd.prog.cellsOf 24)) = xs[2]? := g 2 _ rfl
 obtain ⟨x3, e3⟩ := hx 3 (by omega)
 have f3 : DataW.trod enc Tryd.prog W base (fun _ => true) true n 30 ((cs.drop 3).take (Tryd.prog.cellsOf 30)) = xs[3]? := g 3 _ rfl
 obtain ⟨x4, e4⟩ := hx 4 (by omega)
 have f4 : DataW.trod enc Tryd.prog W base (fun _ => true) true n 3 ((cs.drop 4).take (Tryd.prog.cellsOf 3)) = xs[4]? := g 4 _ rfl
 obtain ⟨x5, e5⟩ := hx 5 (by omega)
 have f5 : DataW.trod enc Tryd.prog W base (fun _ => true) true n 3 ((cs.drop 5).take (Tryd.prog.cellsOf 3)) = xs[5]? := g 5 _ rfl
 obtain ⟨x6, e6⟩ := hx 6 (by omega)
 have f6 : DataW.trod enc Tryd.prog W base (fun _ => true) true n 3 ((cs.drop 6).take (Tryd.prog.cellsOf 3)) = xs[6]? := g 6 _ rfl
 obtain ⟨x7, e7⟩ := hx 7 (by omega)
 have f7 : DataW.trod enc Tryd.prog W base (fun _ => true) true n 32 ((cs.drop 7).take (Tryd.prog.cellsOf 32)) = xs[7]? := g 7 _ rfl
 obtain ⟨x8, e8⟩ := hx 8 (by omega)
 have f8 : DataW.trod enc Tryd.prog W base (fun _ => true) true n 34 ((cs.drop 23).take (Tryd.prog.cellsOf 34)) = xs[8]? := g 8 _ rfl
 obtain ⟨x9, e9⟩ := hx 9 (by omega)
 have f9 : DataW.trod enc Tryd.prog W base (fun _ => true) true n 34 ((cs.drop 55).take (Tryd.prog.cellsOf 34)) = xs[9]? := g 9 _ rfl
 obtain ⟨x10, e10⟩ := hx 10 (by omega)
 have f10 : DataW.trod enc Tryd.prog W base (fun _ => true) true n 35 ((cs.drop 87).take (Tryd.prog.cellsOf 35)) = xs[10]? := g 10 _ rfl
 rw [e0, Opn.cells_intK] at f0
 rw [e1, Opn.cells_u8] at f1
 rw [e2, Opn.cells_listsK] at f2
 rw [e3, Opn.cells_bytesK] at f3
 rw [e4, Opn.cells_intK] at f4
 rw [e5, Opn.cells_intK] at f5
 rw [e6, Opn.cells_intK] at f6
 rw [e7, Opn.cells_keyK] at f7
 rw [e8, Opn.cells_digK] at f8
 rw [e9, Opn.cells_digK] at f9
 rw [e10, Opn.cells_u32K] at f10
 obtain ⟨cl, q0, _⟩ := open_intK f0
 obtain ⟨tg, htg, q1⟩ := open_u8K f1
 obtain ⟨pv, ps, q2, hp, lp⟩ := open_lstK f2
 obtain ⟨dv, ds, q3, hd, ld⟩ := open_bytK f3
 obtain ⟨k, q4, _⟩ := open_intK f4
 obtain ⟨m, q5, _⟩ := open_intK f5
 obtain ⟨gg, q6, _⟩ := open_intK f6
 obtain ⟨ky, hky, q7⟩ := open_keyK f7
 obtain ⟨da, hda, q8⟩ := open_digK f8
 obtain ⟨db, hdb, q9⟩ := open_digK f9
 obtain ⟨nu, hnu, q10⟩ := open_u32K f10
 have b2 := part_bulkK e2
 have b3 := part_bulkK e3
 have hB' : Rows.uptoBulkAll (xs.map (·.1)) + 1 <= 1048576 := by
  have : Rows.uptoBulk (.agg (xs.map (·.1))) <= 1048576 := hB
  simpa only [Rows.uptoBulk] using this
 refine ⟨⟨⟨cl, tg, pv, ps, dv, ds, k, m, gg, ky, da, db, nu⟩, ⟨⟨htg, hky, hda, hdb, hnu, by show ps.flatten.length + ps.length + 1 <= 1048576; omega, by show ds.length <= 1048576; omega⟩, hp, hd⟩, ?_⟩, ?_⟩
 ·have hb : cs.drop 88 = [] := List.drop_eq_nil_of_le (by omega)
  have ha := part_ofK q10 rfl _ hb
  have h9 := part_ofK q9 (by simp [hdb.1]) _ ha
  have h8 := part_ofK q8 (by simp [hda.1]) _ h9
  have h7 := part_ofK q7 (by simp [hky.1]) _ h8
  have h6 := part_ofK q6 rfl _ h7
  have h5 := part_ofK q5 rfl _ h6
  have h4 := part_ofK q4 rfl _ h5
  have h3 := part_ofK q3 rfl _ h4
  have h2 := part_ofK q2 rfl _ h3
  have h1 := part_ofK q1 rfl _ h2
  have h0 := part_ofK q0 rfl _ h1
  rw [List.drop_zero] at h0
  rw [h0]
  simp [Tc.cs]
 ·show 4 <= Rows.uptoBulk (.agg (xs.map (·.1)))
  simp only [Rows.uptoBulk]
  have := bulk_lenK (n := 1) (xs.map (·.1)) (fun d _ => bulk_posK d)
  rw [List.length_map, hxl] at this
  have h4 : (11 : Nat) * 1 <= Rows.uptoBulkAll (xs.map (·.1)) := this
  omega
theorem open_HTs {base : Nat} {v : Value} {d : DataW H} {p : List MemPlace} (h : DataW.Trod enc Tryd.prog W base (fun _ => true) true 22 v d p) (hv : ∃ a n c, v = .slice a n c) (hB : Rows.uptoBulk d <= 1048576) : ∃ os, HTs W v os /\ os.length <= 300000 := by
 obtain ⟨a, n, c, rfl⟩ := hv
 obtain ⟨fuel, hf⟩ := h
 rcases Go.Deep.open_slice Tryd.underlying22 hf with ⟨hcs, hx⟩ | ⟨a, len, cap, m, n, D, Pl, hcs, hb, hl, hm, hmm, hx, hel⟩
 ·simp only [Value.cells, List.cons.injEq, and_true] at hcs
  rw [hcs]
  exact ⟨[], ⟨⟨none, 0, rfl, Nat.le_refl _, Nat.zero_le _, fun h => absurd h (by simp)⟩, fun d hd => by simp at hd⟩, by simp⟩
 ·simp only [Value.cells, List.cons.injEq, and_true] at hcs
  rw [hcs]
  simp only [if_true] at hmm
  subst hmm
  simp only [Prod.mk.injEq] at hx
  obtain ⟨rfl, _⟩ := hx
  have hBe : ∀ i, i < len -> Rows.uptoBulk (D i) <= 1048576 := fun i hi => by
   have h1 : Rows.uptoBulk (D i) <= Rows.uptoBulkAll ((List.range len).map D) := bulk_memK (List.mem_map.2 ⟨i, List.mem_range.2 hi, rfl⟩)
   simp only [Rows.uptoBulk] at hB
   omega
  have each : ∀ i, i < len -> ∃ o : Tc, (o.ok /\ HTc W o) /\ (∀ j u, o.cs[j]? = some u -> W.cell? ((a.add (i * 88)).add j) = some u) /\ 4 <= Rows.uptoBulk (D i) := by
   intro i hi
   obtain ⟨cs', h1, h2⟩ := hel i (by omega)
   rw [Opn.cells_tc] at h1
   obtain ⟨⟨o, d1, d2⟩, d3⟩ := open_tcL h2 (hBe i hi)
   obtain ⟨_, _, hc⟩ := World.cells?_some h1
   refine ⟨o, d1, fun j u hj => ?_, d3⟩
   have hj2 : j < 88 := by have := (List.getElem?_eq_some_iff.1 hj).1; rwa [Tc.len d1.1] at this
   rw [hc j hj2, d2]
   exact hj
  have hch : ∃ T : Nat -> Tc, ∀ i, i < len -> ((T i).ok /\ HTc W (T i)) /\ (∀ j u, (T i).cs[j]? = some u -> W.cell? ((a.add (i * 88)).add j) = some u) /\ 4 <= Rows.uptoBulk (D i) := by
   refine ⟨fun i => if hi : i < len then Classical.choose (each i hi) else Tc.zz, fun i hi => ?_⟩
   simp only [hi, dif_pos]
   exact Classical.choose_spec (each i hi)
  obtain ⟨T, hT⟩ := hch
  have hlen : ((List.range len).map T).length = len := by simp
  have hget : ∀ i, i < len -> ((List.range len).map T).getD i Tc.zz = T i := fun i hi => by simp [List.getD, hi]
  have h5 : len * 4 <= Rows.uptoBulkAll ((List.range len).map D) := by
   have := bulk_lenK (n := 4) ((List.range len).map D) (fun d hd => by
    obtain ⟨i, hi, rfl⟩ := List.mem_map.1 hd
    exact (hT i (List.mem_range.1 hi)).2.2)
   simpa using this
  have hB2 := hB
  simp only [Rows.uptoBulk] at hB2
  refine ⟨(List.range len).map T, ⟨⟨some a, _, by rw [hlen], by rw [hlen]; exact hl, hm, fun h0 => ?_⟩, fun i hi => ?_⟩, by rw [hlen]; omega⟩
  ·rw [hlen] at h0
   obtain ⟨b, off, sp⟩ := a
   have hsp : sp = none := by
    have := (hT 0 h0).2.1 0 (.int .i64 (T 0).cl) rfl
    simpa [Addr.add] using World.cell?_spot this
   subst hsp
   refine ⟨b, off, rfl, fun i hi => ?_⟩
   rw [hlen] at hi
   rw [hget i hi]
   intro j u hj
   have := (hT i hi).2.1 j u hj
   rwa [Go.WideShapes.add_plain, Go.WideShapes.add_plain] at this
  ·rw [hlen] at hi
   rw [hget i hi]
   exact (hT i hi).1
end Go.Proofs.YtcpchhigiohlnaaDoor
