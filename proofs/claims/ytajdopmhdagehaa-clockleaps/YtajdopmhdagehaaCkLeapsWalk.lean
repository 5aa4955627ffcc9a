/- ClockLeaps, walked. -/
import Derived.Test.YtajdopmhdagehaaCkuD
import Derived.Test.YtajdopmhdagehaaCkuEq
import Derived.Test.YtajdopmhdagehaaCkAw
import Derived.Test.YtajdopmhdagehaaCkU16
set_option linter.unusedVariables false
set_option linter.unusedSimpArgs false
namespace Go.Proofs.Ytajdopmhdagehaa.Du
open Go.Proofs.Ytajdopmhdagehaa
open Go Go.RowKit

/-- A thing without its block. -/
def kx (r : Rw Pr) : Nat × Pr := (r.t, r.x)
theorem ahd_kx {r r' s s' : Rw Pr} (h : ahd keyD r s) (h1 : kx r = kx r') (h2 : kx s = kx s') : ahd keyD r' s' := by
  unfold kx at h1 h2
  simp only [Prod.mk.injEq] at h1 h2
  unfold ahd at *
  rw [← h1.1, ← h1.2, ← h2.1, ← h2.2]
  exact h
/-- Two heaps of the same things have the same thing first. -/
theorem twin_first {M N' M3 : List (Rw Pr)} {r r0 : Rw Pr} (hp : (M.map kx).Perm ((r0 :: N').map kx)) (h0 : ∀ q ∈ N', ahd keyD r0 q) (hM : M.Perm (r :: M3)) (hr : ∀ q ∈ M3, ahd keyD r q) : kx r = kx r0 ∧ (M3.map kx).Perm (N'.map kx) := by
  have e : kx r = kx r0 := by
    have m1 : kx r ∈ (r0 :: N').map kx := hp.subset (List.mem_map.2 ⟨r, hM.symm.subset List.mem_cons_self, rfl⟩)
    have m2 : kx r0 ∈ M.map kx := hp.symm.subset (List.mem_map.2 ⟨r0, List.mem_cons_self, rfl⟩)
    obtain ⟨s, hs, es⟩ := List.mem_map.1 m1
    obtain ⟨q, hq, eq⟩ := List.mem_map.1 m2
    rcases List.mem_cons.1 hs with z | z
    · rw [← es, z]
    · rcases List.mem_cons.1 (hM.subset hq) with y | y
      · rw [← eq, y]
      · have a1 := ahd_kx (h0 s z) rfl es
        have a2 := ahd_kx (hr q y) rfl eq
        exact absurd a1 (ahd_asym a2)
  refine ⟨e, ?_⟩
  have h1 := (hM.map kx).symm.trans hp
  rw [List.map_cons, List.map_cons, e] at h1
  exact List.Perm.cons_inv h1
/-- The cells of a row of things. -/
theorem row_at {R : List (Rw Pr)} {g n cap : Nat} {w : World} {cur : Array Value} (hg : w.heap[g]? = some (.cells cur 79 (0, 0))) (ht : cur.toList.take (R.length * 3) = (R.flatMap fun r => dcL r.x)) (i : Nat) (r : Rw Pr) (hi : R[i]? = some r) :
    w.cell? ⟨g, i * 3, none⟩ = some (.int .i64 r.x.1) ∧ w.cell? ⟨g, i * 3 + 1, none⟩ = some (.int .i64 r.x.2.1) ∧ w.cell? ⟨g, i * 3 + 2, none⟩ = some (.int .u32 r.x.2.2) := by
  have hl := (List.getElem?_eq_some_iff.1 hi).1
  have key : ∀ (R : List (Rw Pr)) (i : Nat) (r : Rw Pr), R[i]? = some r → ∀ j, j < 3 → (R.flatMap fun r => dcL r.x)[i * 3 + j]? = (dcL r.x)[j]? := by
    intro R
    induction R with
    | nil => intro i r h; simp at h
    | cons a R ih =>
      intro i r h j hj
      rw [List.flatMap_cons]
      cases i with
      | zero =>
        simp at h
        subst h
        rw [List.getElem?_append_left (by show 0 * 3 + j < 3; omega)]
        simp
      | succ i =>
        rw [List.getElem?_append_right (by show 3 ≤ (i + 1) * 3 + j; omega)]
        have : (i + 1) * 3 + j - (dcL a.x).length = i * 3 + j := by show (i + 1) * 3 + j - 3 = _; omega
        rw [this]
        exact ih i r (by simpa using h) j hj
  have at' : ∀ j, j < 3 → w.cell? ⟨g, i * 3 + j, none⟩ = (dcL r.x)[j]? := fun j hj => by
    rw [cell_of_row _ _ _ _ _ _ hg, ← key R i r hi j hj, ← ht, List.getElem?_take, if_pos (by omega), Array.getElem?_toList]
  exact ⟨at' 0 (by omega), at' 1 (by omega), at' 2 (by omega)⟩
theorem sorted_drop {R M2 : List (Rw Pr)} (hw : R.Pairwise (ahd keyD)) (hf : ∀ r ∈ R, ∀ q ∈ M2, ahd keyD r q) (j : Nat) (r : Rw Pr) (hj : R[j]? = some r) : R.drop j ++ M2 = r :: (R.drop (j + 1) ++ M2) ∧ ∀ q ∈ R.drop (j + 1) ++ M2, ahd keyD r q := by
  obtain ⟨hl, rfl⟩ := List.getElem?_eq_some_iff.1 hj
  have e : R.drop j = R[j] :: R.drop (j + 1) := List.drop_eq_getElem_cons hl
  refine ⟨by rw [e]; rfl, fun q hq => ?_⟩
  rcases List.mem_append.1 hq with z | z
  · have := hw.drop (i := j)
    rw [e, List.pairwise_cons] at this
    exact this.1 q z
  · exact hf _ (List.getElem_mem hl) q z
set_option maxRecDepth 100000 in
set_option maxHeartbeats 16000000 in
theorem leaps_walk (w : World) (v : Value) (l : List Int) (x : Int) (hx : 0 ≤ x ∧ x < 65536) (hv : H16 w v l) (hn : l.length ≤ 1048576) :
    Calls Try.prog 8 #[v, .int .u16 x] w fun e w' => e = .returned (.bool true) ∧ Below w.heap.size w w' := by
  obtain ⟨⟨p, c0, rfl, hlc, hcm, hp0, hcell⟩, hls⟩ := hv
  have HLS := hid (fun i => H16.at hls i)
  have HCELL := hid hcell
  have HEQ := run_neq_due
  have C1 := hid (cnew_ok w 0 (by decide))
  obtain ⟨n, HN⟩ : ∃ n, Hid (l.length = n) := ⟨_, rfl⟩
  rw [HN.out] at hn hlc
  rw [HN.out]
  clear hls hcell
  go_enter Try.func8, Try.ntmps8
  go_wp2_with fail
  refine C1.out.mono ?_
  rintro e w1 ⟨ca, rfl, hk1, hb1⟩
  have C2 := hid (cnew_ok w1 0 (by decide))
  have K1 := hid hk1
  have B1 := hid hb1
  clear hk1 hb1 C1
  go_wp2_with fail
  refine C2.out.mono ?_
  rintro e w2 ⟨cb, rfl, hk2, hb2⟩
  have CA := hid (Ds.awake_any w2)
  have KA2 := hid (K1.out.below hb2)
  have KB2 := hid hk2
  have B2 : Hid (Below w.heap.size w w2) := hid (B1.out.trans (hb2.mono B1.out.size))
  clear hk2 hb2 C2
  go_wp2_with fail
  refine CA.out.mono ?_
  rintro e w3 ⟨rfl, hb3⟩
  have B3 : Hid (Below w.heap.size w w3) := hid (B2.out.trans (hb3.mono B2.out.size))
  have KA3 := hid (KA2.out.below hb3)
  have KB3 := hid (KB2.out.below hb3)
  have LO3 : Hid ((∀ k, (fun k => w.heap.size ≤ k ∧ k < w1.heap.size) k → w.heap.size ≤ k) ∧ (∀ k, (fun k => w1.heap.size ≤ k ∧ k < w2.heap.size) k → w.heap.size ≤ k) ∧ ∀ k, (fun k => w.heap.size ≤ k ∧ k < w1.heap.size) k → ¬ (fun k => w1.heap.size ≤ k ∧ k < w2.heap.size) k) := hid ⟨fun k hk => hk.1, fun k hk => by have := B1.out.size; have := hk.1; omega, fun k hk q => by have := hk.2; have := q.1; omega⟩
  obtain ⟨SA, HSA⟩ : ∃ S, Hid ((fun k => w.heap.size ≤ k ∧ k < w1.heap.size) = S) := ⟨_, rfl⟩
  obtain ⟨SB, HSB⟩ : ∃ S, Hid ((fun k => w1.heap.size ≤ k ∧ k < w2.heap.size) = S) := ⟨_, rfl⟩
  rw [HSA.out] at KA3 LO3
  rw [HSB.out] at KB3 LO3
  clear hb3 CA K1 B1 B2 KA2 KB2 HSA HSB
  go_wp2_with fail
  go_loopw [48] (fun v48 wr => ∃ (i : Nat) (A B : List (Rw Pr)) (SA SB : Nat → Prop), v48 = .int .i64 (i : Int) ∧ i ≤ n ∧ Hid (CK wr ca 0 A i SA) ∧ Hid (CK wr cb 0 B i SB) ∧ Hid (A.map kx = B.map kx) ∧ Hid (A.length = i) ∧ Hid ((∀ k, SA k → w.heap.size ≤ k) ∧ (∀ k, SB k → w.heap.size ≤ k) ∧ ∀ k, SA k → ¬ SB k) ∧ Hid (Below w.heap.size w wr)) (fun v48 _ => n - (intOf v48).toNat)
  case atStart => exact ⟨0, [], [], SA, SB, rfl, Nat.zero_le _, KA3, KB3, hid rfl, hid rfl, LO3, B3⟩
  case round =>
    clear KA3 KB3 LO3 B3
    obtain ⟨i, A, B, SA, SB, rfl, hi, HA, HB, HEQM, HLEN, HLO, HBE⟩ := hrel
    by_cases hlt : i < n
    · have hlt' : (i : Int) < (n : Int) := by omega
      have hne : l ≠ [] := fun e => by have := HN.out; rw [e] at this; simp at this; omega
      obtain ⟨b, off, rfl, hcc⟩ := HCELL.out hne
      have hc0 := hcc i (by rw [HN.out]; exact hlt)
      have hci : wr.cell? ⟨b, off + i, none⟩ = some (.int .u16 (l.getD i 0)) := (HBE.out.cell (World.block_lt_of_cell? w _ hc0)).trans hc0
      obtain ⟨q1, q2⟩ := HLS.out i
      clear hcc hc0 hne
      obtain ⟨t, HT⟩ : ∃ t, Hid (l.getD i 0 = t) := ⟨_, rfl⟩
      rw [HT.out] at hci q1 q2
      have ht : rcE 0 t = 0 := by unfold rcE tkB; rw [if_pos (by simp; omega), if_neg (by omega)]
      have hwi : IntKind.u32.wrap (i : Int) = (i : Int) := by rw [IntKind.wrap_u32]; omega
      have CS := hid (cset_ok HA.out t ht (i : Int) (by omega))
      go_wp2_with fail
      refine CS.out.mono ?_
      rintro e w4 ⟨rfl, b4, S4, hk4, he4, hs4⟩
      have KA4 := hid hk4
      have KB4 := hid (HB.out.ex he4 (fun k hk q => HLO.out.2.2 k q hk))
      have B4 : Hid (Below w.heap.size w w4) := hid (HBE.out.trans (he4.below HBE.out.size HLO.out.1))
      have LO4 : Hid ((∀ k, S4 k → w.heap.size ≤ k) ∧ (∀ k, SB k → w.heap.size ≤ k) ∧ ∀ k, S4 k → ¬ SB k) := hid ⟨fun k hk => by
        rcases hs4 k hk with q | q
        · exact HLO.out.1 k q
        · have := HBE.out.size; omega, HLO.out.2.1, fun k hk q => by
        rcases hs4 k hk with z | z
        · exact HLO.out.2.2 k z q
        · have := HB.out.lt k q; omega⟩
      have CT := hid (cset_ok KB4.out t ht (i : Int) (by omega))
      clear hk4 he4 hs4 CS hci ht HA HB HBE
      go_wp2_with fail
      refine CT.out.mono ?_
      rintro e w5 ⟨rfl, b5, S5, hk5, he5, hs5⟩
      have KB5 := hid hk5
      have KA5 := hid (KA4.out.ex he5 (fun k hk q => LO4.out.2.2 k hk q))
      have B5 : Hid (Below w.heap.size w w5) := hid (B4.out.trans (he5.below B4.out.size LO4.out.2.1))
      have LO5 : Hid ((∀ k, S4 k → w.heap.size ≤ k) ∧ (∀ k, S5 k → w.heap.size ≤ k) ∧ ∀ k, S4 k → ¬ S5 k) := hid ⟨LO4.out.1, fun k hk => by
        rcases hs5 k hk with q | q
        · exact LO4.out.2.1 k q
        · have := B4.out.size; omega, fun k hk q => by
        rcases hs5 k q with z | z
        · exact LO4.out.2.2 k hk z
        · have := KA4.out.lt k hk; omega⟩
      clear hk5 he5 hs5 CT
      go_wp2_with fail
      exact ⟨⟨i + 1, _, _, S4, S5, by go_num, by omega, KA5, KB5, hid (by rw [List.map_cons, List.map_cons, HEQM.out]; rfl), hid (by simp [HLEN.out]), LO5, B5⟩, by simp [intOf]; omega⟩
    · have hin : i = n := by omega
      have hge : ¬ (i : Int) < (n : Int) := by omega
      have hrc : rcE 0 x = 0 := by unfold rcE tkB; rw [if_pos (by simp; omega), if_neg (by omega)]
      have CU := hid (cuntil_ok HA.out x hrc (by rw [HLEN.out]; omega))
      clear hrc
      go_wp2_with fail
      refine CU.out.mono ?_
      rintro e w4 ⟨vo, rfl, R, M2, hk4, he4, hP, hown, hpw, hdue, hlate⟩
      have KA4 := hid hk4
      have KB4 := hid (HB.out.ex he4 (fun k hk q => HLO.out.2.2 k q hk))
      have HSBL := hid HB.out.lt
      have B4 : Hid (Below w.heap.size w w4) := hid (HBE.out.trans (he4.below HBE.out.size HLO.out.1))
      have HOWN := hid hown
      have HPW := hid hpw
      have HDUE := hid hdue
      have HLATE := hid hlate
      have HPM : Hid ((B.map kx).Perm ((R ++ M2).map kx)) := hid (by rw [← HEQM.out]; exact hP.map kx)
      have hlr : R.length + M2.length = n := by
        have := hP.length_eq
        rw [List.length_append, HLEN.out] at this
        omega
      have HFR : Hid (∀ r ∈ R, ∀ q ∈ M2, ahd keyD r q) := hid fun r hr q hq => by
        have h1 := hdue r hr
        have h2 := hlate q hq
        unfold ahd keyD
        omega
      have CW := hid (cnow_ok hk4)
      obtain ⟨N, HNW⟩ : ∃ N, Hid (wr.heap.size = N) := ⟨_, rfl⟩
      rw [HNW.out] at HOWN HSBL
      clear hk4 he4 hP hown hpw hdue hlate CU HA HB
      go_wp2_with fail
      refine CW.out.mono ?_
      rintro e wz ⟨rfl, hw⟩
      rw [hw]
      clear hw CW
      have hsl : ∃ p cap, vo = .slice p R.length cap := by
        rcases HOWN.out.2 with ⟨q, e⟩ | ⟨g, cap, cur, q, _⟩
        · exact ⟨none, 0, by rw [q, e]⟩
        · exact ⟨_, _, q⟩
      obtain ⟨pv, cv, hvo⟩ := hsl
      subst hvo
      obtain ⟨m, HM⟩ : ∃ m, Hid (R.length = m) := ⟨_, rfl⟩
      rw [HM.out] at hlr
      rw [HM.out]
      go_wp2_with fail
      go_loopw [13] (fun v13 wr => ∃ (j : Nat) (B2 : List (Rw Pr)) (now2 : Int), v13 = .int .i64 (j : Int) ∧ j ≤ m ∧ Hid (CK wr ca x M2 n SA) ∧ Hid (CK wr cb now2 B2 n SB) ∧ Hid ((B2.map kx).Perm ((R.drop j ++ M2).map kx)) ∧ Hid (wr.ownsRow N 79 3 (.slice pv R.length cv) R.length (R.flatMap fun r => dcL r.x)) ∧ Hid (Below w.heap.size w wr)) (fun v13 _ => m - (intOf v13).toNat)
      case atStart => exact ⟨0, B, 0, rfl, Nat.zero_le _, hid (hin ▸ KA4.out), hid (hin ▸ KB4.out), HPM, HOWN, B4⟩
      case round =>
        clear KA4 KB4 HOWN B4 HPM
        obtain ⟨j, B2, now2, rfl, hj, HA, HB, HPM, HOWN, HBE⟩ := hrel
        by_cases hlt2 : j < m
        · have hlt2' : (j : Int) < (m : Int) := by omega
          obtain ⟨r0, hr0⟩ : ∃ r0, R[j]? = some r0 := ⟨_, List.getElem?_eq_getElem (by rw [HM.out]; exact hlt2)⟩
          obtain ⟨hd1, hd2⟩ := sorted_drop HPW.out HFR.out j r0 hr0
          have hne2 : B2 ≠ [] := fun e => by
            have := HPM.out.length_eq
            rw [e, hd1] at this
            simp at this
          obtain ⟨r, B3, hP, hr⟩ := first_of B2 hne2 HB.out.one
          rw [hd1] at HPM
          obtain ⟨hkx, hperm⟩ := twin_first HPM.out hd2 hP hr
          have hrx : r.x = r0.x := by unfold kx at hkx; simp only [Prod.mk.injEq] at hkx; exact hkx.2
          have hdue := HDUE.out r0 (List.mem_of_getElem? hr0)
          have CN := hid (cnext_some HB.out hP hr)
          rw [hrx] at CN
          have HP := hid hP
          have HR := hid hr
          have HRX := hid hrx
          have HPERM := hid hperm
          obtain ⟨g, hpv, hgb, cur, hcur, htake⟩ : ∃ g, pv = some ⟨g, 0, none⟩ ∧ N ≤ g ∧ ∃ cur, wr.heap[g]? = some (.cells cur 79 (0, 0)) ∧ cur.toList.take (R.length * 3) = (R.flatMap fun r => dcL r.x) := by
            rcases HOWN.out.2 with ⟨q, e⟩ | ⟨g, cap, cur, q, q1, q2, q3, q4, q5, q6⟩
            · have := HM.out; omega
            · simp only [Value.slice.injEq] at q
              exact ⟨g, q.1, q1, cur, q2, q6⟩
          have HR0 := hid hr0
          have HCUR := hid hcur
          have HTAKE := hid htake
          clear hd1 hd2 hne2 hP hr hkx hperm hrx hr0 hcur htake
          subst hpv
          obtain ⟨X, HX⟩ : ∃ X, Hid (r0.x = X) := ⟨_, rfl⟩
          rw [HX.out] at CN hdue
          go_wp2_with fail
          refine CN.out.mono ?_
          rintro e w5 ⟨rfl, hk5, he5⟩
          have CT := hid (ctake_some hk5 HP.out HR.out)
          rw [HRX.out, HX.out] at CT
          have HE5 := hid he5
          clear hk5 he5 CN
          go_wp2_with fail
          refine CT.out.mono ?_
          rintro e w6 ⟨rfl, hk6, he6⟩
          have HE6 : Ex SB wr w6 := HE5.out.trans he6 (fun k q => .inl q)
          have hgS : ¬ SB g := fun q => by have := HSBL.out g q; omega
          have hg6 := (HE6.block g (Array.getElem?_eq_some_iff.1 HCUR.out).1 hgS).trans HCUR.out
          have hlg := (Array.getElem?_eq_some_iff.1 hg6).1
          obtain ⟨y0, y1, y2⟩ := row_at (n := 0) (cap := 0) ((heap_alloc_old w6 (.cells #[.int .i64 X.1, .int .i64 X.2.1, .int .u32 X.2.2] 79) hlg).trans hg6) HTAKE.out j r0 HR0.out
          rw [HX.out] at y0 y1 y2
          have KB7 := hid (hk6.below ((Below.refl _ _).alloc (Nat.le_refl _) (.cells #[.int .i64 X.1, .int .i64 X.2.1, .int .u32 X.2.2] 79)))
          have KA7 := hid ((HA.out.ex HE6 (fun k hk q => HLO.out.2.2 k hk q)).below ((Below.refl _ _).alloc (Nat.le_refl _) (.cells #[.int .i64 X.1, .int .i64 X.2.1, .int .u32 X.2.2] 79)))
          have B6 := HBE.out.trans (HE6.below HBE.out.size HLO.out.2.1)
          have B7 := hid (B6.alloc B6.size (.cells #[.int .i64 X.1, .int .i64 X.2.1, .int .u32 X.2.2] 79))
          have HO7 : Hid ((w6.alloc (.cells #[.int .i64 X.1, .int .i64 X.2.1, .int .u32 X.2.2] 79)).ownsRow N 79 3 (.slice (some ⟨g, 0, none⟩) R.length cv) R.length (R.flatMap fun r => dcL r.x)) := hid (own_keep HOWN.out fun b hb => by
            cases hb
            exact ((heap_alloc_old w6 _ hlg).trans hg6).trans HCUR.out.symm)
          have hb7 := heap_alloc_new w6 (.cells #[.int .i64 X.1, .int .i64 X.2.1, .int .u32 X.2.2] 79)
          clear HE5 hk6 he6 CT HE6 hgS hg6 B6
          go_wp2_with fail
          obtain ⟨db, HDB⟩ : ∃ db, Hid (w6.heap.size = db) := ⟨_, rfl⟩
          obtain ⟨w7, HW7⟩ : ∃ w7, Hid (w6.alloc (.cells #[.int .i64 X.1, .int .i64 X.2.1, .int .u32 X.2.2] 79) = w7) := ⟨_, rfl⟩
          rw [HDB.out] at hb7
          rw [HW7.out] at hb7 KA7 KB7 B7 HO7 y0 y1 y2
          rw [HW7.out, HDB.out]
          clear HW7 HDB hlg
          have p0 : w7.cell? ⟨db, 0, none⟩ = some (.int .i64 X.1) := by rw [cell_of_row _ _ _ _ _ _ hb7]; rfl
          have p1 : w7.cell? ⟨db, 1, none⟩ = some (.int .i64 X.2.1) := by rw [cell_of_row _ _ _ _ _ _ hb7]; rfl
          have p2 : w7.cell? ⟨db, 2, none⟩ = some (.int .u32 X.2.2) := by rw [cell_of_row _ _ _ _ _ _ hb7]; rfl
          have hdue' : decide (x < X.2.1) = false := by simp; omega
          have hdue2 : ¬ x < X.2.1 := by omega
          have hwx : IntKind.i64.wrap x = x := by rw [IntKind.wrap_i64]; omega
          clear hb7
          go_quiet (fail)
          go_wp2_with fail
          refine ⟨⟨j + 1, B3, _, by go_num, by omega, hid (KA7.out.of fun _ _ => rfl), hid (KB7.out.of fun _ _ => rfl), HPERM, hid (own_keep HO7.out fun _ _ => rfl), hid (B7.out.trans ((Dr.one w7 _).below _))⟩, by simp [intOf]; omega⟩
        · have hjm : j = m := by omega
          have hge2 : ¬ (j : Int) < (m : Int) := by omega
          have CN := hid (cnext_any HB.out)
          have HPE : Hid ((B2.map kx).Perm (M2.map kx)) := hid (by
            have := HPM.out
            rw [List.drop_eq_nil_of_le (by rw [HM.out]; omega)] at this
            exact this)
          have hlB : B2.length = M2.length := by have := HPE.out.length_eq; simpa using this
          go_wp2_with fail
          refine CN.out.mono ?_
          rintro e w5 ⟨nv, ib, rfl, hnx, hk5, he5⟩
          have KA5 := HA.out.ex he5 (fun k hk q => HLO.out.2.2 k hk q)
          have B5 : Hid (Below w.heap.size w w5) := hid (HBE.out.trans (he5.below HBE.out.size HLO.out.2.1))
          have CL1 := hid (clen_ok KA5)
          have CL2 := hid (clen_ok hk5)
          rw [hlB] at CL2
          obtain ⟨m2, HM2⟩ : ∃ m2, Hid (M2.length = m2) := ⟨_, rfl⟩
          rw [HM2.out] at CL1 CL2 hlr
          have hin2 : ((n : Int) - (m : Int)) = (m2 : Int) := by omega
          have hbool : ib = false ∨ (ib = true ∧ x < nv) := by
            rcases hnx with ⟨_, _, h⟩ | ⟨r, M3, hP, _, hnv, h⟩
            · exact .inl h
            · have h1 : kx r ∈ M2.map kx := HPE.out.subset (List.mem_map.2 ⟨r, hP.symm.subset List.mem_cons_self, rfl⟩)
              obtain ⟨s, hs, es⟩ := List.mem_map.1 h1
              have h2 := HLATE.out s hs
              unfold kx at es
              simp only [Prod.mk.injEq] at es
              rw [hnv, ← es.2]
              exact .inr ⟨h, h2⟩
          have hwx : IntKind.i64.wrap x = x := by rw [IntKind.wrap_i64]; omega
          clear hnx hk5 he5 KA5 CN hlB
          rcases hbool with h | ⟨h, hxn⟩
          · subst h
            go_wp2_with fail
            refine CL1.out.mono ?_
            rintro e wz ⟨rfl, hw⟩
            rw [hw]
            clear hw
            go_wp2_with fail
            refine CL2.out.mono ?_
            rintro e wz ⟨rfl, hw⟩
            rw [hw]
            clear hw
            go_wp2_with fail
            refine CL1.out.mono ?_
            rintro e wz ⟨rfl, hw⟩
            rw [hw]
            clear hw
            go_wp2_with fail
            go_ret
            exact ⟨rfl, B5.out⟩
          · subst h
            go_wp2_with fail
            refine CL1.out.mono ?_
            rintro e wz ⟨rfl, hw⟩
            rw [hw]
            clear hw
            go_wp2_with fail
            refine CL2.out.mono ?_
            rintro e wz ⟨rfl, hw⟩
            rw [hw]
            clear hw
            go_wp2_with fail
            refine CL1.out.mono ?_
            rintro e wz ⟨rfl, hw⟩
            rw [hw]
            clear hw
            go_wp2_with fail
            go_ret
            exact ⟨rfl, B5.out⟩
end Go.Proofs.Ytajdopmhdagehaa.Du
