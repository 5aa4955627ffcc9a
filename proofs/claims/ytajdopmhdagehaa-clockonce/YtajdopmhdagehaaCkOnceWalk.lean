/- ClockOnce, walked. -/
import Derived.Test.YtajdopmhdagehaaCkvC
import Derived.Test.YtajdopmhdagehaaCkAw
import Derived.Test.YtajdopmhdagehaaCkU16
import Derived.Deep.OwnRows
set_option linter.unusedVariables false
set_option linter.unusedSimpArgs false
namespace Go.Proofs.Ytajdopmhdagehaa.Dv
open Go.Proofs.Ytajdopmhdagehaa
open Go Go.RowKit

/-- What waits comes out of the row l, below i: no place twice. -/
structure OnI (l : List Int) (i : Nat) (M : List (Rw Pr)) : Prop where
  is : ∀ r ∈ M, ∃ k : Nat, k < i ∧ r.x = ((r.t : Int), l.getD k 0, (k : Int), l.getD k 0)
  one : (M.map (·.x.2.2.1)).Nodup
theorem OnI.push {l : List Int} {i : Nat} {M : List (Rw Pr)} (h : OnI l i M) (b nx : Nat) : OnI l (i + 1) (⟨b, nx, ((nx : Int), l.getD i 0, (i : Int), l.getD i 0)⟩ :: M) where
  is := fun r hr => by
    rcases List.mem_cons.1 hr with q | q
    · exact ⟨i, by omega, by rw [q]⟩
    · obtain ⟨k, hk, e⟩ := h.is r q
      exact ⟨k, by omega, e⟩
  one := by
    rw [List.map_cons, List.nodup_cons]
    refine ⟨fun hm => ?_, h.one⟩
    obtain ⟨r, hr, e⟩ := List.mem_map.1 hm
    obtain ⟨k, hk, e2⟩ := h.is r hr
    rw [e2] at e
    simp at e
    omega
theorem OnI.more {l : List Int} {i : Nat} {M : List (Rw Pr)} (h : OnI l i M) : OnI l (i + 1) M :=
  ⟨fun r hr => by obtain ⟨k, hk, e⟩ := h.is r hr; exact ⟨k, by omega, e⟩, h.one⟩
theorem OnI.perm {l : List Int} {i : Nat} {M M' : List (Rw Pr)} (h : OnI l i M) (hp : M.Perm M') : OnI l i M' :=
  ⟨fun r hr => h.is r (hp.symm.subset hr), (hp.map _).nodup_iff.1 h.one⟩
theorem OnI.tail {l : List Int} {i : Nat} {r : Rw Pr} {M : List (Rw Pr)} (h : OnI l i (r :: M)) : OnI l i M ∧ ∀ q ∈ M, q.x.2.2.1 ≠ r.x.2.2.1 := by
  have h1 := h.one
  rw [List.map_cons, List.nodup_cons] at h1
  exact ⟨⟨fun q hq => h.is q (List.mem_cons_of_mem _ hq), h1.2⟩, fun q hq e => h1.1 (List.mem_map.2 ⟨q, hq, e⟩)⟩
/-- What was seen, in a row of n. -/
def SeN (w : World) (sb n : Nat) (f : Nat → Bool) : Prop := ∃ cur, w.heap[sb]? = some (.cells cur 4 (0, 0)) ∧ cur.size = n ∧ ∀ k, k < n → cur[k]? = some (.bool (f k))
theorem SeN.set {w : World} {sb n : Nat} {f : Nat → Bool} (h : SeN w sb n f) (k : Nat) (hk : k < n) : SeN (w.setCell ⟨sb, k, none⟩ (.bool true)) sb n (fun i => if i = k then true else f i) := by
  obtain ⟨cur, h1, h2, h3⟩ := h
  refine ⟨_, bk_set h1 k (.bool true), by simpa using h2, fun i hi => ?_⟩
  rw [Array.getElem?_setIfInBounds]
  by_cases e : i = k
  · subst e
    simp [h2, hk]
  · rw [if_neg (Ne.symm e)]
    simp only [if_neg e]
    exact h3 i hi
theorem SeN.of {w w' : World} {sb n : Nat} {f : Nat → Bool} (h : SeN w sb n f) (he : w'.heap[sb]? = w.heap[sb]?) : SeN w' sb n f := by
  obtain ⟨cur, h1, h2⟩ := h
  exact ⟨cur, he.trans h1, h2⟩
theorem info_bool18 : (Try.prog.info? 4).map (fun i => (i.zero, i.size, i.bytes)) = some (some (Value.bool false), 1, 1) := by kernel_rfl
abbrev laB (x : Int) : Obj := .cells #[.int .i64 (-1), .int .i64 x, .int .i64 0, .int .i64 0] 96
set_option maxRecDepth 100000 in
set_option maxHeartbeats 16000000 in
theorem once_walk (w : World) (x : Int) (v : Value) (l : List Int) (hx : 0 ≤ x ∧ x < 65536) (hv : H16 w v l) (hn : l.length ≤ 1048576) :
    Calls Try.prog 7 #[.int .u16 x, v] w fun e w' => e = .returned (.bool true) ∧ Below w.heap.size w w' := by
  obtain ⟨⟨p, c0, rfl, hlc, hcm, hp0, hcell⟩, hls⟩ := hv
  have HLS := hid (fun i => H16.at hls i)
  have HCELL := hid hcell
  have C1 := hid (cnew_ok w x (by unfold tkB; simp; omega))
  obtain ⟨n, HN⟩ : ∃ n, Hid (l.length = n) := ⟨_, rfl⟩
  rw [HN.out] at hn hlc
  rw [HN.out]
  clear hls hcell
  go_enter Try.func7, Try.ntmps7
  go_wp2_with fail
  refine C1.out.mono ?_
  rintro e w1 ⟨c, rfl, hk1, hb1⟩
  have CA := hid (Ds.awake_any w1)
  have K1 := hid hk1
  have B1 := hid hb1
  clear hk1 hb1 C1
  go_wp2_with fail
  refine CA.out.mono ?_
  rintro e w2 ⟨rfl, hb2⟩
  have B2 : Hid (Below w.heap.size w w2) := hid (B1.out.trans (hb2.mono B1.out.size))
  have K2 := hid (K1.out.below hb2)
  have LO2 : Hid (∀ k, (fun k => w.heap.size ≤ k ∧ k < w1.heap.size) k → w.heap.size ≤ k) := hid fun k hk => hk.1
  obtain ⟨S2, HS2⟩ : ∃ S2, Hid ((fun k => w.heap.size ≤ k ∧ k < w1.heap.size) = S2) := ⟨_, rfl⟩
  rw [HS2.out] at K2 LO2
  clear hb2 CA K1 B1 HS2
  go_wp2_with fail
  go_loopw [7, 40] (fun v7 v40 wr => ∃ (i nx : Nat) (M : List (Rw Pr)) (S : Nat → Prop), v7 = .int .i64 (nx : Int) ∧ v40 = .int .i64 (i : Int) ∧ i ≤ n ∧ nx ≤ i ∧ Hid (CK wr c x M nx S) ∧ Hid (OnI l i M) ∧ Hid (M.length = nx) ∧ Hid (∀ k, S k → w.heap.size ≤ k) ∧ Hid (Below w.heap.size w wr)) (fun _ v40 _ => n - (intOf v40).toNat)
  case atStart => exact ⟨0, 0, [], S2, rfl, rfl, Nat.zero_le _, Nat.le_refl _, K2, hid ⟨fun r hr => (by cases hr), by simp⟩, hid rfl, LO2, B2⟩
  case round =>
    clear K2 LO2 B2
    obtain ⟨i, nx, M, S, rfl, rfl, hi, hnx, HK, HON, HLEN, HLO, HB⟩ := hrel
    by_cases hlt : i < n
    · have hlt' : (i : Int) < (n : Int) := by omega
      have hne : l ≠ [] := fun e => by have := HN.out; rw [e] at this; simp at this; omega
      obtain ⟨b, off, rfl, hcc⟩ := HCELL.out hne
      have hc0 := hcc i (by rw [HN.out]; exact hlt)
      have hci : wr.cell? ⟨b, off + i, none⟩ = some (.int .u16 (l.getD i 0)) := (HB.out.cell (World.block_lt_of_cell? w _ hc0)).trans hc0
      obtain ⟨q1, q2⟩ := HLS.out i
      clear hcc hc0 hne
      obtain ⟨t, HT⟩ : ∃ t, Hid (l.getD i 0 = t) := ⟨_, rfl⟩
      rw [HT.out] at hci q1 q2
      by_cases htx : t < x
      · have ht : rcE x t ≠ 0 := by unfold rcE tkB; rw [if_pos (by simp; omega), if_pos htx]; decide
        have e180 : rcE x t = 180 := by unfold rcE tkB; rw [if_pos (by simp; omega), if_pos htx]
        have CS := hid (cset_bad HK.out t ht ((i : Int), t))
        rw [e180] at CS
        clear ht e180
        go_wp2_with fail
        refine CS.out.mono ?_
        rintro e w3 ⟨rfl, hk3, he3⟩
        have K3 := hid hk3
        have B3 : Hid (Below w.heap.size w w3) := hid (HB.out.trans (he3.below HB.out.size HLO.out))
        clear hk3 he3 CS hci
        go_wp2_with fail
        exact ⟨⟨i + 1, nx, M, S, rfl, by go_num, by omega, by omega, K3, hid HON.out.more, HLEN, HLO, B3⟩, by simp [intOf]; omega⟩
      · have ht : rcE x t = 0 := by unfold rcE tkB; rw [if_pos (by simp; omega), if_neg htx]
        have htx' : x ≤ t := by omega
        have CS := hid (cset_ok HK.out t ht ((i : Int), t) (by omega))
        clear ht
        go_wp2_with fail
        refine CS.out.mono ?_
        rintro e w3 ⟨rfl, b3, S3, hk3, he3, hs3⟩
        have K3 := hid hk3
        have B3 : Hid (Below w.heap.size w w3) := hid (HB.out.trans (he3.below HB.out.size HLO.out))
        have LO3 : Hid (∀ k, S3 k → w.heap.size ≤ k) := hid fun k hk => by
          rcases hs3 k hk with q | q
          · exact HLO.out k q
          · have := HB.out.size; omega
        have ON3 : Hid (OnI l (i + 1) (⟨b3, nx, ((nx : Int), t, (i : Int), t)⟩ :: M)) := hid (by have := HON.out.push b3 nx; rw [HT.out] at this; exact this)
        clear hk3 he3 hs3 CS hci
        go_wp2_with fail
        exact ⟨⟨i + 1, nx + 1, _, S3, by go_num, by go_num, by omega, by omega, K3, ON3, hid (by simp [HLEN.out]), LO3, B3⟩, by simp [intOf]; omega⟩
    · have hin : i = n := by omega
      have hge : ¬ (i : Int) < (n : Int) := by omega
      have CL := hid (clen_ok HK.out)
      have CW := hid (cnow_ok HK.out)
      rw [HLEN.out] at CL
      go_wp2_with fail
      refine CL.out.mono ?_
      rintro e wz ⟨rfl, hw⟩
      rw [hw]
      clear hw CL
      go_wp2_with fail
      refine CW.out.mono ?_
      rintro e wz ⟨rfl, hw⟩
      rw [hw]
      clear hw CW
      have hmk := run_make_row' (P := Try.prog) 97 4 (.bool false) 1 Try.underlying97 info_bool18 rfl .i64 .i64 n (by omega) (by omega) (wr.alloc (laB x))
      go_wp2_with fail
      have hs0 : (wr.alloc (laB x)).heap.size = wr.heap.size + 1 := by simp
      have hz0 := (heap_alloc_old (wr.alloc (laB x)) (.cells (madeCells #[.bool false] n) 4) (by rw [hs0]; omega)).trans (heap_alloc_new wr (laB x))
      have hsb0 : SeN ((wr.alloc (laB x)).alloc (.cells (madeCells #[.bool false] n) 4)) (wr.heap.size + 1) n (fun _ => false) := by
        refine ⟨_, by have := heap_alloc_new (wr.alloc (laB x)) (.cells (madeCells #[.bool false] n) 4); rw [hs0] at this; exact this, ?_, fun k hk => ?_⟩
        · have := congrArg List.length (toList_madeCells_one (.bool false) n)
          simpa using this
        · rw [← Array.getElem?_toList, toList_madeCells_one, List.getElem?_replicate, if_pos hk]
      have K4 : Hid (CK ((wr.alloc (laB x)).alloc (.cells (madeCells #[.bool false] n) 4)) c x M nx S) := hid (HK.out.below (((Below.refl _ _).alloc (Nat.le_refl _) _).alloc (by rw [hs0]; omega) _))
      have B4 : Hid (Below w.heap.size w ((wr.alloc (laB x)).alloc (.cells (madeCells #[.bool false] n) 4))) := hid ((HB.out.alloc HB.out.size _).alloc (by rw [hs0]; have := HB.out.size; omega) _)
      have HLB : Hid (∀ k, S k → w.heap.size ≤ k ∧ k < wr.heap.size) := hid fun k hk => ⟨HLO.out k hk, HK.out.lt k hk⟩
      have hlw : w.heap.size ≤ wr.heap.size := HB.out.size
      have HZ4 := hid hz0
      have HSE4 := hid hsb0
      have HON4 : Hid (OnI l n M) := hid (hin ▸ HON.out)
      have HLEN4 := HLEN
      obtain ⟨wl, HWL⟩ : ∃ wl, Hid ((wr.alloc (laB x)).alloc (.cells (madeCells #[.bool false] n) 4) = wl) := ⟨_, rfl⟩
      obtain ⟨lb, HLBX⟩ : ∃ lb, Hid (wr.heap.size = lb) := ⟨_, rfl⟩
      rw [HWL.out] at K4 B4 HZ4 HSE4
      rw [HLBX.out] at HZ4 HSE4 HLB hlw
      rw [HWL.out, HLBX.out]
      clear hmk hs0 hz0 hsb0 HWL HLBX HK HB HLO HON HLEN
      go_loopw [14] (fun v14 wr => ∃ (j : Nat) (M2 : List (Rw Pr)) (now2 ln lt a3 a4 : Int) (f : Nat → Bool), v14 = .int .i64 (j : Int) ∧ j ≤ nx ∧ Hid (CK wr c now2 M2 nx S) ∧ Hid (OnI l n M2) ∧ Hid (M2.length = nx - j) ∧ Hid (Below w.heap.size w wr) ∧ Hid (wr.heap[lb]? = some (.cells #[.int .i64 ln, .int .i64 lt, .int .i64 a3, .int .i64 a4] 96 (0, 0))) ∧ Hid (SeN wr (lb + 1) n f) ∧ Hid (∀ r ∈ M2, (lt < r.x.2.1 ∨ (lt = r.x.2.1 ∧ ln < (r.t : Int)))) ∧ Hid (∀ r ∈ M2, f r.x.2.2.1.toNat = false)) (fun v14 _ => nx - (intOf v14).toNat)
      case atStart => exact ⟨0, M, x, -1, x, 0, 0, _, rfl, Nat.zero_le _, K4, HON4, hid (by rw [HLEN4.out]; rfl), B4, HZ4, HSE4, hid (fun r hr => by have := (K4.out.tk r hr).1; omega), hid (fun r hr => rfl)⟩
      case round =>
        clear K4 HON4 HLEN4 B4 HZ4 HSE4
        obtain ⟨j, M2, now2, ln, lt, a3, a4, f, rfl, hj, HK, HON, HLEN, HB, HZ, HSE, HLA, HSF⟩ := hrel
        by_cases hlt2 : j < nx
        · have hlt2' : (j : Int) < (nx : Int) := by omega
          have hne2 : M2 ≠ [] := fun e => by have := HLEN.out; rw [e] at this; simp at this; omega
          obtain ⟨r, M3, hP, hr⟩ := first_of M2 hne2 HK.out.one
          have hrM : r ∈ M2 := hP.symm.subset List.mem_cons_self
          obtain ⟨k, hkn, ex⟩ := HON.out.is r hrM
          have hla := HLA.out r hrM
          have hsf := HSF.out r hrM
          have CN := hid (cnext_some HK.out hP hr)
          have hne3 : l ≠ [] := fun e => by have := HN.out; rw [e] at this; simp at this; omega
          obtain ⟨b, off, rfl, hcc⟩ := HCELL.out hne3
          have hc0 := hcc k (by rw [HN.out]; exact hkn)
          have HC0 := hid hc0
          obtain ⟨q1, q2⟩ := HLS.out k
          have HTL := hid (HON.out.perm hP).tail
          have HLA3 : Hid (∀ q ∈ M3, (l.getD k 0 < q.x.2.1 ∨ (l.getD k 0 = q.x.2.1 ∧ (r.t : Int) < (q.t : Int)))) := hid fun q hq => by
            have h1 := hr q hq
            unfold ahd keyD at h1
            rw [ex] at h1
            simp only at h1
            omega
          have HSF3 : Hid (∀ q ∈ M3, (fun i => if i = k then true else f i) q.x.2.2.1.toNat = false) := hid fun q hq => by
            have h1 := HTL.out.2 q hq
            obtain ⟨kq, _, eq⟩ := HTL.out.1.is q hq
            rw [ex, eq] at h1
            simp only at h1
            rw [eq]
            have : ¬ kq = k := by omega
            simp only [Int.toNat_natCast, if_neg this]
            have h2 := HSF.out q (hP.symm.subset (List.mem_cons_of_mem _ hq))
            rw [eq] at h2
            simpa using h2
          rw [ex] at CN hla hsf
          simp only [Int.toNat_natCast] at hsf hla
          clear hcc hc0 hne3
          obtain ⟨tv, HTV⟩ : ∃ tv, Hid (l.getD k 0 = tv) := ⟨_, rfl⟩
          obtain ⟨T, HTT⟩ : ∃ T, Hid (r.t = T) := ⟨_, rfl⟩
          rw [HTV.out] at CN hla HC0 q1 q2 HLA3
          rw [HTT.out] at CN hla HLA3
          have EX : Hid (r.x = ((T : Int), tv, (k : Int), tv)) := hid (by rw [ex, HTV.out, HTT.out])
          have HP := hid hP
          have HR := hid hr
          clear ex hrM hP hr
          go_wp2_with fail
          refine CN.out.mono ?_
          rintro e w5 ⟨rfl, hk5, he5⟩
          have CT := hid (ctake_some hk5 HP.out HR.out)
          rw [EX.out] at CT
          have HE5 := hid he5
          clear hk5 he5 CN
          go_wp2_with fail
          refine CT.out.mono ?_
          rintro e w6 ⟨rfl, hk6, he6⟩
          have HE6 : Hid (Ex S wr w6) := hid (HE5.out.trans he6 (fun k q => .inl q))
          have hns : ∀ y, lb ≤ y → ¬ S y := fun y hy q => by have := (HLB.out y q).2; omega
          have hz6 := (HE6.out.block lb (Array.getElem?_eq_some_iff.1 HZ.out).1 (hns lb (Nat.le_refl _))).trans HZ.out
          have hse6 : SeN w6 (lb + 1) n f := HSE.out.of (HE6.out.block (lb + 1) (by obtain ⟨cur, h1, _⟩ := HSE.out; exact (Array.getElem?_eq_some_iff.1 h1).1) (hns _ (by omega)))
          have B6 : Hid (Below w.heap.size w w6) := hid (HB.out.trans (HE6.out.below HB.out.size (fun k q => (HLB.out k q).1)))
          obtain ⟨DB, HDB⟩ : ∃ DB : Obj, Hid ((.cells #[.int .i64 (T : Int), .int .i64 tv, .int .i64 (k : Int), .int .i64 tv] 96 : Obj) = DB) := ⟨_, rfl⟩
          have hl6 : lb + 1 < w6.heap.size := by obtain ⟨cur, h1, _⟩ := hse6; exact (Array.getElem?_eq_some_iff.1 h1).1
          have hp7 := heap_alloc_new w6 DB
          have hz7 := (heap_alloc_old w6 DB (by omega)).trans hz6
          have hse7 : SeN (w6.alloc DB) (lb + 1) n f := hse6.of (heap_alloc_old w6 DB hl6)
          have K7 := hid (hk6.below ((Below.refl _ _).alloc (Nat.le_refl _) DB))
          have B7 : Hid (Below w.heap.size w (w6.alloc DB)) := hid (B6.out.alloc B6.out.size _)
          rw [← HDB.out] at hp7 hz7 hse7 K7 B7
          clear HDB HE5 HE6 hz6 hse6 hk6 he6 CT B6
          go_wp2_with fail
          obtain ⟨db, HDBX⟩ : ∃ db, Hid (w6.heap.size = db) := ⟨_, rfl⟩
          obtain ⟨w7, HW7⟩ : ∃ w7, Hid (w6.alloc (.cells #[.int .i64 (T : Int), .int .i64 tv, .int .i64 (k : Int), .int .i64 tv] 96) = w7) := ⟨_, rfl⟩
          rw [HDBX.out] at hp7 hl6
          rw [HW7.out] at hp7 hz7 hse7 K7 B7
          rw [HW7.out, HDBX.out]
          clear HW7 HDBX
          have p0 : w7.cell? ⟨db, 0, none⟩ = some (.int .i64 (T : Int)) := by rw [cell_of_row _ _ _ _ _ _ hp7]; rfl
          have p1 : w7.cell? ⟨db, 1, none⟩ = some (.int .i64 tv) := by rw [cell_of_row _ _ _ _ _ _ hp7]; rfl
          have p2 : w7.cell? ⟨db, 2, none⟩ = some (.int .i64 (k : Int)) := by rw [cell_of_row _ _ _ _ _ _ hp7]; rfl
          have p3 : w7.cell? ⟨db, 3, none⟩ = some (.int .i64 tv) := by rw [cell_of_row _ _ _ _ _ _ hp7]; rfl
          have z0 : w7.cell? ⟨lb, 0, none⟩ = some (.int .i64 ln) := by rw [cell_of_row _ _ _ _ _ _ hz7]; rfl
          have z1 : w7.cell? ⟨lb, 1, none⟩ = some (.int .i64 lt) := by rw [cell_of_row _ _ _ _ _ _ hz7]; rfl
          have z2 : w7.cell? ⟨lb, 2, none⟩ = some (.int .i64 a3) := by rw [cell_of_row _ _ _ _ _ _ hz7]; rfl
          have z3 : w7.cell? ⟨lb, 3, none⟩ = some (.int .i64 a4) := by rw [cell_of_row _ _ _ _ _ _ hz7]; rfl
          have hct : w7.cell? ⟨b, off + k, none⟩ = some (.int .u16 tv) := (B7.out.cell (World.block_lt_of_cell? w _ HC0.out)).trans HC0.out
          have hse : w7.cell? ⟨lb + 1, k, none⟩ = some (.bool false) := by
            obtain ⟨cur, h1, h2, h3⟩ := hse7
            rw [cell_of_row _ _ _ _ _ _ h1, h3 k hkn, hsf]
          have HZ7 := hid hz7
          have HSE7 := hid hse7
          have CW : Hid (∀ q : Nat, Calls Try.prog 37 #[ptr c] (w7.drewN q) fun e w' => e = .returned (.int .i64 tv) ∧ w' = w7.drewN q) := hid fun q => cnow_ok (K7.out.of (w' := w7.drewN q) fun _ _ => rfl)
          have hkn' : (k : Int) < (n : Int) := by omega
          clear hp7 hz7 hse7 hsf
          have t0 : decide ((k : Int) < 0) = false := by simp
          have t2 : decide ((n : Int) ≤ (k : Int)) = false := by simp; omega
          have t3 : ¬ ((n : Int) ≤ (k : Int)) := by omega
          have t4 : decide (n ≤ k) = false := by simp; omega
          have tw : IntKind.i64.wrap tv = tv := by rw [IntKind.wrap_i64]; omega
          have f0 := free_of HZ7.out 0
          have f1 := free_of HZ7.out 1
          have f2 := free_of HZ7.out 2
          have f3 := free_of HZ7.out 3
          have fk : w7.frozen? ⟨lb + 1, k, none⟩ = false := by
            obtain ⟨cur, h1, _⟩ := HSE7.out
            exact free_of h1 k
          have fin : ∀ V W : World, V.heap = w7.heap ∧ V.os = w7.os ∧ V.tape = w7.tape ∧ V.output = w7.output → W = ((((V.setCell ⟨lb + 1, k, none⟩ (.bool true)).setCell ⟨lb, 0, none⟩ (.int .i64 (T : Int))).setCell ⟨lb, 1, none⟩ (.int .i64 tv)).setCell ⟨lb, 2, none⟩ (.int .i64 (k : Int))).setCell ⟨lb, 3, none⟩ (.int .i64 tv) →
              ∃ (j' : Nat) (M2 : List (Rw Pr)) (now2 ln lt a3 a4 : Int) (f : Nat → Bool), Value.int .i64 ((j : Int) + 1) = .int .i64 (j' : Int) ∧ j' ≤ nx ∧ Hid (CK W c now2 M2 nx S) ∧ Hid (OnI l n M2) ∧ Hid (M2.length = nx - j') ∧ Hid (Below w.heap.size w W) ∧ Hid (W.heap[lb]? = some (.cells #[.int .i64 ln, .int .i64 lt, .int .i64 a3, .int .i64 a4] 96 (0, 0))) ∧ Hid (SeN W (lb + 1) n f) ∧ Hid (∀ r ∈ M2, (lt < r.x.2.1 ∨ (lt = r.x.2.1 ∧ ln < (r.t : Int)))) ∧ Hid (∀ r ∈ M2, f r.x.2.2.1.toNat = false) := by
            rintro V W ⟨v1, v2, v3, v4⟩ rfl
            have hb7 : Below w.heap.size w V := ⟨v2.trans B7.out.os, v3.trans B7.out.tape, v4.trans B7.out.output, by rw [v1]; exact B7.out.size, fun y hy => by rw [v1]; exact B7.out.block y hy⟩
            refine ⟨j + 1, M3, tv, T, tv, k, tv, (fun i => if i = k then true else f i), by go_num, by omega, hid ?_, hid HTL.out.1, hid ?_, hid ?_, hid ?_, hid ?_, HLA3, hid fun q hq => HSF3.out q hq⟩
            · refine K7.out.of fun y hy => ?_
              have hyl := (HLB.out y hy).2
              rw [bk_other (by omega), bk_other (by omega), bk_other (by omega), bk_other (by omega), bk_other (by omega), v1]
            · have := HP.out.length_eq
              rw [List.length_cons, HLEN.out] at this
              omega
            · exact ((((hb7.setCell (by show w.heap.size ≤ lb + 1; omega) _).setCell hlw _).setCell hlw _).setCell hlw _).setCell hlw _
            · have h8 : (V.setCell ⟨lb + 1, k, none⟩ (.bool true)).heap[lb]? = some (.cells #[.int .i64 ln, .int .i64 lt, .int .i64 a3, .int .i64 a4] 96 (0, 0)) := by rw [bk_other (by omega), v1]; exact HZ7.out
              have := bk_set (bk_set (bk_set (bk_set h8 0 (.int .i64 (T : Int))) 1 (.int .i64 tv)) 2 (.int .i64 (k : Int))) 3 (.int .i64 tv)
              simpa using this
            · have h8 : SeN V (lb + 1) n f := HSE7.out.of (by rw [v1])
              exact (h8.set k hkn).of (by rw [bk_other (by omega), bk_other (by omega), bk_other (by omega), bk_other (by omega)])
          have FIN := hid fin
          clear fin
          rcases hla with hA | ⟨hA, hBq⟩
          · have a1 : ¬ tv < lt := by omega
            have a2 : ¬ tv = lt := by omega
            have a3' : (tv == lt) = false := by simpa using a2
            have a4' : decide (tv < lt) = false := by simpa using a1
            go_quiet ((go_at_call 37; exact Calls.quiet_of_same (CW.out _)))
            go_wp2_with fail
            go_quiet (fail)
            go_wp2_with fail
            exact ⟨FIN.out (w7.drewN _) _ ⟨rfl, rfl, rfl, rfl⟩ rfl, by simp [intOf]; omega⟩
          · subst hA
            have a1 : ¬ (T : Int) ≤ ln := by omega
            have a4' : decide ((T : Int) ≤ ln) = false := by simpa using a1
            go_quiet ((go_at_call 37; exact Calls.quiet_of_same (CW.out _)))
            go_wp2_with fail
            go_quiet (fail)
            go_wp2_with fail
            exact ⟨FIN.out (w7.drewN _) _ ⟨rfl, rfl, rfl, rfl⟩ rfl, by simp [intOf]; omega⟩
        · have hji : j = nx := by omega
          have hge2 : ¬ (j : Int) < (nx : Int) := by omega
          have hM0 : M2 = [] := List.length_eq_zero_iff.1 (by rw [HLEN.out]; omega)
          subst hM0
          have CT := hid (ctake_none HK.out)
          go_wp2_with fail
          refine CT.out.mono ?_
          rintro e w5 ⟨rfl, hk5, he5⟩
          have B5 : Hid (Below w.heap.size w w5) := hid (HB.out.trans (he5.below HB.out.size (fun k q => (HLB.out k q).1)))
          have CL := hid (clen_ok (hk5.below ((Below.refl _ _).alloc (Nat.le_refl _) (.cells #[.int .i64 0, .int .i64 0, .int .i64 0, .int .i64 0] 96))))
          clear CT hk5 he5
          go_wp2_with fail
          refine CL.out.mono ?_
          rintro e wz ⟨rfl, hw⟩
          rw [hw]
          clear hw CL
          go_wp2_with fail
          go_ret
          exact ⟨rfl, B5.out.alloc B5.out.size _⟩
end Go.Proofs.Ytajdopmhdagehaa.Dv
