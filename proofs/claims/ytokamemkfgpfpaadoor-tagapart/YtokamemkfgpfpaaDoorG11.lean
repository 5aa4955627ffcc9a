/- Of the road to tagApartCard_holds: TgApartWalk, ShaLaid. -/
import Derived.Test.YtokamemkfgpfpaaDoorG10
import Derived.Test.YtokamemkfgpfpaaDoorG09
import Derived.Test.YtokamemkfgpfpaaDoorG03
import Derived.Deep.MidRow
import Derived.Deep.RegionHeld
import Derived.OrdersHeld
import Derived.Test.YtokamemkfgpfpaaDoorRows
import Derived.Test.YtokamemkfgpfpaaDoorG01
import Derived.ProofKit
import Derived.OpenShut
import Derived.LaidLaws
import Derived.Lay
import Derived.MakeChecks
set_option linter.unusedVariables false
set_option linter.unusedSimpArgs false
namespace Go.Proofs.YtokamemkfgpfpaaDoor
open Go Go.RowKit
section
open Ev
def noEnvT : Env := ⟨fun _ => 0, fun _ => .tuple #[], fun _ _ _ => 0⟩
theorem tlives_ev : evCallF Tryd.prog noLore conTag 100 6 [] HK = some (.tv (.sc (.bool true)), HK) := by kernel_rfl
theorem tlives_any (w : World) (hk : KC w) : Calls Tryd.prog 6 #[] w fun e w' => e = .returned (.bool true) ∧ Below w.heap.size w w' := by
  refine (calls_of_evHF (noLore_ok noEnvT) (conTag_ok noEnvT) mixedOrders 100 tlives_ev (args := #[]) w rfl (holdsK noEnvT w hk)).mono ?_
  rintro e w' ⟨ms, u, rfl, _, h1, _, h3⟩
  simp only [AV.inst, TV.inst, SV.inst, Option.some.injEq] at h1
  rw [← h1]
  exact ⟨rfl, h3⟩
end
theorem HL.one5 {w : World} {g : Nat} {T : TypeId} {u : Value} {l : List Int} (h : w.heap[g]? = some (.cells #[u] T (0, 0))) (hb : HB w u l) : HL w (.slice (some ⟨g, 0, none⟩) 1 1) [l] := by
  refine ⟨_, 1, rfl, Nat.le_refl _, by unfold maxLen; omega, (fun e => by cases e), fun _ => ⟨g, 0, rfl, fun j hj => ?_⟩⟩
  match j, hj with
  | 0, _ => exact ⟨u, (cell_of_row w g 0 _ _ _ h).trans rfl, hb⟩
theorem bel5' {B : Nat} {w W : World} {g : Nat} (h : Below B w W) (hg : B ≤ g) (cs : Array Value) : Below B w (W.setRow g cs) := bel_set5 h hg cs
theorem bel5 {w W : World} {y : Array Value} (h : Below w.heap.size w W) : Hid (Below w.heap.size w (W.setRow w.heap.size y)) := hid (bel_set5 h (Nat.le_refl _) _)
theorem range5 {w : World} {g : Nat} {m : Array Value} {T : TypeId} (h : w.heap[g]? = some (.cells m T (0, 0))) : w.rangeAt g 0 m.toList := range_of5 h (fun j hj => by rw [Nat.zero_add, Array.getElem?_toList])
set_option maxRecDepth 100000 in
set_option maxHeartbeats 4000000 in
theorem tdigest_ok (w : World) (t : Nat) (v : Value) (ls : List (List Int)) (h : HL w v ls) (hn : ∀ l ∈ ls, l.length ≤ 140737488351232) (hok : TagOk t ls) (hk : KC w) : Calls Tryd.prog 14 #[.int .u8 (t : Int), v] w fun e w' => e = .returned (.tuple #[.agg (cellsB (digL (tagB t ls))), .int .i64 0]) ∧ Below w.heap.size w w' := by
  obtain ⟨zd, HZD⟩ : ∃ zd, Hid (cellsB zeros32 = zd) := ⟨_, rfl⟩
  obtain ⟨W0, hW0⟩ : ∃ W0, Hid (w.alloc (.cells zd 34) = W0) := ⟨_, rfl⟩
  have B0 : Hid (Below w.heap.size w W0) := by rw [← hW0.out]; exact (Below.refl _ w).alloc (Nat.le_refl _) _
  have R0 : Hid (W0.heap[w.heap.size]? = some (.cells zd 34 (0, 0))) := by rw [← hW0.out]; exact heap_alloc_new w _
  have Z0 : Hid (W0.heap.size = w.heap.size + 1) := by refine hid ?_; rw [← hW0.out]; simp
  have DL := hid (digL_length (tagB t ls))
  obtain ⟨y, HY⟩ : ∃ y, Hid (cellsB (digL (tagB t ls)) = y) := ⟨_, rfl⟩
  have SY : Hid ((Tryd.prog.info? 34).map (·.size) = some y.size) := by refine hid ?_; rw [← HY.out, cellsB_size, DL.out]; exact size_digest
  have OY : Hid (y.all (·.oneCell') = true) := by refine hid ?_; rw [← HY.out]; exact cellsB_one _
  have ZY : Hid (zd.size = y.size) := by refine hid ?_; rw [← HZD.out, ← HY.out, cellsB_size, cellsB_size, DL.out, zeros32_length]
  have C1 := hid (tbytes_any W0 t v ls (h.below B0.out) hn)
  have HK := hid hk
  have OK := hid hok
  have LT : Hid ((tagB t ls).length ≤ 140737488355000) := by refine hid ?_; have := tagB_len t ls; have := fit_flat hok hn; have := fit_ne hok; omega
  rw [HY.out]
  obtain ⟨p0, c0, rfl, _, _⟩ := h.open
  clear h hk hok
  go_enter Tryd.func14, Tryd.ntmps14
  go_wp2_with (first | (refine wpList_alloc_digest rfl rfl ?_; rw [HZD.out, hW0.out]) | fail)
  refine C1.out.mono ?_
  rintro e w1 ⟨v1, E, rfl, hq, hb1⟩
  obtain ⟨rfl, hv1⟩ : E = 0 ∧ HB w1 v1 (tagB t ls) := by
    rcases hq with ⟨e, _, h⟩ | ⟨_, h, _⟩
    · exact ⟨e, h⟩
    · exact absurd OK.out h
  have B1 := hid (B0.out.trans (hb1.mono B0.out.size))
  have R1 := hid ((hb1.block w.heap.size (by rw [Z0.out]; omega)).trans R0.out)
  have V1 := hid hv1
  obtain ⟨p1, c1, rfl, _, _⟩ := hv1.open
  obtain ⟨L, HLn⟩ : ∃ L, Hid ((tagB t ls).length = L) := ⟨_, rfl⟩
  rw [HLn.out] at V1
  rw [HLn.out]
  have HA := hid (heap_alloc_new w1 (.cells #[.slice p1 L c1] 30))
  have BA := hid ((Below.refl w1.heap.size w1).alloc (Nat.le_refl _) (.cells #[.slice p1 L c1] 30))
  have CS := sums_any (w1.alloc (.cells #[.slice p1 L c1] 30)) _ [tagB t ls] (HL.one5 HA.out (V1.out.below BA.out)) ((HK.out.below B1.out).below BA.out) (by have := LT.out; simp only [List.flatten_cons, List.flatten_nil, List.append_nil]; omega)
  rw [show [tagB t ls].flatten = tagB t ls by simp, HY.out] at CS
  have CS := hid CS
  have B2 := hid (B1.out.trans (BA.out.mono B1.out.size))
  have R2 := hid ((BA.out.block w.heap.size (by have := B1.out.size; have := hb1.size; rw [Z0.out] at this; omega)).trans R1.out)
  have S2 : Hid (w.heap.size < (w1.alloc (.cells #[.slice p1 L c1] 30)).heap.size) := hid (by have := hb1.size; rw [Z0.out] at this; simp; omega)
  clear hb1 hv1 hq C1
  go_wp2_with fail
  refine CS.out.mono ?_
  rintro e w3 ⟨rfl, hb3⟩
  have B3 := hid (B2.out.trans (hb3.mono B2.out.size))
  have R3 := hid ((hb3.block w.heap.size S2.out).trans R2.out)
  clear hb3 CS
  go_wp2_with (first | (refine wpList_store_row rfl 34 _ _ rfl w.heap.size y rfl rfl 34 _ R3.out SY.out ZY.out OY.out ?_) | fail)
  refine bodyPost_ret (v := .tuple #[.agg y, .int .i64 0]) (results_cellT5 (p := 4) (u := 5) (ty := 34) rfl _ _ w.heap.size 34 y (0, 0) _ rfl (setRow_heap _ _ _ _ _ _ R3.out) Tryd.underlying34 rfl SY.out _ rfl) rfl ?_
  exact ⟨rfl, Hid.out (bel5 B3.out)⟩
theorem wS_inj {t u : Nat} (ht : 1 ≤ t ∧ t ≤ 9) (hu : 1 ≤ u ∧ u ≤ 9) (h : strI (wS t) = strI (wS u)) : t = u := by
  have key : ∀ t, t < 10 → ∀ u, u < 10 → 1 ≤ t → 1 ≤ u → strI (wS t) = strI (wS u) → t = u := by decide +kernel
  exact key t (by omega) u (by omega) ht.1 hu.1 h
theorem tag_apart {t u : Nat} {a b : List (List Int)} (ha : TagOk t a) (hb : TagOk u b) (la : ∀ l ∈ a, l.length ≤ 140737488351232) (lb : ∀ l ∈ b, l.length ≤ 140737488351232) : tagB t a = tagB u b ↔ (t = u ∧ a = b) := by
  have ok : ∀ (t : Nat) (a : List (List Int)), (∀ l ∈ a, l.length ≤ 140737488351232) → Ok (strI (wS t) :: a) := fun t a h l hl => by
    rcases List.mem_cons.1 hl with rfl | hl
    · rw [strI_len]; have := wS_size t; omega
    · have := h l hl
      omega
  unfold tagB
  rw [framed_inj (ok t a la) (ok u b lb)]
  constructor
  · intro h
    simp only [List.cons.injEq] at h
    exact ⟨wS_inj ha.1 hb.1 h.1, h.2⟩
  · rintro ⟨rfl, rfl⟩
    rfl
set_option maxRecDepth 100000 in
set_option maxHeartbeats 16000000 in
theorem tagApart_walk (w : World) (va vb : Value) (la lb : List (List Int)) (t u : Nat) (ha : HL w va la) (hb : HL w vb lb) (ht : t < 256) (hu : u < 256) (na : ∀ l ∈ la, l.length ≤ 140737488351232) (nb : ∀ l ∈ lb, l.length ≤ 140737488351232) (hk : KC w) :
    Calls Tryd.prog 5 #[.int .u8 (t : Int), .int .u8 (u : Int), va, vb] w fun e w' => e = .returned (.bool true) ∧ Below w.heap.size w w' := by
  obtain ⟨zd, HZD⟩ : ∃ zd, Hid (cellsB zeros32 = zd) := ⟨_, rfl⟩
  have CL := hid (tlives_any w hk)
  have HA := hid ha
  have HB' := hid hb
  have HK := hid hk
  have CB1 := hid fun (W : World) (h : Below w.heap.size w W) => tbytes_any W t va la (ha.below h) na
  have CB2 := hid fun (W : World) (h : Below w.heap.size w W) => tbytes_any W u vb lb (hb.below h) nb
  have CD1 := hid fun (W : World) (h : Below w.heap.size w W) (q : TagOk t la) => tdigest_ok W t va la (ha.below h) na q (hk.below h)
  have CD2 := hid fun (W : World) (h : Below w.heap.size w W) (q : TagOk u lb) => tdigest_ok W u vb lb (hb.below h) nb q (hk.below h)
  have CSL := hid fun (W : World) (h : Below w.heap.size w W) => sameLists_any W va vb la lb (ha.below h) (hb.below h)
  have AP := hid fun (p : TagOk t la) (q : TagOk u lb) => tag_apart p q na nb
  have LT1 : Hid (TagOk t la → (tagB t la).length ≤ 140737488355000) := hid fun h => by have := tagB_len t la; have := fit_flat h na; have := fit_ne h; omega
  have LT2 : Hid (TagOk u lb → (tagB u lb).length ≤ 140737488355000) := hid fun h => by have := tagB_len u lb; have := fit_flat h nb; have := fit_ne h; omega
  obtain ⟨pa, ca, rfl, _, _⟩ := ha.open
  obtain ⟨pb, cb, rfl, _, _⟩ := hb.open
  clear ha hb hk
  obtain ⟨za, Hza⟩ : ∃ x, Hid (la.length = x) := ⟨_, rfl⟩
  obtain ⟨zb, Hzb⟩ : ∃ x, Hid (lb.length = x) := ⟨_, rfl⟩
  rw [Hza.out] at CB1 CD1 CSL
  rw [Hzb.out] at CB2 CD2 CSL
  rw [Hza.out, Hzb.out]
  go_enter Tryd.func5, Tryd.ntmps5
  go_wp2_with fail
  refine CL.out.mono ?_
  rintro e w1 ⟨rfl, hb1⟩
  have B1 := hid hb1
  clear hb1 CL
  go_wp2_with fail
  refine (CB1.out w1 B1.out).mono ?_
  rintro e w2 ⟨x, E, rfl, hq1, hb2⟩
  have B2 := hid (B1.out.trans (hb2.mono B1.out.size))
  have Q1 := hid hq1
  clear hb2 hq1 CB1 B1
  go_wp2_with fail
  refine (CB2.out w2 B2.out).mono ?_
  rintro e w3 ⟨y, F, rfl, hq2, hb3⟩
  have B3 := hid (B2.out.trans (hb3.mono B2.out.size))
  have Q2 := hid hq2
  have HB3 := hid hb3
  clear hb3 hq2 CB2
  by_cases hE : E = 0
  case neg =>
    have hE2 : (E == 0) = false := by simpa using hE
    have hE3 : (E != 0) = true := by simpa using hE
    go_wp2
    go_ret
    exact ⟨rfl, B3.out⟩
  case pos =>
    subst hE
    obtain ⟨TA, XB⟩ : TagOk t la ∧ HB w2 x (tagB t la) := by
      rcases Q1.out with ⟨_, h1, h2⟩ | ⟨h, _⟩
      · exact ⟨h1, h2⟩
      · exact absurd rfl h
    by_cases hF : F = 0
    case neg =>
      have hF2 : (F == 0) = false := by simpa using hF
      have hF3 : (F != 0) = true := by simpa using hF
      go_wp2
      go_ret
      exact ⟨rfl, B3.out⟩
    case pos =>
      subst hF
      obtain ⟨TB, YB⟩ : TagOk u lb ∧ HB w3 y (tagB u lb) := by
        rcases Q2.out with ⟨_, h1, h2⟩ | ⟨h, _⟩
        · exact ⟨h1, h2⟩
        · exact absurd rfl h
      have X3 := hid (XB.below HB3.out)
      have Y3 := hid YB
      have IFF := hid (AP.out TA TB)
      have CD1 := hid fun (W : World) (h : Below w.heap.size w W) => CD1.out W h TA
      have CD2 := hid fun (W : World) (h : Below w.heap.size w W) => CD2.out W h TB
      replace LT1 := hid (LT1.out TA)
      replace LT2 := hid (LT2.out TB)
      clear XB YB TA TB Q1 Q2 HB3 AP
      have DL1 := hid (digL_length (tagB t la))
      have DL2 := hid (digL_length (tagB u lb))
      obtain ⟨X, HX⟩ : ∃ q, Hid (tagB t la = q) := ⟨_, rfl⟩
      obtain ⟨Y, HY⟩ : ∃ q, Hid (tagB u lb = q) := ⟨_, rfl⟩
      rw [HX.out] at CD1 X3 IFF LT1 DL1
      rw [HY.out] at CD2 Y3 IFF LT2 DL2
      clear HX HY
      obtain ⟨px, cx, rfl, _, _⟩ := X3.out.open
      obtain ⟨py, cy, rfl, _, _⟩ := Y3.out.open
      obtain ⟨zx, Hzx⟩ : ∃ q, Hid (X.length = q) := ⟨_, rfl⟩
      obtain ⟨zy, Hzy⟩ : ∃ q, Hid (Y.length = q) := ⟨_, rfl⟩
      rw [Hzx.out] at X3 ⊢
      rw [Hzy.out] at Y3 ⊢
      obtain ⟨q, HQ⟩ : ∃ q : Bool, Hid (decide (X = Y) = q) := ⟨_, rfl⟩
      have HQI : Hid (q = true ↔ (t = u ∧ la = lb)) := hid (by rw [← HQ.out, decide_eq_true_iff]; exact IFF.out)
      have CSB := hid fun (W : World) (hx : HB W (.slice px zx cx) X) (hy : HB W (.slice py zy cy) Y) => sameBytes_any W _ _ X Y hx hy
      rw [HQ.out] at CSB
      have STEP : ∀ (W : World), Dr w3 W ∨ W = w3 → True := fun _ _ => trivial
      clear STEP
      obtain ⟨sl, HSL⟩ : ∃ q : Bool, Hid (decide (la = lb) = q) := ⟨_, rfl⟩
      rw [HSL.out] at CSL
      by_cases htu : t = u
      case neg =>
        have htu2 : ((t : Int) == (u : Int)) = false := by simp; omega
        have hqf : q = false := by cases hq : q with | false => rfl | true => exact absurd (HQI.out.1 hq).1 htu
        subst hqf
        clear CSL HQI HQ HSL
        go_wp2_with fail
        refine (CSB.out w3 X3.out Y3.out).mono ?_
        rintro e w5 ⟨rfl, hd5⟩
        have X5 := hid (X3.out.dr hd5)
        have Y5 := hid (Y3.out.dr hd5)
        have B5 := hid (B3.out.trans ((hd5.below _).mono B3.out.size))
        clear hd5 CSB X3 Y3
        go_wp2_with fail
        refine (CD1.out w5 B5.out).mono ?_
        rintro e w6 ⟨rfl, hb6⟩
        have X6 := hid (X5.out.below hb6)
        have Y6 := hid (Y5.out.below hb6)
        have B6 := hid (B5.out.trans (hb6.mono B5.out.size))
        clear hb6 CD1 X5 Y5
        obtain ⟨m1, Hm1⟩ : ∃ q, Hid (cellsB (digL X) = q) := ⟨_, rfl⟩
        obtain ⟨m2, Hm2⟩ : ∃ q, Hid (cellsB (digL Y) = q) := ⟨_, rfl⟩
        have SM1 : Hid ((Tryd.prog.info? 34).map (·.size) = some m1.size) := by refine hid ?_; rw [← Hm1.out, cellsB_size, DL1.out]; exact size_digest
        have SM2 : Hid ((Tryd.prog.info? 34).map (·.size) = some m2.size) := by refine hid ?_; rw [← Hm2.out, cellsB_size, DL2.out]; exact size_digest
        have OM1 : Hid (m1.all (·.oneCell') = true) := by refine hid ?_; rw [← Hm1.out]; exact cellsB_one _
        have OM2 : Hid (m2.all (·.oneCell') = true) := by refine hid ?_; rw [← Hm2.out]; exact cellsB_one _
        have ZM1 : Hid (zd.size = m1.size) := by refine hid ?_; rw [← HZD.out, ← Hm1.out, cellsB_size, cellsB_size, DL1.out, zeros32_length]
        have ZM2 : Hid (zd.size = m2.size) := by refine hid ?_; rw [← HZD.out, ← Hm2.out, cellsB_size, cellsB_size, DL2.out, zeros32_length]
        have HEQ : Hid (∀ W : World, (binOp .eql 34 (.agg m1) (.agg m2)).run Tryd.prog W = .ok (.bool (decide (digL X = digL Y))) W) := hid fun W => by rw [← Hm1.out, ← Hm2.out]; exact run_eql_bytes W 32 34 Tryd.underlying34 _ _ DL1.out DL2.out
        rw [Hm1.out]
        have ZA := hid (heap_alloc_new w6 (.cells zd 34))
        obtain ⟨w7, HW7⟩ : ∃ x, Hid ((w6.alloc (.cells zd 34)).setRow w6.heap.size m1 = x) := ⟨_, rfl⟩
        have G7 : Hid (w7.heap[w6.heap.size]? = some (.cells m1 34 (0, 0))) := by refine hid ?_; rw [← HW7.out]; exact setRow_heap _ _ _ _ _ _ ZA.out
        have B67 : Hid (Below w6.heap.size w6 w7) := by refine hid ?_; rw [← HW7.out]; exact bel5' ((Below.refl w6.heap.size w6).alloc (Nat.le_refl _) _) (Nat.le_refl _) _
        have B7 := hid (B6.out.trans (B67.out.mono B6.out.size))
        go_wp2_with (first | (refine wpList_alloc_digest rfl rfl ?_; rw [HZD.out]) | (refine wpList_store_row rfl 34 _ _ rfl w6.heap.size m1 rfl rfl 34 _ ZA.out SM1.out ZM1.out OM1.out ?_; rw [HW7.out]) | fail)
        refine (CD2.out w7 B7.out).mono ?_
        rintro e w8 ⟨rfl, hb8⟩
        have X8 := hid ((X6.out.below B67.out).below hb8)
        have Y8 := hid ((Y6.out.below B67.out).below hb8)
        have B8 := hid (B7.out.trans (hb8.mono B7.out.size))
        have G8 := hid ((hb8.block w6.heap.size ((Array.getElem?_eq_some_iff.1 G7.out).1)).trans G7.out)
        clear hb8 CD2 X6 Y6 B67 ZA G7 B6 B7
        rw [Hm2.out]
        have ZA := hid (heap_alloc_new w8 (.cells zd 34))
        obtain ⟨w9, HW9⟩ : ∃ x, Hid ((w8.alloc (.cells zd 34)).setRow w8.heap.size m2 = x) := ⟨_, rfl⟩
        have G9 : Hid (w9.heap[w8.heap.size]? = some (.cells m2 34 (0, 0))) := by refine hid ?_; rw [← HW9.out]; exact setRow_heap _ _ _ _ _ _ ZA.out
        have B89 : Hid (Below w8.heap.size w8 w9) := by refine hid ?_; rw [← HW9.out]; exact bel5' ((Below.refl w8.heap.size w8).alloc (Nat.le_refl _) _) (Nat.le_refl _) _
        have B9 := hid (B8.out.trans (B89.out.mono B8.out.size))
        have X9 := hid (X8.out.below B89.out)
        have Y9 := hid (Y8.out.below B89.out)
        have F9 := hid ((B89.out.block w6.heap.size ((Array.getElem?_eq_some_iff.1 G8.out).1)).trans G8.out)
        go_wp2_with (first | (refine wpList_alloc_digest rfl rfl ?_; rw [HZD.out]) | (refine wpList_store_row rfl 34 _ _ rfl w8.heap.size m2 rfl rfl 34 _ ZA.out SM2.out ZM2.out OM2.out ?_; rw [HW9.out]) | fail)
        clear ZA B89 X8 Y8 G8
        have RG : Hid (∀ W, Below w9.heap.size w9 W → W.rangeAt w6.heap.size 0 m1.toList ∧ W.rangeAt w8.heap.size 0 m2.toList ∧ HB W (.slice px zx cx) X ∧ HB W (.slice py zy cy) Y) := hid fun W hW => ⟨range5 ((hW.block w6.heap.size ((Array.getElem?_eq_some_iff.1 F9.out).1)).trans F9.out), range5 ((hW.block w8.heap.size ((Array.getElem?_eq_some_iff.1 G9.out).1)).trans G9.out), X9.out.below hW, Y9.out.below hW⟩
        have SL1 : Hid ((Tryd.prog.info? 34).map (·.size) = some m1.toList.length) := hid (by rw [Array.length_toList]; exact SM1.out)
        have SL2 : Hid ((Tryd.prog.info? 34).map (·.size) = some m2.toList.length) := hid (by rw [Array.length_toList]; exact SM2.out)
        have heq := HEQ.out
        refine wp_region_held_drew (S := Below w9.heap.size w9) (by kernel_rfl) (Below.refl _ _).drew (fun hHeld => ?_)
        have HS := hid hHeld
        clear hHeld
        change wpAnyH _ _ _ _ _ _ _ _ (World.drew _)
        refine wpAnyH_take (i := 0) rfl (by kernel_rfl) (by kernel_rfl) (by kernel_rfl) (fun _ _ _ h => h) (yieldsIf_load_mid (by rfl) 34 _ rfl w6.heap.size 0 rfl m1.toList _ (fun W hW => (RG.out W hW).1) Tryd.underlying34 rfl SL1.out) HS.out ?_
        simp only [Act.put, List.getElem_toArray, List.getElem_cons_zero, List.getElem_cons_succ, List.setIfInBounds_toArray, List.set_cons_zero, List.set_cons_succ]
        rw [Array.toArray_toList]
        refine wpAnyH_take (i := 1) rfl (by kernel_rfl) (by kernel_rfl) (by kernel_rfl) (fun _ _ _ h => h) (yieldsIf_load_mid (by rfl) 34 _ rfl w8.heap.size 0 rfl m2.toList _ (fun W hW => (RG.out W hW).2.1) Tryd.underlying34 rfl SL2.out) HS.out ?_
        simp only [Act.put, List.getElem_toArray, List.getElem_cons_zero, List.getElem_cons_succ, List.setIfInBounds_toArray, List.set_cons_zero, List.set_cons_succ]
        rw [Array.toArray_toList]
        refine wpAnyH_take (i := 2) (v := .bool (decide (digL X = digL Y))) rfl (by kernel_rfl) (by kernel_rfl) (by kernel_rfl) (fun _ _ _ h => h) (Or.inl ⟨by rfl, ?q2⟩) HS.out ?_
        case q2 => intro w hSw; go_simp
        simp only [Act.put, List.getElem_toArray, List.getElem_cons_zero, List.getElem_cons_succ, List.setIfInBounds_toArray, List.set_cons_zero, List.set_cons_succ]
        refine wpAnyH_take (i := 3) (v := ?_) rfl (by kernel_rfl) (by kernel_rfl) (by kernel_rfl) (fun _ _ _ h => h) (Or.inl ⟨by rfl, ?q3⟩) HS.out ?_
        case q3 => intro w hSw; go_simp; rfl
        simp only [Act.put, List.getElem_toArray, List.getElem_cons_zero, List.getElem_cons_succ, List.setIfInBounds_toArray, List.set_cons_zero, List.set_cons_succ]
        refine wpAnyH_take (i := 5) (v := ?_) rfl (by kernel_rfl) (by kernel_rfl) (by kernel_rfl) (fun _ _ _ h => h) (Or.inl ⟨by rfl, ?q5⟩) HS.out ?_
        case q5 => intro w hSw; go_simp; rfl
        simp only [Act.put, List.getElem_toArray, List.getElem_cons_zero, List.getElem_cons_succ, List.setIfInBounds_toArray, List.set_cons_zero, List.set_cons_succ]
        refine wpAnyH_ready (rs := [4]) (by kernel_rfl) (by simp) ?_
        refine AllReadyH.cons rfl (fun K hK => ?_) AllReadyH.nil
        replace hK := hid hK
        go_simp
        refine (rsum_any _ _ X (RG.out _ HS.out).2.2.1 (by have := LT1.out; omega)).mono ?_
        rintro e w10 ⟨rfl, hb10⟩
        rw [Hm1.out]
        have HS2 := hid (HS.out.trans (hb10.mono HS.out.size))
        clear hb10
        refine hK.out _ _ HS2.out (fun _ => ?_)
        clear hK K
        clear HS
        have HS := HS2
        clear HS2
        try simp only [Act.put, List.getElem_toArray, List.getElem_cons_zero, List.getElem_cons_succ, List.setIfInBounds_toArray, List.set_cons_zero, List.set_cons_succ]
        refine wpAnyH_ready (rs := [6]) (by kernel_rfl) (by simp) ?_
        refine AllReadyH.cons rfl (fun K hK => ?_) AllReadyH.nil
        replace hK := hid hK
        go_simp
        refine (rsum_any _ _ Y (RG.out _ HS.out).2.2.2 (by have := LT2.out; omega)).mono ?_
        rintro e w11 ⟨rfl, hb11⟩
        rw [Hm2.out]
        have HS2 := hid (HS.out.trans (hb11.mono HS.out.size))
        clear hb11
        refine hK.out _ _ HS2.out (fun _ => ?_)
        clear hK K
        clear HS
        have HS := HS2
        clear HS2
        try simp only [Act.put, List.getElem_toArray, List.getElem_cons_zero, List.getElem_cons_succ, List.setIfInBounds_toArray, List.set_cons_zero, List.set_cons_succ]
        refine wpAnyH_take (i := 7) (v := .bool (decide (digL X = digL Y))) rfl (by kernel_rfl) (by kernel_rfl) (by kernel_rfl) (fun _ _ _ h => h) (Or.inl ⟨by rfl, ?q7⟩) HS.out ?_
        case q7 => intro w hSw; go_simp
        simp only [Act.put, List.getElem_toArray, List.getElem_cons_zero, List.getElem_cons_succ, List.setIfInBounds_toArray, List.set_cons_zero, List.set_cons_succ]
        refine wpAnyH_take (i := 8) (v := .bool true) rfl (by kernel_rfl) (by kernel_rfl) (by kernel_rfl) (fun _ _ _ h => h) (Or.inl ⟨by rfl, ?q8⟩) HS.out ?_
        case q8 => intro w hSw; go_simp
        simp only [Act.put, List.getElem_toArray, List.getElem_cons_zero, List.getElem_cons_succ, List.setIfInBounds_toArray, List.set_cons_zero, List.set_cons_succ]
        refine wpAnyH_take (i := 9) (v := .bool true) rfl (by kernel_rfl) (by kernel_rfl) (by kernel_rfl) (fun _ _ _ h => h) (Or.inl ⟨by rfl, ?q9⟩) HS.out ?_
        case q9 => intro w hSw; go_simp
        simp only [Act.put, List.getElem_toArray, List.getElem_cons_zero, List.getElem_cons_succ, List.setIfInBounds_toArray, List.set_cons_zero, List.set_cons_succ]
        refine wpAnyH_done (by kernel_rfl) ?_ _
        have B12 := hid (B9.out.trans (HS.out.mono B9.out.size))
        go_wp2
        go_ret
        exact ⟨rfl, B12.out⟩
      case pos =>
        subst htu
        have hqs : q = sl := by
          cases hs : sl with
          | true => exact HQI.out.2 ⟨rfl, of_decide_eq_true (by rw [HSL.out]; exact hs)⟩
          | false =>
            cases hq : q with
            | false => rfl
            | true =>
              have h1 := (HQI.out.1 hq).2
              have h2 := decide_eq_true h1
              rw [HSL.out, hs] at h2
              cases h2
        subst hqs
        clear HQI HQ HSL
        go_wp2_with fail
        refine (CSL.out w3 B3.out).mono ?_
        rintro e w4 ⟨rfl, hd4⟩
        have X4 := hid (X3.out.dr hd4)
        have Y4 := hid (Y3.out.dr hd4)
        have B4 := hid (B3.out.trans ((hd4.below _).mono B3.out.size))
        clear hd4 CSL X3 Y3
        go_wp2_with fail
        refine (CSB.out w4 X4.out Y4.out).mono ?_
        rintro e w5 ⟨rfl, hd5⟩
        have X5 := hid (X4.out.dr hd5)
        have Y5 := hid (Y4.out.dr hd5)
        have B5 := hid (B4.out.trans ((hd5.below _).mono B4.out.size))
        clear hd5 CSB X4 Y4
        go_wp2_with fail
        refine (CD1.out w5 B5.out).mono ?_
        rintro e w6 ⟨rfl, hb6⟩
        have X6 := hid (X5.out.below hb6)
        have Y6 := hid (Y5.out.below hb6)
        have B6 := hid (B5.out.trans (hb6.mono B5.out.size))
        clear hb6 CD1 X5 Y5
        obtain ⟨m1, Hm1⟩ : ∃ q, Hid (cellsB (digL X) = q) := ⟨_, rfl⟩
        obtain ⟨m2, Hm2⟩ : ∃ q, Hid (cellsB (digL Y) = q) := ⟨_, rfl⟩
        have SM1 : Hid ((Tryd.prog.info? 34).map (·.size) = some m1.size) := by refine hid ?_; rw [← Hm1.out, cellsB_size, DL1.out]; exact size_digest
        have SM2 : Hid ((Tryd.prog.info? 34).map (·.size) = some m2.size) := by refine hid ?_; rw [← Hm2.out, cellsB_size, DL2.out]; exact size_digest
        have OM1 : Hid (m1.all (·.oneCell') = true) := by refine hid ?_; rw [← Hm1.out]; exact cellsB_one _
        have OM2 : Hid (m2.all (·.oneCell') = true) := by refine hid ?_; rw [← Hm2.out]; exact cellsB_one _
        have ZM1 : Hid (zd.size = m1.size) := by refine hid ?_; rw [← HZD.out, ← Hm1.out, cellsB_size, cellsB_size, DL1.out, zeros32_length]
        have ZM2 : Hid (zd.size = m2.size) := by refine hid ?_; rw [← HZD.out, ← Hm2.out, cellsB_size, cellsB_size, DL2.out, zeros32_length]
        have HEQ : Hid (∀ W : World, (binOp .eql 34 (.agg m1) (.agg m2)).run Tryd.prog W = .ok (.bool (decide (digL X = digL Y))) W) := hid fun W => by rw [← Hm1.out, ← Hm2.out]; exact run_eql_bytes W 32 34 Tryd.underlying34 _ _ DL1.out DL2.out
        rw [Hm1.out]
        have ZA := hid (heap_alloc_new w6 (.cells zd 34))
        obtain ⟨w7, HW7⟩ : ∃ x, Hid ((w6.alloc (.cells zd 34)).setRow w6.heap.size m1 = x) := ⟨_, rfl⟩
        have G7 : Hid (w7.heap[w6.heap.size]? = some (.cells m1 34 (0, 0))) := by refine hid ?_; rw [← HW7.out]; exact setRow_heap _ _ _ _ _ _ ZA.out
        have B67 : Hid (Below w6.heap.size w6 w7) := by refine hid ?_; rw [← HW7.out]; exact bel5' ((Below.refl w6.heap.size w6).alloc (Nat.le_refl _) _) (Nat.le_refl _) _
        have B7 := hid (B6.out.trans (B67.out.mono B6.out.size))
        go_wp2_with (first | (refine wpList_alloc_digest rfl rfl ?_; rw [HZD.out]) | (refine wpList_store_row rfl 34 _ _ rfl w6.heap.size m1 rfl rfl 34 _ ZA.out SM1.out ZM1.out OM1.out ?_; rw [HW7.out]) | fail)
        refine (CD2.out w7 B7.out).mono ?_
        rintro e w8 ⟨rfl, hb8⟩
        have X8 := hid ((X6.out.below B67.out).below hb8)
        have Y8 := hid ((Y6.out.below B67.out).below hb8)
        have B8 := hid (B7.out.trans (hb8.mono B7.out.size))
        have G8 := hid ((hb8.block w6.heap.size ((Array.getElem?_eq_some_iff.1 G7.out).1)).trans G7.out)
        clear hb8 CD2 X6 Y6 B67 ZA G7 B6 B7
        rw [Hm2.out]
        have ZA := hid (heap_alloc_new w8 (.cells zd 34))
        obtain ⟨w9, HW9⟩ : ∃ x, Hid ((w8.alloc (.cells zd 34)).setRow w8.heap.size m2 = x) := ⟨_, rfl⟩
        have G9 : Hid (w9.heap[w8.heap.size]? = some (.cells m2 34 (0, 0))) := by refine hid ?_; rw [← HW9.out]; exact setRow_heap _ _ _ _ _ _ ZA.out
        have B89 : Hid (Below w8.heap.size w8 w9) := by refine hid ?_; rw [← HW9.out]; exact bel5' ((Below.refl w8.heap.size w8).alloc (Nat.le_refl _) _) (Nat.le_refl _) _
        have B9 := hid (B8.out.trans (B89.out.mono B8.out.size))
        have X9 := hid (X8.out.below B89.out)
        have Y9 := hid (Y8.out.below B89.out)
        have F9 := hid ((B89.out.block w6.heap.size ((Array.getElem?_eq_some_iff.1 G8.out).1)).trans G8.out)
        go_wp2_with (first | (refine wpList_alloc_digest rfl rfl ?_; rw [HZD.out]) | (refine wpList_store_row rfl 34 _ _ rfl w8.heap.size m2 rfl rfl 34 _ ZA.out SM2.out ZM2.out OM2.out ?_; rw [HW9.out]) | fail)
        clear ZA B89 X8 Y8 G8
        have RG : Hid (∀ W, Below w9.heap.size w9 W → W.rangeAt w6.heap.size 0 m1.toList ∧ W.rangeAt w8.heap.size 0 m2.toList ∧ HB W (.slice px zx cx) X ∧ HB W (.slice py zy cy) Y) := hid fun W hW => ⟨range5 ((hW.block w6.heap.size ((Array.getElem?_eq_some_iff.1 F9.out).1)).trans F9.out), range5 ((hW.block w8.heap.size ((Array.getElem?_eq_some_iff.1 G9.out).1)).trans G9.out), X9.out.below hW, Y9.out.below hW⟩
        have SL1 : Hid ((Tryd.prog.info? 34).map (·.size) = some m1.toList.length) := hid (by rw [Array.length_toList]; exact SM1.out)
        have SL2 : Hid ((Tryd.prog.info? 34).map (·.size) = some m2.toList.length) := hid (by rw [Array.length_toList]; exact SM2.out)
        have heq := HEQ.out
        refine wp_region_held_drew (S := Below w9.heap.size w9) (by kernel_rfl) (Below.refl _ _).drew (fun hHeld => ?_)
        have HS := hid hHeld
        clear hHeld
        change wpAnyH _ _ _ _ _ _ _ _ (World.drew _)
        refine wpAnyH_take (i := 0) rfl (by kernel_rfl) (by kernel_rfl) (by kernel_rfl) (fun _ _ _ h => h) (yieldsIf_load_mid (by rfl) 34 _ rfl w6.heap.size 0 rfl m1.toList _ (fun W hW => (RG.out W hW).1) Tryd.underlying34 rfl SL1.out) HS.out ?_
        simp only [Act.put, List.getElem_toArray, List.getElem_cons_zero, List.getElem_cons_succ, List.setIfInBounds_toArray, List.set_cons_zero, List.set_cons_succ]
        rw [Array.toArray_toList]
        refine wpAnyH_take (i := 1) rfl (by kernel_rfl) (by kernel_rfl) (by kernel_rfl) (fun _ _ _ h => h) (yieldsIf_load_mid (by rfl) 34 _ rfl w8.heap.size 0 rfl m2.toList _ (fun W hW => (RG.out W hW).2.1) Tryd.underlying34 rfl SL2.out) HS.out ?_
        simp only [Act.put, List.getElem_toArray, List.getElem_cons_zero, List.getElem_cons_succ, List.setIfInBounds_toArray, List.set_cons_zero, List.set_cons_succ]
        rw [Array.toArray_toList]
        refine wpAnyH_take (i := 2) (v := .bool (decide (digL X = digL Y))) rfl (by kernel_rfl) (by kernel_rfl) (by kernel_rfl) (fun _ _ _ h => h) (Or.inl ⟨by rfl, ?q2⟩) HS.out ?_
        case q2 => intro w hSw; go_simp
        simp only [Act.put, List.getElem_toArray, List.getElem_cons_zero, List.getElem_cons_succ, List.setIfInBounds_toArray, List.set_cons_zero, List.set_cons_succ]
        refine wpAnyH_take (i := 3) (v := ?_) rfl (by kernel_rfl) (by kernel_rfl) (by kernel_rfl) (fun _ _ _ h => h) (Or.inl ⟨by rfl, ?q3⟩) HS.out ?_
        case q3 => intro w hSw; go_simp; rfl
        simp only [Act.put, List.getElem_toArray, List.getElem_cons_zero, List.getElem_cons_succ, List.setIfInBounds_toArray, List.set_cons_zero, List.set_cons_succ]
        refine wpAnyH_take (i := 5) (v := ?_) rfl (by kernel_rfl) (by kernel_rfl) (by kernel_rfl) (fun _ _ _ h => h) (Or.inl ⟨by rfl, ?q5⟩) HS.out ?_
        case q5 => intro w hSw; go_simp; rfl
        simp only [Act.put, List.getElem_toArray, List.getElem_cons_zero, List.getElem_cons_succ, List.setIfInBounds_toArray, List.set_cons_zero, List.set_cons_succ]
        refine wpAnyH_ready (rs := [4]) (by kernel_rfl) (by simp) ?_
        refine AllReadyH.cons rfl (fun K hK => ?_) AllReadyH.nil
        replace hK := hid hK
        go_simp
        refine (rsum_any _ _ X (RG.out _ HS.out).2.2.1 (by have := LT1.out; omega)).mono ?_
        rintro e w10 ⟨rfl, hb10⟩
        rw [Hm1.out]
        have HS2 := hid (HS.out.trans (hb10.mono HS.out.size))
        clear hb10
        refine hK.out _ _ HS2.out (fun _ => ?_)
        clear hK K
        clear HS
        have HS := HS2
        clear HS2
        try simp only [Act.put, List.getElem_toArray, List.getElem_cons_zero, List.getElem_cons_succ, List.setIfInBounds_toArray, List.set_cons_zero, List.set_cons_succ]
        refine wpAnyH_ready (rs := [6]) (by kernel_rfl) (by simp) ?_
        refine AllReadyH.cons rfl (fun K hK => ?_) AllReadyH.nil
        replace hK := hid hK
        go_simp
        refine (rsum_any _ _ Y (RG.out _ HS.out).2.2.2 (by have := LT2.out; omega)).mono ?_
        rintro e w11 ⟨rfl, hb11⟩
        rw [Hm2.out]
        have HS2 := hid (HS.out.trans (hb11.mono HS.out.size))
        clear hb11
        refine hK.out _ _ HS2.out (fun _ => ?_)
        clear hK K
        clear HS
        have HS := HS2
        clear HS2
        try simp only [Act.put, List.getElem_toArray, List.getElem_cons_zero, List.getElem_cons_succ, List.setIfInBounds_toArray, List.set_cons_zero, List.set_cons_succ]
        refine wpAnyH_take (i := 7) (v := .bool (decide (digL X = digL Y))) rfl (by kernel_rfl) (by kernel_rfl) (by kernel_rfl) (fun _ _ _ h => h) (Or.inl ⟨by rfl, ?q7⟩) HS.out ?_
        case q7 => intro w hSw; go_simp
        simp only [Act.put, List.getElem_toArray, List.getElem_cons_zero, List.getElem_cons_succ, List.setIfInBounds_toArray, List.set_cons_zero, List.set_cons_succ]
        refine wpAnyH_take (i := 8) (v := .bool true) rfl (by kernel_rfl) (by kernel_rfl) (by kernel_rfl) (fun _ _ _ h => h) (Or.inl ⟨by rfl, ?q8⟩) HS.out ?_
        case q8 => intro w hSw; go_simp
        simp only [Act.put, List.getElem_toArray, List.getElem_cons_zero, List.getElem_cons_succ, List.setIfInBounds_toArray, List.set_cons_zero, List.set_cons_succ]
        refine wpAnyH_take (i := 9) (v := .bool true) rfl (by kernel_rfl) (by kernel_rfl) (by kernel_rfl) (fun _ _ _ h => h) (Or.inl ⟨by rfl, ?q9⟩) HS.out ?_
        case q9 => intro w hSw; go_simp
        simp only [Act.put, List.getElem_toArray, List.getElem_cons_zero, List.getElem_cons_succ, List.setIfInBounds_toArray, List.set_cons_zero, List.set_cons_succ]
        refine wpAnyH_done (by kernel_rfl) ?_ _
        have B12 := hid (B9.out.trans (HS.out.mono B9.out.size))
        go_wp2
        go_ret
        exact ⟨rfl, B12.out⟩
end Go.Proofs.YtokamemkfgpfpaaDoor
namespace Go.Proofs.YtokamemkfgpfpaaDoor
open Go Go.RowKit Go.ChangeShapes Go.WideShapes Go.ChangeAt
def shaLaid : List (String × DataW Unit) := [("strongroom/sha.constants", Rows.laid_strongroom_sha_constants)]
theorem gK : Tryd.prog.globalNamed "strongroom/sha.constants" = some 0 := by kernel_rfl
theorem tK : (Tryd.prog.globals[0]?).map (·.type) = some 101 := by kernel_rfl
theorem cK : Tryd.prog.cellsOf 35 = 1 := by kernel_rfl
theorem dK : (Rows.laid_strongroom_sha_constants : DataW Unit) = .agg (kW.map fun x : Nat => .lit (.int .u32 (x : Int))) := by kernel_rfl
theorem kc_of_laid {W : World} (h : laidMetH Tryd.prog shaLaid W) : KC W := by
  rw [MakeChecks.laidMetH_plain _ _ _ (by kernel_rfl)] at h
  obtain ⟨ps, ⟨g0, t0, cs0, f0, p0, q0, hg0, ht0, hv0, hd0, _, _⟩, _, _⟩ := h
  obtain rfl := Option.some.inj (gK.symm.trans hg0)
  obtain rfl := Option.some.inj (tK.symm.trans ht0)
  obtain ⟨xs, m, rfl, hx, hlen, hn, hel⟩ := DataW.trod_array Tryd.underlying101 hd0
  intro t ht
  have h1 := hel t ht
  have hxt : xs[t]? = some xs[t] := List.getElem?_eq_getElem (by omega)
  rw [cK, hxt] at h1
  obtain ⟨k, e1, e2, _⟩ := DataW.trod_int Tryd.underlying35 h1
  simp only [Prod.mk.injEq] at hx
  have hd := hx.1
  rw [dK] at hd
  simp only [DataW.agg.injEq] at hd
  have hd2 : (kW.map fun x : Nat => (DataW.lit (.int .u32 (x : Int)) : DataW Unit))[t]? = (xs.map (·.1))[t]? := by rw [hd]
  have hkt : t < kW.length := by rw [kW_length]; exact ht
  rw [List.getElem?_map, List.getElem?_map, hxt, List.getElem?_eq_getElem hkt] at hd2
  simp only [Option.map_some, Option.some.injEq, e2, DataW.lit.injEq, Lit.int.injEq, true_and] at hd2
  have hv := World.var?_cell hg0 hv0 t
  have hcs : cs0[t]? = some (.int .u32 k) := by
    have : ((cs0.toList.drop (t * 1)).take 1)[0]? = some (.int .u32 k) := by rw [e1]; rfl
    simpa using this
  rw [hv, hcs, ← hd2]
  simp [List.getD, List.getElem?_eq_getElem hkt]
end Go.Proofs.YtokamemkfgpfpaaDoor
