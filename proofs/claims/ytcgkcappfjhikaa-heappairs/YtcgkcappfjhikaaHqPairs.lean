/- HeapPairs, walked. -/
import Derived.Test.YtcgkcappfjhikaaHqPop
set_option linter.unusedVariables false
set_option linter.unusedSimpArgs false
namespace Go.Proofs.Ytcgkcappfjhikaa.Pq
open Go.Proofs.Ytcgkcappfjhikaa
open Go Go.RowKit

def DmP (p : Pr) : Prop := p.1.size < 9223372036854775808
def keyP (p : Pr) : Int := (p.1.size : Int)
set_option maxRecDepth 100000 in
set_option maxHeartbeats 4000000 in
theorem pairs1_any (w : World) (a b : Pr) (ha : DmP a) (hb : DmP b) : Calls Try.prog 26 #[.agg #[.string a.1, .int .i64 a.2], .agg #[.string b.1, .int .i64 b.2]] w fun e w' => e = .returned (.bool (decide (keyP a < keyP b))) ∧ Below w.heap.size w w' := by
  unfold DmP at ha hb
  have e : decide (keyP a < keyP b) = decide (a.1.size < b.1.size) := by unfold keyP; simp
  rw [e]
  clear e
  obtain ⟨s, x⟩ := a
  obtain ⟨t, y⟩ := b
  simp only at ha hb
  go_enter Try.func26, Try.ntmps26
  go_wp2
  go_ret
  exact ⟨rfl, ((Below.refl _ _).alloc (Nat.le_refl _) _).alloc (by simp) _⟩
theorem pairs_orc : Orc 26 #[] (fun _ => True) (fun _ => False) DmP (fun x y r => r = decide (keyP x < keyP y)) where
  ask := fun w x y _ hx hy => (pairs1_any w x y hx hy).mono fun e w' ⟨q1, q2⟩ => ⟨_, q1, rfl, trivial, Ex.of_below q2⟩
  stay := fun w w' h hk => trivial
  lt := fun w h k hk => hk.elim
  ent := fun args w => enters_of Try.func26 (by kernel_rfl) rfl args w
theorem pairs_ord : Ord True keyP (fun x y r => r = decide (keyP x < keyP y)) := fun _ a b r h => by rw [h]; simp
theorem hp_min {key : Pr → Int} {L : List (Rw Pr)} (h : hp key L) (hl : 0 < L.length) : rat L 0 ∈ L ∧ ∀ r ∈ L, ¬ ahd key r (rat L 0) := by
  refine ⟨rat_mem hl, fun r hr => ?_⟩
  obtain ⟨i, hi⟩ := List.mem_iff_getElem?.1 hr
  have := h.first i (List.getElem?_eq_some_iff.1 hi).1
  rw [rat_eq hi] at this
  exact this
/-- v is a row of n texts. -/
def HTq (w : World) (v : Value) (n : Nat) (f : Nat → ByteArray) : Prop :=
  ∃ (p : Option Addr) (c : Nat), v = .slice p n c ∧ (∀ j, j < n → (f j).size < 9223372036854775808) ∧ (0 < n → ∃ b off, p = some ⟨b, off, none⟩ ∧ ∀ j, j < n → w.cell? ⟨b, off + j, none⟩ = some (.string (f j)))
/-- What stands in the heap, of the texts up to i. -/
def PI (f : Nat → ByteArray) (L : List (Rw Pr)) : Prop := ∀ r ∈ L, r.x = (f r.t, (r.t : Int))
set_option maxRecDepth 100000 in
set_option maxHeartbeats 4000000 in
theorem hpairs_walk (w : World) (v : Value) (n : Nat) (f : Nat → ByteArray) (hv : HTq w v n f) (hn : n ≤ 8796093022208) :
    Calls Try.prog 5 #[v] w fun e w' => e = .returned (.bool true) ∧ Below w.heap.size w w' := by
  have C0 := hid (Go.Proofs.Ytcgkcappfjhikaa.lives_any w)
  have O := pairs_orc
  have hO := pairs_ord
  obtain ⟨p, c, rfl, hfs, hcell⟩ := hv
  have HFS := hid hfs
  have HCELL := hid hcell
  clear hfs hcell
  go_enter Try.func5, Try.ntmps5
  go_wp2_with fail
  refine C0.out.mono ?_
  rintro e w1 ⟨rfl, hb1⟩
  have B1 := hid hb1
  have C1 := hid (new_ok w1 26 #[])
  have L1 := hid (nh_lv O w1 trivial)
  clear hb1 C0
  go_wp2_with fail
  refine C1.out.mono ?_
  rintro e w2 ⟨rfl, hw2⟩
  have B2 : Hid (Below w.heap.size w w2) := hid (by rw [hw2]; exact B1.out.trans ((nh_ex (fun _ => False) w1 _).below B1.out.size (fun k hk => hk.elim)))
  rw [← hw2] at L1
  clear hw2 C1
  obtain ⟨S0, HS0⟩ : ∃ S0, Hid ((fun k => w1.heap.size ≤ k ∧ k < w2.heap.size) = S0) := ⟨_, rfl⟩
  rw [HS0.out] at L1
  have hlow0 : Hid (∀ k, S0 k → w.heap.size ≤ k) := hid (by rw [← HS0.out]; intro k hk; have := B1.out.size; omega)
  clear HS0
  obtain ⟨G, HG⟩ : ∃ G, Hid (w1.heap.size + 1 = G) := ⟨_, rfl⟩
  obtain ⟨M, HM⟩ : ∃ M, Hid (w1.heap.size = M) := ⟨_, rfl⟩
  rw [HG.out, HM.out] at L1
  rw [HG.out]
  clear HG HM
  go_wp2_with fail
  go_loopw [5] (fun vi wr => ∃ (i : Nat) (L : List (Rw Pr)) (v' : Value) (S : Nat → Prop), vi = .int .i64 (i : Int) ∧ i ≤ n ∧ Hid (Lv (fun _ => True) (fun _ => False) DmP 26 #[] wr G (ptr G) (some M) L i (-1) v' S) ∧ Hid (PI f L) ∧ Hid (L.length = i) ∧ Hid (hp keyP L) ∧ Hid (∀ k, S k → w.heap.size ≤ k) ∧ Hid (Below w.heap.size w wr)) (fun vi _ => n - (intOf vi).toNat)
  case atStart => exact ⟨0, [], _, S0, rfl, Nat.zero_le _, L1, hid (fun r h => by cases h), hid rfl, hid hp_nilq, hlow0, B2⟩
  case round =>
    obtain ⟨i, L, v', S, rfl, hi, HL, HPI, HLEN, HHP, HLOW, HB⟩ := hrel
    clear L1
    by_cases hlt : i < n
    · have hlt' : (i : Int) < (n : Int) := by omega
      obtain ⟨b, off, rfl, hcc⟩ := HCELL.out (by omega)
      have hc0 := hcc i hlt
      have hci : wr.cell? ⟨b, off + i, none⟩ = some (.string (f i)) := (HB.out.cell (World.block_lt_of_cell? w _ hc0)).trans hc0
      have CP := hid (push_ok O hO HL.out rfl (f i, (i : Int)) (HFS.out i hlt) (by omega))
      clear hcc hc0
      go_wp2_with fail
      refine CP.out.mono ?_
      rintro e w3 ⟨rfl, L', v2, S', b', hL', hE', hP', hq', hs'⟩
      have HB3 : Hid (Below w.heap.size w w3) := hid (HB.out.trans (hE'.down HB.out.size HLOW.out (fun k hk => hk.elim)))
      have HL' := hid hL'
      have HPI' : Hid (PI f L') := hid fun r hr => by
        rcases List.mem_cons.1 (hP'.subset hr) with q | q
        · rw [q]
        · exact HPI.out r q
      have HLEN' : Hid (L'.length = i + 1) := hid (by rw [hP'.length_eq, List.length_cons, HLEN.out])
      have HHP' := hid (hq' trivial HHP.out)
      have HLOW' : Hid (∀ k, S' k → w.heap.size ≤ k) := hid fun k hk => by
        rcases hs' k hk with q | q
        · exact HLOW.out k q
        · have := HB.out.size; omega
      clear CP hL' hE' hP' hq' hs' hci
      go_wp2_with fail
      exact ⟨⟨i + 1, L', v2, S', by go_num, by omega, HL', HPI', HLEN', HHP', HLOW', HB3⟩, by simp [intOf]; omega⟩
    · have hin : i = n := by omega
      subst hin
      have hge : ¬ (i : Int) < (i : Int) := by omega
      go_wp2_with fail
      have hz0 : (wr.alloc (.cells #[.string ⟨#[]⟩, .int .i64 (-1)] 62)).heap[wr.heap.size]? = some (.cells #[.string ⟨#[]⟩, .int .i64 (-1)] 62 (0, 0)) := heap_alloc_new wr _
      have HLwl : Hid (Lv (fun _ => True) (fun _ => False) DmP 26 #[] (wr.alloc (.cells #[.string ⟨#[]⟩, .int .i64 (-1)] 62)) G (ptr G) (some M) L i (-1) v' S) := hid (HL.out.out O (B := wr.heap.size) HL.out.hp.lt (fun k hk => hk.elim) (fun k hk => heap_alloc_old wr _ hk))
      have HS1 : Hid (∀ k, S k → w.heap.size ≤ k ∧ k < wr.heap.size) := hid fun k hk => ⟨HLOW.out k hk, HL.out.hp.lt k hk⟩
      have HBl : Hid (Below w.heap.size w (wr.alloc (.cells #[.string ⟨#[]⟩, .int .i64 (-1)] 62))) := hid (HB.out.alloc HB.out.size _)
      have hlbw : w.heap.size ≤ wr.heap.size := HB.out.size
      have HZ0 := hid hz0
      obtain ⟨lb, HLB⟩ : ∃ lb, Hid (wr.heap.size = lb) := ⟨_, rfl⟩
      rw [HLB.out] at HZ0 HS1 hlbw
      rw [HLB.out]
      obtain ⟨wl, HWL⟩ : ∃ wl, Hid (wr.alloc (.cells #[.string ⟨#[]⟩, .int .i64 (-1)] 62) = wl) := ⟨_, rfl⟩
      rw [HWL.out] at HZ0 HLwl HBl
      rw [HWL.out]
      clear HWL hz0 HLB HL HB HLOW
      go_loopw [9] (fun vi wr => ∃ (j : Nat) (L : List (Rw Pr)) (v' : Value) (S : Nat → Prop) (ls : ByteArray) (ln : Int), vi = .int .i64 (j : Int) ∧ j ≤ i ∧ Hid (Lv (fun _ => True) (fun _ => False) DmP 26 #[] wr G (ptr G) (some M) L i (-1) v' S) ∧ Hid (PI f L) ∧ Hid (L.length = i - j) ∧ Hid (hp keyP L) ∧ Hid (∀ k, S k → w.heap.size ≤ k ∧ k < lb) ∧ Hid (Below w.heap.size w wr) ∧ Hid (wr.heap[lb]? = some (.cells #[.string ls, .int .i64 ln] 62 (0, 0))) ∧ ls.size < 9223372036854775808 ∧ Hid (∀ r ∈ L, (ls.size : Int) < keyP r.x ∨ ((ls.size : Int) = keyP r.x ∧ ln < (r.t : Int)))) (fun vi _ => i - (intOf vi).toNat)
      case atStart => exact ⟨0, L, v', S, ⟨#[]⟩, -1, rfl, Nat.zero_le _, HLwl, HPI, hid (by rw [HLEN.out]; rfl), HHP, HS1, HBl, HZ0, by decide, hid (fun r _ => by
        have h1 : (ByteArray.size ⟨#[]⟩ : Int) = 0 := rfl
        have h2 : 0 ≤ keyP r.x := by unfold keyP; omega
        rw [h1]
        omega)⟩
      case round =>
        clear HLwl HPI HLEN HHP HS1 HBl HZ0
        obtain ⟨j, L, v', S, ls, ln, rfl, hj, HL, HPI, HLEN, HHP, HS, HB, HZ, hls, HLAST⟩ := hrel
        by_cases hlt : j < i
        · have hlt' : (j : Int) < (i : Int) := by omega
          have hl : 0 < L.length := by rw [HLEN.out]; omega
          have CP := hid (pop_some O hO HL.out hl)
          have mr := rat_mem hl
          have ex := HPI.out _ mr
          have tlt := HL.out.hp.tk _ mr
          rw [ex] at CP
          have HML := hid (hp_min HHP.out hl)
          have hla := HLAST.out _ mr
          rw [ex] at hla
          have hss := HFS.out _ tlt
          obtain ⟨b, off, rfl, hcc⟩ := HCELL.out (by omega)
          have hc0 := hcc _ tlt
          have HC0 := hid hc0
          obtain ⟨r, HR⟩ : ∃ r, Hid (rat L 0 = r) := ⟨_, rfl⟩
          rw [HR.out] at CP ex tlt HML hla hss HC0 mr
          clear hcc hc0
          go_wp2_with fail
          refine CP.out.mono ?_
          rintro e w3 ⟨rfl, L', v2, hL', hE', hP', hq'⟩
          have hUf : ∀ k, (fun _ : Nat => False) k → w.heap.size ≤ k := fun k hk => hk.elim
          have HB3 : Hid (Below w.heap.size w w3) := hid (HB.out.trans (hE'.down HB.out.size (fun k hk => (HS.out k hk).1) hUf))
          have hz3 := (hE'.block lb (Array.getElem?_eq_some_iff.1 HZ.out).1 (fun q => by
            rcases q with q | q
            · have := (HS.out lb q).2; omega
            · exact q)).trans HZ.out
          have hlb3 : lb < w3.heap.size := (Array.getElem?_eq_some_iff.1 hz3).1
          have z0 : w3.cell? ⟨lb, 0, none⟩ = some (.string ls) := by rw [cell_of_row _ _ _ _ _ _ hz3]; rfl
          have z1 : w3.cell? ⟨lb, 1, none⟩ = some (.int .i64 ln) := by rw [cell_of_row _ _ _ _ _ _ hz3]; rfl
          have f0 := free_of hz3 0
          have f1 := free_of hz3 1
          have hbw : b < w.heap.size := World.block_lt_of_cell? w _ HC0.out
          have hct : w3.cell? ⟨b, off + r.t, none⟩ = some (.string (f r.t)) := (HB3.out.cell (World.block_lt_of_cell? w _ HC0.out)).trans HC0.out
          have hb3 : b < w3.heap.size := by have := HB3.out.size; omega
          have HL' := hid hL'
          have HZ3 := hid hz3
          have HPI' : Hid (PI f L') := hid fun q hq => HPI.out q (hP'.symm.subset (List.mem_cons_of_mem _ hq))
          have HLEN' : Hid (L'.length = i - (j + 1)) := hid (by have := hP'.length_eq; rw [List.length_cons, HLEN.out] at this; omega)
          have HHP' := hid (hq' trivial HHP.out)
          have HNX : Hid (∀ q ∈ L', ((f r.t).size : Int) < keyP q.x ∨ (((f r.t).size : Int) = keyP q.x ∧ (r.t : Int) < (q.t : Int))) := hid fun q hq => by
            have h1 := HML.out.2 q (hP'.symm.subset (List.mem_cons_of_mem _ hq))
            have h2 : q.t ≠ r.t := by
              have := (hP'.map (·.t)).nodup_iff.1 HL.out.hp.one
              rw [List.map_cons, List.nodup_cons] at this
              exact fun e => this.1 (List.mem_map.2 ⟨q, hq, e⟩)
            have h3 : keyP r.x = ((f r.t).size : Int) := by rw [ex]; rfl
            unfold ahd at h1
            rw [h3] at h1
            omega
          clear CP hL' hE' hP' hq' hz3 HML
          have t0 : decide ((r.t : Int) < 0) = false := by simp
          have t1 : (r.t : Int) < (i : Int) := by omega
          have t2 : decide ((i : Int) ≤ (r.t : Int)) = false := by simp; omega
          have t3 : ¬ ((i : Int) ≤ (r.t : Int)) := by omega
          unfold keyP at hla
          simp only at hla
          obtain ⟨s, HSS⟩ : ∃ s, Hid (f r.t = s) := ⟨_, rfl⟩
          obtain ⟨T, HT⟩ : ∃ T, Hid (r.t = T) := ⟨_, rfl⟩
          rw [HSS.out] at hct hla hss HNX
          rw [HSS.out]
          rw [HT.out] at hct hla t0 t1 t2 t3 tlt HNX
          rw [HT.out]
          clear mr ex
          go_wp2_with fail
          have hp4 : (w3.alloc (.cells #[.string s, .int .i64 (T : Int)] 62)).heap[w3.heap.size]? = some (.cells #[.string s, .int .i64 (T : Int)] 62 (0, 0)) := heap_alloc_new w3 _
          have hz4 := (heap_alloc_old w3 (.cells #[.string s, .int .i64 (T : Int)] 62) hlb3).trans HZ3.out
          have hct4 : (w3.alloc (.cells #[.string s, .int .i64 (T : Int)] 62)).cell? ⟨b, off + T, none⟩ = some (.string s) := (World.cell?_of_block (a := ⟨b, off + T, none⟩) (heap_alloc_old w3 _ hb3)).trans hct
          have HB4 : Hid (Below w.heap.size w (w3.alloc (.cells #[.string s, .int .i64 (T : Int)] 62))) := hid (HB3.out.alloc HB3.out.size _)
          have HL4 : Hid (Lv (fun _ => True) (fun _ => False) DmP 26 #[] (w3.alloc (.cells #[.string s, .int .i64 (T : Int)] 62)) G (ptr G) (some M) L' i (-1) v2 (fun k => S k ∧ k ≠ r.b)) := hid (HL'.out.out O (B := lb) (fun k hk => (HS.out k hk.1).2) (fun k hk => hk.elim) (fun k hk => heap_alloc_old w3 _ (by omega)))
          obtain ⟨pb, HPB⟩ : ∃ pb, Hid (w3.heap.size = pb) := ⟨_, rfl⟩
          rw [HPB.out] at hp4 hlb3
          rw [HPB.out]
          obtain ⟨w4, HW4⟩ : ∃ w4, Hid (w3.alloc (.cells #[.string s, .int .i64 (T : Int)] 62) = w4) := ⟨_, rfl⟩
          rw [HW4.out] at hp4 hz4 hct4 HB4 HL4
          rw [HW4.out]
          clear HW4 HPB HZ3 z0 z1 f0 f1 hct HB3 HL' hb3
          have p0 : w4.cell? ⟨pb, 0, none⟩ = some (.string s) := by rw [cell_of_row _ _ _ _ _ _ hp4]; rfl
          have p1 : w4.cell? ⟨pb, 1, none⟩ = some (.int .i64 (T : Int)) := by rw [cell_of_row _ _ _ _ _ _ hp4]; rfl
          have z0 : w4.cell? ⟨lb, 0, none⟩ = some (.string ls) := by rw [cell_of_row _ _ _ _ _ _ hz4]; rfl
          have z1 : w4.cell? ⟨lb, 1, none⟩ = some (.int .i64 ln) := by rw [cell_of_row _ _ _ _ _ _ hz4]; rfl
          have f0 := free_of hz4 0
          have f1 := free_of hz4 1
          have HZ4 := hid hz4
          clear hp4 hz4
          go_quiet (fail)
          have hz0' : (w4.drewN nq).heap[lb]? = _ := HZ4.out
          have HZ5 := hid hz0'
          have HB5 : Hid (Below w.heap.size w (w4.drewN nq)) := hid (HB4.out.trans ((Dr.one w4 nq).below _))
          have HL5 : Hid (Lv (fun _ => True) (fun _ => False) DmP 26 #[] (w4.drewN nq) G (ptr G) (some M) L' i (-1) v2 (fun k => S k ∧ k ≠ r.b)) := hid (HL4.out.out O (B := lb) (fun k hk => (HS.out k hk.1).2) (fun k hk => hk.elim) (fun k hk => rfl))
          clear hz0' HZ4 HB4 HL4
          have fin : ∀ W, W = ((w4.drewN nq).setCell ⟨lb, 0, none⟩ (.string s)).setCell ⟨lb, 1, none⟩ (.int .i64 (T : Int)) → ∃ (j' : Nat) (L : List (Rw Pr)) (v' : Value) (S : Nat → Prop) (ls : ByteArray) (ln : Int), Value.int .i64 ((j : Int) + 1) = .int .i64 (j' : Int) ∧ j' ≤ i ∧ Hid (Lv (fun _ => True) (fun _ => False) DmP 26 #[] W G (ptr G) (some M) L i (-1) v' S) ∧ Hid (PI f L) ∧ Hid (L.length = i - j') ∧ Hid (hp keyP L) ∧ Hid (∀ k, S k → w.heap.size ≤ k ∧ k < lb) ∧ Hid (Below w.heap.size w W) ∧ Hid (W.heap[lb]? = some (.cells #[.string ls, .int .i64 ln] 62 (0, 0))) ∧ ls.size < 9223372036854775808 ∧ Hid (∀ r ∈ L, (ls.size : Int) < keyP r.x ∨ ((ls.size : Int) = keyP r.x ∧ ln < (r.t : Int))) := by
            intro W hW
            subst hW
            refine ⟨j + 1, L', v2, (fun k => S k ∧ k ≠ r.b), s, (T : Int), by go_num, by omega, hid (HL5.out.out O (B := lb) (fun k hk => (HS.out k hk.1).2) (fun k hk => hk.elim) (fun k hk => (bk_other (by omega) _ _).trans (bk_other (by omega) _ _))), HPI', HLEN', HHP', hid (fun k hk => HS.out k hk.1), hid ((HB5.out.setCell hlbw _).setCell hlbw _), hid ?_, hss, HNX⟩
            have := bk_set (bk_set HZ5.out 0 (.string s)) 1 (.int .i64 (T : Int))
            simpa using this
          have FIN := hid fin
          clear fin
          by_cases hA : (ls.size : Int) < (s.size : Int)
          · have a1 : ¬ (s.size : Int) < (ls.size : Int) := by omega
            have a2 : ¬ (s.size : Int) = (ls.size : Int) := by omega
            have a3 : (s.size == ls.size) = false := by simp; omega
            have a4 : decide (s.size < ls.size) = false := by simp; omega
            go_wp2_with fail
            exact ⟨FIN.out _ rfl, by simp [intOf]; omega⟩
          · have a2 : (s.size : Int) = (ls.size : Int) := by omega
            have a5 : ln < (T : Int) := by omega
            have a6 : ¬ (T : Int) ≤ ln := by omega
            have a1 : ¬ (s.size : Int) < (ls.size : Int) := by omega
            have a4 : decide (s.size < ls.size) = false := by simp; omega
            have a3 : (s.size == ls.size) = true := by simp; omega
            go_wp2_with fail
            exact ⟨FIN.out _ rfl, by simp [intOf]; omega⟩
        · have hji : j = i := by omega
          have hge' : ¬ (j : Int) < (i : Int) := by omega
          have hL0 : L = [] := List.length_eq_zero_iff.1 (by rw [HLEN.out]; omega)
          subst hL0
          have CP := hid (pop_none O HL.out)
          go_wp2_with fail
          refine CP.out.mono ?_
          rintro e w3 ⟨rfl, hE3⟩
          have HB3 : Hid (Below w.heap.size w w3) := hid (HB.out.trans (hE3.below HB.out.size (fun k hk => (HS.out k hk).1)))
          clear CP hE3
          go_wp2_with fail
          go_ret
          exact ⟨rfl, HB3.out.alloc HB3.out.size _⟩
end Go.Proofs.Ytcgkcappfjhikaa.Pq
