/- Sorted, walked: the things of a list, the least first. -/
import Derived.Test.YtcgkcappfjhikaaHpDrain
import Derived.Test.YtcgkcappfjhikaaIntsA
set_option linter.unusedVariables false
set_option linter.unusedSimpArgs false
namespace Go.Proofs.Ytcgkcappfjhikaa
open Go Go.RowKit
/-- A row's ticket and thing. -/
def prR (r : Rw Int) : Nat × Int := (r.t, r.x)
/-- The first i things of a list, each with its place. -/
def idxL (l : List Int) (i : Nat) : List (Nat × Int) := (List.range i).map fun k => (k, l.getD k 0)
theorem idxL_succ (l : List Int) (i : Nat) : idxL l (i + 1) = idxL l i ++ [(i, l.getD i 0)] := by simp [idxL, List.range_succ]
theorem idxL_length (l : List Int) (i : Nat) : (idxL l i).length = i := by simp [idxL]
theorem own_ex {S : Nat → Prop} {w w' : World} {B e n : Nat} {v : Value} {xs : List Value} (h : w.ownsRow B e 1 v n xs) (he : Ex S w w') (hn : ∀ b, v.ownBlock = some b → ¬ S b) : w'.ownsRow B e 1 v n xs := by
  refine ⟨h.1, ?_⟩
  rcases h.2 with q | ⟨b, cap, cur, hv, hb, hw, q⟩
  · exact .inl q
  · exact .inr ⟨b, cap, cur, hv, hb, (he.block b (Array.getElem?_eq_some_iff.1 hw).1 (hn b (by rw [hv]; rfl))).trans hw, q⟩
theorem own_bne {w : World} {B e n : Nat} {v : Value} {xs : List Value} (h : w.ownsRow B e 1 v n xs) {g : Nat} {cur : Array Value} {e' : TypeId} {fz : Nat × Nat} (hg : w.heap[g]? = some (.cells cur e' fz)) (hne : e ≠ e') : v.ownBlock ≠ some g := by
  intro hv
  rcases h.2 with ⟨rfl, _⟩ | ⟨g', cap, cur', rfl, _, hh, _⟩
  · simp [Value.ownBlock] at hv
  · simp only [Value.ownBlock, Option.some.injEq] at hv
    subst hv
    rw [hh] at hg
    simp only [Option.some.injEq, Obj.cells.injEq] at hg
    exact hne hg.2.1
theorem own_ge {w : World} {B e n : Nat} {v : Value} {xs : List Value} (h : w.ownsRow B e 1 v n xs) : ∀ b, v.ownBlock = some b → B ≤ b ∧ b < w.heap.size := fun b hb => by
  rcases h.2 with ⟨rfl, _⟩ | ⟨g', cap, cur', rfl, hB, hh, _⟩
  · cases hb
  · cases hb
    exact ⟨hB, (Array.getElem?_eq_some_iff.1 hh).1⟩
section
variable {J : World → Prop} {U : Nat → Prop} {Dm : Int → Prop} {fid : Nat} {fr : Array Value} {Ls : Int → Int → Bool → Prop} {ord : Prop} {key : Int → Int}
/-- What Sorted answers of l. -/
def SoQ (ord : Prop) (key : Int → Int) (l : List Int) (R : List (Rw Int)) : Prop := (R.map prR).Perm (idxL l l.length) ∧ (ord → R.Pairwise (ahd key))
def SdQ (ord : Prop) (key : Int → Int) (J : World → Prop) (U : Nat → Prop) (w : World) (l : List Int) (vo : Value) (w' : World) : Prop :=
  ∃ R : List (Rw Int), w'.ownsRow w.heap.size 3 1 vo l.length ((R.map (·.x)).map (Value.int .i64)) ∧ SoQ ord key l R ∧ J w' ∧ Ex U w w'
theorem SoQ.length {l : List Int} {R : List (Rw Int)} (h : SoQ ord key l R) : R.length = l.length := by
  have := h.1.length_eq
  rw [idxL_length, List.length_map] at this
  exact this
set_option maxRecDepth 100000 in
set_option maxHeartbeats 4000000 in
theorem sorted_any (O : Orc fid fr J U Dm Ls) (hO : Ord ord key Ls) (w : World) (vl : Value) (l : List Int) (hl : I.HB w vl l) (hj : J w) (hD : ∀ x ∈ l, Dm x) (hbig : l.length ≤ 17592186043904) :
    Calls Try.prog 16 #[vl, .func (.func fid) #[] fr] w fun e w' => ∃ vo, e = .returned (.tuple #[vo, .int .i64 0]) ∧ SdQ ord key J U w l vo w' := by
  obtain ⟨i0, hi0, hz0, hz1, hz2⟩ := info_parts info_int
  have C1 := hid (new_ok w fid fr)
  have L1 := hid (nh_lv O w hj)
  have HUW := hid (O.lt w hj)
  have HL := hid hl
  have HD := hid hD
  have HJ := hid hj
  obtain ⟨pl, cl, hvl, _, _⟩ := hl.open
  subst hvl
  clear hl hD hj
  go_enter Try.func16, Try.ntmps16
  go_wp2_with fail
  refine C1.out.mono ?_
  rintro e w2 ⟨rfl, hw2⟩
  rw [← hw2] at L1
  have B2 : Hid (Below w.heap.size w w2) := hid (by rw [hw2]; exact (nh_ex (fun _ => False) w _).below (Nat.le_refl _) (fun k hk => hk.elim))
  clear hw2 C1
  obtain ⟨S0, HS0⟩ : ∃ S0, Hid ((fun k => w.heap.size ≤ k ∧ k < w2.heap.size) = S0) := ⟨_, rfl⟩
  rw [HS0.out] at L1
  have hlow0 : Hid (∀ k, S0 k → w.heap.size ≤ k ∧ k < w2.heap.size) := hid (by rw [← HS0.out]; intro k hk; exact hk)
  clear HS0
  obtain ⟨G, HG⟩ : ∃ G, Hid (w.heap.size + 1 = G) := ⟨_, rfl⟩
  rw [HG.out] at L1
  rw [HG.out]
  have CC := hid (I.sclone_any w2 _ l (HL.out.below B2.out) (by omega))
  obtain ⟨n, hn⟩ : ∃ n, Hid (l.length = n) := ⟨_, rfl⟩
  rw [hn.out] at CC hbig
  rw [hn.out]
  go_wp2_with fail
  refine CC.out.mono ?_
  rintro e w3 ⟨vc, rfl, hownc, hb3⟩
  have B3 : Hid (Below w.heap.size w w3) := hid (B2.out.trans (hb3.mono B2.out.size))
  have HOC := hid hownc
  have hbc : Hid (∀ b, vc.ownBlock = some b → w2.heap.size ≤ b) := hid fun b hb => (own_ge hownc b hb).1
  have L3 : Hid (Lv J U Dm fid fr w3 G (ptr G) (some w.heap.size) [] 0 (-1) (.slice none 0 0) S0) := hid
    ⟨L1.out.hp.of (fun k hk => hb3.block k (L1.out.hp.lt k hk)), O.stay _ _ L1.out.j (fun k hk => hb3.block k (O.lt _ L1.out.j k hk)), L1.out.ap, L1.out.dm⟩
  obtain ⟨pc, cc, hvc⟩ := own_slc hownc
  subst hvc
  clear hownc hb3 CC L1
  have hw23 : w.heap.size ≤ w2.heap.size := B2.out.size
  go_wp2_with fail
  go_loopw [24] (fun vi wr => ∃ (i : Nat) (L : List (Rw Int)) (v' : Value) (S : Nat → Prop), vi = .int .i64 (i : Int) ∧ i ≤ n ∧ Hid (Lv J U Dm fid fr wr G (ptr G) (some w.heap.size) L i (-1) v' S) ∧ Hid ((L.map prR).Perm (idxL l i)) ∧ Hid (ord → hp key L) ∧ Hid (∀ k, S k → w.heap.size ≤ k) ∧ Hid (∀ b, (Value.slice pc n cc).ownBlock = some b → ¬ S b ∧ ¬ U b) ∧ Hid (wr.ownsRow w2.heap.size 3 1 (.slice pc n cc) n (l.map (Value.int .i64))) ∧ Hid (Ex U w wr)) (fun vi _ => n - (intOf vi).toNat)
  case atStart => exact ⟨0, [], _, S0, rfl, Nat.zero_le _, L3, hid (List.Perm.refl _), hid (fun _ => hp_nil), hid (fun k hk => (hlow0.out k hk).1), hid (fun b hb => ⟨fun q => by have := hbc.out b hb; have := (hlow0.out b q).2; omega, fun q => by have := hbc.out b hb; have := HUW.out b q; omega⟩), HOC, hid (Ex.of_below B3.out)⟩
  case round =>
    clear L3 HOC B3
    obtain ⟨i, L, v', S, rfl, hi, HLv, HPM, HHP, HLOW, HNC, HOC, HEX⟩ := hrel
    by_cases hlt : i < n
    · have hlt' : (i : Int) < (n : Int) := by omega
      have hci : ∃ b, pc = some ⟨b, 0, none⟩ ∧ wr.cell? ⟨b, i, none⟩ = some (.int .i64 (l.getD i 0)) := by
        rcases HOC.out.2 with ⟨_, q⟩ | ⟨b, cap, cur, hv, _, hw, q1, q2, q3, q4⟩
        · omega
        · simp only [Value.slice.injEq] at hv
          refine ⟨b, hv.1, ?_⟩
          rw [cell_of_row _ _ _ _ _ _ hw]
          have e : (cur.toList.take (n * 1))[i]? = (l.map (Value.int .i64))[i]? := by rw [q4]
          have hil : i < l.length := by rw [hn.out]; exact hlt
          rw [List.getElem?_take, if_pos (by omega), List.getElem?_map, List.getElem?_eq_getElem hil] at e
          rw [getD_of_lt hil]
          simpa using e
      obtain ⟨b, rfl, hcell⟩ := hci
      obtain ⟨x, HX⟩ : ∃ x, Hid (l.getD i 0 = x) := ⟨_, rfl⟩
      have hDx : Dm x := by
        have hil : i < l.length := by rw [hn.out]; exact hlt
        rw [← HX.out, getD_of_lt hil]
        exact HD.out _ (List.getElem_mem hil)
      rw [HX.out] at hcell
      have CP := hid (push_ok O hO HLv.out rfl x hDx (by omega))
      clear hDx
      go_wp2_with fail
      refine CP.out.mono ?_
      rintro e w4 ⟨rfl, L', v2, S', b', hL', hE', hP', hq', hs'⟩
      have HL' := hid hL'
      have HPM' : Hid ((L'.map prR).Perm (idxL l (i + 1))) := hid (by
        rw [idxL_succ, HX.out]
        refine (hP'.map prR).trans ?_
        rw [List.map_cons]
        exact ((HPM.out.cons _).trans (List.perm_append_comm (l₁ := [(i, x)]))))
      have HHP' : Hid (ord → hp key L') := hid fun o => hq' o (HHP.out o)
      have hwr := HEX.out.size
      have HLOW' : Hid (∀ k, S' k → w.heap.size ≤ k) := hid fun k hk => by
        rcases hs' k hk with q | q
        · exact HLOW.out k q
        · omega
      have hown4 := own_ex HOC.out hE' (fun b hb q => by
        rcases q with q | q
        · exact (HNC.out b hb).1 q
        · exact (HNC.out b hb).2 q)
      have hclt := own_ge HOC.out
      have HNC' : Hid (∀ c, (Value.slice (some ⟨b, 0, none⟩) n cc).ownBlock = some c → ¬ S' c ∧ ¬ U c) := hid fun c hc => ⟨fun q => by
        rcases hs' c q with z | z
        · exact (HNC.out c hc).1 z
        · have := (hclt c hc).2; omega, (HNC.out c hc).2⟩
      have HOC' := hid hown4
      have HEX' : Hid (Ex U w w4) := hid (HEX.out.trans hE' (fun k hk => by
        rcases hk with z | z
        · exact .inr (HLOW.out k z)
        · exact .inl z))
      clear CP hL' hE' hP' hq' hs' hcell hown4 hclt HOC HNC HEX HLOW HLv HHP HPM
      go_wp2_with fail
      exact ⟨⟨i + 1, L', v2, S', by go_num, by omega, HL', HPM', HHP', HLOW', HNC', HOC', HEX'⟩, by simp [intOf]; omega⟩
    · have hin : i = n := by omega
      subst hin
      have hge : ¬ (i : Int) < (i : Int) := by omega
      have CL := hid (len_ok HLv.out.hp)
      have hLl : L.length = i := by have := HPM.out.length_eq; rw [idxL_length, List.length_map] at this; exact this
      rw [hLl] at CL
      go_wp2_with fail
      refine CL.out.mono ?_
      rintro e w4 ⟨rfl, hw4⟩
      rw [hw4]
      clear hw4 CL
      have hwr := HEX.out.size
      go_wp2_with (at_make; refine wpList_make_own _ rfl _ _ 42 rfl wr.heap.size 3 i0 (.int .i64 0) 1 Try.underlying42 hi0 hz0 hz1 .i64 .i64 _ i rfl rfl rfl ?b2 ?b3 (Nat.le_refl _) ?_)
      case b2 => rw [hz2]; omega
      case b3 => unfold maxLen; omega
      intro w5 hown5 hgr5
      have L5 : Hid (Lv J U Dm fid fr w5 G (ptr G) (some w.heap.size) L i (-1) v' S) := hid
        ⟨HLv.out.hp.of (fun k hk => hgr5.block k (HLv.out.hp.lt k hk) (fun e => by cases e)), O.stay _ _ HLv.out.j (fun k hk => hgr5.block k (O.lt _ HLv.out.j k hk) (fun e => by cases e)), HLv.out.ap, HLv.out.dm⟩
      have E5 : Hid (Ex U w w5) := hid (HEX.out.trans (Ex.grown (S := U) hgr5 (fun k hk => by cases hk)) (fun _ q => .inl q))
      have HSlt : Hid (∀ k, S k → k < wr.heap.size) := hid HLv.out.hp.lt
      have HUlt : Hid (∀ k, U k → k < wr.heap.size) := hid (O.lt _ HLv.out.j)
      have CD := hid (drained_any O hO L5.out (by omega))
      have HO5 := hid hown5
      have hs5 : wr.heap.size ≤ w5.heap.size := hgr5.size
      clear hown5 hgr5 HOC HNC
      go_wp2_with fail
      refine CD.out.mono ?_
      rintro e w6 ⟨vo, rfl, R, hJ6, hE6, hP6, ho6, hr6, hq6⟩
      have HSO : Hid (SoQ ord key l R) := hid ⟨by rw [hn.out]; exact (hP6.map prR).trans HPM.out, fun o => hq6 o (HHP.out o)⟩
      have hRl : R.length = i := by rw [hP6.length_eq]; exact hLl
      have HRS : Hid (∀ r ∈ R, r.b < wr.heap.size) := hid fun r hr => HSlt.out _ (hr6 r hr).2
      have HR6 : Hid (∀ r ∈ R, ∃ j, HRow w6 r j) := hid fun r hr => (hr6 r hr).1
      have HO6 : Hid (w6.ownsRow wr.heap.size 3 1 (.slice (some ⟨wr.heap.size, 0, none⟩) 0 i) 0 (((R.take 0).map (·.x)).map (Value.int .i64))) := hid (own_ex HO5.out hE6 (fun b hb q => by
        cases hb
        rcases q with q | q
        · exact absurd (HSlt.out _ q) (Nat.lt_irrefl _)
        · exact absurd (HUlt.out _ q) (Nat.lt_irrefl _)))
      have E6 : Hid (Ex U w w6) := hid (E5.out.trans hE6 (fun k hk => by
        rcases hk with z | z
        · exact .inr (HLOW.out k z)
        · exact .inl z))
      have hs6 : wr.heap.size ≤ w6.heap.size := Nat.le_trans hs5 hE6.size
      have HV6 := hid ho6
      have HJ6 := hid hJ6
      obtain ⟨po, co, hvo⟩ := own_slc ho6
      subst hvo
      rw [hRl] at HV6
      rw [hRl]
      clear hJ6 hE6 hP6 ho6 hr6 hq6 CD HO5 L5 HLv HPM HHP HLOW HEX E5
      obtain ⟨N, HNN⟩ : ∃ N, Hid (wr.heap.size = N) := ⟨_, rfl⟩
      rw [HNN.out] at HSlt HUlt HRS HO6 hwr hs5 hs6
      rw [HNN.out]
      go_wp2_with fail
      go_loopw [10, 38] (fun vs vi wz => ∃ k : Nat, vi = .int .i64 (k : Int) ∧ k ≤ i ∧ N ≤ wz.heap.size ∧ Hid (wz.ownsRow N 3 1 vs k (((R.take k).map (·.x)).map (Value.int .i64))) ∧ Hid (wz.ownsRow w5.heap.size 80 1 (.slice po i co) i (R.map fun r => ptr r.b)) ∧ Hid (∀ r ∈ R, ∃ j, HRow wz r j) ∧ Hid (J wz) ∧ Hid (Ex U w wz)) (fun _ vi _ => i - (intOf vi).toNat)
      case atStart => exact ⟨0, rfl, Nat.zero_le _, hs6, HO6, HV6, HR6, HJ6, E6⟩
      case round =>
        clear HO6 HV6 HR6 HJ6 E6
        obtain ⟨k, rfl, hk, hNz, HOs, HOv, HRw, HJz, HEz⟩ := hrel
        by_cases hlt2 : k < i
        · have hlt2' : (k : Int) < (i : Int) := by omega
          have hkR : k < R.length := by rw [hRl]; exact hlt2
          have mk := rat_mem hkR
          have hci : ∃ b, po = some ⟨b, 0, none⟩ ∧ wr.cell? ⟨b, k, none⟩ = some (ptr (rat R k).b) := by
            rcases HOv.out.2 with ⟨_, q⟩ | ⟨b, cap, cur, hv, _, hw, q1, q2, q3, q4⟩
            · omega
            · simp only [Value.slice.injEq] at hv
              refine ⟨b, hv.1, ?_⟩
              rw [cell_of_row _ _ _ _ _ _ hw]
              have e : (cur.toList.take (i * 1))[k]? = (R.map fun r => ptr r.b)[k]? := by rw [q4]
              rw [List.getElem?_take, if_pos (by omega), List.getElem?_map, rat_some hkR] at e
              simpa using e
          obtain ⟨b, rfl, hcell⟩ := hci
          obtain ⟨jj, hrow⟩ := HRw.out _ mk
          have hx1 := hrow.c.2.1
          have HT : Hid ((((R.take (k + 1)).map (·.x)).map (Value.int .i64)) = (((R.take k).map (·.x)).map (Value.int .i64)) ++ [.int .i64 (rat R k).x]) := hid (by
            have e : R.take (k + 1) = R.take k ++ [rat R k] := by
              rw [List.take_add_one, rat_some hkR]
              rfl
            rw [e]
            simp)
          obtain ⟨r, HR⟩ : ∃ r, Hid (rat R k = r) := ⟨_, rfl⟩
          rw [HR.out] at hcell hx1 HT
          clear hrow mk
          have hsz := HEz.out.size
          have HGE := hid (own_ge HOs.out)
          obtain ⟨ps, cs, hvs⟩ := own_slc HOs.out
          subst hvs
          go_wp2_with (at_builtin; refine I.wpList_append_byte rfl _ _ rfl N _ k _ rfl (HOs.out.alloc _) ⟨wr.heap.size, 0, none⟩ 1 r.x rfl (by simp) ?q1 ?q2 ?_)
          case q1 => omega
          case q2 => omega
          intro v7 w7 hown7 hgr7 hor7
          have hk7 : ∀ x, x < wr.heap.size → some x ≠ (Value.slice ps k cs).ownBlock → w7.heap[x]? = wr.heap[x]? := fun x hx hne => (hgr7.block x (by show x < (wr.heap.push _).size; rw [Array.size_push]; omega) hne).trans (heap_alloc_old wr _ hx)
          have hlo : ∀ x, x < N → w7.heap[x]? = wr.heap[x]? := fun x hx => hk7 x (by omega) (fun e => by have := (HGE.out x e.symm).1; omega)
          have hs7 : wr.heap.size ≤ w7.heap.size := by
            have := hgr7.size
            simp at this
            omega
          have HOs7 : Hid (w7.ownsRow N 3 1 v7 (k + 1) (((R.take (k + 1)).map (·.x)).map (Value.int .i64))) := hid (by rw [HT.out, List.map_map, List.map_take]; exact hown7)
          have HOv7 : Hid (w7.ownsRow w5.heap.size 80 1 (.slice (some ⟨b, 0, none⟩) i co) i (R.map fun r => ptr r.b)) := by
            refine hid ⟨HOv.out.1, ?_⟩
            rcases HOv.out.2 with q | ⟨b', cap, cur, hv, hb, hw, q⟩
            · exact .inl q
            · exact .inr ⟨b', cap, cur, hv, hb, (hk7 b' (Array.getElem?_eq_some_iff.1 hw).1 (fun e => own_bne HOs.out hw (by decide) e.symm)).trans hw, q⟩
          have HRw7 : Hid (∀ r ∈ R, ∃ j, HRow w7 r j) := hid fun q hq => by
            obtain ⟨j, hj⟩ := HRw.out q hq
            exact ⟨j, (hlo q.b (HRS.out q hq)).trans hj⟩
          have HJ7 : Hid (J w7) := hid (O.stay _ _ HJz.out (fun x hx => hlo x (HUlt.out x hx)))
          have HE7 : Hid (Ex U w w7) := hid ⟨hgr7.os.trans HEz.out.os, hgr7.tape.trans HEz.out.tape, hgr7.output.trans HEz.out.output, Nat.le_trans HEz.out.size hs7, fun x hx hns => (hlo x (by omega)).trans (HEz.out.block x hx hns)⟩
          obtain ⟨p7, c7, hv7⟩ := own_slc hown7
          subst hv7
          clear hown7 hgr7 hor7 hk7 hlo
          go_wp2_with fail
          exact ⟨⟨k + 1, by go_num, by omega, by omega, HOs7, HOv7, HRw7, HJ7, HE7⟩, by simp [intOf]; omega⟩
        · have hki : k = i := by omega
          have hge2 : ¬ (k : Int) < (i : Int) := by omega
          have HF : Hid (wr.ownsRow w.heap.size 3 1 u10 i ((R.map (·.x)).map (Value.int .i64))) := hid (by
            have := own_mono HOs.out hwr
            rw [hki, List.take_of_length_le (by omega)] at this
            exact this)
          go_wp2_with fail
          go_ret2
          exact ⟨u10, rfl, R, by rw [hn.out]; exact HF.out, HSO.out, HJz.out, HEz.out⟩
end
end Go.Proofs.Ytcgkcappfjhikaa
