/- Of the road to uebWriteCard_holds: UbPack, UbChk, OpensUb, UbWrite. -/
import Derived.Test.YtklklldmhoofnaaDoorG01
import Derived.Test.YtklklldmhoofnaaDoorG02
import Derived.Laws.BytesString
import Derived.Test.YtklklldmhoofnaaDoorG00
import Derived.ChangeArms
set_option linter.unusedVariables false
set_option linter.unusedSimpArgs false
namespace Go.Proofs.YtklklldmhoofnaaDoor
open Go Go.RowKit
theorem wpList_bytes_strD {ops : Array Oper} {rest : List Oper} {o : Oper} {a : Act} {w : World} {Q : Exit → Act → World → Prop} (hgd : o.guard = none) (x : Operand) (ho : o.op = .convert 9 26 x) (s : ByteArray) (hx : a.eval x = .string s) (hs : s.size ≤ 140737488355328)
    (h : ∀ c w', HB w' (.slice (some ⟨w.heap.size, 0, none⟩) s.size c) (sB s) → Below w.heap.size w w' → w'.heap.size = w.heap.size + 1 → wpList Tryd.prog ops Q rest (a.put o.dst (.slice (some ⟨w.heap.size, 0, none⟩) s.size c)) w') : wpList Tryd.prog ops Q (o :: rest) a w :=
  wpList_plain hgd fun _ hK => by
    have hr := run_bytes_of_string (P := Tryd.prog) w 9 26 5 s Tryd.underlying9 Tryd.underlying26 Tryd.underlying5
    unfold Oper.wp
    simp only [execOp, ho, hx, Sem.run_bind, hr, Result.andThen_ok]
    have hge := grownCap_ge w s.size 0 5
    have hle := grownCap_le_maxLen w s.size 0 5 (by unfold maxLen; omega)
    refine hK _ _ (h _ _ ⟨⟨_, _, by rw [sB_length], by rw [sB_length]; exact hge, hle, (fun e => by cases e), fun _ => ⟨w.heap.size, 0, rfl, fun j hj => ?_⟩⟩, sB_byt s⟩ ((Below.refl _ w).drew.alloc (Nat.le_refl _) _) (by simp))
    have hb : (w.drew.alloc (.cells (bytesRow s (grownCap w s.size 0 5)) 5 ((bytesRow s (grownCap w s.size 0 5)).size, (bytesRow s (grownCap w s.size 0 5)).size + 1))).heap[w.heap.size]? = some (.cells (bytesRow s (grownCap w s.size 0 5)) 5 ((bytesRow s (grownCap w s.size 0 5)).size, (bytesRow s (grownCap w s.size 0 5)).size + 1)) := heap_alloc_new w.drew _
    rw [cell_of_row _ _ _ _ _ _ hb]
    have hj2 : j < s.data.size := by rw [sB_length] at hj; exact hj
    have hj3 : j < s.size := hj2
    simp [bytesRow, Array.getElem?_append, hj3, sB, List.getD, Array.getElem?_eq_getElem hj2]
theorem row_len_le {r : Rw} {last : ByteArray} (h : okRow last r) : (rowL r).length ≤ 70000 := by
  obtain ⟨_, h1, h2⟩ := h
  unfold rowL
  rw [List.length_append, fld_len, fld_len, sB_length]
  have := dec_len_small r.1.size (by omega)
  have := dec_len_small r.2.length (by omega)
  omega
theorem pack_len_le : ∀ (rs : List Rw) (last : ByteArray), okRows last rs → (packL rs).length ≤ rs.length * 70000
  | [], _, _ => by simp [packL]
  | r :: t, last, h => by
    rw [packL, List.length_append, List.length_cons]
    have := row_len_le h.1
    have := pack_len_le t r.1 h.2
    omega
def pkL (rs : List Rw) : List Int := if mayT rs then packL rs else []
def pkE (rs : List Rw) : Int := if mayT rs then 0 else 130
theorem okRows_get {rs : List Rw} {k : Nat} (h : k < rs.length) (hm : mayT rs) : okRow (lastN noS (rs.take k)) (rs.getD k rw0) := by
  have := okRows_take hm.2 (k + 1)
  rw [take_snoc h, okRows_snoc] at this
  exact this.2
set_option maxRecDepth 100000 in
set_option maxHeartbeats 4000000 in
theorem pack_any (w : World) (v : Value) (rs : List Rw) (h : HRw w v rs) (hk : KP w) :
    Calls Tryd.prog 21 #[v] w fun e w' => ∃ v', e = .returned (.tuple #[v', .int .i64 (pkE rs)]) ∧ w'.ownsRow w.heap.size 5 1 v' (pkL rs).length ((pkL rs).map (Value.int .u8)) ∧ Below w.heap.size w w' := by
  have C := hid (mayBe_any w v rs h)
  obtain ⟨p, c, rfl, hlc, hcm, hrow⟩ := h.open
  have HR := hid hrow
  have HK := hid hk
  clear hrow h hk
  have hm63 : rs.length ≤ 9223372036854775807 := by unfold maxLen at hcm; omega
  obtain ⟨n, HN⟩ : ∃ n, Hid (rs.length = n) := ⟨_, rfl⟩
  rw [HN.out] at hlc hm63 C
  rw [HN.out]
  by_cases hm : mayT rs
  · have e1 : pkE rs = 0 := by unfold pkE; rw [if_pos hm]
    have e2 : pkL rs = packL rs := by unfold pkL; rw [if_pos hm]
    have HM := hid hm
    rw [decide_eq_true hm] at C
    rw [e1, e2]
    have h64 : n ≤ 64 := by have := hm.1; have := HN.out; omega
    clear e1 e2 hm
    go_enter Tryd.func21, Tryd.ntmps21
    go_wp2_with fail
    refine C.out.mono ?_
    rintro e w1 ⟨rfl, hb1⟩
    have B1 := hid hb1
    clear hb1 C
    go_wp2
    go_loopw [4, 12] (fun o i wr => ∃ k : Nat, k ≤ n ∧ i = .int .i64 (k : Int) ∧ Hid (wr.ownsRow w.heap.size 5 1 o (packL (rs.take k)).length ((packL (rs.take k)).map (Value.int .u8))) ∧ Hid (Below w.heap.size w wr)) (fun _ i _ => n - (intOf i).toNat)
    case atStart => exact ⟨0, Nat.zero_le _, rfl, by simp [packL]; exact World.ownsRow_nil _ _ _ _, B1.out⟩
    case round =>
      obtain ⟨k, hk, rfl, HO, HB0⟩ := hrel
      have hsz := HB0.out.size
      obtain ⟨lo, HL⟩ : ∃ x, Hid (packL (rs.take k) = x) := ⟨_, rfl⟩
      rw [HL.out] at HO
      have hll : lo.length ≤ 5000000 := by
        rw [← HL.out]
        have := pack_len_le _ _ (okRows_take HM.out.2 k)
        have h2 : (rs.take k).length ≤ 64 := by rw [List.length_take]; omega
        omega
      by_cases hlt : k < n
      · obtain ⟨b, off, rfl, hbl, hcell⟩ := HR.out (by have := HN.out; omega)
        obtain ⟨u, hu, hv⟩ := hcell k (by have := HN.out; omega)
        have hok := okRows_get (k := k) (by have := HN.out; omega) HM.out
        obtain ⟨⟨s, l⟩, Hx⟩ : ∃ x, Hid (rs.getD k rw0 = x) := ⟨_, rfl⟩
        rw [Hx.out] at hu hv hok
        have HU := hid (range_below2 hu HB0.out hbl)
        have hs64 : s.size ≤ 64 := hok.2.1
        have hl6 : l.length ≤ 65536 := hok.2.2
        obtain ⟨pu, cu, rfl, hlu, hcu⟩ := hv.open
        have HV0 := hid hv
        have HV := hid (hv.below HB0.out)
        clear hu hv hcell hok
        have HSZ := hid size_row
        have hs47 : s.size ≤ 140737488355328 := by omega
        go_wp2_with (first | (refine wpList_load_mid rfl 49 _ rfl b (off + k * 2) rfl [.string s, .slice pu l.length cu] _ HU.out Tryd.underlying49 rfl HSZ.out ?_) | (refine wpList_bytes_strD rfl _ rfl s rfl hs47 ?_))
        intro c2 w2 hf2 hb2 hz2
        have hA := (Below.refl wr.heap.size wr).alloc (Nat.le_refl _) (.cells #[.string s, .slice pu l.length cu] 49)
        have B2 := hid ((HB0.out.alloc hsz (.cells #[.string s, .slice pu l.length cu] 49)).trans (hb2.mono (by omega)))
        have hzz : (wr.alloc (.cells #[.string s, .slice pu l.length cu] 49)).heap.size = wr.heap.size + 1 := by simp
        rw [← hzz] at hb2
        have HO2 := hid (own_below (own_below HO.out hA) hb2)
        have hs2 : w2.heap.size = wr.heap.size + 2 := by omega
        have hc2 : w2.cell? ⟨wr.heap.size, 1, none⟩ = some (.slice pu l.length cu) := by
          rw [hb2.cell (by simp)]
          simp
        have HL0 : Hid (∀ q, u4.ownBlock = some q → w.heap.size ≤ q ∧ q < wr.heap.size) := hid fun q e => HO.out.lt q e
        have HV2 := hid ((HV.out.below hA).below hb2)
        have C1 := appendField_any w2 w.heap.size u4 _ lo (sB s) HO2.out hf2 (by
          intro b' o' n' c' hv' _ he
          have := HL0.out _ he
          injection hv' with hv'
          injection hv' with hv'
          injection hv' with hv'
          omega) (by rw [sB_length]; omega) (by omega) (by omega) (HK.out.below B2.out)
        have C1 := hid C1
        clear hf2 hb2 hA hz2 hzz
        go_wp2_with fail
        refine C1.out.mono ?_
        rintro e w3 ⟨v3, rfl, hown3, hb3, hg3⟩
        have B3 := hid (B2.out.trans (hb3.mono (Nat.le_refl _)))
        have hc3 : w3.cell? ⟨wr.heap.size, 1, none⟩ = some (.slice pu l.length cu) := hg3.cell hc2 (by
          intro q
          have := HL0.out wr.heap.size q.symm
          omega)
        obtain ⟨l3, H3⟩ : ∃ x : List Int, Hid (lo ++ fld (sB s) = x) := ⟨_, hid rfl⟩
        rw [H3.out] at hown3
        have HO3 := hid hown3
        have hl3 : l3.length ≤ 5000100 := by
          rw [← H3.out, List.length_append, fld_len, sB_length]
          have := dec_len_small s.size (by omega)
          omega
        have hs3 := hb3.size
        have HV3 := hid (HV0.out.below B3.out)
        have C2 := appendField_any w3 w.heap.size v3 (.slice pu l.length cu) l3 l HO3.out HV3.out (by
          intro b' o' n' c' hv' h0 he
          have h1 := HO3.out.lt _ he
          have h2 := HV0.out.lt h0 hv'
          omega) (by omega) (by omega) (by omega) (HK.out.below B3.out)
        have C2 := hid C2
        clear hown3 hb3 hg3 C1 hc2
        go_wp2_with fail
        refine C2.out.mono ?_
        rintro e w4 ⟨v4, rfl, hown4, hb4, hg4⟩
        have B4 := hid (B3.out.trans (hb4.mono (Nat.le_refl _)))
        have HO4 : Hid (w4.ownsRow w.heap.size 5 1 v4 (packL (rs.take (k + 1))).length ((packL (rs.take (k + 1))).map (Value.int .u8))) := by
          refine hid ?_
          have e : packL (rs.take (k + 1)) = l3 ++ fld l := by
            rw [take_snoc (by have := HN.out; omega), packL_snoc, Hx.out, HL.out, ← H3.out]
            unfold rowL
            simp
          rw [e]
          exact hown4
        clear hown4 hb4 hg4 C2 hc3
        go_wp2
        exact ⟨⟨k + 1, by omega, by go_num, HO4, B4⟩, by simp [intOf]; omega⟩
      · have e : rs.take k = rs := List.take_of_length_le (by have := HN.out; omega)
        have HO' : Hid (wr.ownsRow w.heap.size 5 1 u4 (packL rs).length ((packL rs).map (Value.int .u8))) := by
          refine hid ?_
          have := HL.out
          rw [e] at this
          rw [this]
          exact HO.out
        go_wp2
        go_ret2
        exact ⟨_, rfl, HO'.out, HB0.out⟩
  · have e1 : pkE rs = 130 := by unfold pkE; rw [if_neg hm]
    have e2 : pkL rs = [] := by unfold pkL; rw [if_neg hm]
    rw [decide_eq_false hm] at C
    rw [e1, e2]
    clear e1 e2 hm
    go_enter Tryd.func21, Tryd.ntmps21
    go_wp2_with fail
    refine C.out.mono ?_
    rintro e w1 ⟨rfl, hb1⟩
    have B1 := hid hb1
    clear hb1 C
    go_wp2
    go_ret2
    exact ⟨_, rfl, World.ownsRow_nil _ _ _ _, B1.out⟩
structure Ub where
  k : Int
  n : Int
  g : Int
  z : Int
  a : List Int
  b : List Int
def Ub.ok (u : Ub) : Prop := (u.a.length = 32 ∧ Byt8 u.a) ∧ u.b.length = 32 ∧ Byt8 u.b
def ubL (u : Ub) : List Value := .int .i64 u.k :: .int .i64 u.n :: .int .i64 u.g :: .int .i64 u.z :: (u.a.map (Value.int .u8) ++ u.b.map (Value.int .u8))
def ubA (u : Ub) : Array Value := (ubL u).toArray
theorem ubL_length {u : Ub} (h : u.ok) : (ubL u).length = 68 := by simp [ubL, h.1.1, h.2.1]
theorem ubA_size {u : Ub} (h : u.ok) : (ubA u).size = 68 := by rw [ubA, List.size_toArray]; exact ubL_length h
theorem ubA_one (u : Ub) : (ubA u).all (·.oneCell') = true := by
  rw [Array.all_eq_true_iff_forall_mem]
  intro v hv
  have hv' : v ∈ ubL u := by simpa [ubA] using hv
  unfold ubL at hv'
  simp only [List.mem_cons, List.mem_append, List.mem_map] at hv'
  rcases hv' with rfl | rfl | rfl | rfl | ⟨x, _, rfl⟩ | ⟨x, _, rfl⟩ <;> rfl
theorem size_ueb : (Tryd.prog.info? 25).map (·.size) = some 68 := by kernel_rfl
theorem size_ub {u : Ub} (h : u.ok) : (Tryd.prog.info? 25).map (·.size) = some (ubA u).size := by rw [ubA_size h]; exact size_ueb
def zeros32' : List Int := List.replicate 32 0
def ub0 : Ub := ⟨0, 0, 0, 0, zeros32', zeros32'⟩
theorem ub0_ok : ub0.ok := ⟨⟨rfl, fun x hx => by have := (List.mem_replicate.1 hx).2; omega⟩, rfl, fun x hx => by have := (List.mem_replicate.1 hx).2; omega⟩
theorem zero_ueb : (Tryd.prog.info? 25).map (·.zero) = some (some (.agg (ubA ub0))) := by kernel_rfl
def chE (u : Ub) : Int := if OkS u.k u.n u.g u.z then 0 else 133
set_option maxRecDepth 100000 in
set_option maxHeartbeats 4000000 in
theorem ucheck_any (w : World) (u : Ub) (hu : u.ok) : Calls Tryd.prog 10 #[.agg (ubA u)] w fun e w' => e = .returned (.int .i64 (chE u)) ∧ Below w.heap.size w w' := by
  have C := hid fun w => again_hand w u.k u.n u.g u.z
  have HS := hid (size_ub hu)
  have H1 := hid (ubA_one u)
  have q0 : (ubA u)[0]? = some (.int .i64 u.k) := rfl
  have q1 : (ubA u)[1]? = some (.int .i64 u.n) := rfl
  have q2 : (ubA u)[2]? = some (.int .i64 u.g) := rfl
  have q3 : (ubA u)[3]? = some (.int .i64 u.z) := rfl
  obtain ⟨m, HM⟩ : ∃ x, Hid (ubA u = x) := ⟨_, rfl⟩
  obtain ⟨k, Hk⟩ : ∃ x, Hid (u.k = x) := ⟨_, rfl⟩
  obtain ⟨n, Hn⟩ : ∃ x, Hid (u.n = x) := ⟨_, rfl⟩
  obtain ⟨g, Hg⟩ : ∃ x, Hid (u.g = x) := ⟨_, rfl⟩
  obtain ⟨z, Hz⟩ : ∃ x, Hid (u.z = x) := ⟨_, rfl⟩
  rw [Hk.out, Hn.out, Hg.out, Hz.out] at C
  rw [Hk.out] at q0
  rw [Hn.out] at q1
  rw [Hg.out] at q2
  rw [Hz.out] at q3
  rw [HM.out] at HS H1 q0 q1 q2 q3 ⊢
  have E : Hid (chE u = if OkS k n g z then 0 else 133) := by unfold chE; rw [Hk.out, Hn.out, Hg.out, Hz.out]; exact rfl
  rw [E.out]
  by_cases hok : OkS k n g z
  · have e1 : agE k n g z = 0 := by unfold agE; rw [if_pos hok]
    rw [if_pos hok]
    have C : Hid (∀ w, Calls Tryd.prog 24 #[.int .i64 k, .int .i64 n, .int .i64 g, .int .i64 z] w fun e w' => ∃ cs, e = .returned (.tuple #[.agg cs, .int .i64 0]) ∧ cs.size = 8 ∧ cs.all (·.oneCell') = true ∧ Below w.heap.size w w') := by
      rw [← e1]
      exact C.out
    clear e1 hok
    go_enter Tryd.func10, Tryd.ntmps10
    go_wp2_with fail
    refine (C.out _).mono ?_
    rintro e w1 ⟨cs, rfl, hcs, hone, hb1⟩
    have B1 := hid ((((Below.refl _ w).alloc (Nat.le_refl _) _)).trans (hb1.mono (by simp)))
    have hsz := B1.out.size
    have HC1 : Hid ((Tryd.prog.info? 51).map (·.size) = some cs.size) := by refine hid ?_; rw [hcs]; exact size_shape
    have HC2 : Hid ((shA sh0).size = cs.size) := by refine hid ?_; rw [hcs]; exact rfl
    have HC3 := hid hone
    clear hb1 hcs hone
    go_wp2_with (refine wpList_store_row rfl 51 _ _ rfl w1.heap.size cs rfl rfl 51 (shA sh0) (heap_alloc_new w1 _) HC1.out HC2.out HC3.out ?_)
    go_ret
    exact ⟨rfl, bel_setRow (B1.out.alloc hsz _) (by omega) _⟩
  · have e1 : agE k n g z = 92 := by unfold agE; rw [if_neg hok]
    rw [if_neg hok]
    have C : Hid (∀ w, Calls Tryd.prog 24 #[.int .i64 k, .int .i64 n, .int .i64 g, .int .i64 z] w fun e w' => ∃ cs, e = .returned (.tuple #[.agg cs, .int .i64 92]) ∧ cs.size = 8 ∧ cs.all (·.oneCell') = true ∧ Below w.heap.size w w') := by
      rw [← e1]
      exact C.out
    clear e1 hok
    go_enter Tryd.func10, Tryd.ntmps10
    go_wp2_with fail
    refine (C.out _).mono ?_
    rintro e w1 ⟨cs, rfl, hcs, hone, hb1⟩
    have B1 := hid ((((Below.refl _ w).alloc (Nat.le_refl _) _)).trans (hb1.mono (by simp)))
    have hsz := B1.out.size
    have HC1 : Hid ((Tryd.prog.info? 51).map (·.size) = some cs.size) := by refine hid ?_; rw [hcs]; exact size_shape
    have HC2 : Hid ((shA sh0).size = cs.size) := by refine hid ?_; rw [hcs]; exact rfl
    have HC3 := hid hone
    clear hb1 hcs hone
    go_wp2_with (refine wpList_store_row rfl 51 _ _ rfl w1.heap.size cs rfl rfl 51 (shA sh0) (heap_alloc_new w1 _) HC1.out HC2.out HC3.out ?_)
    go_ret
    exact ⟨rfl, bel_setRow (B1.out.alloc hsz _) (by omega) _⟩
theorem sB_nS (n : Nat) : sB (nS (n : Int)) = dgL n := by unfold nS sB dgL; rw [if_neg (by omega)]; simp
theorem ch_ok {u : Ub} (h : chE u = 0) : OkS u.k u.n u.g u.z := by
  unfold chE at h
  by_cases q : OkS u.k u.n u.g u.z
  · exact q
  · rw [if_neg q] at h; omega
theorem ch_or (u : Ub) : chE u = 0 ∨ chE u = 133 := by unfold chE; by_cases q : OkS u.k u.n u.g u.z <;> simp [q]
set_option maxRecDepth 100000 in
set_option maxHeartbeats 4000000 in
theorem udigits_any (w : World) (x : Int) (h0 : 0 ≤ x) (h1 : x ≤ 2147483647) (hk : KP w) : Calls Tryd.prog 22 #[.int .i64 x] w fun e w' => ∃ v, e = .returned v ∧ HB w' v (dgL x.toNat) ∧ Below w.heap.size w w' := by
  have C := number_tab w x (by omega) (by omega) hk
  have e2 : nE x = 0 := by unfold nE; rw [if_neg (by omega)]
  have e3 : nS x = nS ((x.toNat : Nat) : Int) := by rw [Int.toNat_of_nonneg h0]
  have hsz := nS_size x.toNat
  have hsB : sB (nS ((x.toNat : Nat) : Int)) = dgL x.toNat := sB_nS _
  have hd : (dgL x.toNat).length ≤ 10 := by
    rw [dgL_length]
    have := dec_len_mono 2147483647 x.toNat (by omega)
    have h2 : (Lib.decDigits 2147483647).length = 10 := by decide +kernel
    omega
  rw [e2, e3] at C
  obtain ⟨D, HD⟩ : ∃ D, Hid (nS ((x.toNat : Nat) : Int) = D) := ⟨_, rfl⟩
  rw [HD.out] at C hsB hsz
  have hs47 : D.size ≤ 140737488355328 := by omega
  have C := hid C
  have HSB := hid hsB
  clear hsB hsz hd e2 e3
  go_enter Tryd.func22, Tryd.ntmps22
  go_wp2_with fail
  refine C.out.mono ?_
  rintro e w1 ⟨rfl, hb1⟩
  have B1 := hid hb1
  clear hb1 C
  go_wp2_with (refine wpList_bytes_strD rfl _ rfl D rfl hs47 ?_)
  intro c2 w2 hf2 hb2 hz2
  rw [HSB.out] at hf2
  have HF := hid hf2
  have B2 := hid (B1.out.trans (hb2.mono B1.out.size))
  clear hf2 hb2 hz2
  go_wp2
  go_ret
  exact ⟨_, rfl, HF.out, B2.out⟩
end Go.Proofs.YtklklldmhoofnaaDoor
namespace Go.Proofs.YtklklldmhoofnaaDoor
open Go.ChangeShapes Go.WideShapes Go.ChangeAt Go.RowKit
variable {H : Type} {enc : TypeId × Value → H} {W : World}
theorem Opn.cells_digU : Tryd.prog.cellsOf 23 = 32 := by kernel_rfl
theorem Opn.cells_intU : Tryd.prog.cellsOf 3 = 1 := by kernel_rfl
theorem Opn.cells_ueb : Tryd.prog.cellsOf 25 = 68 := by kernel_rfl
theorem open_digU {base fuel : Nat} {cs : List Value} {x : DataW H × List MemPlace} (h : DataW.trod enc Tryd.prog W base (fun _ => true) true fuel 23 cs = some x) : ∃ d : List Int, (d.length = 32 ∧ Byt8 d) ∧ cs = d.map (Value.int .u8) := by
  obtain ⟨xs, m, rfl, rfl, hl, hxl, hx⟩ := DataW.trod_array Tryd.underlying23 h
  rw [Opn.cells_digU] at hl
  have each : ∀ j, j < 32 → ∃ k : Int, (0 ≤ k ∧ k < 256) ∧ cs[j]? = some (.int .u8 k) := fun j hj => by
    have hj2 := hx j hj
    rw [Opn.cells_u8, List.getElem?_eq_getElem (by omega)] at hj2
    obtain ⟨z, e1, _, w1⟩ := DataW.trod_int Tryd.underlying5 hj2
    refine ⟨z, by have := bounds_u8 w1; omega, ?_⟩
    have e2 : ((cs.drop (j * 1)).take 1)[0]? = some (.int .u8 z) := by rw [e1]; rfl
    rw [List.getElem?_take, if_pos (by decide), List.getElem?_drop] at e2
    simpa using e2
  refine ⟨(List.range 32).map fun j => if hj : j < 32 then Classical.choose (each j hj) else 0, ⟨by simp, fun y hy => ?_⟩, ?_⟩
  · obtain ⟨j, hj, rfl⟩ := List.mem_map.1 hy
    have hj' := List.mem_range.1 hj
    simp only [hj', dif_pos]
    exact (Classical.choose_spec (each j hj')).1
  · rw [List.map_map]
    refine List.ext_getElem? fun j => ?_
    by_cases hj : j < 32
    · rw [(Classical.choose_spec (each j hj)).2]
      simp [hj]
    · rw [List.getElem?_eq_none (by omega), List.getElem?_eq_none (by simp; omega)]
theorem open_intU {base fuel : Nat} {cs : List Value} {x : DataW H × List MemPlace} (h : DataW.trod enc Tryd.prog W base (fun _ => true) true fuel 3 cs = some x) : ∃ z : Int, cs = [.int .i64 z] := by
  obtain ⟨z, e1, _, w1⟩ := DataW.trod_int Tryd.underlying3 h
  exact ⟨z, e1⟩
theorem part_of {cs : List Value} {o n : Nat} {l : List Value} (h : (cs.drop o).take n = l) (hn : l.length = n) (m : List Value) (hm : cs.drop (o + n) = m) : cs.drop o = l ++ m := by
  rw [← List.take_append_drop n (cs.drop o), h, List.drop_drop, hm]
set_option maxRecDepth 100000 in
theorem open_ubV {base : Nat} {v : Value} {d : DataW H} {p : List MemPlace} (hv : Value.okWide Tryd.prog W .any base 25 v) (h : DataW.Trod enc Tryd.prog W 0 (fun _ => true) true 25 v d p) : ∃ u : Ub, u.ok ∧ v = .agg (ubA u) := by
  simp only [Value.okWide, Tryd.underlying25] at hv
  obtain ⟨ca, rfl, _⟩ := hv
  obtain ⟨m, hm⟩ := h
  obtain ⟨xs, n, rfl, _, hl, hxl, hf⟩ := DataW.trod_struct Tryd.underlying25 hm
  rw [Opn.cells_ueb] at hl
  obtain ⟨cs, hcs⟩ : ∃ cs : List Value, ca.toList = cs := ⟨_, rfl⟩
  have hl : cs.length = 68 := by rw [← hcs]; exact hl
  have g : ∀ (i : Nat) (f : Field), _ → DataW.trod enc Tryd.prog W 0 (fun _ => true) true n f.type ((cs.drop f.offset).take (Tryd.prog.cellsOf f.type)) = xs[i]? := fun i f hi => by rw [← hcs]; exact hf i f hi
  have hx : ∀ i, i < 6 → ∃ x, xs[i]? = some x := fun i hi => ⟨_, List.getElem?_eq_getElem (by rw [hxl]; exact hi)⟩
  obtain ⟨x0, e0⟩ := hx 0 (by omega)
  obtain ⟨x1, e1⟩ := hx 1 (by omega)
  obtain ⟨x2, e2⟩ := hx 2 (by omega)
  obtain ⟨x3, e3⟩ := hx 3 (by omega)
  obtain ⟨x4, e4⟩ := hx 4 (by omega)
  obtain ⟨x5, e5⟩ := hx 5 (by omega)
  have f0 : DataW.trod enc Tryd.prog W 0 (fun _ => true) true n 3 ((cs.drop 0).take (Tryd.prog.cellsOf 3)) = xs[0]? := g 0 _ rfl
  have f1 : DataW.trod enc Tryd.prog W 0 (fun _ => true) true n 3 ((cs.drop 1).take (Tryd.prog.cellsOf 3)) = xs[1]? := g 1 _ rfl
  have f2 : DataW.trod enc Tryd.prog W 0 (fun _ => true) true n 3 ((cs.drop 2).take (Tryd.prog.cellsOf 3)) = xs[2]? := g 2 _ rfl
  have f3 : DataW.trod enc Tryd.prog W 0 (fun _ => true) true n 3 ((cs.drop 3).take (Tryd.prog.cellsOf 3)) = xs[3]? := g 3 _ rfl
  have f4 : DataW.trod enc Tryd.prog W 0 (fun _ => true) true n 23 ((cs.drop 4).take (Tryd.prog.cellsOf 23)) = xs[4]? := g 4 _ rfl
  have f5 : DataW.trod enc Tryd.prog W 0 (fun _ => true) true n 23 ((cs.drop 36).take (Tryd.prog.cellsOf 23)) = xs[5]? := g 5 _ rfl
  rw [e0, Opn.cells_intU] at f0
  rw [e1, Opn.cells_intU] at f1
  rw [e2, Opn.cells_intU] at f2
  rw [e3, Opn.cells_intU] at f3
  rw [e4, Opn.cells_digU] at f4
  rw [e5, Opn.cells_digU] at f5
  obtain ⟨k, q0⟩ := open_intU f0
  obtain ⟨nn, q1⟩ := open_intU f1
  obtain ⟨gg, q2⟩ := open_intU f2
  obtain ⟨z, q3⟩ := open_intU f3
  obtain ⟨a, a1, q4⟩ := open_digU f4
  obtain ⟨b, b1, q5⟩ := open_digU f5
  refine ⟨⟨k, nn, gg, z, a, b⟩, ⟨a1, b1⟩, ?_⟩
  have h6 : cs.drop 68 = [] := List.drop_eq_nil_of_le (by omega)
  have h5 := part_of q5 (by simp [b1.1]) _ h6
  have h4 := part_of q4 (by simp [a1.1]) _ h5
  have h3 := part_of q3 rfl _ h4
  have h2 := part_of q2 rfl _ h3
  have h1 := part_of q1 rfl _ h2
  have h0 := part_of q0 rfl _ h1
  rw [List.drop_zero] at h0
  congr 1
  apply Array.ext'
  rw [hcs, h0]
  simp [ubA, ubL]
end Go.Proofs.YtklklldmhoofnaaDoor
namespace Go.Proofs.YtklklldmhoofnaaDoor
open Go Go.RowKit
def nmK : ByteArray := ⟨#[107]⟩
def nmN : ByteArray := ⟨#[110]⟩
def nmSeg : ByteArray := ⟨#[115, 101, 103]⟩
def nmSegs : ByteArray := ⟨#[115, 101, 103, 109, 101, 110, 116, 115]⟩
def nmShares : ByteArray := ⟨#[115, 104, 97, 114, 101, 115]⟩
def nmSize : ByteArray := ⟨#[115, 105, 122, 101]⟩
def ubRows (u : Ub) : List Rw := [(nmK, dgL u.k.toNat), (nmN, dgL u.n.toNat), (nmSeg, dgL u.g.toNat), (nmSegs, u.b), (nmShares, u.a), (nmSize, dgL u.z.toNat)]
def RB (u : Ub) : Prop := (0 ≤ u.k ∧ u.k ≤ 2147483647) ∧ (0 ≤ u.n ∧ u.n ≤ 2147483647) ∧ (0 ≤ u.g ∧ u.g ≤ 2147483647) ∧ 0 ≤ u.z ∧ u.z ≤ 2147483647
theorem dg_len_int (x : Int) (h : x ≤ 2147483647) : (dgL x.toNat).length ≤ 65536 := by
  rw [dgL_length]
  have := dec_len_mono 2147483647 x.toNat (by omega)
  have h2 : (Lib.decDigits 2147483647).length = 10 := by decide +kernel
  omega
theorem OkS.le {k n g z : Int} (h : OkS k n g z) : (0 ≤ k ∧ k ≤ 2147483647) ∧ (0 ≤ n ∧ n ≤ 2147483647) ∧ (0 ≤ g ∧ g ≤ 2147483647) ∧ 0 ≤ z ∧ z ≤ 2147483647 := by
  obtain ⟨h1, h2, h3, h4, h5, h6, h7, h8, h9⟩ := h
  have := most_lt h1 (by omega)
  omega
theorem nm_up : leS nmK noS = false ∧ leS nmN nmK = false ∧ leS nmSeg nmN = false ∧ leS nmSegs nmSeg = false ∧ leS nmShares nmSegs = false ∧ leS nmSize nmShares = false := by decide +kernel
theorem ubRows_may {u : Ub} (hu : u.ok) (h : OkS u.k u.n u.g u.z) : mayT (ubRows u) := by
  obtain ⟨q1, q2, q3, q4⟩ := h.le
  obtain ⟨p1, p2, p3, p4, p5, p6⟩ := nm_up
  refine ⟨by simp [ubRows], ⟨p1, (by show nmK.size ≤ 64; decide +kernel), dg_len_int _ q1.2⟩, ⟨p2, (by show nmN.size ≤ 64; decide +kernel), dg_len_int _ q2.2⟩, ⟨p3, (by show nmSeg.size ≤ 64; decide +kernel), dg_len_int _ q3.2⟩, ⟨p4, (by show nmSegs.size ≤ 64; decide +kernel), ?_⟩, ⟨p5, (by show nmShares.size ≤ 64; decide +kernel), ?_⟩, ⟨p6, (by show nmSize.size ≤ 64; decide +kernel), dg_len_int _ q4.2⟩, trivial⟩
  · show u.b.length ≤ 65536
    rw [hu.2.1]; omega
  · show u.a.length ≤ 65536
    rw [hu.1.1]; omega
def wrL (u : Ub) : List Int := if chE u = 0 then packL (ubRows u) else []
theorem HB_part {w : World} {m : Array Value} {blk o : Nat} {T : TypeId} {l : List Int} (hb : w.heap[blk]? = some (.cells m T (0, 0))) (hl : l.length = 32) (hy : Byt8 l) (hm : ∀ j, j < 32 → m[o + j]? = some (.int .u8 (l.getD j 0))) : HB w (.slice (some ⟨blk, o, none⟩) 32 32) l := by
  refine ⟨⟨_, 32, by rw [hl], by omega, by unfold maxLen; omega, (fun e => by cases e), fun _ => ⟨blk, o, rfl, fun j hj => ?_⟩⟩, hy⟩
  rw [hl] at hj
  rw [cell_of_row _ _ _ _ _ _ hb]
  exact hm j hj
theorem ubA_a {u : Ub} (hu : u.ok) (j : Nat) (hj : j < 32) : (ubA u)[4 + j]? = some (.int .u8 (u.a.getD j 0)) := by
  have h1 := hu.1.1
  unfold ubA ubL
  rw [List.getElem?_toArray, show 4 + j = j + 4 by omega]
  simp only [List.getElem?_cons_succ]
  rw [List.getElem?_append_left (by simp; omega), List.getElem?_map, List.getElem?_eq_getElem (by omega : j < u.a.length)]
  simp [List.getD, List.getElem?_eq_getElem (by omega : j < u.a.length)]
theorem ubA_b {u : Ub} (hu : u.ok) (j : Nat) (hj : j < 32) : (ubA u)[36 + j]? = some (.int .u8 (u.b.getD j 0)) := by
  have h1 := hu.1.1
  have h2 := hu.2.1
  unfold ubA ubL
  rw [List.getElem?_toArray, show 36 + j = (32 + j) + 4 by omega]
  simp only [List.getElem?_cons_succ]
  rw [List.getElem?_append_right (by simp; omega), List.length_map, h1, show 32 + j - 32 = j by omega, List.getElem?_map, List.getElem?_eq_getElem (by omega : j < u.b.length)]
  simp [List.getD, List.getElem?_eq_getElem (by omega : j < u.b.length)]
set_option maxRecDepth 100000 in
set_option maxHeartbeats 16000000 in
theorem uwrite_any (wz : World) (u : Ub) (hu : u.ok) (hkp : KP wz) : Calls Tryd.prog 7 #[.agg (ubA u)] wz fun e w' => ∃ v', e = .returned (.tuple #[v', .int .i64 (chE u)]) ∧ w'.ownsRow wz.heap.size 5 1 v' (wrL u).length ((wrL u).map (Value.int .u8)) ∧ Below wz.heap.size wz w' := by
  have C := hid fun w => ucheck_any w u hu
  have HS := hid (size_ub hu)
  have q0 : (ubA u)[0]? = some (.int .i64 u.k) := rfl
  have q1 : (ubA u)[1]? = some (.int .i64 u.n) := rfl
  have q2 : (ubA u)[2]? = some (.int .i64 u.g) := rfl
  have q3 : (ubA u)[3]? = some (.int .i64 u.z) := rfl
  have HA := hid (ubA_a hu)
  have HB := hid (ubA_b hu)
  have HKP := hid hkp
  by_cases hok : chE u = 0
  · have hle := (ch_ok hok).le
    have hmay := ubRows_may hu (ch_ok hok)
    have e1 : wrL u = packL (ubRows u) := by unfold wrL; rw [if_pos hok]
    rw [hok] at C
    rw [hok, e1]
    have HMAY := hid hmay
    obtain ⟨m, HM⟩ : ∃ x, Hid (ubA u = x) := ⟨_, rfl⟩
    obtain ⟨k, Hk⟩ : ∃ x, Hid (u.k = x) := ⟨_, rfl⟩
    obtain ⟨n, Hn⟩ : ∃ x, Hid (u.n = x) := ⟨_, rfl⟩
    obtain ⟨g, Hg⟩ : ∃ x, Hid (u.g = x) := ⟨_, rfl⟩
    obtain ⟨z, Hz⟩ : ∃ x, Hid (u.z = x) := ⟨_, rfl⟩
    rw [Hk.out] at q0
    rw [Hn.out] at q1
    rw [Hg.out] at q2
    rw [Hz.out] at q3
    rw [Hk.out, Hn.out, Hg.out, Hz.out] at hle
    rw [HM.out] at HS q0 q1 q2 q3 C HA HB ⊢
    obtain ⟨⟨k0, k1⟩, ⟨n0, n1⟩, ⟨g0, g1⟩, z0, z1⟩ := hle
    have HUR : Hid (ubRows u = [(nmK, dgL k.toNat), (nmN, dgL n.toNat), (nmSeg, dgL g.toNat), (nmSegs, u.b), (nmShares, u.a), (nmSize, dgL z.toNat)]) := by unfold ubRows; rw [Hk.out, Hn.out, Hg.out, Hz.out]; exact rfl
    have HU := hid hu
    clear hmay e1 hok hu hkp
    go_enter Tryd.func7, Tryd.ntmps7
    go_wp2_with (first | (refine wpList_load_row rfl 25 _ rfl wz.heap.size rfl 25 m (0, 0) _ (heap_alloc_new wz _) Tryd.underlying25 rfl HS.out ?_) | fail)
    refine (C.out _).mono ?_
    rintro e w1 ⟨rfl, hb1⟩
    have hA := (Below.refl wz.heap.size wz).alloc (Nat.le_refl _) (.cells m 25)
    have B1 := hid (hA.trans (hb1.mono (by simp)))
    have HBL : Hid (w1.heap[wz.heap.size]? = some (.cells m 25 (0, 0))) := (hb1.block wz.heap.size (by simp)).trans (heap_alloc_new wz _)
    have hlt : wz.heap.size < w1.heap.size := by have := hb1.size; simp at this; omega
    have HC0 : Hid (w1.cell? ⟨wz.heap.size, 0, none⟩ = some (.int .i64 k)) := by refine hid ?_; rw [cell_of_row _ _ _ _ _ _ HBL.out]; exact q0
    have HC1 : Hid (w1.cell? ⟨wz.heap.size, 1, none⟩ = some (.int .i64 n)) := by refine hid ?_; rw [cell_of_row _ _ _ _ _ _ HBL.out]; exact q1
    have HC2 : Hid (w1.cell? ⟨wz.heap.size, 2, none⟩ = some (.int .i64 g)) := by refine hid ?_; rw [cell_of_row _ _ _ _ _ _ HBL.out]; exact q2
    have HC3 : Hid (w1.cell? ⟨wz.heap.size, 3, none⟩ = some (.int .i64 z)) := by refine hid ?_; rw [cell_of_row _ _ _ _ _ _ HBL.out]; exact q3
    have HLT := hid hlt
    have HVb := hid (HB_part (o := 36) HBL.out HU.out.2.1 HU.out.2.2 HB.out)
    have HVa := hid (HB_part (o := 4) HBL.out HU.out.1.1 HU.out.1.2 HA.out)
    clear hb1 hA C q0 q1 q2 q3
    go_wp2
    refine wp_region_held_drew (S := Below w1.heap.size w1) (by kernel_rfl) (Below.refl _ _).drew (fun hHeld => ?_)
    have HS := hid hHeld
    clear hHeld
    change wpAnyH _ _ _ _ _ _ _ _ (World.drew _)
    refine wpAnyH_take (i := 0) (v := .pointer (some ⟨wz.heap.size, 0, none⟩)) rfl (by kernel_rfl) (by kernel_rfl) (by kernel_rfl) (fun _ _ _ h => h) (Or.inl ⟨by rfl, ?q0⟩) HS.out ?_
    case q0 => intro w hSw; have s0 := (hSw.cell (p := ⟨wz.heap.size, 0, none⟩) HLT.out).trans HC0.out; have s1 := (hSw.cell (p := ⟨wz.heap.size, 1, none⟩) HLT.out).trans HC1.out; have s2 := (hSw.cell (p := ⟨wz.heap.size, 2, none⟩) HLT.out).trans HC2.out; have s3 := (hSw.cell (p := ⟨wz.heap.size, 3, none⟩) HLT.out).trans HC3.out; go_simp
    simp only [Act.put, List.getElem_toArray, List.getElem_cons_zero, List.getElem_cons_succ, List.setIfInBounds_toArray, List.set_cons_zero, List.set_cons_succ]
    refine wpAnyH_take (i := 1) (v := .int .i64 k) rfl (by kernel_rfl) (by kernel_rfl) (by kernel_rfl) (fun _ _ _ h => h) (Or.inl ⟨by rfl, ?q1⟩) HS.out ?_
    case q1 => intro w hSw; have s0 := (hSw.cell (p := ⟨wz.heap.size, 0, none⟩) HLT.out).trans HC0.out; have s1 := (hSw.cell (p := ⟨wz.heap.size, 1, none⟩) HLT.out).trans HC1.out; have s2 := (hSw.cell (p := ⟨wz.heap.size, 2, none⟩) HLT.out).trans HC2.out; have s3 := (hSw.cell (p := ⟨wz.heap.size, 3, none⟩) HLT.out).trans HC3.out; go_simp
    simp only [Act.put, List.getElem_toArray, List.getElem_cons_zero, List.getElem_cons_succ, List.setIfInBounds_toArray, List.set_cons_zero, List.set_cons_succ]
    refine wpAnyH_take (i := 4) (v := .pointer (some ⟨wz.heap.size, 1, none⟩)) rfl (by kernel_rfl) (by kernel_rfl) (by kernel_rfl) (fun _ _ _ h => h) (Or.inl ⟨by rfl, ?q4⟩) HS.out ?_
    case q4 => intro w hSw; have s0 := (hSw.cell (p := ⟨wz.heap.size, 0, none⟩) HLT.out).trans HC0.out; have s1 := (hSw.cell (p := ⟨wz.heap.size, 1, none⟩) HLT.out).trans HC1.out; have s2 := (hSw.cell (p := ⟨wz.heap.size, 2, none⟩) HLT.out).trans HC2.out; have s3 := (hSw.cell (p := ⟨wz.heap.size, 3, none⟩) HLT.out).trans HC3.out; go_simp
    simp only [Act.put, List.getElem_toArray, List.getElem_cons_zero, List.getElem_cons_succ, List.setIfInBounds_toArray, List.set_cons_zero, List.set_cons_succ]
    refine wpAnyH_take (i := 5) (v := .int .i64 n) rfl (by kernel_rfl) (by kernel_rfl) (by kernel_rfl) (fun _ _ _ h => h) (Or.inl ⟨by rfl, ?q5⟩) HS.out ?_
    case q5 => intro w hSw; have s0 := (hSw.cell (p := ⟨wz.heap.size, 0, none⟩) HLT.out).trans HC0.out; have s1 := (hSw.cell (p := ⟨wz.heap.size, 1, none⟩) HLT.out).trans HC1.out; have s2 := (hSw.cell (p := ⟨wz.heap.size, 2, none⟩) HLT.out).trans HC2.out; have s3 := (hSw.cell (p := ⟨wz.heap.size, 3, none⟩) HLT.out).trans HC3.out; go_simp
    simp only [Act.put, List.getElem_toArray, List.getElem_cons_zero, List.getElem_cons_succ, List.setIfInBounds_toArray, List.set_cons_zero, List.set_cons_succ]
    refine wpAnyH_take (i := 8) (v := .pointer (some ⟨wz.heap.size, 2, none⟩)) rfl (by kernel_rfl) (by kernel_rfl) (by kernel_rfl) (fun _ _ _ h => h) (Or.inl ⟨by rfl, ?q8⟩) HS.out ?_
    case q8 => intro w hSw; have s0 := (hSw.cell (p := ⟨wz.heap.size, 0, none⟩) HLT.out).trans HC0.out; have s1 := (hSw.cell (p := ⟨wz.heap.size, 1, none⟩) HLT.out).trans HC1.out; have s2 := (hSw.cell (p := ⟨wz.heap.size, 2, none⟩) HLT.out).trans HC2.out; have s3 := (hSw.cell (p := ⟨wz.heap.size, 3, none⟩) HLT.out).trans HC3.out; go_simp
    simp only [Act.put, List.getElem_toArray, List.getElem_cons_zero, List.getElem_cons_succ, List.setIfInBounds_toArray, List.set_cons_zero, List.set_cons_succ]
    refine wpAnyH_take (i := 9) (v := .int .i64 g) rfl (by kernel_rfl) (by kernel_rfl) (by kernel_rfl) (fun _ _ _ h => h) (Or.inl ⟨by rfl, ?q9⟩) HS.out ?_
    case q9 => intro w hSw; have s0 := (hSw.cell (p := ⟨wz.heap.size, 0, none⟩) HLT.out).trans HC0.out; have s1 := (hSw.cell (p := ⟨wz.heap.size, 1, none⟩) HLT.out).trans HC1.out; have s2 := (hSw.cell (p := ⟨wz.heap.size, 2, none⟩) HLT.out).trans HC2.out; have s3 := (hSw.cell (p := ⟨wz.heap.size, 3, none⟩) HLT.out).trans HC3.out; go_simp
    simp only [Act.put, List.getElem_toArray, List.getElem_cons_zero, List.getElem_cons_succ, List.setIfInBounds_toArray, List.set_cons_zero, List.set_cons_succ]
    refine wpAnyH_take (i := 18) (v := .pointer (some ⟨wz.heap.size, 3, none⟩)) rfl (by kernel_rfl) (by kernel_rfl) (by kernel_rfl) (fun _ _ _ h => h) (Or.inl ⟨by rfl, ?q18⟩) HS.out ?_
    case q18 => intro w hSw; have s0 := (hSw.cell (p := ⟨wz.heap.size, 0, none⟩) HLT.out).trans HC0.out; have s1 := (hSw.cell (p := ⟨wz.heap.size, 1, none⟩) HLT.out).trans HC1.out; have s2 := (hSw.cell (p := ⟨wz.heap.size, 2, none⟩) HLT.out).trans HC2.out; have s3 := (hSw.cell (p := ⟨wz.heap.size, 3, none⟩) HLT.out).trans HC3.out; go_simp
    simp only [Act.put, List.getElem_toArray, List.getElem_cons_zero, List.getElem_cons_succ, List.setIfInBounds_toArray, List.set_cons_zero, List.set_cons_succ]
    refine wpAnyH_take (i := 19) (v := .int .i64 z) rfl (by kernel_rfl) (by kernel_rfl) (by kernel_rfl) (fun _ _ _ h => h) (Or.inl ⟨by rfl, ?q19⟩) HS.out ?_
    case q19 => intro w hSw; have s0 := (hSw.cell (p := ⟨wz.heap.size, 0, none⟩) HLT.out).trans HC0.out; have s1 := (hSw.cell (p := ⟨wz.heap.size, 1, none⟩) HLT.out).trans HC1.out; have s2 := (hSw.cell (p := ⟨wz.heap.size, 2, none⟩) HLT.out).trans HC2.out; have s3 := (hSw.cell (p := ⟨wz.heap.size, 3, none⟩) HLT.out).trans HC3.out; go_simp
    simp only [Act.put, List.getElem_toArray, List.getElem_cons_zero, List.getElem_cons_succ, List.setIfInBounds_toArray, List.set_cons_zero, List.set_cons_succ]
    refine wpAnyH_take (i := 12) (v := .pointer (some ⟨wz.heap.size, 36, none⟩)) rfl (by kernel_rfl) (by kernel_rfl) (by kernel_rfl) (fun _ _ _ h => h) (Or.inl ⟨by rfl, ?q12⟩) HS.out ?_
    case q12 => intro w hSw; have s0 := (hSw.cell (p := ⟨wz.heap.size, 0, none⟩) HLT.out).trans HC0.out; have s1 := (hSw.cell (p := ⟨wz.heap.size, 1, none⟩) HLT.out).trans HC1.out; have s2 := (hSw.cell (p := ⟨wz.heap.size, 2, none⟩) HLT.out).trans HC2.out; have s3 := (hSw.cell (p := ⟨wz.heap.size, 3, none⟩) HLT.out).trans HC3.out; go_simp
    simp only [Act.put, List.getElem_toArray, List.getElem_cons_zero, List.getElem_cons_succ, List.setIfInBounds_toArray, List.set_cons_zero, List.set_cons_succ]
    refine wpAnyH_take (i := 13) (v := .slice (some ⟨wz.heap.size, 36, none⟩) 32 32) rfl (by kernel_rfl) (by kernel_rfl) (by kernel_rfl) (fun _ _ _ h => h) (Or.inl ⟨by rfl, ?q13⟩) HS.out ?_
    case q13 => intro w hSw; have s0 := (hSw.cell (p := ⟨wz.heap.size, 0, none⟩) HLT.out).trans HC0.out; have s1 := (hSw.cell (p := ⟨wz.heap.size, 1, none⟩) HLT.out).trans HC1.out; have s2 := (hSw.cell (p := ⟨wz.heap.size, 2, none⟩) HLT.out).trans HC2.out; have s3 := (hSw.cell (p := ⟨wz.heap.size, 3, none⟩) HLT.out).trans HC3.out; go_simp
    simp only [Act.put, List.getElem_toArray, List.getElem_cons_zero, List.getElem_cons_succ, List.setIfInBounds_toArray, List.set_cons_zero, List.set_cons_succ]
    refine wpAnyH_take (i := 14) (v := .agg #[.string nmSegs, .slice (some ⟨wz.heap.size, 36, none⟩) 32 32]) rfl (by kernel_rfl) (by kernel_rfl) (by kernel_rfl) (fun _ _ _ h => h) (Or.inl ⟨by rfl, ?q14⟩) HS.out ?_
    case q14 => intro w hSw; have s0 := (hSw.cell (p := ⟨wz.heap.size, 0, none⟩) HLT.out).trans HC0.out; have s1 := (hSw.cell (p := ⟨wz.heap.size, 1, none⟩) HLT.out).trans HC1.out; have s2 := (hSw.cell (p := ⟨wz.heap.size, 2, none⟩) HLT.out).trans HC2.out; have s3 := (hSw.cell (p := ⟨wz.heap.size, 3, none⟩) HLT.out).trans HC3.out; go_simp; rfl
    simp only [Act.put, List.getElem_toArray, List.getElem_cons_zero, List.getElem_cons_succ, List.setIfInBounds_toArray, List.set_cons_zero, List.set_cons_succ]
    refine wpAnyH_take (i := 15) (v := .pointer (some ⟨wz.heap.size, 4, none⟩)) rfl (by kernel_rfl) (by kernel_rfl) (by kernel_rfl) (fun _ _ _ h => h) (Or.inl ⟨by rfl, ?q15⟩) HS.out ?_
    case q15 => intro w hSw; have s0 := (hSw.cell (p := ⟨wz.heap.size, 0, none⟩) HLT.out).trans HC0.out; have s1 := (hSw.cell (p := ⟨wz.heap.size, 1, none⟩) HLT.out).trans HC1.out; have s2 := (hSw.cell (p := ⟨wz.heap.size, 2, none⟩) HLT.out).trans HC2.out; have s3 := (hSw.cell (p := ⟨wz.heap.size, 3, none⟩) HLT.out).trans HC3.out; go_simp
    simp only [Act.put, List.getElem_toArray, List.getElem_cons_zero, List.getElem_cons_succ, List.setIfInBounds_toArray, List.set_cons_zero, List.set_cons_succ]
    refine wpAnyH_take (i := 16) (v := .slice (some ⟨wz.heap.size, 4, none⟩) 32 32) rfl (by kernel_rfl) (by kernel_rfl) (by kernel_rfl) (fun _ _ _ h => h) (Or.inl ⟨by rfl, ?q16⟩) HS.out ?_
    case q16 => intro w hSw; have s0 := (hSw.cell (p := ⟨wz.heap.size, 0, none⟩) HLT.out).trans HC0.out; have s1 := (hSw.cell (p := ⟨wz.heap.size, 1, none⟩) HLT.out).trans HC1.out; have s2 := (hSw.cell (p := ⟨wz.heap.size, 2, none⟩) HLT.out).trans HC2.out; have s3 := (hSw.cell (p := ⟨wz.heap.size, 3, none⟩) HLT.out).trans HC3.out; go_simp
    simp only [Act.put, List.getElem_toArray, List.getElem_cons_zero, List.getElem_cons_succ, List.setIfInBounds_toArray, List.set_cons_zero, List.set_cons_succ]
    refine wpAnyH_take (i := 17) (v := .agg #[.string nmShares, .slice (some ⟨wz.heap.size, 4, none⟩) 32 32]) rfl (by kernel_rfl) (by kernel_rfl) (by kernel_rfl) (fun _ _ _ h => h) (Or.inl ⟨by rfl, ?q17⟩) HS.out ?_
    case q17 => intro w hSw; have s0 := (hSw.cell (p := ⟨wz.heap.size, 0, none⟩) HLT.out).trans HC0.out; have s1 := (hSw.cell (p := ⟨wz.heap.size, 1, none⟩) HLT.out).trans HC1.out; have s2 := (hSw.cell (p := ⟨wz.heap.size, 2, none⟩) HLT.out).trans HC2.out; have s3 := (hSw.cell (p := ⟨wz.heap.size, 3, none⟩) HLT.out).trans HC3.out; go_simp; rfl
    simp only [Act.put, List.getElem_toArray, List.getElem_cons_zero, List.getElem_cons_succ, List.setIfInBounds_toArray, List.set_cons_zero, List.set_cons_succ]
    refine wpAnyH_ready (rs := [2]) (by kernel_rfl) (by simp) ?_
    refine AllReadyH.cons rfl (fun K hK => ?_) AllReadyH.nil
    go_simp
    refine (udigits_any _ k k0 k1 (HKP.out.below (B1.out.trans (HS.out.mono B1.out.size)))).mono ?_
    rintro e v2 ⟨x2, rfl, hx2, hb2⟩
    obtain ⟨p2, c2, rfl, hlc2, hcm2⟩ := hx2.open
    have HX2 := hid hx2
    have HS := hid (HS.out.trans (hb2.mono HS.out.size))
    clear hx2 hb2
    refine hK.out _ _ HS.out (fun _ => ?_)
    clear hK K
    refine wpAnyH_take (i := 3) (v := .agg #[.string nmK, .slice p2 (dgL k.toNat).length c2]) rfl (by kernel_rfl) (by kernel_rfl) (by kernel_rfl) (fun _ _ _ h => h) (Or.inl ⟨by rfl, ?q3⟩) HS.out ?_
    case q3 => intro w hSw; have s0 := (hSw.cell (p := ⟨wz.heap.size, 0, none⟩) HLT.out).trans HC0.out; have s1 := (hSw.cell (p := ⟨wz.heap.size, 1, none⟩) HLT.out).trans HC1.out; have s2 := (hSw.cell (p := ⟨wz.heap.size, 2, none⟩) HLT.out).trans HC2.out; have s3 := (hSw.cell (p := ⟨wz.heap.size, 3, none⟩) HLT.out).trans HC3.out; go_simp; rfl
    simp only [Act.put, List.getElem_toArray, List.getElem_cons_zero, List.getElem_cons_succ, List.setIfInBounds_toArray, List.set_cons_zero, List.set_cons_succ]
    refine wpAnyH_ready (rs := [6]) (by kernel_rfl) (by simp) ?_
    refine AllReadyH.cons rfl (fun K hK => ?_) AllReadyH.nil
    go_simp
    refine (udigits_any _ n n0 n1 (HKP.out.below (B1.out.trans (HS.out.mono B1.out.size)))).mono ?_
    rintro e v3 ⟨x3, rfl, hx3, hb3⟩
    obtain ⟨p3, c3, rfl, hlc3, hcm3⟩ := hx3.open
    have HX3 := hid hx3
    have HX2 := hid (HX2.out.below hb3)
    have HS := hid (HS.out.trans (hb3.mono HS.out.size))
    clear hx3 hb3
    refine hK.out _ _ HS.out (fun _ => ?_)
    clear hK K
    refine wpAnyH_take (i := 7) (v := .agg #[.string nmN, .slice p3 (dgL n.toNat).length c3]) rfl (by kernel_rfl) (by kernel_rfl) (by kernel_rfl) (fun _ _ _ h => h) (Or.inl ⟨by rfl, ?q7⟩) HS.out ?_
    case q7 => intro w hSw; have s0 := (hSw.cell (p := ⟨wz.heap.size, 0, none⟩) HLT.out).trans HC0.out; have s1 := (hSw.cell (p := ⟨wz.heap.size, 1, none⟩) HLT.out).trans HC1.out; have s2 := (hSw.cell (p := ⟨wz.heap.size, 2, none⟩) HLT.out).trans HC2.out; have s3 := (hSw.cell (p := ⟨wz.heap.size, 3, none⟩) HLT.out).trans HC3.out; go_simp; rfl
    simp only [Act.put, List.getElem_toArray, List.getElem_cons_zero, List.getElem_cons_succ, List.setIfInBounds_toArray, List.set_cons_zero, List.set_cons_succ]
    refine wpAnyH_ready (rs := [10]) (by kernel_rfl) (by simp) ?_
    refine AllReadyH.cons rfl (fun K hK => ?_) AllReadyH.nil
    go_simp
    refine (udigits_any _ g g0 g1 (HKP.out.below (B1.out.trans (HS.out.mono B1.out.size)))).mono ?_
    rintro e v4 ⟨x4, rfl, hx4, hb4⟩
    obtain ⟨p4, c4, rfl, hlc4, hcm4⟩ := hx4.open
    have HX4 := hid hx4
    have HX2 := hid (HX2.out.below hb4)
    have HX3 := hid (HX3.out.below hb4)
    have HS := hid (HS.out.trans (hb4.mono HS.out.size))
    clear hx4 hb4
    refine hK.out _ _ HS.out (fun _ => ?_)
    clear hK K
    refine wpAnyH_take (i := 11) (v := .agg #[.string nmSeg, .slice p4 (dgL g.toNat).length c4]) rfl (by kernel_rfl) (by kernel_rfl) (by kernel_rfl) (fun _ _ _ h => h) (Or.inl ⟨by rfl, ?q11⟩) HS.out ?_
    case q11 => intro w hSw; have s0 := (hSw.cell (p := ⟨wz.heap.size, 0, none⟩) HLT.out).trans HC0.out; have s1 := (hSw.cell (p := ⟨wz.heap.size, 1, none⟩) HLT.out).trans HC1.out; have s2 := (hSw.cell (p := ⟨wz.heap.size, 2, none⟩) HLT.out).trans HC2.out; have s3 := (hSw.cell (p := ⟨wz.heap.size, 3, none⟩) HLT.out).trans HC3.out; go_simp; rfl
    simp only [Act.put, List.getElem_toArray, List.getElem_cons_zero, List.getElem_cons_succ, List.setIfInBounds_toArray, List.set_cons_zero, List.set_cons_succ]
    refine wpAnyH_ready (rs := [20]) (by kernel_rfl) (by simp) ?_
    refine AllReadyH.cons rfl (fun K hK => ?_) AllReadyH.nil
    go_simp
    refine (udigits_any _ z z0 z1 (HKP.out.below (B1.out.trans (HS.out.mono B1.out.size)))).mono ?_
    rintro e v5 ⟨x5, rfl, hx5, hb5⟩
    obtain ⟨p5, c5, rfl, hlc5, hcm5⟩ := hx5.open
    have HX5 := hid hx5
    have HX2 := hid (HX2.out.below hb5)
    have HX3 := hid (HX3.out.below hb5)
    have HX4 := hid (HX4.out.below hb5)
    have HS := hid (HS.out.trans (hb5.mono HS.out.size))
    clear hx5 hb5
    refine hK.out _ _ HS.out (fun _ => ?_)
    clear hK K
    refine wpAnyH_take (i := 21) (v := .agg #[.string nmSize, .slice p5 (dgL z.toNat).length c5]) rfl (by kernel_rfl) (by kernel_rfl) (by kernel_rfl) (fun _ _ _ h => h) (Or.inl ⟨by rfl, ?q21⟩) HS.out ?_
    case q21 => intro w hSw; have s0 := (hSw.cell (p := ⟨wz.heap.size, 0, none⟩) HLT.out).trans HC0.out; have s1 := (hSw.cell (p := ⟨wz.heap.size, 1, none⟩) HLT.out).trans HC1.out; have s2 := (hSw.cell (p := ⟨wz.heap.size, 2, none⟩) HLT.out).trans HC2.out; have s3 := (hSw.cell (p := ⟨wz.heap.size, 3, none⟩) HLT.out).trans HC3.out; go_simp; rfl
    simp only [Act.put, List.getElem_toArray, List.getElem_cons_zero, List.getElem_cons_succ, List.setIfInBounds_toArray, List.set_cons_zero, List.set_cons_succ]
    refine wpAnyH_ready (rs := [22]) (by kernel_rfl) (by simp) ?_
    refine AllReadyH.cons rfl (fun K hK => ?_) AllReadyH.nil
    go_simp
    obtain ⟨v6, HV6⟩ : ∃ x, Hid (v5.alloc (.cells #[.string nmK, .slice p2 (dgL k.toNat).length c2, .string nmN, .slice p3 (dgL n.toNat).length c3, .string nmSeg, .slice p4 (dgL g.toNat).length c4, .string nmSegs, .slice (some ⟨wz.heap.size, 36, none⟩) 32 32, .string nmShares, .slice (some ⟨wz.heap.size, 4, none⟩) 32 32, .string nmSize, .slice p5 (dgL z.toNat).length c5] 49) = x) := ⟨_, rfl⟩
    rw [HV6.out]
    have hb6 : Below v5.heap.size v5 v6 := by rw [← HV6.out]; exact (Below.refl _ v5).alloc (Nat.le_refl _) _
    have hk6 : v6.heap[v5.heap.size]? = some (.cells #[.string nmK, .slice p2 (dgL k.toNat).length c2, .string nmN, .slice p3 (dgL n.toNat).length c3, .string nmSeg, .slice p4 (dgL g.toNat).length c4, .string nmSegs, .slice (some ⟨wz.heap.size, 36, none⟩) 32 32, .string nmShares, .slice (some ⟨wz.heap.size, 4, none⟩) 32 32, .string nmSize, .slice p5 (dgL z.toNat).length c5] 49 (0, 0)) := by rw [← HV6.out]; exact heap_alloc_new v5 _
    have hR6 : HRw v6 (.slice (some ⟨v5.heap.size, 0, none⟩) 6 6) [(nmK, dgL k.toNat), (nmN, dgL n.toNat), (nmSeg, dgL g.toNat), (nmSegs, u.b), (nmShares, u.a), (nmSize, dgL z.toNat)] := by
      refine HRw.of_own (base := 0) (e := 49) (vs := [.slice p2 (dgL k.toNat).length c2, .slice p3 (dgL n.toNat).length c3, .slice p4 (dgL g.toNat).length c4, .slice (some ⟨wz.heap.size, 36, none⟩) 32 32, .slice (some ⟨wz.heap.size, 4, none⟩) 32 32, .slice p5 (dgL z.toNat).length c5]) ⟨rfl, .inr ⟨v5.heap.size, 6, _, rfl, Nat.zero_le _, hk6, Nat.le_refl _, by unfold maxLen; omega, rfl, rfl⟩⟩ rfl ?_
      have hw6 := HS.out.trans (hb6.mono HS.out.size)
      intro i hi
      match i, hi with
      | 0, _ => exact HX2.out.below hb6
      | 1, _ => exact HX3.out.below hb6
      | 2, _ => exact HX4.out.below hb6
      | 3, _ => exact HVb.out.below hw6
      | 4, _ => exact HVa.out.below hw6
      | 5, _ => exact HX5.out.below hb6
      | i + 6, h => simp at h; omega
    rw [← HUR.out] at hR6
    have HR6 := hid hR6
    have HS := hid (HS.out.trans (hb6.mono HS.out.size))
    clear hR6 hb6 hk6
    refine hK.out _ _ HS.out (fun _ => ?_)
    clear hK K
    refine wpAnyH_ready (rs := [23]) (by kernel_rfl) (by simp) ?_
    refine AllReadyH.cons rfl (fun K hK => ?_) AllReadyH.nil
    go_simp
    have CP := pack_any v6 _ (ubRows u) HR6.out (HKP.out.below (B1.out.trans (HS.out.mono B1.out.size)))
    have eE : pkE (ubRows u) = 0 := by unfold pkE; rw [if_pos HMAY.out]
    have eL : pkL (ubRows u) = packL (ubRows u) := by unfold pkL; rw [if_pos HMAY.out]
    rw [eE, eL] at CP
    refine CP.mono ?_
    rintro e v7 ⟨x7, rfl, hx7, hb7⟩
    have HO7 : Hid (v7.ownsRow wz.heap.size 5 1 x7 (packL (ubRows u)).length ((packL (ubRows u)).map (Value.int .u8))) := own_mono hx7 (by have h1 := HS.out.size; have h2 := HLT.out; omega)
    have HS := hid (HS.out.trans (hb7.mono HS.out.size))
    clear hx7 hb7 CP
    refine hK.out _ _ HS.out (fun _ => ?_)
    clear hK K
    refine wpAnyH_take (i := 24) (v := ?_) rfl (by kernel_rfl) (by kernel_rfl) (by kernel_rfl) (fun _ _ _ h => h) (Or.inl ⟨by rfl, ?q24⟩) HS.out ?_
    case q24 => intro w hSw; have s0 := (hSw.cell (p := ⟨wz.heap.size, 0, none⟩) HLT.out).trans HC0.out; have s1 := (hSw.cell (p := ⟨wz.heap.size, 1, none⟩) HLT.out).trans HC1.out; have s2 := (hSw.cell (p := ⟨wz.heap.size, 2, none⟩) HLT.out).trans HC2.out; have s3 := (hSw.cell (p := ⟨wz.heap.size, 3, none⟩) HLT.out).trans HC3.out; go_simp; rfl
    simp only [Act.put, List.getElem_toArray, List.getElem_cons_zero, List.getElem_cons_succ, List.setIfInBounds_toArray, List.set_cons_zero, List.set_cons_succ]
    refine wpAnyH_take (i := 25) (v := ?_) rfl (by kernel_rfl) (by kernel_rfl) (by kernel_rfl) (fun _ _ _ h => h) (Or.inl ⟨by rfl, ?q25⟩) HS.out ?_
    case q25 => intro w hSw; have s0 := (hSw.cell (p := ⟨wz.heap.size, 0, none⟩) HLT.out).trans HC0.out; have s1 := (hSw.cell (p := ⟨wz.heap.size, 1, none⟩) HLT.out).trans HC1.out; have s2 := (hSw.cell (p := ⟨wz.heap.size, 2, none⟩) HLT.out).trans HC2.out; have s3 := (hSw.cell (p := ⟨wz.heap.size, 3, none⟩) HLT.out).trans HC3.out; go_simp; rfl
    simp only [Act.put, List.getElem_toArray, List.getElem_cons_zero, List.getElem_cons_succ, List.setIfInBounds_toArray, List.set_cons_zero, List.set_cons_succ]
    refine wpAnyH_take (i := 26) (v := ?_) rfl (by kernel_rfl) (by kernel_rfl) (by kernel_rfl) (fun _ _ _ h => h) (Or.inl ⟨by rfl, ?q26⟩) HS.out ?_
    case q26 => intro w hSw; have s0 := (hSw.cell (p := ⟨wz.heap.size, 0, none⟩) HLT.out).trans HC0.out; have s1 := (hSw.cell (p := ⟨wz.heap.size, 1, none⟩) HLT.out).trans HC1.out; have s2 := (hSw.cell (p := ⟨wz.heap.size, 2, none⟩) HLT.out).trans HC2.out; have s3 := (hSw.cell (p := ⟨wz.heap.size, 3, none⟩) HLT.out).trans HC3.out; go_simp; rfl
    simp only [Act.put, List.getElem_toArray, List.getElem_cons_zero, List.getElem_cons_succ, List.setIfInBounds_toArray, List.set_cons_zero, List.set_cons_succ]
    refine wpAnyH_take (i := 27) (v := ?_) rfl (by kernel_rfl) (by kernel_rfl) (by kernel_rfl) (fun _ _ _ h => h) (Or.inl ⟨by rfl, ?q27⟩) HS.out ?_
    case q27 => intro w hSw; have s0 := (hSw.cell (p := ⟨wz.heap.size, 0, none⟩) HLT.out).trans HC0.out; have s1 := (hSw.cell (p := ⟨wz.heap.size, 1, none⟩) HLT.out).trans HC1.out; have s2 := (hSw.cell (p := ⟨wz.heap.size, 2, none⟩) HLT.out).trans HC2.out; have s3 := (hSw.cell (p := ⟨wz.heap.size, 3, none⟩) HLT.out).trans HC3.out; go_simp; rfl
    simp only [Act.put, List.getElem_toArray, List.getElem_cons_zero, List.getElem_cons_succ, List.setIfInBounds_toArray, List.set_cons_zero, List.set_cons_succ]
    refine wpAnyH_done (by kernel_rfl) ?_ _
    have BF := hid (B1.out.trans (HS.out.mono B1.out.size))
    go_wp2
    go_ret2
    exact ⟨_, rfl, HO7.out, BF.out⟩
  · have e1 : wrL u = [] := by unfold wrL; rw [if_neg hok]
    have e2 : chE u = 133 := (ch_or u).resolve_left hok
    rw [e2] at C
    rw [e1, e2]
    obtain ⟨m, HM⟩ : ∃ x, Hid (ubA u = x) := ⟨_, rfl⟩
    rw [HM.out] at HS C ⊢
    clear hok hu hkp q0 q1 q2 q3
    go_enter Tryd.func7, Tryd.ntmps7
    go_wp2_with (first | (refine wpList_load_row rfl 25 _ rfl wz.heap.size rfl 25 m (0, 0) _ (heap_alloc_new wz _) Tryd.underlying25 rfl HS.out ?_) | fail)
    refine (C.out _).mono ?_
    rintro e w1 ⟨rfl, hb1⟩
    have B1 := hid (((Below.refl wz.heap.size wz).alloc (Nat.le_refl _) (.cells m 25)).trans (hb1.mono (by simp)))
    clear hb1 C
    go_wp2
    go_ret2
    exact ⟨_, rfl, World.ownsRow_nil _ _ _ _, B1.out⟩
end Go.Proofs.YtklklldmhoofnaaDoor
