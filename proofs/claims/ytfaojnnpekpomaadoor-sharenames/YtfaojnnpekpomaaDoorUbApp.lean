/- appendField of ueb, walked: a name or a value is laid behind a row of bytes of the call's own. -/
import Derived.Test.YtfaojnnpekpomaaDoorUbRow
import Derived.Test.YtfaojnnpekpomaaDoorBsNum
import Derived.Test.YtfaojnnpekpomaaDoorAppB
import Derived.Lib.AppendStr
import Derived.Laws.AppendOwnNone
set_option linter.unusedSimpArgs false
set_option linter.unusedVariables false
namespace Go.Proofs.YtfaojnnpekpomaaDoor
open Go Go.RowKit

/-- Where bytes lie, no other block's growth turns them. -/
theorem HB.grownD {w w' : World} {v : Value} {l : List Int} {ob : Option Nat} (h : HB w v l) (hg : w.grownBy w' ob) (hne : ∀ b o n c, v = .slice (some ⟨b, o, none⟩) n c → 0 < l.length → ob ≠ some b) : HB w' v l := by
  obtain ⟨⟨p, c, h1, h2, h3, h6, h4⟩, h5⟩ := h
  refine ⟨⟨p, c, h1, h2, h3, h6, fun hl => ?_⟩, h5⟩
  obtain ⟨b, off, e, hh⟩ := h4 hl
  exact ⟨b, off, e, fun j hj => hg.cell (hh j hj) (by intro q; subst e; exact hne _ _ _ _ h1 (List.length_pos_iff.2 hl) q.symm)⟩
theorem HB.lt {w : World} {v : Value} {l : List Int} (h : HB w v l) (h0 : 0 < l.length) {b o n c : Nat} (hv : v = .slice (some ⟨b, o, none⟩) n c) : b < w.heap.size := by
  obtain ⟨b', off, c', e, _, _, hc⟩ := h.ne h0
  rw [e] at hv
  injection hv with e1 e2 e3
  injection e1 with e1
  injection e1 with e1 e4
  subst e1
  exact World.block_lt_of_cell? w _ (hc 0 h0)
theorem strCells_nS (n : Nat) : Lib.strCells (nS (n : Int)) = (dgL n).map (Value.int .u8) := by
  unfold nS Lib.strCells dgL
  rw [if_neg (by omega), List.map_map]
  rfl
theorem nS_size (n : Nat) : (nS (n : Int)).size = (dgL n).length := by
  rw [← Lib.strCells_length, strCells_nS, List.length_map]
theorem dec_len_small : ∀ (n : Nat), n ≤ 99999 → (dgL n).length ≤ 5 := by
  intro n hn
  have := dec_len_mono 99999 n hn
  rw [dgL_length]
  have h2 : (Lib.decDigits 99999).length = 5 := by decide +kernel
  omega
/-- append of a text onto a row of bytes of the call's own: what there is behind it, and where. -/
theorem run_append_text (w : World) (base : Nat) (ty : TypeId) (v : Value) (n : Nat) (xs : List Value) (hown : w.ownsRow base 5 1 v n xs) (s : ByteArray) (h0 : 0 < s.size) (hn : n + s.size ≤ 140737488355328) (hbase : base ≤ w.heap.size) :
    ∃ v' w', (Builtin.append_ #[41, 9] ty #[v, .string s]).run Tryd.prog w = .ok v' w' ∧ w'.ownsRow base 5 1 v' (n + s.size) (xs ++ Lib.strCells s) ∧ w.grownBy w' v.ownBlock ∧
      (v'.ownBlock = v.ownBlock ∨ v'.ownBlock = some w.heap.size) := by
  obtain ⟨i0, hi, hz0, hz1, hz2⟩ := info_parts info_u8
  obtain ⟨v', w', hr, h2, h3, _⟩ := Lib.run_append_own_string (P := Tryd.prog) w base 41 9 ty 5 i0 Tryd.underlying41 Tryd.underlying9 hi hz0 hz1 hz2 v n xs hown s (by unfold maxLen; omega) hn hbase
  refine ⟨v', w', hr, h2, h3, ?_⟩
  rcases hown.2 with ⟨rfl, rfl⟩ | ⟨g, cap, cur, rfl, hbg, hg, hnc, hcm, hcs, htake⟩
  · have hr2 := run_append_nil_string (P := Tryd.prog) w 41 9 ty 5 i0 (.int .u8 0) Tryd.underlying41 Tryd.underlying9 hi hz0 s h0 (by omega) (by rw [hz2]; omega)
    rw [hr] at hr2
    simp only [Result.ok.injEq] at hr2
    obtain ⟨rfl, rfl⟩ := hr2
    exact .inr rfl
  · by_cases hroom : n + s.size ≤ cap
    · have hr2 := Lib.run_append_room_string (P := Tryd.prog) w 41 9 ty 5 i0 Tryd.underlying41 Tryd.underlying9 hi hz1 g n cap cur hg s hroom (by omega)
      rw [hr] at hr2
      simp only [Result.ok.injEq] at hr2
      obtain ⟨rfl, rfl⟩ := hr2
      exact .inl rfl
    · have hr2 := Lib.run_append_grow_string (P := Tryd.prog) w 41 9 ty 5 i0 (.int .u8 0) Tryd.underlying41 Tryd.underlying9 hi hz0 ⟨g, 0, none⟩ n cap xs (by rw [hz1]; exact hown.1) (hown.cells (g := g) rfl) s (by omega) (by omega) (growslice_fits (by omega) (by rw [hz2]; omega))
      rw [hr] at hr2
      simp only [Result.ok.injEq] at hr2
      obtain ⟨rfl, rfl⟩ := hr2
      exact .inr rfl
theorem wpList_append_text {w : World} {ops : Array Oper} {rest : List Oper} {o : Oper} {a : Act} {Q : Exit → Act → World → Prop} (hgd : o.guard = none) (s x : Operand)
    (ho : o.op = .call { callee := .builtin .append, args := #[s, x], argTypes := #[41, 9] })
    (base : Nat) (v : Value) (n : Nat) (xs : List Value) (hs : a.eval s = v) (hown : w.ownsRow base 5 1 v n xs)
    (t : ByteArray) (hx : a.eval x = .string t) (h0 : 0 < t.size) (hn : n + t.size ≤ 140737488355328) (hbase : base ≤ w.heap.size)
    (h : ∀ v' w', w'.ownsRow base 5 1 v' (n + t.size) (xs ++ Lib.strCells t) → w.grownBy w' v.ownBlock → (v'.ownBlock = v.ownBlock ∨ v'.ownBlock = some w.heap.size) → wpList Tryd.prog ops Q rest (a.put o.dst v') w') : wpList Tryd.prog ops Q (o :: rest) a w := by
  refine wpList_plain hgd fun K hK => ?_
  obtain ⟨v', w', hr, h2, h3, h4⟩ := run_append_text w base o.type v n xs hown t h0 hn hbase
  unfold Oper.wp execOp
  simp only [ho, resolve, invoke, builtin, Sem.run_bind, Sem.run_pure, Result.andThen_ok, List.map_toArray, List.map_cons, List.map_nil, hs, hx, hr]
  exact hK _ _ (h v' w' h2 h3 h4)
theorem run_append_bytesD (w : World) (base : Nat) (ty : TypeId) (v : Value) (n : Nat) (xs : List Value) (hown : w.ownsRow base 5 1 v n xs) (ad : Addr) (c : Nat) (l : List Int) (hnews : ∀ j u, (l.map (Value.int .u8))[j]? = some u → w.cell? (ad.add j) = some u) (hn : n + l.length ≤ 140737488355328) (hbase : base ≤ w.heap.size) :
    ∃ v' w', (Builtin.append_ #[41, 41] ty #[v, .slice (some ad) l.length c]).run Tryd.prog w = .ok v' w' ∧ w'.ownsRow base 5 1 v' (n + l.length) (xs ++ l.map (Value.int .u8)) ∧ w.grownBy w' v.ownBlock ∧
      (v'.ownBlock = v.ownBlock ∨ v'.ownBlock = some w.heap.size) := by
  obtain ⟨i0, hi, hz0, hz1, hz2⟩ := info_parts info_u8
  have h1 : ∀ u ∈ l.map (Value.int .u8), u.oneCell' = true := by intro u hu; obtain ⟨x, _, rfl⟩ := List.mem_map.1 hu; rfl
  have hl : (l.map (Value.int .u8)).length = l.length * 1 := by simp
  obtain ⟨v', w', hr, h2, h3, h4⟩ := run_append_own (P := Tryd.prog) w base 41 ty 5 i0 (.int .u8 0) 1 1 Tryd.underlying41 hi hz0 hz1 hz2 rfl (by decide) v n xs hown ad l.length c (l.map (Value.int .u8)) hl hnews h1 (by unfold maxLen; omega) (by omega) hbase
  refine ⟨v', w', hr, h2, h3, ?_⟩
  rcases hown.2 with ⟨rfl, rfl⟩ | ⟨g, cap, cur, rfl, hbg, hg, hnc, hcm, hcs, htake⟩
  · by_cases h0 : 0 < l.length
    · have hr2 := run_append_nil (P := Tryd.prog) w 41 ty 5 i0 (.int .u8 0) Tryd.underlying41 hi hz0 ad l.length c (l.map (Value.int .u8)) (by rw [hz1]; exact hl) hnews (by omega) (by omega) (by rw [hz2]; omega)
      rw [hr] at hr2
      simp only [Result.ok.injEq] at hr2
      obtain ⟨rfl, rfl⟩ := hr2
      exact .inr rfl
    · have := h4.2 ⟨rfl, by omega⟩
      rw [this]
      exact .inl rfl
  · by_cases hroom : n + l.length ≤ cap
    · obtain ⟨w2, hr2, _⟩ := run_append_fits (P := Tryd.prog) w base 41 ty 5 i0 1 Tryd.underlying41 hi hz1 g n cap xs hown ad l.length c (l.map (Value.int .u8)) hl hnews h1 hroom
      rw [hr] at hr2
      simp only [Result.ok.injEq] at hr2
      obtain ⟨rfl, rfl⟩ := hr2
      exact .inl rfl
    · have hr2 := run_append_grow (P := Tryd.prog) w 41 ty 5 i0 (.int .u8 0) Tryd.underlying41 hi hz0 ⟨g, 0, none⟩ n cap xs (by rw [hz1]; exact hown.1) (hown.cells (g := g) rfl) ad l.length c (l.map (Value.int .u8)) (by rw [hz1]; exact hl) hnews (by omega) (by omega) (growslice_fits (by omega) (by rw [hz2]; omega))
      rw [hr] at hr2
      simp only [Result.ok.injEq] at hr2
      obtain ⟨rfl, rfl⟩ := hr2
      exact .inr rfl
/-- append of bytes onto a row of bytes of the call's own. -/
theorem wpList_append_bytes {w : World} {ops : Array Oper} {rest : List Oper} {o : Oper} {a : Act} {Q : Exit → Act → World → Prop} (hgd : o.guard = none) (s x : Operand)
    (ho : o.op = .call { callee := .builtin .append, args := #[s, x], argTypes := #[41, 41] })
    (base : Nat) (v : Value) (n : Nat) (xs : List Value) (hs : a.eval s = v) (hown : w.ownsRow base 5 1 v n xs)
    (u : Value) (l : List Int) (hx : a.eval x = u) (hu : HB w u l) (hn : n + l.length ≤ 140737488355328) (hbase : base ≤ w.heap.size)
    (h : ∀ v' w', w'.ownsRow base 5 1 v' (n + l.length) (xs ++ l.map (Value.int .u8)) → w.grownBy w' v.ownBlock → (v'.ownBlock = v.ownBlock ∨ v'.ownBlock = some w.heap.size) → wpList Tryd.prog ops Q rest (a.put o.dst v') w') : wpList Tryd.prog ops Q (o :: rest) a w := by
  obtain ⟨i0, hi, hz0, hz1, hz2⟩ := info_parts info_u8
  obtain ⟨⟨p, c, rfl, hlc, hm, hpn, hcell⟩, hby⟩ := hu
  cases p with
  | none =>
    have e : l = [] := by
      apply Classical.byContradiction
      intro hne
      obtain ⟨b, off, e, _⟩ := hcell hne
      cases e
    subst e
    have hc0 := hpn rfl
    subst hc0
    exact wpList_append_own_none hgd s x 41 ho base 5 i0 1 Tryd.underlying41 hi v n xs hs hown hx (h v w (by simpa using hown) ⟨rfl, rfl, rfl, Nat.le_refl _, fun _ _ _ => rfl⟩ (.inl rfl))
  | some ad =>
    have hnews : ∀ j u, (l.map (Value.int .u8))[j]? = some u → w.cell? (ad.add j) = some u := by
      intro j q hj
      have hjn : j < l.length := by
        have := (List.getElem?_eq_some_iff.1 hj).1
        simpa using this
      obtain ⟨b, off, e, hc⟩ := hcell (fun e => by rw [e] at hjn; simp at hjn)
      have e := Option.some.inj e
      have e2 : (l.map (Value.int .u8))[j]? = some (Value.int .u8 (l.getD j 0)) := by simp [List.getD, List.getElem?_eq_getElem hjn]
      rw [e2] at hj
      rw [e, Go.WideShapes.add_plain, hc j hjn]
      exact hj
    refine wpList_plain hgd fun K hK => ?_
    obtain ⟨v', w', hr, h2, h3, h4⟩ := run_append_bytesD w base o.type v n xs hown ad c l hnews hn hbase
    unfold Oper.wp execOp
    simp only [ho, resolve, invoke, builtin, Sem.run_bind, Sem.run_pure, Result.andThen_ok, List.map_toArray, List.map_cons, List.map_nil, hs, hx, hr]
    exact hK _ _ (h v' w' h2 h3 h4)
theorem grown_tr {w w1 w2 : World} {ob ob1 : Option Nat} (h1 : w.grownBy w1 ob) (h2 : w1.grownBy w2 ob1) (ho : ∀ k, ob1 = some k → k < w.heap.size → ob = some k) : w.grownBy w2 ob :=
  ⟨h2.os.trans h1.os, h2.tape.trans h1.tape, h2.output.trans h1.output, Nat.le_trans h1.size h2.size, fun k hk hn => (h2.block k (Nat.lt_of_lt_of_le hk h1.size) (fun e => hn (ho k e.symm hk).symm)).trans (h1.block k hk hn)⟩
theorem bel_grown {w w' : World} (h : Below w.heap.size w w') (ob : Option Nat) : w.grownBy w' ob := ⟨h.os, h.tape, h.output, h.size, fun k hk _ => h.block k hk⟩

set_option maxRecDepth 100000 in
set_option maxHeartbeats 2000000 in
theorem appendField_any (w : World) (base : Nat) (vo vf : Value) (lo lf : List Int) (hown : w.ownsRow base 5 1 vo lo.length (lo.map (Value.int .u8))) (hf : HB w vf lf) (hap : ∀ b o n c, vf = .slice (some ⟨b, o, none⟩) n c → 0 < lf.length → vo.ownBlock ≠ some b) (hlf : lf.length ≤ 65536) (hlo : lo.length ≤ 100000000) (hbase : base ≤ w.heap.size) (hk : KP w) :
    Calls Tryd.prog 32 #[vo, vf] w fun e w' => ∃ v', e = .returned v' ∧ w'.ownsRow base 5 1 v' (lo ++ fld lf).length ((lo ++ fld lf).map (Value.int .u8)) ∧ Below base w w' ∧ w.grownBy w' vo.ownBlock := by
  have C := hid (number_tab w lf.length (by omega) (by omega) hk)
  have e2 : nE (lf.length : Int) = 0 := by unfold nE; rw [if_neg (by omega)]
  have hsz := nS_size lf.length
  have hsc := strCells_nS lf.length
  have hd5 := dec_len_small lf.length (by omega)
  have hdp := dgL_pos lf.length
  obtain ⟨D, HD⟩ : ∃ D, Hid (nS (lf.length : Int) = D) := ⟨_, rfl⟩
  obtain ⟨dl, HDL⟩ : ∃ dl, Hid (dgL lf.length = dl) := ⟨_, rfl⟩
  rw [HD.out, e2] at C
  rw [HD.out, HDL.out] at hsz hsc
  rw [HDL.out] at hd5 hdp
  have HF := hid hf
  have HO := hid hown
  have HAP := hid hap
  have HSC := hid hsc
  have HSZ := hid hsz
  obtain ⟨p, c, rfl, hlc, hcm⟩ := hf.open
  clear hf hown hap e2 hsc hsz
  go_enter Tryd.func32, Tryd.ntmps32
  go_wp2_with fail
  refine C.out.mono ?_
  rintro e w1 ⟨rfl, hb1⟩
  have B1 := hid hb1
  have hs1 := hb1.size
  have HO1 := hid (own_below HO.out hb1)
  have HF1 := hid (HF.out.below hb1)
  clear hb1 C
  go_wp2_with (at_builtin; refine wpList_append_text rfl _ _ rfl base _ lo.length _ rfl HO1.out D rfl ?q1 ?q2 ?q3 ?_)
  case q1 => have := HSZ.out; omega
  case q2 => have := HSZ.out; omega
  case q3 => omega
  intro v2 w2 hown2 hg2 hp2
  obtain ⟨l2, Hl2⟩ : ∃ l2, Hid (lo ++ dl = l2) := ⟨_, rfl⟩
  have hlen2 : l2.length = lo.length + dl.length := by rw [← Hl2.out]; exact List.length_append
  have HO2 : Hid (w2.ownsRow base 5 1 v2 l2.length (l2.map (Value.int .u8))) := by
    refine hid ?_
    rw [HSC.out, HSZ.out, ← List.map_append, Hl2.out, ← hlen2] at hown2
    exact hown2
  have B2 := hid (((B1.out.mono hbase).grown hg2 (by omega) (fun k e => (HO1.out.lt k e).1)))
  have HAP2 : Hid (∀ b o n c', Value.slice p lf.length c = .slice (some ⟨b, o, none⟩) n c' → 0 < lf.length → v2.ownBlock ≠ some b) := by
    refine hid fun b o n c' hv h0 he => ?_
    rcases hp2 with q | q
    · exact HAP.out b o n c' hv h0 (by rw [← q]; exact he)
    · rw [q] at he
      have := HF1.out.lt h0 hv
      injection he with he
      omega
  have HF2 := hid (HF1.out.grownD hg2 HAP.out)
  have hs2 : w1.heap.size ≤ w2.heap.size := hg2.size
  have H2 := hid hp2
  have HG2 := hid hg2
  have HS2 := hid hlen2
  clear hown2 hp2 hg2 hlen2
  go_wp2_with (at_builtin; refine wpList_append_byte rfl _ _ rfl base _ l2.length _ rfl (HO2.out.alloc _) ⟨w2.heap.size, 0, none⟩ 1 58 rfl (by simp) ?q1 ?q2 ?_)
  case q1 => have := HS2.out; omega
  case q2 => simp; omega
  intro v3 w3 hown3 hg3 hp3
  obtain ⟨l3, Hl3⟩ : ∃ l3 : List Int, Hid (l2 ++ [58] = l3) := ⟨l2 ++ [58], hid rfl⟩
  have hlen3 : l3.length = l2.length + 1 := by rw [← Hl3.out]; simp
  have HO3 : Hid (w3.ownsRow base 5 1 v3 l3.length (l3.map (Value.int .u8))) := by
    refine hid ?_
    rw [hlen3, ← Hl3.out, List.map_append]
    exact hown3
  have HF3 := hid ((HF2.out.below ((Below.refl _ w2).alloc (Nat.le_refl _) _)).grownD hg3 HAP2.out)
  have B3 := hid ((B2.out.alloc (by omega) _).grown hg3 (by simp; omega) (fun k e => (HO2.out.lt k e).1))
  have G3 : Hid (w.grownBy w3 vo.ownBlock) := by
    refine hid ?_
    have g1 := grown_tr (bel_grown B1.out vo.ownBlock) HG2.out (fun k e _ => e)
    refine grown_tr (grown_tr g1 (bel_grown ((Below.refl w2.heap.size w2).alloc (Nat.le_refl _) _) none) (fun k e _ => by cases e)) hg3 (fun k e hk => ?_)
    rcases H2.out with q | q
    · rw [← q]; exact e
    · rw [q] at e; injection e with e; omega
  have hs3 : w2.heap.size ≤ w3.heap.size := by have := hg3.size; simp at this; omega
  have HP3 : Hid (∀ k, v3.ownBlock = some k → k < w.heap.size → vo.ownBlock = some k) := by
    refine hid fun k e hk => ?_
    rcases hp3 with q | ⟨q, _⟩
    · rw [q] at e
      rcases H2.out with q2 | q2
      · rw [← q2]; exact e
      · rw [q2] at e; injection e with e; omega
    · rw [q] at e; injection e with e; omega
  have HS3 := hid hlen3
  clear hown3 hg3 hp3 HF2 HO2 hlen3 HAP2
  go_wp2_with (at_builtin; refine wpList_append_bytes rfl _ _ rfl base _ l3.length _ rfl HO3.out _ lf rfl HF3.out ?q1 ?q2 ?_)
  case q1 => have := HS2.out; have := HS3.out; omega
  case q2 => omega
  intro v4 w4 hown4 hg4 hp4
  obtain ⟨l4, Hl4⟩ : ∃ l4 : List Int, Hid (l3 ++ lf = l4) := ⟨l3 ++ lf, hid rfl⟩
  have hlen4 : l4.length = l3.length + lf.length := by rw [← Hl4.out]; simp
  have HO4 : Hid (w4.ownsRow base 5 1 v4 l4.length (l4.map (Value.int .u8))) := by
    refine hid ?_
    rw [hlen4, ← Hl4.out, List.map_append]
    exact hown4
  have B4 := hid (B3.out.grown hg4 (by omega) (fun k e => (HO3.out.lt k e).1))
  have hs4 : w3.heap.size ≤ w4.heap.size := hg4.size
  have G4 := hid (grown_tr G3.out hg4 HP3.out)
  have HP4 : Hid (∀ k, v4.ownBlock = some k → k < w.heap.size → vo.ownBlock = some k) := by
    refine hid fun k e hk => ?_
    rcases hp4 with q | q
    · exact HP3.out k (by rw [← q]; exact e) hk
    · rw [q] at e; injection e with e; omega
  have HS4 := hid hlen4
  clear hown4 hg4 hp4 HO3 hlen4 HF3
  go_wp2_with (at_builtin; refine wpList_append_byte rfl _ _ rfl base _ l4.length _ rfl (HO4.out.alloc _) ⟨w4.heap.size, 0, none⟩ 1 44 rfl (by simp) ?q1 ?q2 ?_)
  case q1 => have := HS2.out; have := HS3.out; have := HS4.out; omega
  case q2 => simp; omega
  intro v5 w5 hown5 hg5 hp5
  have B5 := hid ((B4.out.alloc (by omega) _).grown hg5 (by simp; omega) (fun k e => (HO4.out.lt k e).1))
  have G5 := hid (grown_tr (grown_tr G4.out (bel_grown ((Below.refl w4.heap.size w4).alloc (Nat.le_refl _) _) none) (fun k e _ => by cases e)) hg5 HP4.out)
  have HE : Hid (lo ++ fld lf = l4 ++ [44]) := by
    refine hid ?_
    rw [← Hl4.out, ← Hl3.out, ← Hl2.out, ← HDL.out]
    unfold fld
    simp
  have HO5 : Hid (w5.ownsRow base 5 1 v5 (lo ++ fld lf).length ((lo ++ fld lf).map (Value.int .u8))) := by
    refine hid ?_
    rw [HE.out, List.length_append, List.map_append]
    exact hown5
  clear hown5 hg5 hp5
  go_wp2
  go_ret
  exact ⟨_, rfl, HO5.out, B5.out, G5.out⟩
end Go.Proofs.YtfaojnnpekpomaaDoor
