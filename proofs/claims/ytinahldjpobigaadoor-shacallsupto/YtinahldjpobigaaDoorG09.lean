/- Of the road to shaCallsUptoCard_holds: ScWalk. -/
import Derived.Test.YtinahldjpobigaaDoorG01
import Derived.Test.YtinahldjpobigaaDoorG08
import Derived.Test.YtinahldjpobigaaDoorG02
set_option linter.unusedVariables false
set_option linter.unusedSimpArgs false
namespace Go.Proofs.YtinahldjpobigaaDoor
open Go Go.RowKit
def scL (cl : Int) (ws : List Nat) (bl : List Int) (m : Int) (v : Value) : List Value := [.int .i64 cl] ++ (ws.map (fun x : Nat => Value.int .u32 (x : Int)) ++ (bl.map (Value.int .u8) ++ [.int .i64 m, v]))
def scZ : Array Value := (scL 0 (List.replicate 8 0) (List.replicate 64 0) 0 (.slice none 0 0)).toArray
theorem scL_len {cl : Int} {ws : List Nat} {bl : List Int} {m : Int} {v : Value} (h8 : W8 ws) (h64 : bl.length = 64) : (scL cl ws bl m v).length = 75 := by simp [scL, h8.1, h64]
theorem scL_one {cl : Int} {ws : List Nat} {bl : List Int} {m : Int} {p : Option Addr} {n c : Nat} : (scL cl ws bl m (.slice p n c)).toArray.all (·.oneCell') = true := by
  refine all_oneCell_toArray fun v hv => ?_
  unfold scL at hv
  rcases List.mem_append.1 hv with h | h
  · rw [List.mem_singleton.1 h]; rfl
  · rcases List.mem_append.1 h with h | h
    · obtain ⟨x, _, rfl⟩ := List.mem_map.1 h; rfl
    · rcases List.mem_append.1 h with h | h
      · obtain ⟨x, _, rfl⟩ := List.mem_map.1 h; rfl
      · have h : v = .int .i64 m ∨ v = .slice p n c := by simpa using h
        rcases h with rfl | rfl <;> rfl
theorem scL_0 (cl : Int) (ws : List Nat) (bl : List Int) (m : Int) (v : Value) : (scL cl ws bl m v)[0]? = some (.int .i64 cl) := rfl
theorem scL_w {cl : Int} {ws : List Nat} {bl : List Int} {m : Int} {v : Value} {j : Nat} {u : Value} (h : (ws.map (fun x : Nat => Value.int .u32 (x : Int)))[j]? = some u) : (scL cl ws bl m v)[1 + j]? = some u := by
  have hj := (List.getElem?_eq_some_iff.1 h).1
  unfold scL
  rw [List.getElem?_append_right (by simp), show 1 + j - [Value.int IntKind.i64 cl].length = j by simp, List.getElem?_append_left hj]
  exact h
theorem scL_b {cl : Int} {ws : List Nat} {bl : List Int} {m : Int} {v : Value} (h8 : ws.length = 8) {j : Nat} {u : Value} (h : (bl.map (Value.int .u8))[j]? = some u) : (scL cl ws bl m v)[9 + j]? = some u := by
  have hj := (List.getElem?_eq_some_iff.1 h).1
  unfold scL
  rw [List.getElem?_append_right (by simp; try omega), List.getElem?_append_right (by simp [h8]; try omega), show 9 + j - [Value.int IntKind.i64 cl].length - (ws.map (fun x : Nat => Value.int .u32 (x : Int))).length = j by (simp [h8]; try omega), List.getElem?_append_left hj]
  exact h
theorem scL_m {cl : Int} {ws : List Nat} {bl : List Int} {m : Int} {v : Value} (h8 : ws.length = 8) (h64 : bl.length = 64) : (scL cl ws bl m v)[73]? = some (.int .i64 m) ∧ (scL cl ws bl m v)[74]? = some v := by
  unfold scL
  constructor
  · rw [List.getElem?_append_right (by simp), List.getElem?_append_right (by simp [h8]), List.getElem?_append_right (by simp [h8, h64])]
    simp [h8, h64]
  · rw [List.getElem?_append_right (by simp), List.getElem?_append_right (by simp [h8]), List.getElem?_append_right (by simp [h8, h64])]
    simp [h8, h64]
theorem size_sc : (Tryd.prog.info? 30).map (·.size) = some 75 := by kernel_rfl
theorem size_w8S : (Tryd.prog.info? 25).map (·.size) = some 8 := by kernel_rfl
theorem size_b64S : (Tryd.prog.info? 28).map (·.size) = some 64 := by kernel_rfl
theorem zero_sc : (Tryd.prog.info? 30).map (·.zero) = some (some (.agg scZ)) := by kernel_rfl
theorem flat_mem {ls : List (List Int)} (j : Nat) : (ls.getD j []).length ≤ ls.flatten.length := by
  by_cases h : j < ls.length
  · have : ls.getD j [] ∈ ls := by simp [List.getD, List.getElem?_eq_getElem h, List.getElem_mem]
    obtain ⟨x, hx⟩ : ∃ x, ls.getD j [] = x := ⟨_, rfl⟩
    rw [hx] at this ⊢
    obtain ⟨a, b, e⟩ := List.append_of_mem this
    rw [e]
    simp only [List.flatten_append, List.flatten_cons, List.length_append]
    omega
  · simp [List.getD, List.getElem?_eq_none (by omega : ls.length ≤ j)]
theorem HL.bytS {w : World} {v : Value} {ls : List (List Int)} (h : HL w v ls) (j : Nat) : ∀ x ∈ ls.getD j [], 0 ≤ x ∧ x < 256 := by
  by_cases hj : j < ls.length
  · obtain ⟨b, off, c, _, _, _, hh⟩ := h.ne (by omega)
    obtain ⟨u, _, hb⟩ := hh j hj
    exact hb.2
  · simp [List.getD, List.getElem?_eq_none (by omega : ls.length ≤ j)]
theorem run_neq_wordsS (w : World) (n : Nat) (t : TypeId) (ht : Tryd.prog.underlying t = some (.array n 24)) (xs ys : List Nat) (hx : xs.length = n) (hy : ys.length = n) :
    (binOp .neq t (.agg (cellsW xs)) (.agg (cellsW ys))).run Tryd.prog w = .ok (.bool (!decide (xs = ys))) w := by
  have hq : (Op.equalIn (9998 + 2) t (.agg (cellsW xs)) (.agg (cellsW ys))).run Tryd.prog w = .ok (decide (xs = ys)) w := by
    rw [Op.equalIn]
    simp only [Sem.run_bind, run_underlying ht, Result.andThen_ok, size_u32]
    have hr := run_eqRoundsW w 9998 n xs ys hx hy n 0 (by omega) rfl
    have e : (forIn (m := Sem) [:n] ((none : Option Bool), ()) (eqRoundW 9998 xs ys)) = forIn (List.range' 0 n 1) ((none : Option Bool), ()) (eqRoundW 9998 xs ys) := by
      rw [Std.Legacy.Range.forIn_eq_forIn_range']
      simp [Std.Legacy.Range.size]
    rw [← e] at hr
    refine (congrArg (fun r => Result.andThen r _) hr).trans ?_
    by_cases h : xs = ys
    · simp [h]
    · simp [h]
  rw [run_neq_struct, hq]
  rfl
theorem mixL_W8S {ws : List Nat} {bl : List Int} (h : W8 ws) : W8 (mixL ws bl) := h.mix
theorem wpList_run_append {w : World} {ops : Array Oper} {rest : List Oper} {o : Oper} {a : Act} {Q : Exit → Act → World → Prop} (hgd : o.guard = none) (s x : Operand)
    (ho : o.op = .call { callee := .builtin .append, args := #[s, x], argTypes := #[27, 27] }) {v u v' : Value} {w' : World} (hs : a.eval s = v) (hx : a.eval x = u)
    (hr : (Builtin.append_ #[27, 27] 27 #[v, u]).run Tryd.prog w = .ok v' w') (ht : o.type = 27)
    (h : wpList Tryd.prog ops Q rest (a.put o.dst v') w') : wpList Tryd.prog ops Q (o :: rest) a w := by
  refine wpList_plain hgd fun K hK => ?_
  unfold Oper.wp execOp
  simp only [ho, ht, resolve, invoke, builtin, Sem.run_bind, Sem.run_pure, Result.andThen_ok, List.map_toArray, List.map_cons, List.map_nil, hs, hx, hr]
  exact hK _ _ h
theorem yieldsIf_load_arrS {ops : Array Oper} {S : World → Prop} {op : Oper} {a : Act} (hw : Region.wanted op (yielded ops a.tmps) = true) (t : TypeId) (x : Operand) (ho : op.op = .load t x)
    (b o : Nat) (hx : a.eval x = .pointer (some ⟨b, o, none⟩)) (cs : List Value) (dm : Array Value) (d : TypeDesc) (he : cs.toArray = dm) (hS : ∀ w, S w → w.rangeAt b o cs) (hu : Tryd.prog.underlying t = some d) (hd : d.isRow = true)
    (hi : (Tryd.prog.info? t).map (·.size) = some cs.length) : YieldsIf Tryd.prog ops S op (.agg dm) a := by
  subst he
  exact yieldsIf_load_mid hw t x ho b o hx cs d hS hu hd hi
set_option maxRecDepth 100000 in
set_option maxHeartbeats 16000000 in
theorem shaCalls_walk (w : World) (v : Value) (os : List Sc) (h : HSc w v os) (hn : os.length ≤ 300000) (hk : KC w) :
    Calls Tryd.prog 3 #[v] w fun e w' => e = .returned (.bool true) ∧ Below w.heap.size w w' := by
  have C0 := hid (lives_any w hk)
  have CI := hid fun W => initial_any W
  have CR := hid fun W => rinitial_any W
  obtain ⟨⟨p, c, rfl, hlc, hcm, hcell⟩, hels⟩ := h
  unfold maxLen at hcm
  have HC := hid hcell
  have HE := hid hels
  obtain ⟨n, HN⟩ : ∃ n, Hid (os.length = n) := ⟨_, rfl⟩
  rw [HN.out] at hlc hn ⊢
  have HK := hid hk
  obtain ⟨iw, HIW⟩ : ∃ x, Hid (cellsW iv = x) := ⟨_, rfl⟩
  rw [HIW.out] at CI CR
  have hni : ∀ W, (binOp .neq 25 (.agg iw) (.agg iw)).run Tryd.prog W = .ok (.bool false) W := fun W => by
    have := run_neq_wordsS W 8 25 Tryd.underlying25 iv iv iv_W8.1 iv_W8.1
    rw [decide_eq_true rfl, HIW.out] at this
    exact this
  clear hcell hels hk
  go_enter Tryd.func3, Tryd.ntmps3
  go_wp2_with fail
  refine C0.out.mono ?_
  rintro e w1 ⟨rfl, hb1⟩
  have B1 := hid hb1
  clear hb1 C0
  go_wp2_with fail
  refine (CI.out w1).mono ?_
  rintro e w2 ⟨rfl, hb2⟩
  have B2 := hid (B1.out.trans (hb2.mono B1.out.size))
  clear hb2
  go_wp2_with fail
  refine (CR.out w2).mono ?_
  rintro e w3 ⟨rfl, hb3⟩
  have B3 := hid (B2.out.trans (hb3.mono B2.out.size))
  clear hb3 CI CR
  go_wp2
  clear hni
  go_loopw [3, 4, 5] (fun v1 v2 i wr => ∃ k : Nat, k ≤ n ∧ i = .int .i64 (k : Int) ∧ ∃ x1 x2 l, Hid (DP w.heap.size wr v1 v2 x1 x2 l l) ∧ Hid (l.length ≤ k * 2) ∧ Hid (∀ j, (l.getD j []).length ≤ 100) ∧ Hid (Below w.heap.size w wr)) (fun _ _ i _ => n - (intOf i).toNat)
  case atStart => exact ⟨0, Nat.zero_le _, rfl, [], [], [], DP.nil _ _, Nat.zero_le _, (fun j => by simp), B3⟩
  case round =>
    clear B3
    obtain ⟨k, hkn, rfl, x1, x2, l, DR, LL, LE, BR⟩ := hrel
    obtain ⟨p1, c1, e1⟩ := own_slice DR.out.r1
    obtain ⟨p2, c2, e2⟩ := own_slice DR.out.r2
    obtain ⟨N, HNl⟩ : ∃ x, Hid (l.length = x) := ⟨_, rfl⟩
    rw [HNl.out] at e1 e2
    subst e1 e2
    by_cases hlt : k < n
    · obtain ⟨b, off, rfl, hh⟩ := HC.out (by rw [HN.out]; omega)
      have RG0 : wr.rangeAt b (off + k * 75) (os.getD k Sc.zz).cs := fun j u hj => by
        have := hh k (by rw [HN.out]; exact hlt) j u hj
        exact (BR.out.cell (World.block_lt_of_cell? w _ this)).trans this
      obtain ⟨hok, hol⟩ := HE.out k (by rw [HN.out]; exact hlt)
      have hlen := Sc.len hok
      generalize os.getD k Sc.zz = o at *
      obtain ⟨cl, ws, bl, m, ov, ls⟩ := o
      obtain ⟨h8, ⟨h64, hby⟩, hm, hbulk⟩ := hok
      replace h8 : W8 ws := h8
      replace h64 : bl.length = 64 := h64
      replace hby : ∀ x ∈ bl, 0 ≤ x ∧ x < 256 := hby
      replace hm : -9223372036854775808 ≤ m ∧ m ≤ 9223372036854775807 := hm
      replace hbulk : ls.flatten.length + ls.length + 1 ≤ 1048576 := hbulk
      replace hol : HL w ov ls := hol
      obtain ⟨pv, cv, rfl, hlv, hmv⟩ := hol.open
      obtain ⟨n2, HN2⟩ : ∃ x, Hid (ls.length = x) := ⟨_, rfl⟩
      rw [HN2.out] at hlv RG0 hol hlen
      have RG : Hid (wr.rangeAt b (off + k * 75) (scL cl ws bl m (.slice pv n2 cv))) := hid RG0
      have HOL := hid hol
      have H8 := hid h8
      have H64 := hid h64
      have HBY := hid hby
      have HBK := hid hbulk
      obtain ⟨A, HA⟩ : ∃ x, Hid ((scL cl ws bl m (.slice pv n2 cv)).toArray = x) := ⟨_, rfl⟩
      have hAs : A.size = 75 := by rw [← HA.out, List.size_toArray]; exact scL_len h8 h64
      have SZA : Hid ((Tryd.prog.info? 30).map (·.size) = some (scL cl ws bl m (.slice pv n2 cv)).length) := by rw [scL_len h8 h64]; exact hid size_sc
      have SZB : Hid ((Tryd.prog.info? 30).map (·.size) = some A.size) := by rw [hAs]; exact hid size_sc
      have OA : Hid (A.all (·.oneCell') = true) := by rw [← HA.out]; exact hid scL_one
      have ZAS : Hid (scZ.size = A.size) := by rw [hAs]; exact hid rfl
      have HZ0 : Hid ((Tryd.prog.info? 30).map (·.zero) = some (some (.agg scZ))) := hid zero_sc
      obtain ⟨z, HZ⟩ : ∃ x, Hid (scZ = x) := ⟨_, rfl⟩
      rw [HZ.out] at ZAS HZ0
      have HR := hid (heap_alloc_new wr (.cells z 30))
      obtain ⟨wA, HWA⟩ : ∃ x, Hid ((wr.alloc (.cells z 30)).setRow wr.heap.size A = x) := ⟨_, rfl⟩
      have bA : Below wr.heap.size wr wA := by rw [← HWA.out]; exact below_setRow ((Below.refl _ wr).alloc (Nat.le_refl _) _) (Nat.le_refl _) A
      have XA : Hid (wA.heap[wr.heap.size]? = some (.cells (scL cl ws bl m (.slice pv n2 cv)).toArray 30 (0, 0))) := by rw [← HWA.out, HA.out]; exact hid (setRow_heap _ _ _ _ _ _ HR.out)
      have CX : Hid (∀ j u, (scL cl ws bl m (.slice pv n2 cv))[j]? = some u → wA.cell? ⟨wr.heap.size, j, none⟩ = some u) := hid fun j u hu => by
        rw [cell_of_row wA _ j _ _ _ XA.out]
        simpa using hu
      have DA := hid (DR.out.below bA)
      have BA := hid (BR.out.trans (bA.mono BR.out.size))
      have LA : Hid (wr.heap.size < wA.heap.size) := hid (Array.getElem?_eq_some_iff.1 XA.out).1
      have ZR := hid bA.size
      obtain ⟨t6, H6⟩ : ∃ x, Hid (wr.heap.size = x) := ⟨_, rfl⟩
      rw [H6.out] at CX
      have c0 := CX.out 0 _ (scL_0 _ _ _ _ _)
      have RW : Hid (wA.rangeAt t6 1 (ws.map fun x : Nat => Value.int .u32 (x : Int))) := hid fun j u hu => CX.out (1 + j) u (scL_w hu)
      have RB : Hid (wA.rangeAt t6 9 (bl.map (Value.int .u8))) := hid fun j u hu => CX.out (9 + j) u (scL_b h8.1 hu)
      have c73 := CX.out 73 _ (scL_m h8.1 h64).1
      have c74 := CX.out 74 _ (scL_m h8.1 h64).2
      rw [H6.out] at XA LA
      have SA := hid bA
      clear hh hol h8 h64 hby hbulk RG0 hlen hAs CX
      by_cases z0 : cl = 0
      · subst z0
        obtain ⟨wv, HWV⟩ : ∃ x, Hid (cellsW ws = x) := ⟨_, rfl⟩
        obtain ⟨bv, HBV⟩ : ∃ x, Hid (cellsB bl = x) := ⟨_, rfl⟩
        have HWL : Hid ((ws.map fun x : Nat => Value.int .u32 (x : Int)).toArray = wv) := HWV
        have HBL : Hid ((bl.map (Value.int .u8)).toArray = bv) := HBV
        have SW : Hid ((Tryd.prog.info? 25).map (·.size) = some (ws.map fun x : Nat => Value.int .u32 (x : Int)).length) := by rw [List.length_map, H8.out.1]; exact hid size_w8S
        have SB : Hid ((Tryd.prog.info? 28).map (·.size) = some (bl.map (Value.int .u8)).length) := by rw [List.length_map, H64.out]; exact hid size_b64S
        have dA : Hid (Below wA.heap.size wA wA.drew) := (Dr.one wA 1).below _
        have CM := hid (mix_any wA.drew ws bl H8.out H64.out HBY.out ((HK.out.below BA.out).below dA.out))
        have CN := hid fun W => rmix_any W ws bl H8.out H64.out HBY.out
        obtain ⟨mv, HMV⟩ : ∃ x, Hid (cellsW (mixL ws bl) = x) := ⟨_, rfl⟩
        have hm8 : (mixL ws bl).length = 8 := (mixL_W8S H8.out).1
        have hnm : ∀ W, (binOp .neq 25 (.agg mv) (.agg mv)).run Tryd.prog W = .ok (.bool false) W := fun W => by
          have := run_neq_wordsS W 8 25 Tryd.underlying25 (mixL ws bl) (mixL ws bl) hm8 hm8
          rw [decide_eq_true rfl, HMV.out] at this
          exact this
        rw [HWV.out, HBV.out, HMV.out] at CM CN
        clear c73 c74 hm8
        go_wp2_with (first | (refine wpList_load_mid rfl 30 _ rfl b (off + k * 75) rfl _ _ RG.out Tryd.underlying30 rfl SZA.out ?_; rw [HA.out]) | (refine wpList_alloc_agg HZ0.out rfl rfl ?_) | (refine wpList_store_row rfl 30 _ _ rfl wr.heap.size A rfl rfl 30 _ HR.out SZB.out ZAS.out OA.out ?_; rw [HWA.out, H6.out]) | fail)
        refine wp_region_held_drew (S := (fun W : World => W.rangeAt t6 1 (ws.map fun x : Nat => Value.int .u32 (x : Int)) ∧ W.rangeAt t6 9 (bl.map (Value.int .u8)))) (by kernel_rfl) ⟨RW.out, RB.out⟩ (fun hHeld => ?_)
        have HS := hid hHeld
        clear hHeld
        change wpAnyH _ _ _ _ _ _ _ _ (World.drew _)
        refine wpAnyH_take (i := 0) (v := ?_) rfl (by kernel_rfl) (by kernel_rfl) (by kernel_rfl) (fun _ _ _ h => h) (Or.inl ⟨by rfl, ?q0⟩) HS.out ?_
        case q0 => intro w hSw; go_simp; rfl
        simp only [Act.put, List.getElem_toArray, List.getElem_cons_zero, List.getElem_cons_succ, List.setIfInBounds_toArray, List.set_cons_zero, List.set_cons_succ]
        refine wpAnyH_take (i := 1) rfl (by kernel_rfl) (by kernel_rfl) (by kernel_rfl) (fun _ _ _ h => h) (yieldsIf_load_arrS (by rfl) 25 _ rfl t6 1 rfl _ wv _ HWL.out (fun _ hw => hw.1) Tryd.underlying25 rfl SW.out) HS.out ?_
        simp only [Act.put, List.getElem_toArray, List.getElem_cons_zero, List.getElem_cons_succ, List.setIfInBounds_toArray, List.set_cons_zero, List.set_cons_succ]
        refine wpAnyH_take (i := 2) (v := ?_) rfl (by kernel_rfl) (by kernel_rfl) (by kernel_rfl) (fun _ _ _ h => h) (Or.inl ⟨by rfl, ?q2⟩) HS.out ?_
        case q2 => intro w hSw; go_simp; rfl
        simp only [Act.put, List.getElem_toArray, List.getElem_cons_zero, List.getElem_cons_succ, List.setIfInBounds_toArray, List.set_cons_zero, List.set_cons_succ]
        refine wpAnyH_take (i := 3) rfl (by kernel_rfl) (by kernel_rfl) (by kernel_rfl) (fun _ _ _ h => h) (yieldsIf_load_arrS (by rfl) 28 _ rfl t6 9 rfl _ bv _ HBL.out (fun _ hw => hw.2) Tryd.underlying28 rfl SB.out) HS.out ?_
        simp only [Act.put, List.getElem_toArray, List.getElem_cons_zero, List.getElem_cons_succ, List.setIfInBounds_toArray, List.set_cons_zero, List.set_cons_succ]
        refine wpAnyH_take (i := 5) (v := ?_) rfl (by kernel_rfl) (by kernel_rfl) (by kernel_rfl) (fun _ _ _ h => h) (Or.inl ⟨by rfl, ?q5⟩) HS.out ?_
        case q5 => intro w hSw; go_simp; rfl
        simp only [Act.put, List.getElem_toArray, List.getElem_cons_zero, List.getElem_cons_succ, List.setIfInBounds_toArray, List.set_cons_zero, List.set_cons_succ]
        refine wpAnyH_take (i := 6) rfl (by kernel_rfl) (by kernel_rfl) (by kernel_rfl) (fun _ _ _ h => h) (yieldsIf_load_arrS (by rfl) 25 _ rfl t6 1 rfl _ wv _ HWL.out (fun _ hw => hw.1) Tryd.underlying25 rfl SW.out) HS.out ?_
        simp only [Act.put, List.getElem_toArray, List.getElem_cons_zero, List.getElem_cons_succ, List.setIfInBounds_toArray, List.set_cons_zero, List.set_cons_succ]
        refine wpAnyH_take (i := 7) (v := ?_) rfl (by kernel_rfl) (by kernel_rfl) (by kernel_rfl) (fun _ _ _ h => h) (Or.inl ⟨by rfl, ?q7⟩) HS.out ?_
        case q7 => intro w hSw; go_simp; rfl
        simp only [Act.put, List.getElem_toArray, List.getElem_cons_zero, List.getElem_cons_succ, List.setIfInBounds_toArray, List.set_cons_zero, List.set_cons_succ]
        refine wpAnyH_take (i := 8) rfl (by kernel_rfl) (by kernel_rfl) (by kernel_rfl) (fun _ _ _ h => h) (yieldsIf_load_arrS (by rfl) 28 _ rfl t6 9 rfl _ bv _ HBL.out (fun _ hw => hw.2) Tryd.underlying28 rfl SB.out) HS.out ?_
        simp only [Act.put, List.getElem_toArray, List.getElem_cons_zero, List.getElem_cons_succ, List.setIfInBounds_toArray, List.set_cons_zero, List.set_cons_succ]
        refine wpAnyH_ready (rs := [4]) (by kernel_rfl) (by simp) ?_
        refine AllReadyH.cons rfl (fun K hK => ?_) AllReadyH.nil
        replace hK := hid hK
        go_simp
        refine CM.out.mono ?_
        rintro e w5 ⟨rfl, hb5⟩
        have b5 := hid (dA.out.trans (show Below wA.heap.size wA.drew w5 from hb5))
        clear hb5 HS CM
        have HS : Hid (w5.rangeAt t6 1 (ws.map fun x : Nat => Value.int .u32 (x : Int)) ∧ w5.rangeAt t6 9 (bl.map (Value.int .u8))) := hid ⟨fun j u hu => (b5.out.cell (p := ⟨t6, 1 + j, none⟩) LA.out).trans (RW.out j u hu), fun j u hu => (b5.out.cell (p := ⟨t6, 9 + j, none⟩) LA.out).trans (RB.out j u hu)⟩
        refine hK.out _ _ HS.out (fun _ => ?_)
        clear hK K
        try (simp only [Act.put, List.getElem_toArray, List.getElem_cons_zero, List.getElem_cons_succ, List.setIfInBounds_toArray, List.set_cons_zero, List.set_cons_succ])
        refine wpAnyH_ready (rs := [9]) (by kernel_rfl) (by simp) ?_
        refine AllReadyH.cons rfl (fun K hK => ?_) AllReadyH.nil
        replace hK := hid hK
        go_simp
        refine (CN.out w5).mono ?_
        rintro e w6 ⟨rfl, hb6⟩
        have b6 := hid (below_thenT b5.out hb6)
        clear hb6 HS CN
        have HS : Hid (w6.rangeAt t6 1 (ws.map fun x : Nat => Value.int .u32 (x : Int)) ∧ w6.rangeAt t6 9 (bl.map (Value.int .u8))) := hid ⟨fun j u hu => (b6.out.cell (p := ⟨t6, 1 + j, none⟩) LA.out).trans (RW.out j u hu), fun j u hu => (b6.out.cell (p := ⟨t6, 9 + j, none⟩) LA.out).trans (RB.out j u hu)⟩
        refine hK.out _ _ HS.out (fun _ => ?_)
        clear hK K
        try (simp only [Act.put, List.getElem_toArray, List.getElem_cons_zero, List.getElem_cons_succ, List.setIfInBounds_toArray, List.set_cons_zero, List.set_cons_succ])
        refine wpAnyH_take (i := 10) (v := ?_) rfl (by kernel_rfl) (by kernel_rfl) (by kernel_rfl) (fun _ _ _ h => h) (Or.inl ⟨by rfl, ?q10⟩) HS.out ?_
        case q10 => intro w hSw; have := hnm w; go_simp; rfl
        simp only [Act.put, List.getElem_toArray, List.getElem_cons_zero, List.getElem_cons_succ, List.setIfInBounds_toArray, List.set_cons_zero, List.set_cons_succ]
        refine wpAnyH_done (by kernel_rfl) ?_ _
        have B6 := hid (BA.out.trans (b6.out.mono BA.out.size))
        have D6 := hid (DA.out.below b6.out)
        go_wp2
        exact ⟨⟨k + 1, by omega, by go_num, x1, x2, l, D6, hid (by have := LL.out; omega), LE, B6⟩, by simp [intOf]; omega⟩
      by_cases z1 : cl = 1
      · subst z1
        have hPP : Hid (∃ (er : Int) (P : List Int), BytI P ∧ P.length ≤ 100 ∧ (∀ W : World, Calls Tryd.prog 10 #[.int .i64 m] W fun e w' => ∃ v', e = .returned (.tuple #[v', .int .i64 er]) ∧ w'.ownsRow W.heap.size 5 1 v' P.length (P.map (Value.int .u8)) ∧ Below W.heap.size W w')
            ∧ (∀ W : World, Calls Tryd.prog 11 #[.int .i64 m] W fun e w' => ∃ v', e = .returned (.tuple #[v', .int .i64 er]) ∧ w'.ownsRow W.heap.size 5 1 v' P.length (P.map (Value.int .u8)) ∧ Below W.heap.size W w')) := by
          by_cases hq : m < 0 ∨ 1152921504606846976 < m
          · exact hid ⟨2, [], (fun x hx => by cases hx), by simp, fun W => (pad_bad W m hq).mono fun e w' ⟨he, hw⟩ => ⟨_, he, World.ownsRow_nil _ _ _ _, by rw [hw]; exact Below.refl _ _⟩, fun W => (rpad_bad W m hq).mono fun e w' ⟨he, hw⟩ => ⟨_, he, World.ownsRow_nil _ _ _ _, by rw [hw]; exact Below.refl _ _⟩⟩
          · obtain ⟨M, rfl⟩ : ∃ M : Nat, m = (M : Int) := ⟨m.toNat, by omega⟩
            exact hid ⟨0, padL M, padL_byt M, by rw [padL_length]; unfold padZ; omega, fun W => pad_ok W M (by omega), fun W => rpad_ok W M (by omega)⟩
        obtain ⟨er, P, hPb, hPl, hP1, hP2⟩ := hPP.out
        have PB := hid hPb
        have PL := hid hPl
        have CP := hid hP1
        have CQ := hid hP2
        have hLL : l.length + 2 ≤ 700000 := by have := LL.out; omega
        have HLL := hid hLL
        have HM73 : Hid (∀ W : World, W.heap[t6]? = some (.cells (scL 1 ws bl m (.slice pv n2 cv)).toArray 30 (0, 0)) → W.cell? ⟨t6, 73, none⟩ = some (.int .i64 m)) := hid fun W hW => by rw [cell_of_row W t6 73 _ _ _ hW]; simpa using (scL_m H8.out.1 H64.out).1
        clear hPP hPb hPl hP1 hP2 c74 hLL
        have DW : Hid (DP w.heap.size wA (.slice p1 N c1) (.slice p2 N c2) x1 x2 l l) := DA
        go_wp2_with (first | (refine wpList_load_mid rfl 30 _ rfl b (off + k * 75) rfl _ _ RG.out Tryd.underlying30 rfl SZA.out ?_; rw [HA.out]) | (refine wpList_alloc_agg HZ0.out rfl rfl ?_) | (refine wpList_store_row rfl 30 _ _ rfl wr.heap.size A rfl rfl 30 _ HR.out SZB.out ZAS.out OA.out ?_; rw [HWA.out, H6.out]) | fail)
        go_loopw [3, 4, 7] (fun v1 v2 i wz => ∃ q : Nat, q ≤ 2 ∧ i = .int .i64 (q : Int) ∧ ∃ y1 y2 lq, Hid (DP w.heap.size wz v1 v2 y1 y2 lq lq) ∧ Hid (lq.length = l.length + q) ∧ Hid (∀ j, (lq.getD j []).length ≤ 100) ∧ Hid (wz.heap[t6]? = some (.cells (scL 1 ws bl m (.slice pv n2 cv)).toArray 30 (0, 0))) ∧ Hid (Below w.heap.size w wz)) (fun _ _ i _ => 2 - (intOf i).toNat)
        case atStart => exact ⟨0, by decide, rfl, x1, x2, l, DW, rfl, LE, XA, BA⟩
        case round =>
          clear DW c73 DA BA XA
          obtain ⟨q, hq2, rfl, y1, y2, lq, DZ, LQ, LEq, XZ, BZ⟩ := hrel
          have c73 := HM73.out _ XZ.out
          obtain ⟨a1, d1, e1⟩ := own_slice DZ.out.r1
          obtain ⟨a2, d2, e2⟩ := own_slice DZ.out.r2
          obtain ⟨NN, HNN⟩ : ∃ x, Hid (lq.length = x) := ⟨_, rfl⟩
          rw [HNN.out] at e1 e2
          subst e1 e2
          by_cases hlt2 : q < 2
          · have hNN : NN + 1 ≤ 800000 := by have := LQ.out; have := HLL.out; have := HNN.out; omega
            go_wp2_with fail
            refine (CP.out wr).mono ?_
            rintro e w5 ⟨v5, rfl, ho5, hb5⟩
            have O5 := hid ho5
            have b5 := hid hb5
            have XZ5 := hid ((hb5.block _ (Array.getElem?_eq_some_iff.1 XZ.out).1).trans XZ.out)
            have c73' := HM73.out _ XZ5.out
            obtain ⟨pp5, cp5, ep5⟩ := own_slice ho5
            obtain ⟨PN, HPN⟩ : ∃ x, Hid (P.length = x) := ⟨_, rfl⟩
            rw [HPN.out] at ep5
            subst ep5
            clear ho5 hb5 c73
            go_wp2_with fail
            refine (CQ.out w5).mono ?_
            rintro e w6 ⟨v6, rfl, ho6, hb6⟩
            have O6 := hid ho6
            have b6 := hid (below_thenT b5.out hb6)
            have O56 := hid (own_blkD O5.out fun k e => hb6.block _ (O5.out.lt k e).2)
            have XZ6 := hid ((hb6.block _ (Array.getElem?_eq_some_iff.1 XZ5.out).1).trans XZ5.out)
            obtain ⟨pp6, cp6, ep6⟩ := own_slice ho6
            rw [HPN.out] at ep6
            subst ep6
            clear ho6 hb6 c73'
            have D6 := hid (DZ.out.below b6.out)
            have F1 := hid (DZ.out.fresh (u := .slice pp5 PN cp5) fun k e => (O5.out.lt k e).1)
            have F2 := hid (DZ.out.swap.fresh (u := .slice pp6 PN cp6) fun k e => Nat.le_trans b5.out.size (O6.out.lt k e).1)
            have BZ6 := hid (BZ.out.trans (b6.out.mono BZ.out.size))
            have hB6 := BZ6.out.size
            have hB5 := BZ.out.size
            have hB56 := b5.out.size
            -- the first list
            obtain ⟨w7, HW7⟩ : ∃ x, Hid (w6.alloc (.cells #[.slice pp5 PN cp5] 32) = x) := ⟨_, rfl⟩
            have b67 : Below w6.heap.size w6 w7 := by rw [← HW7.out]; exact (Below.refl _ _).alloc (Nat.le_refl _) _
            have hc7 : w7.cell? ⟨w6.heap.size, 0, none⟩ = some (.slice pp5 PN cp5) := by rw [← HW7.out, cell_of_row _ _ _ _ _ _ (heap_alloc_new w6 _)]; rfl
            have hz7 : w7.heap.size = w6.heap.size + 1 := by rw [← HW7.out]; simp
            have R16 : w6.ownsRow w.heap.size 32 1 (.slice a1 NN d1) NN y1 := by have := D6.out.r1; rwa [HNN.out] at this
            obtain ⟨v8, w8, hr8, hown8, hgr8, hloc8⟩ := run_append_slice w7 w.heap.size 27 (.slice a1 NN d1) NN y1 (own_blkD R16 fun k e => b67.block _ (R16.lt k e).2) ⟨w6.heap.size, 0, none⟩ 1 (.slice pp5 PN cp5) hc7 rfl (by omega) (by omega)
            rw [hz7] at hloc8
            have D8 := hid (D6.out.push (u := .slice pp5 PN cp5) (l := P) (o := .cells #[.slice pp5 PN cp5] 32) (own_mono4D O56.out hB5) PB.out F1.out (by rw [HNN.out]; exact hown8) (by rw [HW7.out]; exact hgr8) hloc8)
            have B8 : Hid (Below w.heap.size w w8) := hid ((BZ6.out.trans (b67.mono hB6)).grown hgr8 (by omega) (fun k e => (R16.lt k e).1))
            have XZ8 : Hid (w8.heap[t6]? = some (.cells (scL 1 ws bl m (.slice pv n2 cv)).toArray 30 (0, 0))) := by
              have h2 := (b67.block _ (Array.getElem?_eq_some_iff.1 XZ6.out).1).trans XZ6.out
              exact hid ((hgr8.block _ (Array.getElem?_eq_some_iff.1 h2).1 fun e => own_block_neD R16 ⟨_, _, XZ6.out⟩ (by decide) e.symm).trans h2)
            have O68 : Hid (w8.ownsRow w5.heap.size 5 1 (.slice pp6 PN cp6) P.length (P.map (Value.int .u8))) := hid (own_blkD O6.out fun k e => by
              have l6 := (O6.out.lt k e).2
              have l5 := (O6.out.lt k e).1
              refine (hgr8.block k (by omega) fun q => ?_).trans (b67.block k l6)
              have := (DZ.out.r1.lt k q.symm).2
              omega)
            obtain ⟨q8, cap8, e8⟩ := own_slice hown8
            have R8 := hid hr8
            have S8 := hid hgr8.size
            clear hown8 hgr8 hloc8 hc7 b67 R16 hr8
            subst e8
            -- the second list
            obtain ⟨w9, HW9⟩ : ∃ x, Hid (w8.alloc (.cells #[.slice pp6 PN cp6] 32) = x) := ⟨_, rfl⟩
            have b89 : Below w8.heap.size w8 w9 := by rw [← HW9.out]; exact (Below.refl _ _).alloc (Nat.le_refl _) _
            have hc9 : w9.cell? ⟨w8.heap.size, 0, none⟩ = some (.slice pp6 PN cp6) := by rw [← HW9.out, cell_of_row _ _ _ _ _ _ (heap_alloc_new w8 _)]; rfl
            have hz9 : w9.heap.size = w8.heap.size + 1 := by rw [← HW9.out]; simp
            have R28 : w8.ownsRow w.heap.size 32 1 (.slice a2 NN d2) NN y2 := by have := D8.out.r2; rwa [HNN.out] at this
            have hB8 := B8.out.size
            obtain ⟨va, wa, hra, howna, hgra, hloca⟩ := run_append_slice w9 w.heap.size 27 (.slice a2 NN d2) NN y2 (own_blkD R28 fun k e => b89.block _ (R28.lt k e).2) ⟨w8.heap.size, 0, none⟩ 1 (.slice pp6 PN cp6) hc9 rfl (by omega) (by omega)
            rw [hz9] at hloca
            have Da := hid (D8.out.swap.push (u := .slice pp6 PN cp6) (l := P) (o := .cells #[.slice pp6 PN cp6] 32) (own_mono4D O68.out (by omega)) PB.out F2.out (by rw [HNN.out]; exact howna) (by rw [HW9.out]; exact hgra) hloca).swap
            have Ba : Hid (Below w.heap.size w wa) := hid ((B8.out.trans (b89.mono hB8)).grown hgra (by omega) (fun k e => (R28.lt k e).1))
            have XZa : Hid (wa.heap[t6]? = some (.cells (scL 1 ws bl m (.slice pv n2 cv)).toArray 30 (0, 0))) := by
              have h2 := (b89.block _ (Array.getElem?_eq_some_iff.1 XZ8.out).1).trans XZ8.out
              exact hid ((hgra.block _ (Array.getElem?_eq_some_iff.1 h2).1 fun e => own_block_neD R28 ⟨_, _, XZ8.out⟩ (by decide) e.symm).trans h2)
            obtain ⟨qa, capa, ea⟩ := own_slice howna
            have Ra := hid hra
            clear howna hgra hloca hc9 b89 R28 hra hz7 hz9
            subst ea
            have LQ2 : Hid ((lq ++ [P]).length = l.length + (q + 1)) := hid (by rw [List.length_append, LQ.out, List.length_singleton]; omega)
            have LE2 : Hid (∀ j, ((lq ++ [P]).getD j []).length ≤ 100) := hid fun j => by
              by_cases hj : j < lq.length
              · rw [getD_app, if_pos hj]; exact LEq.out j
              · rw [getD_app, if_neg hj]
                cases h : j - lq.length with
                | zero => exact PL.out
                | succ n => simp [List.getD]
            go_wp2_with (first | rw [HW7.out] | rw [HW9.out] | (refine wpList_run_append rfl _ _ rfl rfl rfl R8.out rfl ?_) | (refine wpList_run_append rfl _ _ rfl rfl rfl Ra.out rfl ?_) | fail)
            exact ⟨⟨q + 1, by omega, by go_num, _, _, _, Da, LQ2, LE2, XZa, Ba⟩, by simp [intOf]; omega⟩
          · have hq' : q = 2 := by omega
            subst hq'
            go_wp2
            exact ⟨⟨k + 1, by omega, by go_num, _, _, lq, DZ, hid (by have := LQ.out; have := LL.out; omega), LEq, BZ⟩, by simp [intOf]; omega⟩
      have e0 : (cl == 0) = false := by simpa using z0
      have e1 : (cl == 1) = false := by simpa using z1
      have CS := hid (summed_any wA _ ls (HOL.out.below BA.out) (by have := HBK.out; omega) (fun j => by have := HBK.out; have := flat_mem (ls := ls) j; omega) (fun j => HOL.out.bytS j) (by have := HBK.out; omega) (HK.out.below BA.out))
      clear z0 z1 c73
      go_wp2_with (first | (refine wpList_load_mid rfl 30 _ rfl b (off + k * 75) rfl _ _ RG.out Tryd.underlying30 rfl SZA.out ?_; rw [HA.out]) | (refine wpList_alloc_agg HZ0.out rfl rfl ?_) | (refine wpList_store_row rfl 30 _ _ rfl wr.heap.size A rfl rfl 30 _ HR.out SZB.out ZAS.out OA.out ?_; rw [HWA.out, H6.out]) | fail)
      refine CS.out.mono ?_
      rintro e w5 ⟨rfl, hb5⟩
      have D5 := hid (DA.out.below hb5)
      have B5 := hid (BA.out.trans (hb5.mono BA.out.size))
      clear hb5 CS
      go_wp2
      exact ⟨⟨k + 1, by omega, by go_num, x1, x2, l, D5, hid (by have := LL.out; omega), LE, B5⟩, by simp [intOf]; omega⟩
    · have hk' : k = n := by omega
      subst hk'
      have O1 := DR.out.owl
      have O2 := DR.out.swap.owl
      have CL := hid (sameLists_any wr _ _ l l (O1.hl BR.out) (O2.hl BR.out))
      rw [decide_eq_true rfl] at CL
      clear hlt HC HE O1 O2
      go_wp2_with fail
      refine CL.out.mono ?_
      rintro e w5 ⟨rfl, q, rfl⟩
      have D5 := hid (DR.out.below ((Dr.one wr q).below _))
      have B5 := hid (BR.out.trans ((Dr.one wr q).below _))
      have hz5 := B5.out.size
      have CZ := hid (apart_any w.heap.size _ _ x1 l D5.out.hv D5.out.a1 B5.out.size (by have := D5.out.a1.1; have := LL.out; omega) (fun j => by have := LE.out j; omega))
      clear CL
      go_wp2_with fail
      refine CZ.out.mono ?_
      rintro e w6 ⟨rfl, hb6⟩
      have B6 := hid (B5.out.trans hb6)
      clear hb6 CZ
      go_wp2
      go_ret
      exact ⟨rfl, B6.out⟩
end Go.Proofs.YtinahldjpobigaaDoor
