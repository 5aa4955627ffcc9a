/- Of the road to rsAny_holds: GsSw, GsM, GsF, GsEl, GsRep. -/
import Derived.Test.YtbiplflejijbeaaG04
import Derived.Test.YtbiplflejijbeaaG03
import Derived.Handy
import Derived.Test.YtbiplflejijbeaaG00
import Derived.WalkMore
import Derived.Deep.LoopGhost
import Derived.Laws.OwnMore
import Derived.OrdersHeld
import Derived.Deep.RegionHeld
import Derived.Deep.RegionHeld3
set_option linter.unusedVariables false
set_option linter.unusedSimpArgs false
namespace Go.Proofs.Ytbiplflejijbeaa
open Go Go.RowKit
theorem yieldsIf_nilM {P : Program} {ops : Array Oper} {S : World → Prop} {op : Oper} {a : Act} (hw : Region.wanted op (yielded ops a.tmps) = true) {x : Operand} {nm : String} {ty : TypeId} {v : Value} (hop : op.op = .nilCheck x) (hx : a.eval x = .func (.method nm) #[.iface ty v] #[]) (hn : Ev.nilF P ty nm = true) : YieldsIf P ops S op (.func (.method nm) #[.iface ty v] #[]) a :=
  .inl ⟨hw, fun w _ => by
    have hd : P.types.size + Made.depth = (P.types.size + (Made.depth - 1)) + 1 := rfl
    have hm := Ev.nilF_ok hn v (P.types.size + (Made.depth - 1)) w
    rw [← hd] at hm
    simp only [execOp, hop, hx]
    simp only [List.getElem?_toArray, List.getElem?_cons_zero, program, Sem.run_bind, Sem.run, hm, Result.andThen_ok]
    rfl⟩
theorem run_invM {P : Program} {o : Oper} {a : Act} {c : Call} {x : Operand} {nm : String} {ty : TypeId} {v : Value} {g : Nat} {b : Bool} {args : Array Value} (hop : o.op = .call c) (hcal : c.callee = .invoke x nm) (hx : a.eval x = .iface ty v) (hargs : #[v] ++ c.args.map a.eval = args) (hm : Ev.methF P ty b nm = some g) (hcan : Ev.canCall P g = true) (w : World) :
    (execOp a.eval o).run P w = .ok (.enter g args) w := by
  unfold Ev.canCall at hcan
  split at hcan
  case h_2 => cases hcan
  rename_i fn hfn
  simp only [Bool.and_eq_true, bne_iff_ne, ne_eq] at hcan
  subst hargs
  have hd : P.types.size + Made.depth = (P.types.size + (Made.depth - 1)) + 1 := rfl
  have hm := Ev.methF_ok hm v (P.types.size + (Made.depth - 1)) w
  rw [← hd] at hm
  have hx0 : (#[a.eval x] ++ c.args.map a.eval)[0]? = some (.iface ty v) := by rw [hx, Array.getElem?_append_left (by simp)]; rfl
  have hx1 : (#[a.eval x] ++ c.args.map a.eval).extract 1 (#[a.eval x] ++ c.args.map a.eval).size = c.args.map a.eval := by
    apply Array.ext'
    simp only [Array.toList_extract, Array.toList_append, List.extract_eq_take_drop, Array.size_append, Array.size_map]
    simp only [List.size_toArray, List.length_cons, List.length_nil, Nat.add_sub_cancel_left, Nat.zero_add, List.cons_append, List.nil_append, List.drop_succ_cons, List.drop_zero, Array.toList_map]
    exact List.take_of_length_le (by simp)
  have hn : (fn.name == "runtime.NumGoroutine") = false := by simpa using hcan.1
  have hb : fn.body.isNone = false := by cases hq : fn.body <;> simp [hq] at hcan ⊢
  have hcf : ∀ args, (callFunc g args).run P w = .ok (.enter g args) w := fun args => by
    simp only [callFunc, program, Sem.run_bind, Result.andThen_ok, Sem.run, hfn]
    simp [hn, hb]
  simp only [execOp, hop, resolve, hcal, Sem.run_bind, Sem.run_pure, Result.andThen_ok, invoke]
  simp only [hx0, hx1, callMethod, program, Sem.run_bind, Sem.run, hm, Result.andThen_ok]
  exact hcf _
theorem wp_invM {P : Program} {ops : Array Oper} {o : Oper} {a : Act} {w : World} {K : Act → World → Prop} {Q : Exit → Act → World → Prop} {c : Call} {x : Operand} {nm : String} {ty : TypeId} {v : Value} {g : Nat} {b : Bool} {args : Array Value} (hw : Region.wanted o (yielded ops a.tmps) = true) (hop : o.op = .call c) (hcal : c.callee = .invoke x nm) (hx : a.eval x = .iface ty v) (hargs : #[v] ++ c.args.map a.eval = args) (hm : Ev.methF P ty b nm = some g) (hcan : Ev.canCall P g = true)
    (h : Calls P g args w fun e w' => ∃ u, e = .returned u ∧ K (a.put o.dst u) w') : if Region.wanted o (yielded ops a.tmps) = true then Oper.wp P o a w K Q else K (a.put o.dst undef) w := by
  rw [if_pos hw]
  unfold Oper.wp
  rw [run_invM hop hcal hx hargs hm hcan w, Oper.upon_enter]
  refine h.mono ?_
  rintro e w' ⟨u, rfl, hk⟩
  exact hk
def pT (M : Nat → Nat → Nat) (a t j : Nat) : Nat := prod (M a j) t
def swT (M : Nat → Nat → Nat) (a col t : Nat) : Nat → Nat → Nat := fun i j => if i = a then pT M a t j else M i j ^^^ prod (M i col) (pT M a t j)
def m1T (M : Nat → Nat → Nat) (a t J : Nat) : Nat → Nat → Nat := fun i j => if i = a ∧ j < J then pT M a t j else M i j
def plT (M : Nat → Nat → Nat) (a J : Nat) : List Nat := (List.range J).filter fun j => M a j != 0
theorem plT_succ (M : Nat → Nat → Nat) (a J : Nat) : plT M a (J + 1) = plT M a J ++ if M a J != 0 then [J] else [] := by
  unfold plT
  rw [List.range_succ, List.filter_append]
  congr 1
  by_cases h : M a J != 0 <;> simp [h]
theorem plT_le (M : Nat → Nat → Nat) (a J : Nat) : (plT M a J).length ≤ J := by
  unfold plT
  exact Nat.le_trans (List.length_filter_le _ _) (by simp)
theorem plT_mem {M : Nat → Nat → Nat} {a J j : Nat} : j ∈ plT M a J ↔ j < J ∧ M a j ≠ 0 := by
  unfold plT
  rw [List.mem_filter, List.mem_range]
  simp
theorem own_someR {w : World} {B n c : Nat} {e : TypeId} {p : Option Addr} {xs : List Value} (h : w.ownsRow B e 1 (.slice p n c) n xs) (hn : 0 < n) : ∃ g, p = some ⟨g, 0, none⟩ := by
  rcases h.2 with ⟨_, h0⟩ | ⟨g, cap, cur, e, _⟩
  · omega
  · cases e
    exact ⟨g, rfl⟩
theorem plT_nodup {M : Nat → Nat → Nat} {a J : Nat} : (plT M a J).Nodup := by
  unfold plT
  exact List.nodup_range.filter _
theorem pT_lt {M : Nat → Nat → Nat} (hM : ∀ i j, M i j < 256) (a t j : Nat) : pT M a t j < 256 := prod_lt _ (hM _ _)
theorem m1T_lt {M : Nat → Nat → Nat} (hM : ∀ i j, M i j < 256) (a t J : Nat) : ∀ i j, m1T M a t J i j < 256 := fun i j => by
  unfold m1T
  split
  · exact pT_lt hM _ _ _
  · exact hM _ _
theorem swT_lt {M : Nat → Nat → Nat} (hM : ∀ i j, M i j < 256) (a col t : Nat) : ∀ i j, swT M a col t i j < 256 := fun i j => by
  unfold swT
  split
  · exact pT_lt hM _ _ _
  · exact xor_lt' (hM _ _) (prod_lt _ (hM _ _))
def m2T (M : Nat → Nat → Nat) (a col t I : Nat) (ps : List Nat) : Nat → Nat → Nat := fun i j => if i = a then pT M a t j else if i < I ∨ i = I ∧ j ∈ ps then swT M a col t i j else M i j
theorem m2T_lt {M : Nat → Nat → Nat} (hM : ∀ i j, M i j < 256) (a col t I : Nat) (ps : List Nat) : ∀ i j, m2T M a col t I ps i j < 256 := fun i j => by
  unfold m2T
  split
  · exact pT_lt hM _ _ _
  · split
    · exact swT_lt hM _ _ _ _ _
    · exact hM _ _
theorem swT_none {M : Nat → Nat → Nat} (hM : ∀ i j, M i j < 256) {a col t i j : Nat} (hi : i ≠ a) (h : M a j = 0 ∨ M i col = 0) (ht : t < 256) : swT M a col t i j = M i j := by
  unfold swT
  rw [if_neg hi]
  have : prod (M i col) (pT M a t j) = 0 := by
    rcases h with h | h
    · unfold pT; rw [h, zero_prod _ ht, prod_zero]
    · rw [h, zero_prod _ (pT_lt hM _ _ _)]
  rw [this, Nat.xor_zero]
set_option maxRecDepth 100000 in
set_option maxHeartbeats 8000000 in
theorem sweep_any (w : World) (B : Nat) (v : Value) (R L : Nat) (rs : Nat → Value) (M : Nat → Nat → Nat) (a col t : Nat) (h : RM B w v R L rs M) (hB : B ≤ w.heap.size) (ha : a < R) (hc : col < L) (ht : t < 256) (hR : R ≤ 300) (hL : L ≤ 600) :
    Calls Try.prog 64 #[gfF, v, .int .i64 (a : Int), .int .i64 (col : Int), .int .u8 (t : Int)] w fun e w' => e = .returned (.tuple #[]) ∧ RM B w' v R L rs (swT M a col t) ∧ Below B w w' := by
  have CZ := hid (gfZero w)
  have HM := hid h.b
  have H0 := hid h
  obtain ⟨go, co, rfl, hgo1, hgo2, hco1, hco2, hgoc⟩ := h.top (by omega)
  obtain ⟨ga, ca, hra, hga1, hga2, hca1, hca2⟩ := h.slc ha (by omega)
  unfold gfF
  have q0 := (hgoc a ha).1
  rw [hra] at q0
  have HRA := hid hra
  have hai : (a : Int) < (R : Int) := by omega
  have Q0 := hid q0
  have HGO := hid hgo2
  have HGOC := hid fun i hi => (hgoc i hi).1
  have WB := hid hB
  clear h hgoc q0 hra
  go_enter Try.func64, Try.ntmps64
  go_wp2_with fail
  refine CZ.out.mono ?_
  rintro e w1 ⟨rfl, hb1⟩
  have B1 := hid hb1
  have R1 := hid (H0.out.below hb1)
  have q0 : w1.cell? ⟨go, a, none⟩ = some (.slice (some ⟨ga, 0, none⟩) L ca) := (hb1.cell (p := ⟨go, a, none⟩) HGO.out).trans Q0.out
  have N1 := hid hb1.size
  clear hb1 CZ
  go_wp2_with fail
  have R10 : Hid (RM B w1 (.slice (some ⟨go, 0, none⟩) R co) R L rs (m1T M a t 0)) := hid (R1.out.congr (fun i j _ _ => by unfold m1T; rw [if_neg (by omega)]) (m1T_lt HM.out a t 0))
  go_loopw [12, 28] (fun vp i wr => ∃ J : Nat, J ≤ L ∧ i = .int .i64 (J : Int) ∧ Hid (RM B wr (.slice (some ⟨go, 0, none⟩) R co) R L rs (m1T M a t J)) ∧ Hid (wr.ownsRow w.heap.size 3 1 vp (plT M a J).length ((plT M a J).map fun j : Nat => Value.int .i64 (j : Int))) ∧ Hid (w.heap.size ≤ wr.heap.size) ∧ Hid (Below B w wr)) (fun _ i _ => L - (intOf i).toNat)
  case atStart => exact ⟨0, Nat.zero_le _, rfl, R10, World.ownsRow_nil _ _ _ _, N1, hid (B1.out.mono WB.out)⟩
  case round =>
    clear R10 R1 B1 q0
    obtain ⟨J, hJ, rfl, RR, RP, NR, BR⟩ := hrel
    obtain ⟨pp, cp, ep⟩ := own_slc RP.out
    obtain ⟨NP, HNP⟩ : ∃ x, Hid ((plT M a J).length = x) := ⟨_, rfl⟩
    rw [HNP.out] at ep
    subst ep
    have NPl : NP ≤ J := by rw [← HNP.out]; exact plT_le _ _ _
    by_cases hlt : J < L
    · have hrow := RR.out.r a ha
      rw [HRA.out] at hrow
      obtain ⟨x, HX⟩ : ∃ x, Hid (M a J = x) := ⟨_, rfl⟩
      have hx : x < 256 := by rw [← HX.out]; exact HM.out a J
      have hcx := hrow.cellAt J (by omega)
      have e1 : ((tbL L (m1T M a t J a)).map (Value.int .u8))[J]? = some (.int .u8 (x : Int)) := by
        rw [← HX.out]
        simp [tbL, hlt, m1T]
      rw [e1] at hcx
      have HFZ := hid (hrow.frozenAt J)
      have CA := hid (alike_b wr (x : Int) 0)
      have HCX := hid hcx
      clear hrow e1
      by_cases hx0 : x = 0
      · subst hx0
        have CA := hid (alike_b wr 0 0)
        have R2 : Hid (RM B wr (.slice (some ⟨go, 0, none⟩) R co) R L rs (m1T M a t (J + 1))) := hid (RR.out.congr (fun i j _ _ => by
          unfold m1T
          by_cases q : i = a ∧ j < J
          · rw [if_pos q, if_pos ⟨q.1, by omega⟩]
          · rw [if_neg q]
            by_cases q2 : i = a ∧ j = J
            · rw [if_pos ⟨q2.1, by omega⟩, q2.1, q2.2]
              unfold pT
              rw [HX.out, zero_prod _ ht]
            · rw [if_neg (fun z => by rcases Nat.lt_or_ge j J with y | y; exact q ⟨z.1, y⟩; exact q2 ⟨z.1, by omega⟩)]) (m1T_lt HM.out a t (J + 1)))
        have P2 : Hid (plT M a (J + 1) = plT M a J) := hid (by rw [plT_succ, HX.out]; simp)
        go_wp2_with fail
        refine CA.out.mono ?_
        rintro e wq ⟨rfl, hwq⟩
        rw [hwq]
        clear hwq wq CA
        go_wp2
        exact ⟨⟨J + 1, by omega, by go_num, R2, by rw [P2.out, HNP.out]; have := RP.out; rw [HNP.out] at this; exact hid this, NR, BR⟩, by simp [intOf]; omega⟩
      · have hxe : ((x : Int) == 0) = false := by simp; omega
        rw [hxe] at CA
        have CM := hid (bmMul wr x t hx ht)
        have P2 : Hid (plT M a (J + 1) = plT M a J ++ [J]) := hid (by rw [plT_succ, HX.out]; simp [hx0])
        obtain ⟨y, HY⟩ : ∃ y, Hid (prod x t = y) := ⟨_, rfl⟩
        have hy : y < 256 := by rw [← HY.out]; exact prod_lt _ hx
        rw [HY.out] at CM
        go_wp2_with fail
        refine CA.out.mono ?_
        rintro e wq ⟨rfl, hwq⟩
        rw [hwq]
        clear hwq wq CA
        go_wp2_with fail
        refine CM.out.mono ?_
        rintro e w5 ⟨rfl, hb5⟩
        have R5 := hid (RR.out.below hb5)
        have P5 := hid (own_blkR RP.out fun k e => hb5.block _ (RP.out.lt k e).2)
        have B5 := hid (BR.out.trans (hb5.mono (Nat.le_trans WB.out NR.out)))
        have hcx5 := (hb5.cell (p := ⟨ga, J, none⟩) (World.block_lt_of_cell? wr _ HCX.out)).trans HCX.out
        have hfz5 : w5.frozen? ⟨ga, J, none⟩ = false := (World.frozen?_of_block (w := wr) (a := ⟨ga, J, none⟩) (hb5.block _ (World.block_lt_of_cell? wr _ HCX.out))).trans HFZ.out
        have R6 := hid ((R5.out.set ha hlt hy HRA.out).congr (M' := m1T M a t (J + 1)) (fun i j _ _ => by
          unfold m1T
          by_cases q : i = a ∧ j = J
          · rw [if_pos q, if_pos ⟨q.1, by omega⟩, q.2]
            unfold pT
            rw [HX.out, HY.out]
          · rw [if_neg q]
            by_cases q2 : i = a ∧ j < J
            · rw [if_pos q2, if_pos ⟨q2.1, by omega⟩]
            · rw [if_neg q2, if_neg (fun z => by rcases Nat.lt_or_ge j J with r | r; exact q2 ⟨z.1, r⟩; exact q ⟨z.1, by omega⟩)]) (m1T_lt HM.out a t (J + 1)))
        have P6 : Hid ((w5.setCell ⟨ga, J, none⟩ (.int .u8 (y : Int))).ownsRow w.heap.size 3 1 (.slice pp NP cp) NP ((plT M a J).map fun j : Nat => Value.int .i64 (j : Int))) := hid (by
          have := P5.out
          rw [HNP.out] at this
          refine own_blkR this fun k e => heap_setCell_other _ _ _ _ ?_
          intro q
          have hga5 := R5.out.r a ha
          rw [HRA.out] at hga5
          exact own_nothR this hga5 (by decide) e (by simp at q; rw [q]; rfl))
        obtain ⟨w6, HW6⟩ : ∃ x, Hid (w5.setCell ⟨ga, J, none⟩ (.int .u8 (y : Int)) = x) := ⟨_, rfl⟩
        have B6 : Hid (Below B w w6) := by rw [← HW6.out]; exact hid (B5.out.setCell (p := ⟨ga, J, none⟩) hga1 _)
        have N6 : Hid (w.heap.size ≤ w6.heap.size) := by rw [← HW6.out]; exact hid (by have := NR.out; have := hb5.size; simp; omega)
        rw [HW6.out] at R6 P6
        obtain ⟨w7, HW7⟩ : ∃ x, Hid (w6.alloc (.cells #[.int .i64 (J : Int)] 3) = x) := ⟨_, rfl⟩
        have b67 : Below w6.heap.size w6 w7 := by rw [← HW7.out]; exact (Below.refl _ _).alloc (Nat.le_refl _) _
        have hc7 : Hid (w7.cell? ⟨w6.heap.size, 0, none⟩ = some (.int .i64 (J : Int))) := by rw [← HW7.out, cell_of_row _ _ _ _ _ _ (heap_alloc_new w6 _)]; exact hid rfl
        have P7 := hid (own_blkR P6.out fun k e => b67.block _ (P6.out.lt k e).2)
        have R7 := hid (R6.out.below b67)
        have B7 : Hid (Below B w w7) := hid (B6.out.trans (b67.mono (Nat.le_trans WB.out N6.out)))
        have N7 : Hid (w.heap.size ≤ w7.heap.size) := hid (Nat.le_trans N6.out b67.size)
        have S67 : Hid (w6.heap.size < w7.heap.size) := by rw [← HW7.out]; exact hid (by simp)
        clear hb5 b67 hcx
        go_wp2_with (first | rw [HW6.out] | rw [HW7.out] | (at_builtin; refine wpList_append_int rfl _ _ rfl w.heap.size _ NP _ rfl P7.out ⟨w6.heap.size, 0, none⟩ 1 (J : Int) rfl hc7.out (by omega) N7.out ?_) | fail)
        intro v8 w8 ho8 hg8 hw8
        have P8 : Hid (w8.ownsRow w.heap.size 3 1 v8 (plT M a (J + 1)).length ((plT M a (J + 1)).map fun j : Nat => Value.int .i64 (j : Int))) := hid (by rw [P2.out, List.length_append, HNP.out, List.map_append]; exact ho8)
        have R8 : Hid (RM B w8 (.slice (some ⟨go, 0, none⟩) R co) R L rs (m1T M a t (J + 1))) := hid ⟨own_blkR R7.out.o fun k e => hg8.block k (R7.out.o.lt k e).2 fun q => own_nothR R7.out.o P7.out (by decide) e q.symm, fun i hi => own_blkR (R7.out.r i hi) fun k e => hg8.block k ((R7.out.r i hi).lt k e).2 fun q => own_nothR (R7.out.r i hi) P7.out (by decide) e q.symm, R7.out.d, R7.out.b⟩
        have B8 : Hid (Below B w w8) := hid (B7.out.grown hg8 (Nat.le_trans WB.out N7.out) (fun k e => Nat.le_trans WB.out (P7.out.lt k e).1))
        have N8 : Hid (w.heap.size ≤ w8.heap.size) := hid (Nat.le_trans N7.out hg8.size)
        clear ho8 hg8 hw8
        go_wp2
        exact ⟨⟨J + 1, by omega, by go_num, R8, P8, N8, B8⟩, by simp [intOf]; omega⟩
    · have hJ' : J = L := by omega
      subst hJ'
      have RR2 : Hid (RM B wr (.slice (some ⟨go, 0, none⟩) R co) R J rs (m2T M a col t 0 [])) := hid (RR.out.congr (fun i j _ hj => by
        unfold m1T m2T
        by_cases q : i = a
        · rw [if_pos ⟨q, hj⟩, if_pos q]
        · rw [if_neg (fun z => q z.1), if_neg q, if_neg (by rintro (z | z); exact Nat.not_lt_zero _ z; cases z.2)]) (m2T_lt HM.out a col t 0 []))
      obtain ⟨PS, HPS⟩ : ∃ x, Hid (plT M a J = x) := ⟨_, rfl⟩
      have HP := RP.out
      have HPN := hid HNP.out
      rw [HPS.out] at HP HPN
      rw [HPN.out] at HP
      have HND : Hid PS.Nodup := by rw [← HPS.out]; exact hid plT_nodup
      have HPM : Hid (∀ j, j ∈ PS ↔ j < J ∧ M a j ≠ 0) := hid fun j => by rw [← HPS.out]; exact plT_mem
      have RP := hid HP
      clear HP HPS HNP RR
      go_wp2_with fail
      go_loopw [51] (fun i wr => ∃ I : Nat, I ≤ R ∧ i = .int .i64 (I : Int) ∧ Hid (RM B wr (.slice (some ⟨go, 0, none⟩) R co) R J rs (m2T M a col t I [])) ∧ Hid (wr.ownsRow w.heap.size 3 1 (.slice pp NP cp) NP (PS.map fun j : Nat => Value.int .i64 (j : Int))) ∧ Hid (w.heap.size ≤ wr.heap.size) ∧ Hid (Below B w wr)) (fun i _ => R - (intOf i).toNat)
      case atStart => exact ⟨0, Nat.zero_le _, rfl, RR2, RP, NR, BR⟩
      case round =>
        clear RR2 RP NR BR
        obtain ⟨I, hI, rfl, RR, RP, NR, BR⟩ := hrel
        by_cases hlt : I < R
        · obtain ⟨gi, ci, hri, hgi1, hgi2, hci1, hci2⟩ := RR.out.slc hlt (by omega)
          have HRI := hid hri
          have q1 : wr.cell? ⟨go, I, none⟩ = some (.slice (some ⟨gi, 0, none⟩) J ci) := by
            obtain ⟨g', c', e', _, _, _, _, hc'⟩ := RR.out.top (by omega)
            cases e'
            rw [(hc' I hlt).1, hri]
          clear hri
          obtain ⟨xc, HXC⟩ : ∃ x, Hid (m2T M a col t I [] I col = x) := ⟨_, rfl⟩
          have hxc : xc < 256 := by rw [← HXC.out]; exact m2T_lt HM.out a col t I [] I col
          have q2 : wr.cell? ⟨gi, col, none⟩ = some (.int .u8 (xc : Int)) := by
            have := (RR.out.r I hlt)
            rw [HRI.out] at this
            have := this.cellAt col (by omega)
            rw [← HXC.out, this]
            simp [tbL, hc]
          have CA := hid (alike_b wr (xc : Int) 0)
          by_cases hIa : I = a
          · have hIa' : ((I : Int) == (a : Int)) = true := by simp [hIa]
            have RR2 : Hid (RM B wr (.slice (some ⟨go, 0, none⟩) R co) R J rs (m2T M a col t (I + 1) [])) := hid (RR.out.congr (fun i j _ hj => by
              unfold m2T
              by_cases q : i = a
              · rw [if_pos q, if_pos q]
              · rw [if_neg q, if_neg q]
                by_cases q2 : i < I
                · rw [if_pos (.inl q2), if_pos (.inl (by omega))]
                · rw [if_neg (by rintro (z | z); exact q2 z; cases z.2), if_neg (by rintro (z | z); omega; cases z.2)]) (m2T_lt HM.out a col t (I + 1) []))
            clear CA hIa
            go_wp2
            exact ⟨⟨I + 1, by omega, by go_num, RR2, RP, NR, BR⟩, by simp [intOf]; omega⟩
          · have hIa' : ((I : Int) == (a : Int)) = false := by simp; omega
            have HIA := hid hIa
            clear hIa
            have HXM : Hid (M I col = xc) := hid (by rw [← HXC.out]; unfold m2T; rw [if_neg HIA.out, if_neg (by rintro (z | z); exact Nat.lt_irrefl _ z; cases z.2)])
            by_cases hx0 : xc = 0
            · subst hx0
              have CA := hid (alike_b wr 0 0)
              have RR2 : Hid (RM B wr (.slice (some ⟨go, 0, none⟩) R co) R J rs (m2T M a col t (I + 1) [])) := hid (RR.out.congr (fun i j _ hj => by
                unfold m2T
                by_cases q : i = a
                · rw [if_pos q, if_pos q]
                · rw [if_neg q, if_neg q]
                  by_cases q2 : i < I
                  · rw [if_pos (.inl q2), if_pos (.inl (by omega))]
                  · rw [if_neg (by rintro (z | z); exact q2 z; cases z.2)]
                    by_cases q3 : i = I
                    · rw [if_pos (.inl (by omega)), swT_none HM.out q (.inr (by rw [q3]; exact HXM.out)) ht]
                    · rw [if_neg (by rintro (z | z); omega; cases z.2)]) (m2T_lt HM.out a col t (I + 1) []))
              go_wp2_with fail
              refine CA.out.mono ?_
              rintro e wq ⟨rfl, hwq⟩
              rw [hwq]
              clear hwq wq CA
              go_wp2
              exact ⟨⟨I + 1, by omega, by go_num, RR2, RP, NR, BR⟩, by simp [intOf]; omega⟩
            · have hxe : ((xc : Int) == 0) = false := by simp; omega
              rw [hxe] at CA
              go_wp2_with fail
              refine CA.out.mono ?_
              rintro e wq ⟨rfl, hwq⟩
              rw [hwq]
              clear hwq wq CA
              go_wp2_with fail
              have R00 : Hid (RM B wr (.slice (some ⟨go, 0, none⟩) R co) R J rs (m2T M a col t I (PS.take 0))) := RR
              go_loopw [70] (fun i wr => ∃ k : Nat, k ≤ NP ∧ i = .int .i64 (k : Int) ∧ Hid (RM B wr (.slice (some ⟨go, 0, none⟩) R co) R J rs (m2T M a col t I (PS.take k))) ∧ Hid (wr.ownsRow w.heap.size 3 1 (.slice pp NP cp) NP (PS.map fun j : Nat => Value.int .i64 (j : Int))) ∧ Hid (w.heap.size ≤ wr.heap.size) ∧ Hid (Below B w wr)) (fun i _ => NP - (intOf i).toNat)
              case atStart => exact ⟨0, Nat.zero_le _, rfl, R00, RP, NR, BR⟩
              case round =>
                clear R00 RR RP NR BR q1 q2
                obtain ⟨k, hk, rfl, RR, RP, NR, BR⟩ := hrel
                by_cases hkl : k < NP
                · obtain ⟨j, HJ⟩ : ∃ x, Hid (PS[k]? = some x) := ⟨_, hid (List.getElem?_eq_getElem (by rw [HPN.out]; exact hkl))⟩
                  have hjm : j ∈ PS := List.mem_of_getElem? HJ.out
                  obtain ⟨hjJ, hj0⟩ := (HPM.out j).1 hjm
                  obtain ⟨gp, hgp⟩ := own_someR RP.out (by omega)
                  subst hgp
                  have qp := RP.out.cellAt k (by omega)
                  rw [List.getElem?_map, HJ.out] at qp
                  simp only [Option.map_some] at qp
                  have hnt : j ∉ PS.take k := by
                    have hnd := HND.out
                    have e : PS = PS.take k ++ j :: PS.drop (k + 1) := by
                      have hl : k < PS.length := by rw [HPN.out]; exact hkl
                      have e2 : PS[k] = j := by have := HJ.out; rw [List.getElem?_eq_getElem hl] at this; exact Option.some.inj this
                      refine (List.take_append_drop k PS).symm.trans ?_; rw [List.drop_eq_getElem_cons hl, e2]
                    intro hm
                    rw [e] at hnd
                    exact (List.nodup_append.1 hnd).2.2 _ hm _ (by simp) rfl
                  have HNT := hid hnt
                  clear hnt hjm
                  obtain ⟨x, HX⟩ : ∃ x, Hid (M I j = x) := ⟨_, rfl⟩
                  have hx : x < 256 := by rw [← HX.out]; exact HM.out I j
                  obtain ⟨y, HY⟩ : ∃ y, Hid (pT M a t j = y) := ⟨_, rfl⟩
                  have hy : y < 256 := by rw [← HY.out]; exact pT_lt HM.out a t j
                  have C1 : Hid (wr.cell? ⟨gi, j, none⟩ = some (.int .u8 (x : Int))) := hid (by
                    have := (RR.out.r I hlt)
                    rw [HRI.out] at this
                    have := this.cellAt j (by omega)
                    rw [this, ← HX.out]
                    simp [tbL, hjJ, m2T, HIA.out, HNT.out])
                  have C2 : Hid (wr.cell? ⟨ga, j, none⟩ = some (.int .u8 (y : Int))) := hid (by
                    have := (RR.out.r a ha)
                    rw [HRA.out] at this
                    have := this.cellAt j (by omega)
                    rw [this, ← HY.out]
                    simp [tbL, hjJ, m2T])
                  have HFZ : Hid (wr.frozen? ⟨gi, j, none⟩ = false) := hid (by have := (RR.out.r I hlt); rw [HRI.out] at this; exact this.frozenAt j)
                  have SW : Hid (swT M a col t I j = x ^^^ prod xc y) := hid (by unfold swT; rw [if_neg HIA.out, HX.out, HXM.out, HY.out])
                  have hgia := World.block_lt_of_cell? wr _ C1.out
                  have hgab := World.block_lt_of_cell? wr _ C2.out
                  go_wp2_with fail
                  refine wp_region_last (S := (fun W : World => W.cell? ⟨gi, j, none⟩ = some (.int .u8 (x : Int)) ∧ W.cell? ⟨ga, j, none⟩ = some (.int .u8 (y : Int)) ∧ Below wr.heap.size wr W)) 22 (by kernel_rfl) ⟨C1.out, C2.out, (Below.refl _ _).drew⟩ (fun hHeld => ?_)
                  have HS := hid hHeld
                  clear hHeld
                  change wpAnyL _ _ _ _ _ _ _ _ _ (World.drew _)
                  refine wpAnyL_take (i := 0) (v := ?_) rfl (by kernel_rfl) (by kernel_rfl) (by kernel_rfl) (by kernel_rfl) (by kernel_rfl) (fun _ _ _ h => h) (Or.inl ⟨by rfl, ?q0⟩) HS.out ?_
                  case q0 => intro w hSw; obtain ⟨hc0, hc1, _⟩ := hSw; go_simp; rfl
                  simp only [Act.put, List.getElem_toArray, List.getElem_cons_zero, List.getElem_cons_succ, List.setIfInBounds_toArray, List.set_cons_zero, List.set_cons_succ]
                  refine wpAnyL_take (i := 1) (v := ?_) rfl (by kernel_rfl) (by kernel_rfl) (by kernel_rfl) (by kernel_rfl) (by kernel_rfl) (fun _ _ _ h => h) (Or.inl ⟨by rfl, ?q1⟩) HS.out ?_
                  case q1 => intro w hSw; obtain ⟨hc0, hc1, _⟩ := hSw; go_simp; rfl
                  simp only [Act.put, List.getElem_toArray, List.getElem_cons_zero, List.getElem_cons_succ, List.setIfInBounds_toArray, List.set_cons_zero, List.set_cons_succ]
                  refine wpAnyL_take (i := 2) (v := ?_) rfl (by kernel_rfl) (by kernel_rfl) (by kernel_rfl) (by kernel_rfl) (by kernel_rfl) (fun _ _ _ h => h) (Or.inl ⟨by rfl, ?q2⟩) HS.out ?_
                  case q2 => intro w hSw; obtain ⟨hc0, hc1, _⟩ := hSw; go_simp; rfl
                  simp only [Act.put, List.getElem_toArray, List.getElem_cons_zero, List.getElem_cons_succ, List.setIfInBounds_toArray, List.set_cons_zero, List.set_cons_succ]
                  refine wpAnyL_take (i := 3) (v := ?_) rfl (by kernel_rfl) (by kernel_rfl) (by kernel_rfl) (by kernel_rfl) (by kernel_rfl) (fun _ _ _ h => h) (Or.inl ⟨by rfl, ?q3⟩) HS.out ?_
                  case q3 => intro w hSw; obtain ⟨hc0, hc1, _⟩ := hSw; go_simp; rfl
                  simp only [Act.put, List.getElem_toArray, List.getElem_cons_zero, List.getElem_cons_succ, List.setIfInBounds_toArray, List.set_cons_zero, List.set_cons_succ]
                  refine wpAnyL_take (i := 4) (v := ?_) rfl (by kernel_rfl) (by kernel_rfl) (by kernel_rfl) (by kernel_rfl) (by kernel_rfl) (fun _ _ _ h => h) (Or.inl ⟨by rfl, ?q4⟩) HS.out ?_
                  case q4 => intro w hSw; obtain ⟨hc0, hc1, _⟩ := hSw; go_simp; rfl
                  simp only [Act.put, List.getElem_toArray, List.getElem_cons_zero, List.getElem_cons_succ, List.setIfInBounds_toArray, List.set_cons_zero, List.set_cons_succ]
                  refine wpAnyL_take (i := 5) (v := ?_) rfl (by kernel_rfl) (by kernel_rfl) (by kernel_rfl) (by kernel_rfl) (by kernel_rfl) (fun _ _ _ h => h) (Or.inl ⟨by rfl, ?q5⟩) HS.out ?_
                  case q5 => intro w hSw; obtain ⟨hc0, hc1, _⟩ := hSw; go_simp; rfl
                  simp only [Act.put, List.getElem_toArray, List.getElem_cons_zero, List.getElem_cons_succ, List.setIfInBounds_toArray, List.set_cons_zero, List.set_cons_succ]
                  refine wpAnyL_take (i := 6) (v := ?_) rfl (by kernel_rfl) (by kernel_rfl) (by kernel_rfl) (by kernel_rfl) (by kernel_rfl) (fun _ _ _ h => h) (Or.inl ⟨by rfl, ?q6⟩) HS.out ?_
                  case q6 => intro w hSw; obtain ⟨hc0, hc1, _⟩ := hSw; go_simp; rfl
                  simp only [Act.put, List.getElem_toArray, List.getElem_cons_zero, List.getElem_cons_succ, List.setIfInBounds_toArray, List.set_cons_zero, List.set_cons_succ]
                  refine wpAnyL_take (i := 7) (v := ?_) rfl (by kernel_rfl) (by kernel_rfl) (by kernel_rfl) (by kernel_rfl) (by kernel_rfl) (fun _ _ _ h => h) (Or.inl ⟨by rfl, ?q7⟩) HS.out ?_
                  case q7 => intro w hSw; obtain ⟨hc0, hc1, _⟩ := hSw; go_simp; rfl
                  simp only [Act.put, List.getElem_toArray, List.getElem_cons_zero, List.getElem_cons_succ, List.setIfInBounds_toArray, List.set_cons_zero, List.set_cons_succ]
                  refine wpAnyL_take (i := 8) (v := ?_) rfl (by kernel_rfl) (by kernel_rfl) (by kernel_rfl) (by kernel_rfl) (by kernel_rfl) (fun _ _ _ h => h) (Or.inl ⟨by rfl, ?q8⟩) HS.out ?_
                  case q8 => intro w hSw; obtain ⟨hc0, hc1, _⟩ := hSw; go_simp; rfl
                  simp only [Act.put, List.getElem_toArray, List.getElem_cons_zero, List.getElem_cons_succ, List.setIfInBounds_toArray, List.set_cons_zero, List.set_cons_succ]
                  refine wpAnyL_take (i := 9) (v := ?_) rfl (by kernel_rfl) (by kernel_rfl) (by kernel_rfl) (by kernel_rfl) (by kernel_rfl) (fun _ _ _ h => h) (Or.inl ⟨by rfl, ?q9⟩) HS.out ?_
                  case q9 => intro w hSw; obtain ⟨hc0, hc1, _⟩ := hSw; go_simp; rfl
                  simp only [Act.put, List.getElem_toArray, List.getElem_cons_zero, List.getElem_cons_succ, List.setIfInBounds_toArray, List.set_cons_zero, List.set_cons_succ]
                  refine wpAnyL_take (i := 10) (v := ?_) rfl (by kernel_rfl) (by kernel_rfl) (by kernel_rfl) (by kernel_rfl) (by kernel_rfl) (fun _ _ _ h => h) (Or.inl ⟨by rfl, ?q10⟩) HS.out ?_
                  case q10 => intro w hSw; obtain ⟨hc0, hc1, _⟩ := hSw; go_simp; rfl
                  simp only [Act.put, List.getElem_toArray, List.getElem_cons_zero, List.getElem_cons_succ, List.setIfInBounds_toArray, List.set_cons_zero, List.set_cons_succ]
                  refine wpAnyL_take (i := 11) (v := ?_) rfl (by kernel_rfl) (by kernel_rfl) (by kernel_rfl) (by kernel_rfl) (by kernel_rfl) (fun _ _ _ h => h) (Or.inl ⟨by rfl, ?q11⟩) HS.out ?_
                  case q11 => intro w hSw; obtain ⟨hc0, hc1, _⟩ := hSw; go_simp; rfl
                  simp only [Act.put, List.getElem_toArray, List.getElem_cons_zero, List.getElem_cons_succ, List.setIfInBounds_toArray, List.set_cons_zero, List.set_cons_succ]
                  refine wpAnyL_take (i := 12) (v := ?_) rfl (by kernel_rfl) (by kernel_rfl) (by kernel_rfl) (by kernel_rfl) (by kernel_rfl) (fun _ _ _ h => h) (Or.inl ⟨by rfl, ?q12⟩) HS.out ?_
                  case q12 => intro w hSw; obtain ⟨hc0, hc1, _⟩ := hSw; go_simp; rfl
                  simp only [Act.put, List.getElem_toArray, List.getElem_cons_zero, List.getElem_cons_succ, List.setIfInBounds_toArray, List.set_cons_zero, List.set_cons_succ]
                  refine wpAnyL_take (i := 13) (v := ?_) rfl (by kernel_rfl) (by kernel_rfl) (by kernel_rfl) (by kernel_rfl) (by kernel_rfl) (fun _ _ _ h => h) (Or.inl ⟨by rfl, ?q13⟩) HS.out ?_
                  case q13 => intro w hSw; obtain ⟨hc0, hc1, _⟩ := hSw; go_simp; rfl
                  simp only [Act.put, List.getElem_toArray, List.getElem_cons_zero, List.getElem_cons_succ, List.setIfInBounds_toArray, List.set_cons_zero, List.set_cons_succ]
                  refine wpAnyL_take (i := 14) rfl (by kernel_rfl) (by kernel_rfl) (by kernel_rfl) (by kernel_rfl) (by kernel_rfl) (fun _ _ _ h => h) (yieldsIf_nilM (by rfl) rfl rfl (by kernel_rfl)) HS.out ?_
                  simp only [Act.put, List.getElem_toArray, List.getElem_cons_zero, List.getElem_cons_succ, List.setIfInBounds_toArray, List.set_cons_zero, List.set_cons_succ]
                  refine wpAnyL_take (i := 15) (v := ?_) rfl (by kernel_rfl) (by kernel_rfl) (by kernel_rfl) (by kernel_rfl) (by kernel_rfl) (fun _ _ _ h => h) (Or.inl ⟨by rfl, ?q15⟩) HS.out ?_
                  case q15 => intro w hSw; obtain ⟨hc0, hc1, _⟩ := hSw; go_simp; rfl
                  simp only [Act.put, List.getElem_toArray, List.getElem_cons_zero, List.getElem_cons_succ, List.setIfInBounds_toArray, List.set_cons_zero, List.set_cons_succ]
                  refine wpAnyL_take (i := 17) (v := ?_) rfl (by kernel_rfl) (by kernel_rfl) (by kernel_rfl) (by kernel_rfl) (by kernel_rfl) (fun _ _ _ h => h) (Or.inl ⟨by rfl, ?q17⟩) HS.out ?_
                  case q17 => intro w hSw; obtain ⟨hc0, hc1, _⟩ := hSw; go_simp; rfl
                  simp only [Act.put, List.getElem_toArray, List.getElem_cons_zero, List.getElem_cons_succ, List.setIfInBounds_toArray, List.set_cons_zero, List.set_cons_succ]
                  refine wpAnyL_take (i := 18) rfl (by kernel_rfl) (by kernel_rfl) (by kernel_rfl) (by kernel_rfl) (by kernel_rfl) (fun _ _ _ h => h) (yieldsIf_nilM (by rfl) rfl rfl (by kernel_rfl)) HS.out ?_
                  simp only [Act.put, List.getElem_toArray, List.getElem_cons_zero, List.getElem_cons_succ, List.setIfInBounds_toArray, List.set_cons_zero, List.set_cons_succ]
                  refine wpAnyL_take (i := 19) (v := ?_) rfl (by kernel_rfl) (by kernel_rfl) (by kernel_rfl) (by kernel_rfl) (by kernel_rfl) (fun _ _ _ h => h) (Or.inl ⟨by rfl, ?q19⟩) HS.out ?_
                  case q19 => intro w hSw; obtain ⟨hc0, hc1, _⟩ := hSw; go_simp; rfl
                  simp only [Act.put, List.getElem_toArray, List.getElem_cons_zero, List.getElem_cons_succ, List.setIfInBounds_toArray, List.set_cons_zero, List.set_cons_succ]
                  refine wpAnyL_one (i := 16) (by kernel_rfl) rfl (fun K hK => ?_)
                  have CM := hid (bmMul wr.drew xc y hxc hy)
                  obtain ⟨z, HZ⟩ : ∃ z, Hid (prod xc y = z) := ⟨_, hid rfl⟩
                  have hz : z < 256 := by rw [← HZ.out]; exact prod_lt _ hxc
                  rw [HZ.out] at CM SW
                  refine wp_invM (b := false) (g := 88) (v := .agg #[]) (args := #[.agg #[], .int .u8 (xc : Int), .int .u8 (y : Int)]) (by rfl) rfl rfl rfl (by go_simp) (by kernel_rfl) (by kernel_rfl) ?_
                  refine CM.out.mono ?_
                  rintro e w5 ⟨rfl, hb5⟩
                  have hb5w : Below wr.heap.size wr w5 := (Below.refl _ wr).drew.trans hb5
                  have S5 : Hid (w5.cell? ⟨gi, j, none⟩ = some (.int .u8 (x : Int)) ∧ w5.cell? ⟨ga, j, none⟩ = some (.int .u8 (y : Int)) ∧ Below wr.heap.size wr w5) := hid ⟨(hb5w.cell (p := ⟨gi, j, none⟩) hgia).trans C1.out, (hb5w.cell (p := ⟨ga, j, none⟩) hgab).trans C2.out, hb5w⟩
                  refine ⟨_, rfl, hK.out _ _ (fun _ => S5.out) ?_⟩
                  clear hK K CM hb5 hb5w HS
                  have HS := S5
                  try simp only [Act.put, List.getElem_toArray, List.getElem_cons_zero, List.getElem_cons_succ, List.setIfInBounds_toArray, List.set_cons_zero, List.set_cons_succ]
                  refine wpAnyL_one (i := 20) (by kernel_rfl) rfl (fun K hK => ?_)
                  have CS := hid (bmSub w5 x z hx hz)
                  refine wp_invM (b := false) (g := 90) (v := .agg #[]) (args := #[.agg #[], .int .u8 (x : Int), .int .u8 (z : Int)]) (by rfl) rfl rfl rfl (by go_simp) (by kernel_rfl) (by kernel_rfl) ?_
                  refine CS.out.mono ?_
                  rintro e w6 ⟨rfl, hb6⟩
                  have hb6w : Below wr.heap.size wr w6 := S5.out.2.2.trans (hb6.mono S5.out.2.2.size)
                  have S6 : Hid (w6.cell? ⟨gi, j, none⟩ = some (.int .u8 (x : Int)) ∧ w6.cell? ⟨ga, j, none⟩ = some (.int .u8 (y : Int)) ∧ Below wr.heap.size wr w6) := hid ⟨(hb6w.cell (p := ⟨gi, j, none⟩) hgia).trans C1.out, (hb6w.cell (p := ⟨ga, j, none⟩) hgab).trans C2.out, hb6w⟩
                  refine ⟨_, rfl, hK.out _ _ (fun _ => S6.out) ?_⟩
                  clear hK K CS hb6 hb6w HS S5
                  have HS := S6
                  try simp only [Act.put, List.getElem_toArray, List.getElem_cons_zero, List.getElem_cons_succ, List.setIfInBounds_toArray, List.set_cons_zero, List.set_cons_succ]
                  refine wpAnyL_take (i := 21) (v := ?_) rfl (by kernel_rfl) (by kernel_rfl) (by kernel_rfl) (by kernel_rfl) (by kernel_rfl) (fun _ _ _ h => h) (Or.inl ⟨by rfl, ?q21⟩) HS.out ?_
                  case q21 => intro w hSw; obtain ⟨hc0, hc1, _⟩ := hSw; go_simp; rfl
                  simp only [Act.put, List.getElem_toArray, List.getElem_cons_zero, List.getElem_cons_succ, List.setIfInBounds_toArray, List.set_cons_zero, List.set_cons_succ]
                  refine wpAnyL_one (i := 22) (by kernel_rfl) rfl (fun K hK => ?_)
                  have cu : w6.cell? ⟨gi, j, none⟩ = some (.int .u8 (x : Int)) := S6.out.1
                  have hfz := (World.frozen?_of_block (w := wr) (w' := w6) (a := ⟨gi, j, none⟩) (S6.out.2.2.block _ hgia)).trans HFZ.out
                  clear HS
                  go_simp
                  obtain ⟨w7, HW7⟩ : ∃ W, Hid (w6.setCell ⟨gi, j, none⟩ (.int .u8 ((x ^^^ z : Nat) : Int)) = W) := ⟨_, hid rfl⟩
                  have R6 := hid ((RR.out).below S6.out.2.2)
                  have R7 : Hid (RM B w7 (.slice (some ⟨go, 0, none⟩) R co) R J rs (m2T M a col t I (PS.take (k + 1)))) := by
                    rw [← HW7.out]
                    refine hid ((R6.out.set hlt hjJ (xor_lt' hx hz) HRI.out).congr (fun i' j' hi' hj' => ?_) (m2T_lt HM.out a col t I _))
                    have e1 : PS.take (k + 1) = PS.take k ++ [j] := by rw [List.take_add_one, HJ.out]; rfl
                    unfold m2T
                    rw [e1]
                    by_cases q : i' = I ∧ j' = j
                    · rw [if_pos q, if_neg (by rw [q.1]; exact HIA.out), if_pos (.inr ⟨q.1, by rw [q.2]; simp⟩), q.1, q.2, SW.out]
                    · rw [if_neg q]
                      by_cases q1 : i' = a
                      · rw [if_pos q1, if_pos q1]
                      · rw [if_neg q1, if_neg q1]
                        by_cases q2 : i' < I ∨ i' = I ∧ j' ∈ PS.take k
                        · rw [if_pos q2, if_pos (q2.imp id fun z => ⟨z.1, List.mem_append_left _ z.2⟩)]
                        · rw [if_neg q2, if_neg (fun z => by rcases z with z | ⟨z1, z2⟩; exact q2 (.inl z); rcases List.mem_append.1 z2 with z3 | z3; exact q2 (.inr ⟨z1, z3⟩); exact q ⟨z1, by simpa using z3⟩)]
                  have P7 : Hid (w7.ownsRow w.heap.size 3 1 (.slice (some ⟨gp, 0, none⟩) NP cp) NP (PS.map fun j : Nat => Value.int .i64 (j : Int))) := by
                    rw [← HW7.out]
                    refine hid (own_blkR RP.out fun k' e => (heap_setCell_other _ _ _ _ ?_).trans (S6.out.2.2.block _ (RP.out.lt k' e).2))
                    intro q
                    have hgi := RR.out.r I hlt
                    rw [HRI.out] at hgi
                    exact own_nothR RP.out hgi (by decide) e (by simp at q; rw [q]; rfl)
                  have N7 : Hid (w.heap.size ≤ w7.heap.size) := by rw [← HW7.out]; exact hid (by have := NR.out; have := S6.out.2.2.size; simp; omega)
                  have B7 : Hid (Below B w w7) := by rw [← HW7.out]; exact hid ((BR.out.trans (S6.out.2.2.mono (Nat.le_trans WB.out NR.out))).setCell (p := ⟨gi, j, none⟩) hgi1 _)
                  rw [HW7.out]
                  refine hK.out _ _ (fun e => absurd rfl e) ?_
                  clear hK K cu hfz
                  try simp only [Act.put, List.getElem_toArray, List.getElem_cons_zero, List.getElem_cons_succ, List.setIfInBounds_toArray, List.set_cons_zero, List.set_cons_succ]
                  refine wpAnyL_done (by kernel_rfl) ?_ _
                  go_wp2
                  exact ⟨⟨k + 1, by omega, by go_num, R7, P7, N7, B7⟩, by simp [intOf]; omega⟩
                · have hkN : k = NP := by omega
                  subst hkN
                  have RR2 : Hid (RM B wr (.slice (some ⟨go, 0, none⟩) R co) R J rs (m2T M a col t (I + 1) [])) := hid (RR.out.congr (fun i j _ hj => by
                    rw [List.take_of_length_le (Nat.le_of_eq HPN.out)]
                    unfold m2T
                    by_cases q : i = a
                    · rw [if_pos q, if_pos q]
                    · rw [if_neg q, if_neg q]
                      by_cases q2 : i < I
                      · rw [if_pos (.inl q2), if_pos (.inl (by omega))]
                      · by_cases q3 : i = I
                        · rw [if_pos (c := i < I + 1 ∨ _) (.inl (by omega))]
                          by_cases q4 : j ∈ PS
                          · rw [if_pos (.inr ⟨q3, q4⟩)]
                          · rw [if_neg (by rintro (z | z); exact q2 z; exact q4 z.2), swT_none HM.out q (.inl (by have := (HPM.out j).2; rcases Nat.eq_zero_or_pos (M a j) with h0 | h0; exact h0; exact absurd (this ⟨hj, by omega⟩) q4)) ht]
                        · rw [if_neg (by rintro (z | z); exact q2 z; exact q3 z.1), if_neg (by rintro (z | z); omega; cases z.2)]) (m2T_lt HM.out a col t (I + 1) []))
                  go_wp2
                  exact ⟨⟨I + 1, by omega, by go_num, RR2, RP, NR, BR⟩, by simp [intOf]; omega⟩
        · have hI' : I = R := by omega
          subst hI'
          have RR2 : Hid (RM B wr (.slice (some ⟨go, 0, none⟩) I co) I J rs (swT M a col t)) := hid (RR.out.congr (fun i j hi _ => by
            unfold m2T
            by_cases q : i = a
            · rw [if_pos q]; unfold swT; rw [if_pos q]
            · rw [if_neg q, if_pos (.inl hi)]) (swT_lt HM.out a col t))
          go_wp2
          go_end0
          exact ⟨rfl, RR2.out, BR.out⟩
end Go.Proofs.Ytbiplflejijbeaa
namespace Go.Proofs.Ytbiplflejijbeaa
structure Fd where
  ok : Nat → Prop
  add : Nat → Nat → Nat
  sub : Nat → Nat → Nat
  mul : Nat → Nat → Nat
  inv : Nat → Nat
  ok0 : ok 0
  ok1 : ok 1
  oka : ∀ {a b}, ok a → ok b → ok (add a b)
  oks : ∀ {a b}, ok a → ok b → ok (sub a b)
  okm : ∀ {a b}, ok a → ok b → ok (mul a b)
  oki : ∀ {a}, ok a → ok (inv a)
  one0 : (1 : Nat) ≠ 0
  addc : ∀ {a b}, ok a → ok b → add a b = add b a
  adda : ∀ {a b c}, ok a → ok b → ok c → add (add a b) c = add a (add b c)
  add0 : ∀ {a}, ok a → add a 0 = a
  subE : ∀ {a b}, ok a → ok b → add (sub a b) b = a
  mulc : ∀ {a b}, ok a → ok b → mul a b = mul b a
  mula : ∀ {a b c}, ok a → ok b → ok c → mul (mul a b) c = mul a (mul b c)
  mul1 : ∀ {a}, ok a → mul a 1 = a
  mul0 : ∀ {a}, ok a → mul a 0 = 0
  dist : ∀ {a b c}, ok a → ok b → ok c → mul a (add b c) = add (mul a b) (mul a c)
  invE : ∀ {a}, ok a → a ≠ 0 → mul a (inv a) = 1
namespace Fd
variable (F : Fd)
theorem cancel {a b c : Nat} (ha : F.ok a) (hb : F.ok b) (hc : F.ok c) (h : F.add a c = F.add b c) : a = b := by
  have e : ∀ {x}, F.ok x → F.add (F.add x c) (F.sub 0 c) = x := fun {x} hx => by
    rw [F.adda hx hc (F.oks F.ok0 hc), F.addc hc (F.oks F.ok0 hc), F.subE F.ok0 hc, F.add0 hx]
  rw [← e ha, h, e hb]
theorem zero_add {a : Nat} (ha : F.ok a) : F.add 0 a = a := by rw [F.addc F.ok0 ha, F.add0 ha]
theorem zero_mul {a : Nat} (ha : F.ok a) : F.mul 0 a = 0 := by rw [F.mulc F.ok0 ha, F.mul0 ha]
theorem one_mul {a : Nat} (ha : F.ok a) : F.mul 1 a = a := by rw [F.mulc F.ok1 ha, F.mul1 ha]
theorem sub_self {a : Nat} (ha : F.ok a) : F.sub a a = 0 := F.cancel (F.oks ha ha) F.ok0 ha (by rw [F.subE ha ha, F.zero_add ha])
theorem sub_zero {a : Nat} (ha : F.ok a) : F.sub a 0 = a := F.cancel (F.oks ha F.ok0) ha F.ok0 (by rw [F.subE ha F.ok0, F.add0 ha])
theorem sub_eq {a b : Nat} (ha : F.ok a) (hb : F.ok b) : F.sub a b = F.add a (F.sub 0 b) := F.cancel (F.oks ha hb) (F.oka ha (F.oks F.ok0 hb)) hb (by rw [F.subE ha hb, F.adda ha (F.oks F.ok0 hb) hb, F.subE F.ok0 hb, F.add0 ha])
theorem neg_mul {a b : Nat} (ha : F.ok a) (hb : F.ok b) : F.mul a (F.sub 0 b) = F.sub 0 (F.mul a b) := F.cancel (F.okm ha (F.oks F.ok0 hb)) (F.oks F.ok0 (F.okm ha hb)) (F.okm ha hb) (by rw [← F.dist ha (F.oks F.ok0 hb) hb, F.subE F.ok0 hb, F.subE F.ok0 (F.okm ha hb), F.mul0 ha])
theorem sub_zero_eq {a b : Nat} (ha : F.ok a) (hb : F.ok b) (h : F.add a (F.sub 0 b) = 0) : a = b := F.cancel ha hb (F.oks F.ok0 hb) (by rw [h, F.addc hb (F.oks F.ok0 hb), F.subE F.ok0 hb])
theorem mul_nought {a b : Nat} (ha : F.ok a) (hb : F.ok b) (h0 : a ≠ 0) (h : F.mul a b = 0) : b = 0 := by
  have : F.mul (F.inv a) (F.mul a b) = b := by rw [← F.mula (F.oki ha) ha hb, F.mulc (F.oki ha) ha, F.invE ha h0, F.one_mul hb]
  rw [h, F.mul0 (F.oki ha)] at this
  exact this.symm
theorem inv_ne {a : Nat} (ha : F.ok a) (h0 : a ≠ 0) : F.inv a ≠ 0 := fun e => by
  have := F.invE ha h0
  rw [e, F.mul0 ha] at this
  exact F.one0 this.symm
def sm (f : Nat → Nat) : Nat → Nat
  | 0 => 0
  | n + 1 => F.add (sm f n) (f n)
variable {F}
theorem sm_ok {f : Nat → Nat} : ∀ {n}, (∀ i, i < n → F.ok (f i)) → F.ok (F.sm f n)
  | 0, _ => F.ok0
  | n + 1, h => F.oka (sm_ok fun i hi => h i (by omega)) (h n (by omega))
theorem sm_congr {f g : Nat → Nat} : ∀ {n}, (∀ i, i < n → f i = g i) → F.sm f n = F.sm g n
  | 0, _ => rfl
  | n + 1, h => by
    show F.add _ _ = F.add _ _
    rw [sm_congr fun i hi => h i (by omega), h n (by omega)]
theorem sm_none {f : Nat → Nat} : ∀ {n}, (∀ i, i < n → f i = 0) → F.sm f n = 0
  | 0, _ => rfl
  | n + 1, h => by
    show F.add _ _ = _
    rw [sm_none fun i hi => h i (by omega), h n (by omega), F.add0 F.ok0]
theorem sm_add {f g : Nat → Nat} : ∀ {n}, (∀ i, i < n → F.ok (f i)) → (∀ i, i < n → F.ok (g i)) → F.sm (fun i => F.add (f i) (g i)) n = F.add (F.sm f n) (F.sm g n)
  | 0, _, _ => (F.add0 F.ok0).symm
  | n + 1, hf, hg => by
    have f1 := sm_ok (F := F) fun i (hi : i < n) => hf i (by omega)
    have g1 := sm_ok (F := F) fun i (hi : i < n) => hg i (by omega)
    have f2 := hf n (by omega)
    have g2 := hg n (by omega)
    show F.add (F.sm _ n) _ = F.add (F.add _ _) (F.add _ _)
    rw [sm_add (fun i hi => hf i (by omega)) fun i hi => hg i (by omega), F.adda f1 g1 (F.oka f2 g2), F.adda f1 f2 (F.oka g1 g2), ← F.adda g1 f2 g2, ← F.adda f2 g1 g2, F.addc g1 f2]
theorem sm_mul {f : Nat → Nat} {c : Nat} (hc : F.ok c) : ∀ {n}, (∀ i, i < n → F.ok (f i)) → F.sm (fun i => F.mul c (f i)) n = F.mul c (F.sm f n)
  | 0, _ => (F.mul0 hc).symm
  | n + 1, hf => by
    show F.add (F.sm _ n) _ = F.mul c (F.add _ _)
    rw [sm_mul hc fun i hi => hf i (by omega), F.dist hc (sm_ok fun i hi => hf i (by omega)) (hf n (by omega))]
theorem sm_neg {f : Nat → Nat} : ∀ {n}, (∀ i, i < n → F.ok (f i)) → F.sm (fun i => F.sub 0 (f i)) n = F.sub 0 (F.sm f n)
  | 0, _ => (F.sub_self F.ok0).symm
  | n + 1, hf => by
    have f1 := sm_ok (F := F) fun i (hi : i < n) => hf i (by omega)
    have f2 := hf n (by omega)
    show F.add (F.sm _ n) _ = F.sub 0 (F.add _ _)
    rw [sm_neg fun i hi => hf i (by omega)]
    refine F.cancel (F.oka (F.oks F.ok0 f1) (F.oks F.ok0 f2)) (F.oks F.ok0 (F.oka f1 f2)) (F.oka f1 f2) ?_
    rw [F.subE F.ok0 (F.oka f1 f2), F.adda (F.oks F.ok0 f1) (F.oks F.ok0 f2) (F.oka f1 f2), F.addc f1 f2, ← F.adda (F.oks F.ok0 f2) f2 f1, F.subE F.ok0 f2, F.zero_add f1, F.subE F.ok0 f1]
theorem sm_one {f : Nat → Nat} {j : Nat} (hj : F.ok (f j)) : ∀ {n}, j < n → (∀ i, i < n → i ≠ j → f i = 0) → F.sm f n = f j
  | n + 1, h, h0 => by
    show F.add (F.sm f n) (f n) = _
    by_cases e : j = n
    · subst e
      rw [sm_none fun i hi => h0 i (by omega) (by omega), F.zero_add hj]
    · rw [sm_one hj (by omega) fun i hi hn => h0 i (by omega) hn, h0 n (by omega) (fun q => e q.symm), F.add0 hj]
theorem sm_more {f : Nat → Nat} {n : Nat} : ∀ {m}, (∀ i, i < n → F.ok (f i)) → (∀ i, n ≤ i → i < n + m → f i = 0) → F.sm f (n + m) = F.sm f n
  | 0, _, _ => rfl
  | m + 1, hf, h => by
    show F.add (F.sm f (n + m)) (f (n + m)) = _
    rw [sm_more hf fun i hi hm => h i hi (by omega), h (n + m) (by omega) (by omega), F.add0 (sm_ok hf)]
theorem sm_split {f : Nat → Nat} {n : Nat} (hf : ∀ i, F.ok (f i)) : ∀ {m}, F.sm f (n + m) = F.add (F.sm f n) (F.sm (fun i => f (n + i)) m)
  | 0 => (F.add0 (sm_ok fun i _ => hf i)).symm
  | m + 1 => by
    show F.add (F.sm f (n + m)) (f (n + m)) = F.add _ (F.add _ _)
    rw [sm_split hf, F.adda (sm_ok fun i _ => hf i) (sm_ok fun i _ => hf _) (hf _)]
theorem sm_comm {f : Nat → Nat → Nat} {n : Nat} (hf : ∀ i j, F.ok (f i j)) : ∀ {m}, F.sm (fun i => F.sm (f i) m) n = F.sm (fun j => F.sm (fun i => f i j) n) m
  | 0 => sm_none fun _ _ => rfl
  | m + 1 => by
    show F.sm (fun i => F.add (F.sm (f i) m) (f i m)) n = F.add _ _
    rw [sm_add (fun i _ => sm_ok fun j _ => hf i j) fun i _ => hf i m, sm_comm hf]
variable (F)
def dot (r x : Nat → Nat) (L : Nat) : Nat := F.sm (fun j => F.mul (r j) (x j)) L
def Ker (n L : Nat) (A : Nat → Nat → Nat) (x : Nat → Nat) : Prop := ∀ i, i < n → F.dot (A i) x L = 0
def sp (A : Nat → Nat → Nat) (a b : Nat) : Nat → Nat → Nat := fun i => if i = a then A b else if i = b then A a else A i
def pv (A : Nat → Nat → Nat) (a col : Nat) : Nat → Nat := fun j => F.mul (A a j) (F.inv (A a col))
def sw (A : Nat → Nat → Nat) (a col : Nat) : Nat → Nat → Nat := fun i j => if i = a then F.pv A a col j else F.sub (A i j) (F.mul (A i col) (F.pv A a col j))
variable {F}
theorem dot_ok {r x : Nat → Nat} {L : Nat} (hr : ∀ j, F.ok (r j)) (hx : ∀ j, F.ok (x j)) : F.ok (F.dot r x L) := sm_ok fun i _ => F.okm (hr i) (hx i)
theorem sp_ok {A : Nat → Nat → Nat} (h : ∀ i j, F.ok (A i j)) (a b : Nat) : ∀ i j, F.ok (sp A a b i j) := fun i j => by
  unfold sp
  split
  · exact h _ _
  · split
    · exact h _ _
    · exact h _ _
theorem pv_ok {A : Nat → Nat → Nat} (h : ∀ i j, F.ok (A i j)) (a col j : Nat) : F.ok (F.pv A a col j) := F.okm (h _ _) (F.oki (h _ _))
theorem sw_ok {A : Nat → Nat → Nat} (h : ∀ i j, F.ok (A i j)) (a col : Nat) : ∀ i j, F.ok (F.sw A a col i j) := fun i j => by
  unfold sw
  split
  · exact pv_ok h _ _ _
  · exact F.oks (h _ _) (F.okm (h _ _) (pv_ok h _ _ _))
theorem ker_sp {A : Nat → Nat → Nat} {n L a b : Nat} {x : Nat → Nat} (ha : a < n) (hb : b < n) : F.Ker n L (sp A a b) x ↔ F.Ker n L A x := by
  constructor
  · intro h i hi
    by_cases e : i = a
    · subst e
      have := h b hb
      unfold sp at this
      by_cases q : b = i
      · rw [if_pos q, q] at this; exact this
      · rw [if_neg q, if_pos rfl] at this; exact this
    · by_cases e2 : i = b
      · subst e2
        have := h a ha
        unfold sp at this
        rw [if_pos rfl] at this; exact this
      · have := h i hi
        unfold sp at this
        rw [if_neg e, if_neg e2] at this; exact this
  · intro h i hi
    unfold sp
    split
    · exact h b hb
    · split
      · exact h a ha
      · exact h i hi
theorem dot_pv {A : Nat → Nat → Nat} (h : ∀ i j, F.ok (A i j)) {x : Nat → Nat} (hx : ∀ j, F.ok (x j)) (a col L : Nat) : F.dot (F.pv A a col) x L = F.mul (F.inv (A a col)) (F.dot (A a) x L) := by
  unfold dot
  rw [← sm_mul (F.oki (h _ _)) fun i _ => F.okm (h _ _) (hx _)]
  refine sm_congr fun j _ => ?_
  unfold pv
  rw [F.mulc (h _ _) (F.oki (h _ _)), F.mula (F.oki (h _ _)) (h _ _) (hx _)]
theorem dot_sw {A : Nat → Nat → Nat} (h : ∀ i j, F.ok (A i j)) {x : Nat → Nat} (hx : ∀ j, F.ok (x j)) {a col L i : Nat} (hi : i ≠ a) : F.dot (F.sw A a col i) x L = F.add (F.dot (A i) x L) (F.sub 0 (F.mul (A i col) (F.dot (F.pv A a col) x L))) := by
  unfold dot
  have hp := fun j => pv_ok h a col j
  rw [← sm_mul (h i col) fun j _ => F.okm (hp j) (hx j), ← sm_neg fun j _ => F.okm (h i col) (F.okm (hp j) (hx j)), ← sm_add (fun j _ => F.okm (h _ _) (hx _)) fun j _ => F.oks F.ok0 (F.okm (h i col) (F.okm (hp j) (hx j)))]
  refine sm_congr fun j _ => ?_
  unfold sw
  rw [if_neg hi, F.sub_eq (h _ _) (F.okm (h _ _) (hp j)), F.mulc (F.oka (h _ _) (F.oks F.ok0 (F.okm (h _ _) (hp j)))) (hx j), F.dist (hx j) (h _ _) (F.oks F.ok0 (F.okm (h _ _) (hp j))), F.neg_mul (hx j) (F.okm (h _ _) (hp j)), F.mulc (hx j) (h i j), F.mulc (hx j) (F.okm (h _ _) (hp j)), F.mula (h _ _) (hp j) (hx j)]
theorem ker_sw {A : Nat → Nat → Nat} (h : ∀ i j, F.ok (A i j)) {x : Nat → Nat} (hx : ∀ j, F.ok (x j)) {n L a col : Nat} (ha : a < n) (h0 : A a col ≠ 0) : F.Ker n L (F.sw A a col) x ↔ F.Ker n L A x := by
  have hd := dot_pv h hx a col L
  have eqp : F.sw A a col a = F.pv A a col := by funext j; unfold sw; rw [if_pos rfl]
  constructor
  · intro k
    have k1 := k a ha
    rw [eqp] at k1
    have k2 : F.dot (A a) x L = 0 := by
      rw [hd] at k1
      exact F.mul_nought (F.oki (h _ _)) (dot_ok (h a) hx) (F.inv_ne (h _ _) h0) k1
    intro i hi
    by_cases e : i = a
    · rw [e]; exact k2
    · have := k i hi
      rw [dot_sw h hx e, k1, F.mul0 (h _ _), F.sub_self F.ok0, F.add0 (dot_ok (h i) hx)] at this
      exact this
  · intro k
    have k1 : F.dot (F.pv A a col) x L = 0 := by rw [hd, k a ha, F.mul0 (F.oki (h _ _))]
    intro i hi
    by_cases e : i = a
    · rw [e, eqp]; exact k1
    · rw [dot_sw h hx e, k1, F.mul0 (h _ _), F.sub_self F.ok0, k i hi, F.add0 F.ok0]
def fnd (p : Nat → Bool) : Nat → Nat → Option Nat
  | _, 0 => none
  | i, m + 1 => if p i then some i else fnd p (i + 1) m
theorem fnd_some {p : Nat → Bool} : ∀ {m i j}, fnd p i m = some j → i ≤ j ∧ j < i + m ∧ p j = true
  | 0, i, j, h => by cases h
  | m + 1, i, j, h => by
    unfold fnd at h
    split at h
    · cases h
      rename_i q
      exact ⟨Nat.le_refl _, by omega, q⟩
    · have := fnd_some h
      exact ⟨by omega, by omega, this.2.2⟩
theorem fnd_none {p : Nat → Bool} : ∀ {m i}, fnd p i m = none → ∀ j, i ≤ j → j < i + m → p j = false
  | 0, i, _, j, h1, h2 => by omega
  | m + 1, i, h, j, h1, h2 => by
    unfold fnd at h
    split at h
    · cases h
    · rename_i q
      by_cases e : j = i
      · rw [e]; simpa using q
      · exact fnd_none h j (by omega) (by omega)
variable (F)
def el (n col : Nat) (s : (Nat → Nat → Nat) × Nat) : (Nat → Nat → Nat) × Nat :=
  match fnd (fun i => s.1 i col != 0) s.2 (n - s.2) with
  | none => s
  | some i => (F.sw (sp s.1 s.2 i) s.2 col, s.2 + 1)
def els (n : Nat) (A : Nat → Nat → Nat) : Nat → (Nat → Nat → Nat) × Nat
  | 0 => (A, 0)
  | c + 1 => F.el n c (els n A c)
variable {F}
structure ElI (F : Fd) (n L c : Nat) (A : Nat → Nat → Nat) (s : (Nat → Nat → Nat) × Nat) : Prop where
  top : s.2 ≤ c
  topn : s.2 ≤ n
  ok : ∀ i j, F.ok (s.1 i j)
  ker : ∀ x, (∀ j, F.ok (x j)) → (F.Ker n L s.1 x ↔ F.Ker n L A x)
  unit : s.2 = c → ∀ i j, i < n → j < c → s.1 i j = if i = j then 1 else 0
theorem el_step {n L c : Nat} {A : Nat → Nat → Nat} {s : (Nat → Nat → Nat) × Nat} (h : ElI F n L c A s) : ElI F n L (c + 1) A (F.el n c s) := by
  obtain ⟨M, t⟩ := s
  have hok : ∀ i j, F.ok (M i j) := h.ok
  have htop : t ≤ c := h.top
  have htn : t ≤ n := h.topn
  unfold el
  cases hf : fnd (fun i => M i c != 0) t (n - t) with
  | none =>
    simp only [hf]
    exact ⟨Nat.le_succ_of_le htop, htn, hok, h.ker, fun e => by have : t = c + 1 := e; omega⟩
  | some i =>
    simp only [hf]
    obtain ⟨h1, h2, h3⟩ := fnd_some hf
    have h3 : M i c ≠ 0 := by simpa using h3
    have hi : i < n := by omega
    have ht : t < n := by omega
    have hs0 : sp M t i t c ≠ 0 := by unfold sp; rw [if_pos rfl]; exact h3
    have hsk := sp_ok hok t i
    refine ⟨Nat.succ_le_succ htop, ht, sw_ok hsk t c, fun x hx => ((ker_sw hsk hx ht hs0).trans (ker_sp ht hi)).trans (h.ker x hx), fun e => ?_⟩
    have e : t = c := by have : t + 1 = c + 1 := e; omega
    subst e
    have hu := h.unit rfl
    have hu : ∀ i j, i < n → j < t → M i j = if i = j then 1 else 0 := hu
    have hsu : ∀ a j, a < n → j < t → sp M t i a j = if a = j then 1 else 0 := fun a j ha hj => by
      unfold sp
      split
      · rename_i q; rw [hu i j hi hj, if_neg (by omega), if_neg (by omega)]
      · split
        · rename_i q1 q2; rw [hu t j ht hj, if_neg (by omega), if_neg (by omega)]
        · exact hu a j ha hj
    have pv0 : ∀ j, j < t → F.pv (sp M t i) t t j = 0 := fun j hj => by
      unfold pv
      rw [hsu t j ht hj, if_neg (by omega), F.zero_mul (F.oki (hsk _ _))]
    have pv1 : F.pv (sp M t i) t t t = 1 := F.invE (hsk _ _) hs0
    intro a j ha hj
    show F.sw (sp M t i) t t a j = _
    unfold sw
    by_cases q : a = t
    · rw [if_pos q]
      by_cases r : j = t
      · rw [r, pv1, if_pos q]
      · rw [pv0 j (by omega), if_neg (by omega)]
    · rw [if_neg q]
      by_cases r : j = t
      · rw [r, pv1, F.mul1 (hsk _ _), F.sub_self (hsk _ _), if_neg q]
      · rw [pv0 j (by omega), F.mul0 (hsk _ _), F.sub_zero (hsk _ _)]
        exact hsu a j ha (by omega)
theorem els_inv {n L : Nat} {A : Nat → Nat → Nat} (hA : ∀ i j, F.ok (A i j)) : ∀ c, ElI F n L c A (F.els n A c)
  | 0 => ⟨Nat.le_refl _, Nat.zero_le _, hA, fun _ _ => Iff.rfl, fun _ i j _ hj => by omega⟩
  | c + 1 => el_step (els_inv hA c)
theorem els_full {n L : Nat} {A : Nat → Nat → Nat} (hA : ∀ i j, F.ok (A i j)) (hn : n ≤ L) (inj : ∀ x, (∀ j, F.ok (x j)) → (∀ i, i < n → F.dot (A i) x n = 0) → ∀ j, j < n → x j = 0) : ∀ c, c ≤ n → (F.els n A c).2 = c
  | 0, _ => rfl
  | c + 1, hc => by
    have ih := els_full hA hn inj c (by omega)
    have hI := els_inv (L := L) hA (n := n) c
    show (F.el n c (F.els n A c)).2 = c + 1
    obtain ⟨M, t, hs⟩ : ∃ M t, F.els n A c = (M, t) := ⟨_, _, rfl⟩
    rw [hs] at ih hI ⊢
    have ih : t = c := ih
    subst ih
    have hok : ∀ i j, F.ok (M i j) := hI.ok
    have hu : ∀ i j, i < n → j < t → M i j = if i = j then 1 else 0 := hI.unit rfl
    unfold el
    cases hf : fnd (fun i => M i t != 0) t (n - t) with
    | some i => rfl
    | none =>
      exfalso
      have h0 : ∀ i, t ≤ i → i < n → M i t = 0 := fun i h1 h2 => by simpa using fnd_none hf i h1 (by omega)
      have hx : ∀ j, F.ok ((fun j => if j < t then F.sub 0 (M j t) else if j = t then 1 else 0) j) := fun j => by
        simp only
        split
        · exact F.oks F.ok0 (hok _ _)
        · split
          · exact F.ok1
          · exact F.ok0
      have hk : F.Ker n L M (fun j => if j < t then F.sub 0 (M j t) else if j = t then 1 else 0) := by
        intro i hi
        unfold dot
        have hfo : ∀ j, F.ok (F.mul (M i j) ((fun j => if j < t then F.sub 0 (M j t) else if j = t then 1 else 0) j)) := fun j => F.okm (hok _ _) (hx j)
        obtain ⟨m, rfl⟩ : ∃ m, L = t + 1 + m := ⟨L - (t + 1), by omega⟩
        rw [sm_more (fun j _ => hfo j) (fun j h1 h2 => by (try simp only); rw [if_neg (by omega), if_neg (by omega), F.mul0 (hok _ _)])]
        show F.add (F.sm _ t) _ = 0
        simp only [if_neg (Nat.lt_irrefl t), if_true]
        rw [F.mul1 (hok _ _)]
        by_cases q : i < t
        · rw [sm_one (j := i) (hfo i) q (fun j hj hn => by rw [hu i j hi hj, if_neg (fun e => hn e.symm), F.zero_mul (hx j)])]
          try simp only
          rw [hu i i hi q, if_pos rfl, if_pos q, F.one_mul (F.oks F.ok0 (hok _ _)), F.subE F.ok0 (hok _ _)]
        · rw [sm_none (fun j hj => by rw [hu i j hi hj, if_neg (by omega), F.zero_mul (hx j)]), h0 i (by omega) hi, F.add0 F.ok0]
      have hkA := (hI.ker _ hx).1 hk
      have := inj _ hx (fun i hi => by
        have e := hkA i hi
        unfold dot at e ⊢
        obtain ⟨m, rfl⟩ : ∃ m, L = n + m := ⟨L - n, by omega⟩
        rw [sm_more (fun j _ => F.okm (hA _ _) (hx j)) (fun j h1 h2 => by (try simp only); rw [if_neg (by omega), if_neg (by omega), F.mul0 (hA _ _)])] at e
        exact e) t (by omega)
      simp at this
end Fd
end Go.Proofs.Ytbiplflejijbeaa
namespace Go.Proofs.Ytbiplflejijbeaa
def FB : Fd where
  ok a := a < 256
  add a b := a ^^^ b
  sub a b := a ^^^ b
  mul a b := prod a b
  inv a := inv a
  ok0 := by decide
  ok1 := by decide
  oka := fun h1 h2 => Nat.xor_lt_two_pow (n := 8) h1 h2
  oks := fun h1 h2 => Nat.xor_lt_two_pow (n := 8) h1 h2
  okm := fun h1 _ => prod_lt _ h1
  oki := fun _ => inv_lt _
  one0 := by decide
  addc := fun _ _ => Nat.xor_comm _ _
  adda := fun _ _ _ => Nat.xor_assoc _ _ _
  add0 := fun _ => Nat.xor_zero _
  subE := fun _ _ => by rw [Nat.xor_assoc, Nat.xor_self, Nat.xor_zero]
  mulc := fun h1 h2 => prod_comm _ _ h1 h2
  mula := fun h1 h2 h3 => (prod_assoc _ _ _ h1 h2 h3).symm
  mul1 := fun h => prod_one _ h
  mul0 := fun _ => prod_zero _
  dist := fun h1 h2 h3 => prod_right _ _ _
  invE := fun h1 h0 => prod_inv _ h1 h0
namespace Fd
def bes (n : Nat) (A : Nat → Nat → Nat) : Nat → Nat → Nat := fun i j => if j < n then A i j else if j = n + i then 1 else 0
def two (n : Nat) (u v : Nat → Nat) : Nat → Nat := fun j => if j < n then u j else v (j - n)
variable {F : Fd}
theorem bes_ok {n : Nat} {A : Nat → Nat → Nat} (h : ∀ i j, F.ok (A i j)) : ∀ i j, F.ok (bes n A i j) := fun i j => by
  unfold bes
  split
  · exact h _ _
  · split
    · exact F.ok1
    · exact F.ok0
theorem two_ok {n : Nat} {u v : Nat → Nat} (hu : ∀ j, F.ok (u j)) (hv : ∀ j, F.ok (v j)) : ∀ j, F.ok (two n u v j) := fun j => by
  unfold two
  split
  · exact hu _
  · exact hv _
theorem dot_two {n : Nat} {r u v : Nat → Nat} (hr : ∀ j, F.ok (r j)) (hu : ∀ j, F.ok (u j)) (hv : ∀ j, F.ok (v j)) : F.dot r (two n u v) (n + n) = F.add (F.dot r u n) (F.dot (fun j => r (n + j)) v n) := by
  unfold dot
  rw [sm_split fun i => F.okm (hr i) (two_ok hu hv i)]
  congr 1
  · exact sm_congr fun j hj => by unfold two; rw [if_pos hj]
  · refine sm_congr fun j hj => ?_
    show F.mul _ (two n u v (n + j)) = _
    unfold two
    rw [if_neg (by omega), Nat.add_sub_cancel_left]
theorem dot_unit {n i : Nat} {v r : Nat → Nat} (hv : ∀ j, F.ok (v j)) (hi : i < n) (hr : ∀ j, j < n → r j = if i = j then 1 else 0) : F.dot r v n = v i := by
  unfold dot
  rw [sm_one (j := i) (by rw [hr i hi, if_pos rfl, F.one_mul (hv _)]; exact hv _) hi (fun j hj hn => by rw [hr j hj, if_neg (fun e => hn e.symm), F.zero_mul (hv _)]), hr i hi, if_pos rfl, F.one_mul (hv _)]
theorem bes_both {n : Nat} {A : Nat → Nat → Nat} (hA : ∀ i j, F.ok (A i j)) (ht : (F.els n (bes n A) n).2 = n) {u v : Nat → Nat} (hu : ∀ j, F.ok (u j)) (hv : ∀ j, F.ok (v j)) :
    (∀ i, i < n → F.add (u i) (F.dot (fun j => (F.els n (bes n A) n).1 i (n + j)) v n) = 0) ↔ ∀ i, i < n → F.add (F.dot (A i) u n) (v i) = 0 := by
  have hI := els_inv (L := n + n) (bes_ok (n := n) hA) (n := n) n
  have hk := hI.ker (two n u v) (two_ok hu hv)
  have hun := hI.unit ht
  have e1 : ∀ i, i < n → F.dot ((F.els n (bes n A) n).1 i) (two n u v) (n + n) = F.add (u i) (F.dot (fun j => (F.els n (bes n A) n).1 i (n + j)) v n) := fun i hi => by
    rw [dot_two (hI.ok i) hu hv, dot_unit hu hi fun j hj => hun i j hi hj]
  have e2 : ∀ i, i < n → F.dot (bes n A i) (two n u v) (n + n) = F.add (F.dot (A i) u n) (v i) := fun i hi => by
    rw [dot_two (bes_ok hA i) hu hv, dot_unit (r := fun j => bes n A i (n + j)) hv hi fun j hj => by unfold bes; rw [if_neg (by omega)]; by_cases q : i = j; rw [if_pos (by omega), if_pos q]; rw [if_neg (by omega), if_neg q]]
    congr 1
    unfold dot
    exact sm_congr fun j hj => by unfold bes; rw [if_pos hj]
  constructor
  · intro h i hi
    rw [← e2 i hi]
    exact hk.1 (fun i hi => by rw [e1 i hi]; exact h i hi) i hi
  · intro h i hi
    rw [← e1 i hi]
    exact hk.2 (fun i hi => by rw [e2 i hi]; exact h i hi) i hi
theorem dot_neg {n : Nat} {r v : Nat → Nat} (hr : ∀ j, F.ok (r j)) (hv : ∀ j, F.ok (v j)) : F.dot r (fun j => F.sub 0 (v j)) n = F.sub 0 (F.dot r v n) := by
  unfold dot
  rw [← sm_neg fun j _ => F.okm (hr j) (hv j)]
  exact sm_congr fun j _ => F.neg_mul (hr j) (hv j)
theorem back_left {n : Nat} {A : Nat → Nat → Nat} (hA : ∀ i j, F.ok (A i j)) (ht : (F.els n (bes n A) n).2 = n) {u : Nat → Nat} (hu : ∀ j, F.ok (u j)) (i : Nat) (hi : i < n) :
    F.dot (fun j => (F.els n (bes n A) n).1 i (n + j)) (fun j => F.dot (A j) u n) n = u i := by
  have hI := els_inv (L := n + n) (bes_ok (n := n) hA) (n := n) n
  have hv : ∀ j, F.ok (F.dot (A j) u n) := fun j => dot_ok (hA j) hu
  have hr : ∀ j, F.ok ((F.els n (bes n A) n).1 i (n + j)) := fun j => hI.ok _ _
  have h := (bes_both hA ht hu (fun j => F.oks F.ok0 (hv j))).2 (fun i _ => by rw [F.addc (hv i) (F.oks F.ok0 (hv i)), F.subE F.ok0 (hv i)]) i hi
  rw [dot_neg hr hv] at h
  exact (F.sub_zero_eq (hu i) (dot_ok hr hv) h).symm
theorem back_right {n : Nat} {A : Nat → Nat → Nat} (hA : ∀ i j, F.ok (A i j)) (ht : (F.els n (bes n A) n).2 = n) {v : Nat → Nat} (hv : ∀ j, F.ok (v j)) (i : Nat) (hi : i < n) :
    F.dot (A i) (fun i => F.dot (fun j => (F.els n (bes n A) n).1 i (n + j)) v n) n = v i := by
  have hI := els_inv (L := n + n) (bes_ok (n := n) hA) (n := n) n
  have hr : ∀ i j, F.ok ((F.els n (bes n A) n).1 i (n + j)) := fun i j => hI.ok _ _
  have hu : ∀ i, F.ok (F.dot (fun j => (F.els n (bes n A) n).1 i (n + j)) v n) := fun i => dot_ok (hr i) hv
  have h := (bes_both hA ht (fun j => F.oks F.ok0 (hu j)) hv).1 (fun i _ => F.subE F.ok0 (hu i)) i hi
  rw [dot_neg (hA i) hu, F.addc (F.oks F.ok0 (dot_ok (hA i) hu)) (hv i)] at h
  exact (F.sub_zero_eq (hv i) (dot_ok (hA i) hu) h).symm
theorem bes_full {n : Nat} {A : Nat → Nat → Nat} (hA : ∀ i j, F.ok (A i j)) (inj : ∀ x, (∀ j, F.ok (x j)) → (∀ i, i < n → F.dot (A i) x n = 0) → ∀ j, j < n → x j = 0) : (F.els n (bes n A) n).2 = n :=
  els_full (L := n + n) (bes_ok hA) (by omega) (fun x hx h => inj x hx fun i hi => by
    rw [← h i hi]
    unfold dot
    exact sm_congr fun j hj => by unfold bes; rw [if_pos hj]) n (Nat.le_refl _)
theorem full_inj {n : Nat} {A : Nat → Nat → Nat} (hA : ∀ i j, F.ok (A i j)) (ht : (F.els n (bes n A) n).2 = n) {x : Nat → Nat} (hx : ∀ j, F.ok (x j)) (h : ∀ i, i < n → F.dot (A i) x n = 0) (j : Nat) (hj : j < n) : x j = 0 := by
  have hI := els_inv (L := n + n) (bes_ok (n := n) hA) (n := n) n
  rw [← back_left hA ht hx j hj]
  unfold dot
  exact sm_none fun i hi => by
    show F.mul _ (F.sm (fun j => F.mul (A i j) (x j)) n) = 0
    rw [show F.sm (fun j => F.mul (A i j) (x j)) n = 0 from h i hi, F.mul0 (hI.ok _ _)]
end Fd
end Go.Proofs.Ytbiplflejijbeaa
namespace Go.Proofs.Ytbiplflejijbeaa
open Go Go.RowKit
theorem fnd_is {p : Nat → Bool} : ∀ {m t i : Nat}, t ≤ i → i < t + m → (∀ j, t ≤ j → j < i → p j = false) → p i = true → Fd.fnd p t m = some i
  | 0, t, i, h1, h2, _, _ => by omega
  | m + 1, t, i, h1, h2, h3, h4 => by
    unfold Fd.fnd
    by_cases e : t = i
    · subst e
      rw [if_pos h4]
    · rw [if_neg (by rw [h3 t (Nat.le_refl _) (by omega)]; decide)]
      exact fnd_is (by omega) (by omega) (fun j a b => h3 j (by omega) b) h4
theorem fnd_not {p : Nat → Bool} : ∀ {m t : Nat}, (∀ j, t ≤ j → j < t + m → p j = false) → Fd.fnd p t m = none
  | 0, _, _ => rfl
  | m + 1, t, h => by
    unfold Fd.fnd
    rw [if_neg (by rw [h t (Nat.le_refl _) (by omega)]; decide)]
    exact fnd_not fun j a b => h j (by omega) (by omega)
def pis (a b k : Nat) : Nat := if k = a then b else if k = b then a else k
theorem pis_lt {a b R : Nat} (ha : a < R) (hb : b < R) {k : Nat} (hk : k < R) : pis a b k < R := by
  unfold pis
  split
  · exact hb
  · split
    · exact ha
    · exact hk
theorem pis_inj {a b k l : Nat} (h : k ≠ l) : pis a b k ≠ pis a b l := by
  unfold pis
  split <;> split <;> (try split) <;> (try split) <;> omega
theorem sp_pis (M : Nat → Nat → Nat) (a b : Nat) : Fd.sp M a b = fun k => M (pis a b k) := by
  funext k
  unfold Fd.sp pis
  split
  · rfl
  · split <;> rfl
section
variable {B R L : Nat} {w w' : World} {v : Value} {rs : Nat → Value} {M : Nat → Nat → Nat}
theorem RM.keep (h : RM B w v R L rs M) (hb : ∀ k : Nat, w'.heap[k]? = w.heap[k]?) : RM B w' v R L rs M :=
  ⟨own_blkR h.o fun k _ => hb k, fun i hi => own_blkR (h.r i hi) fun k _ => hb k, h.d, h.b⟩
theorem RM.swap (h : RM B w v R L rs M) {a b : Nat} (ha : a < R) (hb : b < R) {g c : Nat} (hv : v = .slice (some ⟨g, 0, none⟩) R c) : RM B ((w.setCell ⟨g, a, none⟩ (rs b)).setCell ⟨g, b, none⟩ (rs a)) v R L (fun k => rs (pis a b k)) (Fd.sp M a b) := by
  subst hv
  have nb : ∀ k, k ≠ g → ((w.setCell ⟨g, a, none⟩ (rs b)).setCell ⟨g, b, none⟩ (rs a)).heap[k]? = w.heap[k]? := fun k hk => (heap_setCell_other _ _ _ _ (by simpa using hk)).trans (heap_setCell_other _ _ _ _ (by simpa using hk))
  rw [sp_pis]
  refine ⟨?_, fun i hi => ?_, fun i j hi hj hn => h.d _ _ (pis_lt ha hb hi) (pis_lt ha hb hj) (pis_inj hn), fun i j => h.b _ _⟩
  · have h1 := (h.o.stored a (rs b)).1
    have h2 := (h1.stored b (rs a)).1
    have e : (((List.range R).map rs).set a (rs b)).set b (rs a) = (List.range R).map fun k => rs (pis a b k) := by
      refine List.ext_getElem (by simp) fun k h1 h2 => ?_
      simp only [List.getElem_set, List.getElem_map, List.getElem_range]
      unfold pis
      by_cases e1 : b = k
      · rw [if_pos e1]
        by_cases e2 : k = a
        · rw [if_pos e2, ← e1.trans e2, e1]
        · rw [if_neg e2, if_pos e1.symm]
      · rw [if_neg e1]
        by_cases e2 : a = k
        · rw [if_pos e2, if_pos e2.symm]
        · rw [if_neg e2, if_neg (fun q => e2 q.symm), if_neg (fun q => e1 q.symm)]
    rw [← e]
    exact h2
  · refine own_blkR (h.r _ (pis_lt ha hb hi)) fun k e => nb k fun q => ?_
    subst q
    exact own_nothR (h.r _ (pis_lt ha hb hi)) h.o (by decide) e rfl
end
theorem sw_is (A : Nat → Nat → Nat) (a col : Nat) : FB.sw A a col = swT A a col (inv (A a col)) := rfl
theorem els_succ (R : Nat) (M : Nat → Nat → Nat) (c : Nat) : FB.els R M (c + 1) = FB.el R c (FB.els R M c) := rfl
theorem el_none {R c t : Nat} {M : Nat → Nat → Nat} (h : ∀ i, t ≤ i → i < R → M i c = 0) (ht : t ≤ R) : FB.el R c (M, t) = (M, t) := by
  unfold Fd.el
  rw [show Fd.fnd (fun i => (M, t).1 i c != 0) (M, t).2 (R - (M, t).2) = none from fnd_not fun j a b => by have e := h j a (by have : (M, t).2 = t := rfl; omega); show (M j c != 0) = false; rw [e]; rfl]
theorem el_some {R c t i : Nat} {M : Nat → Nat → Nat} (h : ∀ j, t ≤ j → j < i → M j c = 0) (ht : t ≤ i) (hi : i < R) (h0 : M i c ≠ 0) : FB.el R c (M, t) = (swT (Fd.sp M t i) t c (inv (M i c)), t + 1) := by
  unfold Fd.el
  rw [show Fd.fnd (fun i => (M, t).1 i c != 0) (M, t).2 (R - (M, t).2) = some i from fnd_is ht (by have : (M, t).2 = t := rfl; omega) (fun j a b => by have e := h j a b; show (M j c != 0) = false; rw [e]; rfl) (by show (M i c != 0) = true; simpa using h0)]
  show (FB.sw (Fd.sp M t i) t c, t + 1) = _
  rw [sw_is]
  have : Fd.sp M t i t = M i := by unfold Fd.sp; rw [if_pos rfl]
  rw [this]
set_option maxRecDepth 100000 in
set_option maxHeartbeats 8000000 in
theorem eliminate_any (w : World) (B : Nat) (v : Value) (R L n : Nat) (rs : Nat → Value) (M : Nat → Nat → Nat) (h : RM B w v R L rs M) (hB : B ≤ w.heap.size) (hR0 : 0 < R) (hn : n ≤ L) (hR : R ≤ 300) (hL : L ≤ 600) :
    Calls Try.prog 60 #[gfF, v, .int .i64 (n : Int)] w fun e w' => e = .returned (.int .i64 ((FB.els R M n).2 : Int)) ∧ (∃ rs', RM B w' v R L rs' (FB.els R M n).1) ∧ Below B w w' := by
  have H0 := hid h
  obtain ⟨go, co, rfl, hgo1, hgo2, hco1, hco2, hgoc⟩ := h.top hR0
  unfold gfF
  have WB := hid hB
  have OKM : Hid (∀ i j, FB.ok (M i j)) := hid h.b
  clear h hgoc hgo2 hB
  have B0 : Hid (Below B w w) := hid (Below.refl _ _)
  go_enter Try.func60, Try.ntmps60
  go_wp2_with fail
  go_step3
  go_wp2_with fail
  go_step3
  go_wp2_with fail
  go_loopg [7, 13] n (fun g s7 s13 wr => ∃ (c t : Nat) (Mc : Nat → Nat → Nat) (rsc : Nat → Value), c + g = n ∧ s13 = .int .i64 (c : Int) ∧ s7 = .int .i64 (t : Int) ∧ Hid (FB.els R M c = (Mc, t)) ∧ Hid (RM B wr (.slice (some ⟨go, 0, none⟩) R co) R L rsc Mc) ∧ Hid (Below B w wr))
  case atStart => exact ⟨0, 0, M, rs, by omega, rfl, rfl, hid rfl, H0, B0⟩
  case round =>
    clear H0 B0
    obtain ⟨c, t, Mc, rsc, hcg, rfl, rfl, HE, HR, HB⟩ := hrel
    have htR : t ≤ R := by have := (Fd.els_inv (L := L) (n := R) OKM.out c).topn; rw [HE.out] at this; exact this
    cases gk with
    | zero =>
      have hcn : c = n := by omega
      subst hcn
      go_wp2_with fail
      rw [Exit.noGoto_ret]
      go_ret
      rw [HE.out]
      exact ⟨rfl, ⟨rsc, HR.out⟩, HB.out⟩
    | succ g =>
      have hcn : c < n := by omega
      go_wp2_with fail
      go_loopg [7, 9] (R - t) (fun g2 s7 s9 wy => ∃ i : Nat, i + g2 = R ∧ t ≤ i ∧ s7 = .int .i64 (t : Int) ∧ s9 = .int .i64 (i : Int) ∧ Hid (∀ j, t ≤ j → j < i → Mc j c = 0) ∧ Hid (RM B wy (.slice (some ⟨go, 0, none⟩) R co) R L rsc Mc) ∧ Hid (Below B w wy))
      case atStart => exact ⟨t, by omega, Nat.le_refl _, rfl, rfl, hid fun j a b => by omega, HR, HB⟩
      case round =>
        clear HR HB
        obtain ⟨i, hig, hti, rfl, rfl, HZ, HR, HB⟩ := hrel
        cases gk with
        | zero =>
          have hiR : i = R := by omega
          subst hiR
          have HE2 : Hid (FB.els i M (c + 1) = (Mc, t)) := hid (by rw [els_succ, HE.out]; exact el_none HZ.out htR)
          go_wp2_with fail
          go_roundg g
          case measure => omega
          case rel => exact ⟨c + 1, t, Mc, rsc, by omega, by go_num, rfl, HE2, HR, HB⟩
        | succ g2 =>
          have hiR : i < R := by omega
          have hL0 : 0 < L := by omega
          have hcL : c < L := by omega
          obtain ⟨gi, ci', hri, hgi1, hgi2, hci1, hci2⟩ := HR.out.slc hiR hL0
          have HRI := hid hri
          have htop := HR.out.top hR0
          obtain ⟨go', co', hgc, _, hgw, _, _, hcc⟩ := htop
          cases hgc
          have q1 : wr.cell? ⟨go, i, none⟩ = some (.slice (some ⟨gi, 0, none⟩) L ci') := by rw [(hcc i hiR).1, hri]
          have HCC := hid hcc
          clear hri hcc
          obtain ⟨x, HX⟩ : ∃ x, Hid (Mc i c = x) := ⟨_, hid rfl⟩
          have hx : x < 256 := by rw [← HX.out]; exact HR.out.b i c
          have q2 : wr.cell? ⟨gi, c, none⟩ = some (.int .u8 (x : Int)) := by
            have := HR.out.r i hiR
            rw [HRI.out] at this
            have := this.cellAt c (by omega)
            rw [this, ← HX.out]
            have : c < L := by omega
            simp [tbL, this]
          have C1 := hid q1
          have C2 := hid q2
          have hgo1' := World.block_lt_of_cell? wr _ q1
          have CI := hid (bmInv wr.drew x hx)
          by_cases hx0 : x = 0
          · have hxb : (x != 0) = false := by simp [hx0]
            rw [hxb] at CI
            have HX0 := hid hx0
            clear hx0
            clear q1 q2
            go_wp2_with fail
            refine wp_region_last (S := (fun W : World => W.cell? ⟨go, i, none⟩ = some (.slice (some ⟨gi, 0, none⟩) L ci') ∧ W.cell? ⟨gi, c, none⟩ = some (.int .u8 (x : Int)) ∧ Below wr.heap.size wr W)) 16 (by kernel_rfl) ⟨C1.out, C2.out, (Below.refl _ _).drew⟩ (fun hHeld => ?_)
            have HS := hid hHeld
            clear hHeld
            change wpAnyL _ _ _ _ _ _ _ _ _ (World.drew _)
            refine wpAnyL_take (i := 0) (v := ?_) rfl (by kernel_rfl) (by kernel_rfl) (by kernel_rfl) (by kernel_rfl) (by kernel_rfl) (fun _ _ _ h => h) (Or.inl ⟨by rfl, ?q0⟩) HS.out ?_
            case q0 => intro w hSw; obtain ⟨hc0, hc1, _⟩ := hSw; go_simp; rfl
            simp only [Act.put, List.getElem_toArray, List.getElem_cons_zero, List.getElem_cons_succ, List.setIfInBounds_toArray, List.set_cons_zero, List.set_cons_succ]
            refine wpAnyL_take (i := 1) (v := ?_) rfl (by kernel_rfl) (by kernel_rfl) (by kernel_rfl) (by kernel_rfl) (by kernel_rfl) (fun _ _ _ h => h) (Or.inl ⟨by rfl, ?q1⟩) HS.out ?_
            case q1 => intro w hSw; obtain ⟨hc0, hc1, _⟩ := hSw; go_simp; rfl
            simp only [Act.put, List.getElem_toArray, List.getElem_cons_zero, List.getElem_cons_succ, List.setIfInBounds_toArray, List.set_cons_zero, List.set_cons_succ]
            refine wpAnyL_take (i := 2) (v := ?_) rfl (by kernel_rfl) (by kernel_rfl) (by kernel_rfl) (by kernel_rfl) (by kernel_rfl) (fun _ _ _ h => h) (Or.inl ⟨by rfl, ?q2⟩) HS.out ?_
            case q2 => intro w hSw; obtain ⟨hc0, hc1, _⟩ := hSw; go_simp; rfl
            simp only [Act.put, List.getElem_toArray, List.getElem_cons_zero, List.getElem_cons_succ, List.setIfInBounds_toArray, List.set_cons_zero, List.set_cons_succ]
            refine wpAnyL_take (i := 3) (v := ?_) rfl (by kernel_rfl) (by kernel_rfl) (by kernel_rfl) (by kernel_rfl) (by kernel_rfl) (fun _ _ _ h => h) (Or.inl ⟨by rfl, ?q3⟩) HS.out ?_
            case q3 => intro w hSw; obtain ⟨hc0, hc1, _⟩ := hSw; go_simp; rfl
            simp only [Act.put, List.getElem_toArray, List.getElem_cons_zero, List.getElem_cons_succ, List.setIfInBounds_toArray, List.set_cons_zero, List.set_cons_succ]
            refine wpAnyL_take (i := 4) (v := ?_) rfl (by kernel_rfl) (by kernel_rfl) (by kernel_rfl) (by kernel_rfl) (by kernel_rfl) (fun _ _ _ h => h) (Or.inl ⟨by rfl, ?q4⟩) HS.out ?_
            case q4 => intro w hSw; obtain ⟨hc0, hc1, _⟩ := hSw; go_simp; rfl
            simp only [Act.put, List.getElem_toArray, List.getElem_cons_zero, List.getElem_cons_succ, List.setIfInBounds_toArray, List.set_cons_zero, List.set_cons_succ]
            refine wpAnyL_take (i := 5) (v := ?_) rfl (by kernel_rfl) (by kernel_rfl) (by kernel_rfl) (by kernel_rfl) (by kernel_rfl) (fun _ _ _ h => h) (Or.inl ⟨by rfl, ?q5⟩) HS.out ?_
            case q5 => intro w hSw; obtain ⟨hc0, hc1, _⟩ := hSw; go_simp; rfl
            simp only [Act.put, List.getElem_toArray, List.getElem_cons_zero, List.getElem_cons_succ, List.setIfInBounds_toArray, List.set_cons_zero, List.set_cons_succ]
            refine wpAnyL_take (i := 6) (v := ?_) rfl (by kernel_rfl) (by kernel_rfl) (by kernel_rfl) (by kernel_rfl) (by kernel_rfl) (fun _ _ _ h => h) (Or.inl ⟨by rfl, ?q6⟩) HS.out ?_
            case q6 => intro w hSw; obtain ⟨hc0, hc1, _⟩ := hSw; go_simp; rfl
            simp only [Act.put, List.getElem_toArray, List.getElem_cons_zero, List.getElem_cons_succ, List.setIfInBounds_toArray, List.set_cons_zero, List.set_cons_succ]
            refine wpAnyL_take (i := 7) (v := ?_) rfl (by kernel_rfl) (by kernel_rfl) (by kernel_rfl) (by kernel_rfl) (by kernel_rfl) (fun _ _ _ h => h) (Or.inl ⟨by rfl, ?q7⟩) HS.out ?_
            case q7 => intro w hSw; obtain ⟨hc0, hc1, _⟩ := hSw; go_simp; rfl
            simp only [Act.put, List.getElem_toArray, List.getElem_cons_zero, List.getElem_cons_succ, List.setIfInBounds_toArray, List.set_cons_zero, List.set_cons_succ]
            refine wpAnyL_take (i := 8) (v := ?_) rfl (by kernel_rfl) (by kernel_rfl) (by kernel_rfl) (by kernel_rfl) (by kernel_rfl) (fun _ _ _ h => h) (Or.inl ⟨by rfl, ?q8⟩) HS.out ?_
            case q8 => intro w hSw; obtain ⟨hc0, hc1, _⟩ := hSw; go_simp; rfl
            simp only [Act.put, List.getElem_toArray, List.getElem_cons_zero, List.getElem_cons_succ, List.setIfInBounds_toArray, List.set_cons_zero, List.set_cons_succ]
            refine wpAnyL_take (i := 9) rfl (by kernel_rfl) (by kernel_rfl) (by kernel_rfl) (by kernel_rfl) (by kernel_rfl) (fun _ _ _ h => h) (yieldsIf_nilM (by rfl) rfl rfl (by kernel_rfl)) HS.out ?_
            simp only [Act.put, List.getElem_toArray, List.getElem_cons_zero, List.getElem_cons_succ, List.setIfInBounds_toArray, List.set_cons_zero, List.set_cons_succ]
            refine wpAnyL_take (i := 10) (v := ?_) rfl (by kernel_rfl) (by kernel_rfl) (by kernel_rfl) (by kernel_rfl) (by kernel_rfl) (fun _ _ _ h => h) (Or.inl ⟨by rfl, ?q10⟩) HS.out ?_
            case q10 => intro w hSw; obtain ⟨hc0, hc1, _⟩ := hSw; go_simp; rfl
            simp only [Act.put, List.getElem_toArray, List.getElem_cons_zero, List.getElem_cons_succ, List.setIfInBounds_toArray, List.set_cons_zero, List.set_cons_succ]
            refine wpAnyL_one (i := 11) (by kernel_rfl) rfl (fun K hK => ?_)
            refine wp_invM (b := false) (g := 87) (v := .agg #[]) (args := #[.agg #[], .int .u8 (x : Int)]) (by rfl) rfl rfl rfl (by go_simp) (by kernel_rfl) (by kernel_rfl) ?_
            refine CI.out.mono ?_
            rintro e w5 ⟨⟨y, hy, hyi, rfl⟩, hb5⟩
            have S5 : Hid (w5.cell? ⟨go, i, none⟩ = some (.slice (some ⟨gi, 0, none⟩) L ci') ∧ w5.cell? ⟨gi, c, none⟩ = some (.int .u8 (x : Int)) ∧ Below wr.heap.size wr w5) := hid (by have hb5w : Below wr.heap.size wr w5 := (Below.refl _ wr).drew.trans hb5; exact ⟨(hb5w.cell (p := ⟨go, i, none⟩) hgo1').trans C1.out, (hb5w.cell (p := ⟨gi, c, none⟩) hgi2).trans C2.out, hb5w⟩)
            refine ⟨_, rfl, hK.out _ _ (fun _ => S5.out) ?_⟩
            clear hK K CI hb5 HS
            have HS := S5
            try simp only [Act.put, List.getElem_toArray, List.getElem_cons_zero, List.getElem_cons_succ, List.setIfInBounds_toArray, List.set_cons_zero, List.set_cons_succ]
            refine wpAnyL_take (i := 12) (v := ?_) rfl (by kernel_rfl) (by kernel_rfl) (by kernel_rfl) (by kernel_rfl) (by kernel_rfl) (fun _ _ _ h => h) (Or.inl ⟨by rfl, ?q12⟩) HS.out ?_
            case q12 => intro w hSw; obtain ⟨hc0, hc1, _⟩ := hSw; go_simp; rfl
            simp only [Act.put, List.getElem_toArray, List.getElem_cons_zero, List.getElem_cons_succ, List.setIfInBounds_toArray, List.set_cons_zero, List.set_cons_succ]
            refine wpAnyL_take (i := 13) (v := ?_) rfl (by kernel_rfl) (by kernel_rfl) (by kernel_rfl) (by kernel_rfl) (by kernel_rfl) (fun _ _ _ h => h) (Or.inl ⟨by rfl, ?q13⟩) HS.out ?_
            case q13 => intro w hSw; obtain ⟨hc0, hc1, _⟩ := hSw; go_simp; rfl
            simp only [Act.put, List.getElem_toArray, List.getElem_cons_zero, List.getElem_cons_succ, List.setIfInBounds_toArray, List.set_cons_zero, List.set_cons_succ]
            refine wpAnyL_take (i := 14) (v := ?_) rfl (by kernel_rfl) (by kernel_rfl) (by kernel_rfl) (by kernel_rfl) (by kernel_rfl) (fun _ _ _ h => h) (Or.inl ⟨by rfl, ?q14⟩) HS.out ?_
            case q14 => intro w hSw; obtain ⟨hc0, hc1, _⟩ := hSw; go_simp; rfl
            simp only [Act.put, List.getElem_toArray, List.getElem_cons_zero, List.getElem_cons_succ, List.setIfInBounds_toArray, List.set_cons_zero, List.set_cons_succ]
            refine wpAnyL_take (i := 15) (v := ?_) rfl (by kernel_rfl) (by kernel_rfl) (by kernel_rfl) (by kernel_rfl) (by kernel_rfl) (fun _ _ _ h => h) (Or.inl ⟨by rfl, ?q15⟩) HS.out ?_
            case q15 => intro w hSw; obtain ⟨hc0, hc1, _⟩ := hSw; go_simp; rfl
            simp only [Act.put, List.getElem_toArray, List.getElem_cons_zero, List.getElem_cons_succ, List.setIfInBounds_toArray, List.set_cons_zero, List.set_cons_succ]
            refine wpAnyL_one (i := 16) (by kernel_rfl) rfl (fun K hK => ?_)
            go_simp
            refine hK.out _ _ (fun e => absurd rfl e) ?_
            clear hK K HS
            try simp only [Act.put, List.getElem_toArray, List.getElem_cons_zero, List.getElem_cons_succ, List.setIfInBounds_toArray, List.set_cons_zero, List.set_cons_succ]
            refine wpAnyL_done (by kernel_rfl) ?_ _
            have R5 := hid (HR.out.below S5.out.2.2)
            have B5 := hid (HB.out.trans (S5.out.2.2.mono (Nat.le_trans WB.out HB.out.size)))
            have HZ5 : Hid (∀ j, t ≤ j → j < i + 1 → Mc j c = 0) := hid fun j a b => by
              rcases Nat.lt_or_ge j i with q | q
              · exact HZ.out j a q
              · rw [show j = i by omega, HX.out, HX0.out]
            clear S5
            go_wp2_with fail
            go_roundg g2
            case measure => omega
            case rel => exact ⟨i + 1, by omega, by omega, rfl, by go_num, HZ5, R5, B5⟩
          · have hxb : (x != 0) = true := by simp [hx0]
            rw [hxb] at CI
            have HX0 := hid hx0
            clear hx0
            clear q1 q2
            go_wp2_with fail
            refine wp_region_last (S := (fun W : World => W.cell? ⟨go, i, none⟩ = some (.slice (some ⟨gi, 0, none⟩) L ci') ∧ W.cell? ⟨gi, c, none⟩ = some (.int .u8 (x : Int)) ∧ Below wr.heap.size wr W)) 16 (by kernel_rfl) ⟨C1.out, C2.out, (Below.refl _ _).drew⟩ (fun hHeld => ?_)
            have HS := hid hHeld
            clear hHeld
            change wpAnyL _ _ _ _ _ _ _ _ _ (World.drew _)
            refine wpAnyL_take (i := 0) (v := ?_) rfl (by kernel_rfl) (by kernel_rfl) (by kernel_rfl) (by kernel_rfl) (by kernel_rfl) (fun _ _ _ h => h) (Or.inl ⟨by rfl, ?q0⟩) HS.out ?_
            case q0 => intro w hSw; obtain ⟨hc0, hc1, _⟩ := hSw; go_simp; rfl
            simp only [Act.put, List.getElem_toArray, List.getElem_cons_zero, List.getElem_cons_succ, List.setIfInBounds_toArray, List.set_cons_zero, List.set_cons_succ]
            refine wpAnyL_take (i := 1) (v := ?_) rfl (by kernel_rfl) (by kernel_rfl) (by kernel_rfl) (by kernel_rfl) (by kernel_rfl) (fun _ _ _ h => h) (Or.inl ⟨by rfl, ?q1⟩) HS.out ?_
            case q1 => intro w hSw; obtain ⟨hc0, hc1, _⟩ := hSw; go_simp; rfl
            simp only [Act.put, List.getElem_toArray, List.getElem_cons_zero, List.getElem_cons_succ, List.setIfInBounds_toArray, List.set_cons_zero, List.set_cons_succ]
            refine wpAnyL_take (i := 2) (v := ?_) rfl (by kernel_rfl) (by kernel_rfl) (by kernel_rfl) (by kernel_rfl) (by kernel_rfl) (fun _ _ _ h => h) (Or.inl ⟨by rfl, ?q2⟩) HS.out ?_
            case q2 => intro w hSw; obtain ⟨hc0, hc1, _⟩ := hSw; go_simp; rfl
            simp only [Act.put, List.getElem_toArray, List.getElem_cons_zero, List.getElem_cons_succ, List.setIfInBounds_toArray, List.set_cons_zero, List.set_cons_succ]
            refine wpAnyL_take (i := 3) (v := ?_) rfl (by kernel_rfl) (by kernel_rfl) (by kernel_rfl) (by kernel_rfl) (by kernel_rfl) (fun _ _ _ h => h) (Or.inl ⟨by rfl, ?q3⟩) HS.out ?_
            case q3 => intro w hSw; obtain ⟨hc0, hc1, _⟩ := hSw; go_simp; rfl
            simp only [Act.put, List.getElem_toArray, List.getElem_cons_zero, List.getElem_cons_succ, List.setIfInBounds_toArray, List.set_cons_zero, List.set_cons_succ]
            refine wpAnyL_take (i := 4) (v := ?_) rfl (by kernel_rfl) (by kernel_rfl) (by kernel_rfl) (by kernel_rfl) (by kernel_rfl) (fun _ _ _ h => h) (Or.inl ⟨by rfl, ?q4⟩) HS.out ?_
            case q4 => intro w hSw; obtain ⟨hc0, hc1, _⟩ := hSw; go_simp; rfl
            simp only [Act.put, List.getElem_toArray, List.getElem_cons_zero, List.getElem_cons_succ, List.setIfInBounds_toArray, List.set_cons_zero, List.set_cons_succ]
            refine wpAnyL_take (i := 5) (v := ?_) rfl (by kernel_rfl) (by kernel_rfl) (by kernel_rfl) (by kernel_rfl) (by kernel_rfl) (fun _ _ _ h => h) (Or.inl ⟨by rfl, ?q5⟩) HS.out ?_
            case q5 => intro w hSw; obtain ⟨hc0, hc1, _⟩ := hSw; go_simp; rfl
            simp only [Act.put, List.getElem_toArray, List.getElem_cons_zero, List.getElem_cons_succ, List.setIfInBounds_toArray, List.set_cons_zero, List.set_cons_succ]
            refine wpAnyL_take (i := 6) (v := ?_) rfl (by kernel_rfl) (by kernel_rfl) (by kernel_rfl) (by kernel_rfl) (by kernel_rfl) (fun _ _ _ h => h) (Or.inl ⟨by rfl, ?q6⟩) HS.out ?_
            case q6 => intro w hSw; obtain ⟨hc0, hc1, _⟩ := hSw; go_simp; rfl
            simp only [Act.put, List.getElem_toArray, List.getElem_cons_zero, List.getElem_cons_succ, List.setIfInBounds_toArray, List.set_cons_zero, List.set_cons_succ]
            refine wpAnyL_take (i := 7) (v := ?_) rfl (by kernel_rfl) (by kernel_rfl) (by kernel_rfl) (by kernel_rfl) (by kernel_rfl) (fun _ _ _ h => h) (Or.inl ⟨by rfl, ?q7⟩) HS.out ?_
            case q7 => intro w hSw; obtain ⟨hc0, hc1, _⟩ := hSw; go_simp; rfl
            simp only [Act.put, List.getElem_toArray, List.getElem_cons_zero, List.getElem_cons_succ, List.setIfInBounds_toArray, List.set_cons_zero, List.set_cons_succ]
            refine wpAnyL_take (i := 8) (v := ?_) rfl (by kernel_rfl) (by kernel_rfl) (by kernel_rfl) (by kernel_rfl) (by kernel_rfl) (fun _ _ _ h => h) (Or.inl ⟨by rfl, ?q8⟩) HS.out ?_
            case q8 => intro w hSw; obtain ⟨hc0, hc1, _⟩ := hSw; go_simp; rfl
            simp only [Act.put, List.getElem_toArray, List.getElem_cons_zero, List.getElem_cons_succ, List.setIfInBounds_toArray, List.set_cons_zero, List.set_cons_succ]
            refine wpAnyL_take (i := 9) rfl (by kernel_rfl) (by kernel_rfl) (by kernel_rfl) (by kernel_rfl) (by kernel_rfl) (fun _ _ _ h => h) (yieldsIf_nilM (by rfl) rfl rfl (by kernel_rfl)) HS.out ?_
            simp only [Act.put, List.getElem_toArray, List.getElem_cons_zero, List.getElem_cons_succ, List.setIfInBounds_toArray, List.set_cons_zero, List.set_cons_succ]
            refine wpAnyL_take (i := 10) (v := ?_) rfl (by kernel_rfl) (by kernel_rfl) (by kernel_rfl) (by kernel_rfl) (by kernel_rfl) (fun _ _ _ h => h) (Or.inl ⟨by rfl, ?q10⟩) HS.out ?_
            case q10 => intro w hSw; obtain ⟨hc0, hc1, _⟩ := hSw; go_simp; rfl
            simp only [Act.put, List.getElem_toArray, List.getElem_cons_zero, List.getElem_cons_succ, List.setIfInBounds_toArray, List.set_cons_zero, List.set_cons_succ]
            refine wpAnyL_one (i := 11) (by kernel_rfl) rfl (fun K hK => ?_)
            refine wp_invM (b := false) (g := 87) (v := .agg #[]) (args := #[.agg #[], .int .u8 (x : Int)]) (by rfl) rfl rfl rfl (by go_simp) (by kernel_rfl) (by kernel_rfl) ?_
            refine CI.out.mono ?_
            rintro e w5 ⟨⟨y, hy, hyi, rfl⟩, hb5⟩
            have S5 : Hid (w5.cell? ⟨go, i, none⟩ = some (.slice (some ⟨gi, 0, none⟩) L ci') ∧ w5.cell? ⟨gi, c, none⟩ = some (.int .u8 (x : Int)) ∧ Below wr.heap.size wr w5) := hid (by have hb5w : Below wr.heap.size wr w5 := (Below.refl _ wr).drew.trans hb5; exact ⟨(hb5w.cell (p := ⟨go, i, none⟩) hgo1').trans C1.out, (hb5w.cell (p := ⟨gi, c, none⟩) hgi2).trans C2.out, hb5w⟩)
            refine ⟨_, rfl, hK.out _ _ (fun _ => S5.out) ?_⟩
            clear hK K CI hb5 HS
            have HS := S5
            try simp only [Act.put, List.getElem_toArray, List.getElem_cons_zero, List.getElem_cons_succ, List.setIfInBounds_toArray, List.set_cons_zero, List.set_cons_succ]
            refine wpAnyL_take (i := 12) (v := ?_) rfl (by kernel_rfl) (by kernel_rfl) (by kernel_rfl) (by kernel_rfl) (by kernel_rfl) (fun _ _ _ h => h) (Or.inl ⟨by rfl, ?q12⟩) HS.out ?_
            case q12 => intro w hSw; obtain ⟨hc0, hc1, _⟩ := hSw; go_simp; rfl
            simp only [Act.put, List.getElem_toArray, List.getElem_cons_zero, List.getElem_cons_succ, List.setIfInBounds_toArray, List.set_cons_zero, List.set_cons_succ]
            refine wpAnyL_take (i := 13) (v := ?_) rfl (by kernel_rfl) (by kernel_rfl) (by kernel_rfl) (by kernel_rfl) (by kernel_rfl) (fun _ _ _ h => h) (Or.inl ⟨by rfl, ?q13⟩) HS.out ?_
            case q13 => intro w hSw; obtain ⟨hc0, hc1, _⟩ := hSw; go_simp; rfl
            simp only [Act.put, List.getElem_toArray, List.getElem_cons_zero, List.getElem_cons_succ, List.setIfInBounds_toArray, List.set_cons_zero, List.set_cons_succ]
            refine wpAnyL_take (i := 14) (v := ?_) rfl (by kernel_rfl) (by kernel_rfl) (by kernel_rfl) (by kernel_rfl) (by kernel_rfl) (fun _ _ _ h => h) (Or.inl ⟨by rfl, ?q14⟩) HS.out ?_
            case q14 => intro w hSw; obtain ⟨hc0, hc1, _⟩ := hSw; go_simp; rfl
            simp only [Act.put, List.getElem_toArray, List.getElem_cons_zero, List.getElem_cons_succ, List.setIfInBounds_toArray, List.set_cons_zero, List.set_cons_succ]
            refine wpAnyL_take (i := 15) (v := ?_) rfl (by kernel_rfl) (by kernel_rfl) (by kernel_rfl) (by kernel_rfl) (by kernel_rfl) (fun _ _ _ h => h) (Or.inl ⟨by rfl, ?q15⟩) HS.out ?_
            case q15 => intro w hSw; obtain ⟨hc0, hc1, _⟩ := hSw; go_simp; rfl
            simp only [Act.put, List.getElem_toArray, List.getElem_cons_zero, List.getElem_cons_succ, List.setIfInBounds_toArray, List.set_cons_zero, List.set_cons_succ]
            refine wpAnyL_one (i := 16) (by kernel_rfl) rfl (fun K hK => ?_)
            go_simp
            refine hK.out _ _ (fun e => absurd rfl e) ?_
            clear hK K HS
            try simp only [Act.put, List.getElem_toArray, List.getElem_cons_zero, List.getElem_cons_succ, List.setIfInBounds_toArray, List.set_cons_zero, List.set_cons_succ]
            refine wpAnyL_done (by kernel_rfl) ?_ _
            have R5 := hid (HR.out.below S5.out.2.2)
            have B5 := hid (HB.out.trans (S5.out.2.2.mono (Nat.le_trans WB.out HB.out.size)))
            have HY := hid (hyi HX0.out)
            have htR2 : t < R := by omega
            obtain ⟨gt, ctp, hrt, _, hgt2, _, _⟩ := R5.out.slc htR2 hL0
            have HVT := hid hrt
            clear hrt
            have ci := S5.out.1
            have ct : w5.cell? ⟨go, t, none⟩ = some (.slice (some ⟨gt, 0, none⟩) L ctp) := by rw [← HVT.out]; exact (S5.out.2.2.cell (p := ⟨go, t, none⟩) hgo1').trans (HCC.out t htR2).1
            have fi : w5.frozen? ⟨go, i, none⟩ = false := (World.frozen?_of_block (w := wr) (a := ⟨go, i, none⟩) (S5.out.2.2.block _ hgo1')).trans (HCC.out i hiR).2
            have ft : w5.frozen? ⟨go, t, none⟩ = false := (World.frozen?_of_block (w := wr) (a := ⟨go, t, none⟩) (S5.out.2.2.block _ hgo1')).trans (HCC.out t htR2).2
            have st := (R5.out.o.stored t (.slice (some ⟨gi, 0, none⟩) L ci')).1
            have hx : (w5.setCell ⟨go, t, none⟩ (.slice (some ⟨gi, 0, none⟩) L ci')).cell? ⟨go, i, none⟩ = some (.slice (some ⟨gi, 0, none⟩) L ci') := by
              rw [st.cellAt i (by omega), List.getElem?_set]
              split
              · rw [if_pos (by simpa using htR2)]
              · simp [hiR, HRI.out]
            have fx : (w5.setCell ⟨go, t, none⟩ (.slice (some ⟨gi, 0, none⟩) L ci')).frozen? ⟨go, i, none⟩ = false := st.frozenAt i
            have q1 : (i : Int) < (R : Int) := by omega
            have q2 : (t : Int) < (R : Int) := by omega
            clear st hyi S5
            go_wp2_with fail
            go_region
            generalize hw7 : World.drew _ = w7
            have R7 : Hid (RM B w7 (.slice (some ⟨go, 0, none⟩) R co) R L (fun k => rsc (pis t i k)) (Fd.sp Mc t i)) := by
              have := R5.out.swap htR2 hiR rfl
              rw [HRI.out, HVT.out] at this
              rw [← hw7]
              exact hid (this.keep fun k => rfl)
            have B7 : Hid (Below B w w7) := by
              rw [← hw7]
              exact hid (((B5.out.setCell (p := ⟨go, t, none⟩) hgo1 _).setCell (p := ⟨go, i, none⟩) hgo1 _).drew)
            have CS := hid (sweep_any w7 B _ R L _ _ t c y R7.out (Nat.le_trans WB.out B7.out.size) htR2 hcL hy hR hL)
            clear hw7 hx fx fi ft ci ct
            unfold gfF at CS
            go_wp2_with fail
            refine CS.out.mono ?_
            rintro e w8 ⟨rfl, hr8, hb8⟩
            have HE2 : Hid (FB.els R M (c + 1) = (swT (Fd.sp Mc t i) t c y, t + 1)) := hid (by rw [els_succ, HE.out, HY.out, ← HX.out]; exact el_some HZ.out hti hiR (by rw [HX.out]; exact HX0.out))
            have R8 := hid hr8
            have B8 := hid (B7.out.trans hb8)
            clear hr8 hb8 CS
            go_wp2_with fail
            go_roundg g
            case measure => omega
            case rel => exact ⟨c + 1, t + 1, _, _, by omega, by go_num, by go_num, HE2, R8, B8⟩
end Go.Proofs.Ytbiplflejijbeaa
namespace Go.Proofs.Ytbiplflejijbeaa
open Go Go.RowKit
set_option maxRecDepth 100000 in
theorem andm (m : Nat) (hm : m < 257) : bits BinOp.and IntKind.u64 (m : Int) 4294967295 = (m : Int) := by
  have h : ∀ i : Fin 257, bits BinOp.and IntKind.u64 ((i.val : Nat) : Int) 4294967295 = ((i.val : Nat) : Int) := by decide
  exact h ⟨m, hm⟩
set_option maxRecDepth 100000 in
set_option maxHeartbeats 4000000 in
theorem mul64_one (w : World) (m : Nat) (hm : m < 257) : Calls Try.prog 68 #[.int .u64 1, .int .u64 (m : Int)] w fun e w' => e = .returned (.tuple #[.int .u64 0, .int .u64 (m : Int)]) ∧ w' = w := by
  have bm : bits BinOp.and IntKind.u64 (m : Int) 4294967295 = (m : Int) := andm m hm
  have b1 : bits BinOp.and IntKind.u64 1 4294967295 = 1 := andm 1 (by omega)
  have b0 : bits BinOp.and IntKind.u64 0 4294967295 = 0 := andm 0 (by omega)
  have dm : (m : Int) / 4294967296 = 0 := by omega
  have w0 : IntKind.u64.wrap 0 = 0 := by decide
  have wm : IntKind.u64.wrap (m : Int) = (m : Int) := by rw [IntKind.wrap_u64]; omega
  go_enter Try.func68, Try.ntmps68
  go_wp2
  go_ret2
  simp [b1, bm, dm, b0, w0, wm]
set_option maxRecDepth 100000 in
set_option maxHeartbeats 4000000 in
theorem mul_one (w : World) (m : Nat) (hm : m < 257) : Calls Try.prog 65 #[.int .u64 1, .int .u64 (m : Int)] w fun e w' => e = .returned (.tuple #[.int .u64 0, .int .u64 (m : Int)]) ∧ w' = w := by
  have C := hid (mul64_one w m hm)
  go_enter Try.func65, Try.ntmps65
  go_wp2_with fail
  refine C.out.mono ?_
  rintro e w' ⟨rfl, hw'⟩
  subst hw'
  go_wp2_with fail
  go_ret2
  exact ⟨rfl, rfl⟩
theorem bel_drewN {B : Nat} {a w : World} (h : Below B a w) (q : Nat) : Below B a (w.drewN q) := ⟨h.os, h.tape, h.output, h.size, h.block⟩
theorem elmB8 : Try.prog.elem 22 = 5 := by kernel_rfl
theorem size_b8' : (Try.prog.info? 5).map (·.size) = some 1 := by kernel_rfl
theorem slice_lB8 (W : World) (b n c lo : Nat) (h1 : lo ≤ n) (h2 : n < c ∨ lo < c) (h3 : n ≤ c) : (Instr.slice 22 (.slice (some ⟨b, 0, none⟩) n c) (some (.int .i64 (lo : Int))) none none).run Try.prog W = .ok (.slice (some ⟨b, lo, none⟩) (n - lo) (c - lo)) W := by
  have h := run_slice_l (P := Try.prog) W 22 (some ⟨b, 0, none⟩) n c (by rw [elmB8]; exact Try.underlying22) .i64 (lo : Int) (by omega) (by omega)
  rw [h, elmB8, size_u8, Result.andThen_ok, Int.toNat_natCast]
  unfold sliced
  rw [Nat.mul_one, if_neg (by omega)]
  simp [Go.WideShapes.add_plain]
theorem slice_hB8 (W : World) (b n c hi : Nat) (h1 : hi ≤ c) (h2 : 0 < c) : (Instr.slice 22 (.slice (some ⟨b, 0, none⟩) n c) none (some (.int .i64 (hi : Int))) none).run Try.prog W = .ok (.slice (some ⟨b, 0, none⟩) hi c) W := by
  have h := run_slice_h (P := Try.prog) W 22 (some ⟨b, 0, none⟩) n c (by rw [elmB8]; exact Try.underlying22) .i64 (hi : Int) (by omega) (by omega)
  rw [h, elmB8, size_u8, Result.andThen_ok, Int.toNat_natCast]
  unfold sliced
  rw [if_neg (by omega)]
  simp [Go.WideShapes.add_plain]
theorem yieldsIf_slB8 {P : Program} {ops : Array Oper} {S : World → Prop} {op : Oper} {a : Act} (hw : Region.wanted op (yielded ops a.tmps) = true) (t : TypeId) (x : Operand) (lo hi : Option Operand) (ht : P.underlying t = some (.slice (P.elem t))) (ho : op.op = .slice t x lo hi none) (vx : Value) (vl vh : Option Value) (hx : a.eval x = vx) (hl : lo.map a.eval = vl) (hh : hi.map a.eval = vh) (v : Value)
    (hr : ∀ w, S w → (Instr.slice t vx vl vh none).run P w = .ok v w) : YieldsIf P ops S op v a :=
  .inl ⟨hw, fun w hS => by
    unfold execOp
    simp only [ho, Sem.run_bind, Option.map_none, hx, hl, hh, run_sliceAt_slice w t _ _ _ _ ht, hr w hS, Result.andThen_ok]
    rfl⟩
def repB (m k : Nat) (c : Value) : List Value := List.replicate k c ++ List.replicate (m - k) (Value.int .u8 0)
theorem repB_len {m k : Nat} (h : k ≤ m) (c : Value) : (repB m k c).length = m := by simp [repB]; omega
theorem repB_step {m k j : Nat} (c : Value) (h : k + j ≤ m) (cs : List Value) (hcs : cs = List.replicate j c) : (repB m k c).take k ++ cs ++ (repB m k c).drop (k + cs.length) = repB m (k + j) c := by
  subst hcs
  have e1 : (repB m k c).take k = List.replicate k c := by simp [repB]
  have e2 : (repB m k c).drop (k + (List.replicate j c).length) = List.replicate (m - (k + j)) (Value.int .u8 0) := by
    simp [repB, List.drop_append]
    omega
  rw [e1, e2]
  simp only [repB, List.replicate_append_replicate]
set_option maxRecDepth 100000 in
set_option maxHeartbeats 8000000 in
theorem repeat_bytes (w : World) (b m : Nat) (hm : m < 257) (c : Value) (hb : w.heap[b]? = some (.cells #[c] 5 (0, 0))) (hc : c.oneCell' = true) :
    Calls Try.prog 61 #[.slice (some ⟨b, 0, none⟩) 1 1, .int .i64 (m : Int)] w fun e w' => e = .returned (.slice (some ⟨w.heap.size, 0, none⟩) m m) ∧ w'.heap[w.heap.size]? = some (.cells (List.replicate m c).toArray 5 (0, 0)) ∧ Below w.heap.size w w' := by
  have CM := hid (mul_one w m hm)
  obtain ⟨i0, hi, hz0, hz1, hz2⟩ := info_parts info_u8
  have hblt := (Array.getElem?_eq_some_iff.1 hb).1
  obtain ⟨w1, hmk, hown, hgr⟩ := run_make_full (P := Try.prog) w w.heap.size 22 5 i0 _ 1 Try.underlying22 hi hz0 hz1 .i64 .i64 m (by rw [hz2]; omega) (by unfold maxLen; omega) (Nat.le_refl _)
  have H1 : Hid (w1.heap[w.heap.size]? = some (.cells (repB m 0 c).toArray 5 (0, 0))) := hid (by
    rcases hown.2 with ⟨e1, _⟩ | ⟨gg, cap, cur, e1, _, e3, _, _, e4, e5⟩
    · cases e1
    · cases e1
      rw [e3]
      congr 2
      have h6 : cur.toList = (madeCells (Value.cells (Value.int .u8 0)) (m * 1)).toList := by
        rw [← e5, List.take_of_length_le (by simp [e4])]
      have h7 : cur.toList = List.replicate m (Value.int .u8 0) := by
        rw [h6, show Value.cells (Value.int .u8 0) = #[(Value.int .u8 0)] from rfl, toList_madeCells_one, Nat.mul_one]
      rw [← Array.toArray_toList (xs := cur), h7]
      simp [repB])
  have B1 : Hid (Below w.heap.size w w1) := hid ((Below.refl _ w).grown hgr (Nat.le_refl _) (fun k e => by cases e))
  have hw1 : IntKind.u64.wrap (m : Int) = (m : Int) := by rw [IntKind.wrap_u64]; omega
  have hw2 : IntKind.i64.wrap (m : Int) = (m : Int) := by rw [IntKind.wrap_i64]; omega
  obtain ⟨w2, k2, hcp, hk2, hk2', H2, B2⟩ : ∃ (w2 : World) (k : Nat), (Builtin.copy_ #[22, 22] 3 #[.slice (some ⟨w.heap.size, 0, none⟩) m m, .slice (some ⟨b, 0, none⟩) 1 1]).run Try.prog w1 = .ok (.int .i64 (k : Int)) w2 ∧ k ≤ m ∧ (0 < m → 0 < k) ∧ Hid (w2.heap[w.heap.size]? = some (.cells (repB m k c).toArray 5 (0, 0))) ∧ Hid (Below w.heap.size w w2) := by
    by_cases h0 : m = 0
    · refine ⟨w1, 0, ?_, by omega, by omega, H1, B1⟩
      have := run_copy_none (P := Try.prog) w1 22 22 3 5 (some ⟨w.heap.size, 0, none⟩) (some ⟨b, 0, none⟩) m m 1 1 Try.underlying22 size_b8' (by rw [h0]; rfl)
      rw [this]
      rfl
    · have hr := run_copy_row Try.prog w1 22 22 3 5 w.heap.size 0 m m ⟨b, 0, none⟩ 1 1 _ 5 [c] Try.underlying22 size_b8' H1.out (by show 1 = Nat.min 1 m; exact (Nat.min_eq_left (by omega)).symm) (fun j v hv => by
        have hj : j = 0 := by have := (List.getElem?_eq_some_iff.1 hv).1; simpa using this
        subst hj
        rw [Go.WideShapes.add_plain]
        have h5 : w1.heap[b]? = some (.cells #[c] 5 (0, 0)) := (B1.out.block b hblt).trans hb
        simpa [World.cell?, h5] using hv) (by simp [repB_len]; omega) (by simpa using hc)
      have e := repB_step (m := m) (k := 0) (j := 1) c (by omega) [c] rfl
      simp only [List.toList_toArray, List.take_zero, List.nil_append] at hr e
      rw [e] at hr
      refine ⟨_, 1, hr, by omega, by omega, hid (setRow_heap w1 _ _ _ 5 _ H1.out), hid (B1.out.trans ⟨rfl, rfl, rfl, by simp [World.setRow], fun k hk => by simp [World.setRow, Array.getElem?_modify, show w.heap.size ≠ k by omega]⟩)⟩
  clear hb hown hgr H1 B1
  have hlt256 : (m : Int) < 257 := by omega
  go_enter Try.func61, Try.ntmps61
  go_wp2_with (first | rw [hw1] | fail)
  refine CM.out.mono ?_
  rintro e w' ⟨rfl, hw'⟩
  subst hw'
  go_wp2_with (first | rw [hw2] | rw [hmk] | rw [hcp] | fail)
  go_loopw [8] (fun i wr => ∃ k : Nat, k ≤ m ∧ i = .int .i64 k ∧ (0 < m → 0 < k) ∧ wr.heap[w'.heap.size]? = some (.cells (repB m k c).toArray 5 (0, 0)) ∧ Below w'.heap.size w' wr) (fun i _ => m - (intOf i).toNat)
  case atStart => exact ⟨k2, hk2, rfl, hk2', H2.out, B2.out⟩
  case round =>
    obtain ⟨k, hk, rfl, hk0, hH, hB⟩ := hrel
    clear hmk hcp H2 B2 CM
    by_cases hlt : k < m
    · have hkp := hk0 (by omega)
      have HH := hid hH
      have HBl := hid hB
      have hcr : ∃ (w3 : World) (j : Nat), (Builtin.copy_ #[22, 22] 3 #[.slice (some ⟨w'.heap.size, k, none⟩) (m - k) (m - k), .slice (some ⟨w'.heap.size, 0, none⟩) k m]).run Try.prog (wr.drewN 1) = .ok (.int .i64 (j : Int)) w3 ∧ 0 < j ∧ k + j ≤ m ∧ Hid (w3.heap[w'.heap.size]? = some (.cells (repB m (k + j) c).toArray 5 (0, 0))) ∧ Hid (Below w'.heap.size w' w3) := by
        obtain ⟨j, hj, hj1, hj2, hj3⟩ : ∃ j, Nat.min k (m - k) = j ∧ j ≤ k ∧ j ≤ m - k ∧ 0 < j := ⟨_, rfl, Nat.min_le_left _ _, Nat.min_le_right _ _, Nat.lt_min.2 ⟨hkp, by omega⟩⟩
        have hr := run_copy_row Try.prog (wr.drewN 1) 22 22 3 5 w'.heap.size k (m - k) (m - k) ⟨w'.heap.size, 0, none⟩ k m _ 5 (List.replicate j c) Try.underlying22 size_b8' (show (wr.drewN 1).heap[w'.heap.size]? = _ from hH) (by simp [hj]) (fun i v hv => by
          have hi : i < j := by have := (List.getElem?_eq_some_iff.1 hv).1; simpa using this
          have hi2 : i < k := by omega
          rw [Go.WideShapes.add_plain, Nat.zero_add]
          have h5 : (wr.drewN 1).heap[w'.heap.size]? = some (.cells (repB m k c).toArray 5 (0, 0)) := hH
          simp only [World.cell?, h5]
          simp [repB, List.getElem?_append_left, hi2, List.getElem?_replicate]
          have : c = v := by simpa [List.getElem?_replicate, hi] using hv
          exact this) (by simp only [List.length_replicate, List.size_toArray, repB_len hk]; omega) (fun v hv => by rw [(List.mem_replicate.1 hv).2]; exact hc)
        have e := repB_step (m := m) (k := k) (j := j) c (by omega) _ rfl
        simp only [List.toList_toArray] at hr
        rw [e] at hr
        refine ⟨_, j, hr.trans (by simp [goInt]), hj3, by omega, hid (setRow_heap _ _ _ _ 5 _ (show (wr.drewN 1).heap[w'.heap.size]? = _ from hH)), hid ((bel_drewN hB 1).trans ⟨rfl, rfl, rfl, by simp [World.setRow], fun k hk => by simp [World.setRow, Array.getElem?_modify, show w'.heap.size ≠ k by omega]⟩)⟩
      obtain ⟨w3, j, hc3', hj, hkj, H3, B3⟩ := hcr
      have hc3 : (Builtin.copy_ #[22, 22] 3 #[.slice (some ⟨w'.heap.size, k, none⟩) (m - k) (m - k), .slice (some ⟨w'.heap.size, 0, none⟩) k m]).run Try.prog wr.drew = .ok (.int .i64 (j : Int)) w3 := hc3'
      clear hc3'
      have hwj : IntKind.i64.wrap ((k : Int) + (j : Int)) = ((k + j : Nat) : Int) := by rw [IntKind.wrap_i64]; omega
      clear hH hB
      go_wp2_with fail
      refine wp_region_held_drew (S := (fun _ => True)) (by kernel_rfl) trivial (fun hHeld => ?_)
      have HS := hid hHeld
      clear hHeld
      change wpAnyH _ _ _ _ _ _ _ _ (World.drew _)
      refine wpAnyH_take (i := 0) (v := ?_) rfl (by kernel_rfl) (by kernel_rfl) (by kernel_rfl) (fun _ _ _ h => h) (Or.inl ⟨by rfl, ?q0⟩) HS.out ?_
      case q0 => intro w hSw; go_simp; rfl
      simp only [Act.put, List.getElem_toArray, List.getElem_cons_zero, List.getElem_cons_succ, List.setIfInBounds_toArray, List.set_cons_zero, List.set_cons_succ]
      refine wpAnyH_take (i := 1) (v := ?_) rfl (by kernel_rfl) (by kernel_rfl) (by kernel_rfl) (fun _ _ _ h => h) (Or.inl ⟨by rfl, ?q1⟩) HS.out ?_
      case q1 => intro w hSw; go_simp; rfl
      simp only [Act.put, List.getElem_toArray, List.getElem_cons_zero, List.getElem_cons_succ, List.setIfInBounds_toArray, List.set_cons_zero, List.set_cons_succ]
      refine wpAnyH_take (i := 2) (v := ?_) rfl (by kernel_rfl) (by kernel_rfl) (by kernel_rfl) (fun _ _ _ h => h) (Or.inl ⟨by rfl, ?q2⟩) HS.out ?_
      case q2 => intro w hSw; go_simp; rfl
      simp only [Act.put, List.getElem_toArray, List.getElem_cons_zero, List.getElem_cons_succ, List.setIfInBounds_toArray, List.set_cons_zero, List.set_cons_succ]
      refine wpAnyH_take (i := 3) rfl (by kernel_rfl) (by kernel_rfl) (by kernel_rfl) (fun _ _ _ h => h) (yieldsIf_slB8 (by rfl) 22 _ _ _ (by rw [elmB8]; exact Try.underlying22) rfl (.slice (some ⟨w'.heap.size, 0, none⟩) m m) (some (.int .i64 (k : Int))) none rfl rfl rfl _ (fun W _ => slice_lB8 W w'.heap.size m m k (by omega) (by omega) (by omega))) HS.out ?_
      simp only [Act.put, List.getElem_toArray, List.getElem_cons_zero, List.getElem_cons_succ, List.setIfInBounds_toArray, List.set_cons_zero, List.set_cons_succ]
      refine wpAnyH_take (i := 4) (v := ?_) rfl (by kernel_rfl) (by kernel_rfl) (by kernel_rfl) (fun _ _ _ h => h) (Or.inl ⟨by rfl, ?q4⟩) HS.out ?_
      case q4 => intro w hSw; go_simp; rfl
      simp only [Act.put, List.getElem_toArray, List.getElem_cons_zero, List.getElem_cons_succ, List.setIfInBounds_toArray, List.set_cons_zero, List.set_cons_succ]
      refine wpAnyH_take (i := 5) (v := ?_) rfl (by kernel_rfl) (by kernel_rfl) (by kernel_rfl) (fun _ _ _ h => h) (Or.inl ⟨by rfl, ?q5⟩) HS.out ?_
      case q5 => intro w hSw; go_simp; rfl
      simp only [Act.put, List.getElem_toArray, List.getElem_cons_zero, List.getElem_cons_succ, List.setIfInBounds_toArray, List.set_cons_zero, List.set_cons_succ]
      refine wpAnyH_take (i := 6) rfl (by kernel_rfl) (by kernel_rfl) (by kernel_rfl) (fun _ _ _ h => h) (yieldsIf_slB8 (by rfl) 22 _ _ _ (by rw [elmB8]; exact Try.underlying22) rfl (.slice (some ⟨w'.heap.size, 0, none⟩) m m) none (some (.int .i64 (k : Int))) rfl rfl rfl _ (fun W _ => slice_hB8 W w'.heap.size m m k (by omega) (by omega))) HS.out ?_
      simp only [Act.put, List.getElem_toArray, List.getElem_cons_zero, List.getElem_cons_succ, List.setIfInBounds_toArray, List.set_cons_zero, List.set_cons_succ]
      refine wpAnyH_ready (rs := [7]) (by kernel_rfl) (by simp) ?_
      refine AllReadyH.cons rfl (fun K hK => ?_) AllReadyH.nil
      replace hK := hid hK
      go_simp
      refine hK.out _ _ trivial (fun _ => ?_)
      clear hK K
      try clear HS
      have HS : Hid True := hid trivial
      refine wpAnyH_take (i := 8) (v := ?_) rfl (by kernel_rfl) (by kernel_rfl) (by kernel_rfl) (fun _ _ _ h => h) (Or.inl ⟨by rfl, ?q8⟩) HS.out ?_
      case q8 => intro w hSw; go_simp; rfl
      simp only [Act.put, List.getElem_toArray, List.getElem_cons_zero, List.getElem_cons_succ, List.setIfInBounds_toArray, List.set_cons_zero, List.set_cons_succ]
      refine wpAnyH_take (i := 9) (v := ?_) rfl (by kernel_rfl) (by kernel_rfl) (by kernel_rfl) (fun _ _ _ h => h) (Or.inl ⟨by rfl, ?q9⟩) HS.out ?_
      case q9 => intro w hSw; go_simp; rfl
      simp only [Act.put, List.getElem_toArray, List.getElem_cons_zero, List.getElem_cons_succ, List.setIfInBounds_toArray, List.set_cons_zero, List.set_cons_succ]
      refine wpAnyH_done (by kernel_rfl) ?_ _
      go_wp2_with fail
      exact ⟨⟨k + j, by omega, rfl, fun _ => by omega, H3.out, B3.out⟩, by simp [intOf]; omega⟩
    · obtain rfl : k = m := by omega
      go_wp2_with fail
      go_ret
      exact ⟨rfl, by simpa [repB] using hH, hB⟩
end Go.Proofs.Ytbiplflejijbeaa
