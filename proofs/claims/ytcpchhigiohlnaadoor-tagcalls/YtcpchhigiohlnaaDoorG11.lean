/- Of the road to tagCallsUptoCard_holds: TcKey, TcOp. -/
import Derived.Test.YtcpchhigiohlnaaDoorG10
import Derived.Test.YtcpchhigiohlnaaDoorG01
import Derived.Test.YtcpchhigiohlnaaDoorG00
import Derived.Test.YtcpchhigiohlnaaDoorG09
set_option linter.unusedVariables false
set_option linter.unusedSimpArgs false
set_option maxRecDepth 100000
set_option maxHeartbeats 16000000
namespace Go.Proofs.YtcpchhigiohlnaaDoor
open Go Go.RowKit
theorem built_key : Tryd.prog.built 32 [] = some (cellsB zeros16) := by kernel_rfl
theorem wpList_build_key {ops : Array Oper} {rest : List Oper} {o : Oper} {a : Act} {w : World} {Q : Exit -> Act -> World -> Prop} (hgd : o.guard = none) (ho : o.op = .build 32 #[])
  (h : wpList Tryd.prog ops Q rest (a.put o.dst (.agg (cellsB zeros16))) w) : wpList Tryd.prog ops Q (o :: rest) a w := by
 have e : ((#[] : Array (Nat × Operand)).map fun (i, x) => (i, a.eval x)).toList = [] := by simp
 refine wpList_build hgd 32 #[] ho (by rw [e, built_key]; rfl) ?_
 rw [e, built_key]
 exact h
def kyE (s f : List Int) (k n g : Int) : Int := if 64 < s.length \/ k < 1 \/ n < k \/ 255 < n \/ g < 1 \/ 65790 < g then 3 else if 16777216 < f.length then 4 else 0
def sixL (k n g : Int) : List Int := [k, n] ++ bigL 4 g.toNat
def kyL (s f : List Int) (k n g : Int) : List Int := if kyE s f k n g = 0 then (digL (byL 1 [s, sixL k n g, f])).take 16 else zeros16
theorem HL.two5 {w : World} {g : Nat} {T : TypeId} {u v : Value} {l m : List Int} (h : w.heap[g]? = some (.cells #[u, v] T (0, 0))) (hb : HB w u l) (hc : HB w v m) : HL w (.slice (some ⟨g, 0, none⟩) 2 2) [l, m] := by
 refine ⟨_, 2, rfl, Nat.le_refl _, by unfold maxLen; omega, (fun e => by cases e), fun _ => ⟨g, 0, rfl, fun j hj => ?_⟩⟩
 match j, hj with
 | 0, _ => exact ⟨u, (cell_of_row w g 0 _ _ _ h).trans rfl, hb⟩
 | 1, _ => exact ⟨v, (cell_of_row w g 1 _ _ _ h).trans rfl, hc⟩
theorem HL.three5 {w : World} {g : Nat} {T : TypeId} {u v x : Value} {l m q : List Int} (h : w.heap[g]? = some (.cells #[u, v, x] T (0, 0))) (hb : HB w u l) (hc : HB w v m) (hd : HB w x q) : HL w (.slice (some ⟨g, 0, none⟩) 3 3) [l, m, q] := by
 refine ⟨_, 3, rfl, Nat.le_refl _, by unfold maxLen; omega, (fun e => by cases e), fun _ => ⟨g, 0, rfl, fun j hj => ?_⟩⟩
 match j, hj with
 | 0, _ => exact ⟨u, (cell_of_row w g 0 _ _ _ h).trans rfl, hb⟩
 | 1, _ => exact ⟨v, (cell_of_row w g 1 _ _ _ h).trans rfl, hc⟩
 | 2, _ => exact ⟨x, (cell_of_row w g 2 _ _ _ h).trans rfl, hd⟩
theorem tky_bad0 (w : World) (v1 v2 : Value) (s f : List Int) (k n g : Int) (h1 : HB w v1 s) (h2 : HB w v2 f)  (d0 : 64 < s.length) : Calls Tryd.prog 42 #[v1, .int .i64 k, .int .i64 n, .int .i64 g, v2] w fun e w' => e = .returned (.tuple #[.agg (cellsB zeros16), .int .i64 3]) /\ Below w.heap.size w w' := by
 obtain ⟨p1, c1, rfl, _, _⟩ := h1.open
 obtain ⟨p2, c2, rfl, _, _⟩ := h2.open
 obtain ⟨zi, HZI⟩ : ∃ zd, Hid (cellsB zeros16 = zd) := ⟨_, rfl⟩
 have HZ0 : Hid ((Tryd.prog.info? 32).map (·.zero) = some (some (.agg zi))) := by rw [<- HZI.out]; exact hid zero_key
 have SI : Hid ((Tryd.prog.info? 32).map (·.size) = some zi.size) := by refine hid ?_; rw [<- HZI.out, cellsB_size]; exact size_key
 have OY : Hid (zi.all (·.oneCell') = true) := by refine hid ?_; rw [<- HZI.out]; exact cellsB_one _
 obtain ⟨W0, hW0⟩ : ∃ W0, Hid (w.alloc (.cells zi 32) = W0) := ⟨_, rfl⟩
 have B0 : Hid (Below w.heap.size w W0) := by rw [<- hW0.out]; exact (Below.refl _ w).alloc (Nat.le_refl _) _
 have R0 : Hid (W0.heap[w.heap.size]? = some (.cells zi 32 (0, 0))) := by rw [<- hW0.out]; exact heap_alloc_new w _
 obtain ⟨z1, HZ1⟩ : ∃ x, Hid (s.length = x) := ⟨_, rfl⟩
 obtain ⟨z2, HZ2⟩ : ∃ x, Hid (f.length = x) := ⟨_, rfl⟩
 rw [HZ1.out] at d0
 rw [HZ1.out, HZ2.out, HZI.out]
 have e0 : decide ((64 : Int) < (z1 : Int)) = true := decide_eq_true (by omega)
 clear h1 h2 d0
 go_enter Tryd.func42, Tryd.ntmps42
 go_wp2_with (first | (refine wpList_alloc_aggT HZ0.out rfl rfl ?_; rw [hW0.out]) | (refine wpList_build_key rfl rfl ?_; rw [HZI.out]) | (refine wpList_store_row rfl 32 _ _ rfl w.heap.size zi rfl rfl 32 _ R0.out SI.out rfl OY.out ?_) | fail)
 refine bodyPost_ret (v := .tuple #[.agg zi, .int .i64 3]) (results_cellT5 (p := 10) (u := 11) (ty := 32) rfl _ _ w.heap.size 32 zi (0, 0) _ rfl (setRow_heap _ _ _ _ _ _ R0.out) Tryd.underlying32 rfl SI.out _ rfl) rfl ?_
 exact ⟨rfl, Hid.out (bel5 B0.out)⟩
theorem tky_bad1 (w : World) (v1 v2 : Value) (s f : List Int) (k n g : Int) (h1 : HB w v1 s) (h2 : HB w v2 f) (d0 : ¬ 64 < s.length) (d1 : k < 1) : Calls Tryd.prog 42 #[v1, .int .i64 k, .int .i64 n, .int .i64 g, v2] w fun e w' => e = .returned (.tuple #[.agg (cellsB zeros16), .int .i64 3]) /\ Below w.heap.size w w' := by
 obtain ⟨p1, c1, rfl, _, _⟩ := h1.open
 obtain ⟨p2, c2, rfl, _, _⟩ := h2.open
 obtain ⟨zi, HZI⟩ : ∃ zd, Hid (cellsB zeros16 = zd) := ⟨_, rfl⟩
 have HZ0 : Hid ((Tryd.prog.info? 32).map (·.zero) = some (some (.agg zi))) := by rw [<- HZI.out]; exact hid zero_key
 have SI : Hid ((Tryd.prog.info? 32).map (·.size) = some zi.size) := by refine hid ?_; rw [<- HZI.out, cellsB_size]; exact size_key
 have OY : Hid (zi.all (·.oneCell') = true) := by refine hid ?_; rw [<- HZI.out]; exact cellsB_one _
 obtain ⟨W0, hW0⟩ : ∃ W0, Hid (w.alloc (.cells zi 32) = W0) := ⟨_, rfl⟩
 have B0 : Hid (Below w.heap.size w W0) := by rw [<- hW0.out]; exact (Below.refl _ w).alloc (Nat.le_refl _) _
 have R0 : Hid (W0.heap[w.heap.size]? = some (.cells zi 32 (0, 0))) := by rw [<- hW0.out]; exact heap_alloc_new w _
 obtain ⟨z1, HZ1⟩ : ∃ x, Hid (s.length = x) := ⟨_, rfl⟩
 obtain ⟨z2, HZ2⟩ : ∃ x, Hid (f.length = x) := ⟨_, rfl⟩
 rw [HZ1.out] at d0
 rw [HZ1.out, HZ2.out, HZI.out]
 have e0 : decide ((64 : Int) < (z1 : Int)) = false := decide_eq_false (by omega)
 have e1 : decide (k < 1) = true := decide_eq_true (by omega)
 clear h1 h2 d0 d1
 go_enter Tryd.func42, Tryd.ntmps42
 go_wp2_with (first | (refine wpList_alloc_aggT HZ0.out rfl rfl ?_; rw [hW0.out]) | (refine wpList_build_key rfl rfl ?_; rw [HZI.out]) | (refine wpList_store_row rfl 32 _ _ rfl w.heap.size zi rfl rfl 32 _ R0.out SI.out rfl OY.out ?_) | fail)
 refine bodyPost_ret (v := .tuple #[.agg zi, .int .i64 3]) (results_cellT5 (p := 10) (u := 11) (ty := 32) rfl _ _ w.heap.size 32 zi (0, 0) _ rfl (setRow_heap _ _ _ _ _ _ R0.out) Tryd.underlying32 rfl SI.out _ rfl) rfl ?_
 exact ⟨rfl, Hid.out (bel5 B0.out)⟩
theorem tky_bad2 (w : World) (v1 v2 : Value) (s f : List Int) (k n g : Int) (h1 : HB w v1 s) (h2 : HB w v2 f) (d0 : ¬ 64 < s.length) (d1 : ¬ k < 1) (d2 : n < k) : Calls Tryd.prog 42 #[v1, .int .i64 k, .int .i64 n, .int .i64 g, v2] w fun e w' => e = .returned (.tuple #[.agg (cellsB zeros16), .int .i64 3]) /\ Below w.heap.size w w' := by
 obtain ⟨p1, c1, rfl, _, _⟩ := h1.open
 obtain ⟨p2, c2, rfl, _, _⟩ := h2.open
 obtain ⟨zi, HZI⟩ : ∃ zd, Hid (cellsB zeros16 = zd) := ⟨_, rfl⟩
 have HZ0 : Hid ((Tryd.prog.info? 32).map (·.zero) = some (some (.agg zi))) := by rw [<- HZI.out]; exact hid zero_key
 have SI : Hid ((Tryd.prog.info? 32).map (·.size) = some zi.size) := by refine hid ?_; rw [<- HZI.out, cellsB_size]; exact size_key
 have OY : Hid (zi.all (·.oneCell') = true) := by refine hid ?_; rw [<- HZI.out]; exact cellsB_one _
 obtain ⟨W0, hW0⟩ : ∃ W0, Hid (w.alloc (.cells zi 32) = W0) := ⟨_, rfl⟩
 have B0 : Hid (Below w.heap.size w W0) := by rw [<- hW0.out]; exact (Below.refl _ w).alloc (Nat.le_refl _) _
 have R0 : Hid (W0.heap[w.heap.size]? = some (.cells zi 32 (0, 0))) := by rw [<- hW0.out]; exact heap_alloc_new w _
 obtain ⟨z1, HZ1⟩ : ∃ x, Hid (s.length = x) := ⟨_, rfl⟩
 obtain ⟨z2, HZ2⟩ : ∃ x, Hid (f.length = x) := ⟨_, rfl⟩
 rw [HZ1.out] at d0
 rw [HZ1.out, HZ2.out, HZI.out]
 have e0 : decide ((64 : Int) < (z1 : Int)) = false := decide_eq_false (by omega)
 have e1 : decide (k < 1) = false := decide_eq_false (by omega)
 have e2 : decide (n < k) = true := decide_eq_true (by omega)
 clear h1 h2 d0 d1 d2
 go_enter Tryd.func42, Tryd.ntmps42
 go_wp2_with (first | (refine wpList_alloc_aggT HZ0.out rfl rfl ?_; rw [hW0.out]) | (refine wpList_build_key rfl rfl ?_; rw [HZI.out]) | (refine wpList_store_row rfl 32 _ _ rfl w.heap.size zi rfl rfl 32 _ R0.out SI.out rfl OY.out ?_) | fail)
 refine bodyPost_ret (v := .tuple #[.agg zi, .int .i64 3]) (results_cellT5 (p := 10) (u := 11) (ty := 32) rfl _ _ w.heap.size 32 zi (0, 0) _ rfl (setRow_heap _ _ _ _ _ _ R0.out) Tryd.underlying32 rfl SI.out _ rfl) rfl ?_
 exact ⟨rfl, Hid.out (bel5 B0.out)⟩
theorem tky_bad3 (w : World) (v1 v2 : Value) (s f : List Int) (k n g : Int) (h1 : HB w v1 s) (h2 : HB w v2 f) (d0 : ¬ 64 < s.length) (d1 : ¬ k < 1) (d2 : ¬ n < k) (d3 : 255 < n) : Calls Tryd.prog 42 #[v1, .int .i64 k, .int .i64 n, .int .i64 g, v2] w fun e w' => e = .returned (.tuple #[.agg (cellsB zeros16), .int .i64 3]) /\ Below w.heap.size w w' := by
 obtain ⟨p1, c1, rfl, _, _⟩ := h1.open
 obtain ⟨p2, c2, rfl, _, _⟩ := h2.open
 obtain ⟨zi, HZI⟩ : ∃ zd, Hid (cellsB zeros16 = zd) := ⟨_, rfl⟩
 have HZ0 : Hid ((Tryd.prog.info? 32).map (·.zero) = some (some (.agg zi))) := by rw [<- HZI.out]; exact hid zero_key
 have SI : Hid ((Tryd.prog.info? 32).map (·.size) = some zi.size) := by refine hid ?_; rw [<- HZI.out, cellsB_size]; exact size_key
 have OY : Hid (zi.all (·.oneCell') = true) := by refine hid ?_; rw [<- HZI.out]; exact cellsB_one _
 obtain ⟨W0, hW0⟩ : ∃ W0, Hid (w.alloc (.cells zi 32) = W0) := ⟨_, rfl⟩
 have B0 : Hid (Below w.heap.size w W0) := by rw [<- hW0.out]; exact (Below.refl _ w).alloc (Nat.le_refl _) _
 have R0 : Hid (W0.heap[w.heap.size]? = some (.cells zi 32 (0, 0))) := by rw [<- hW0.out]; exact heap_alloc_new w _
 obtain ⟨z1, HZ1⟩ : ∃ x, Hid (s.length = x) := ⟨_, rfl⟩
 obtain ⟨z2, HZ2⟩ : ∃ x, Hid (f.length = x) := ⟨_, rfl⟩
 rw [HZ1.out] at d0
 rw [HZ1.out, HZ2.out, HZI.out]
 have e0 : decide ((64 : Int) < (z1 : Int)) = false := decide_eq_false (by omega)
 have e1 : decide (k < 1) = false := decide_eq_false (by omega)
 have e2 : decide (n < k) = false := decide_eq_false (by omega)
 have e3 : decide (255 < n) = true := decide_eq_true (by omega)
 clear h1 h2 d0 d1 d2 d3
 go_enter Tryd.func42, Tryd.ntmps42
 go_wp2_with (first | (refine wpList_alloc_aggT HZ0.out rfl rfl ?_; rw [hW0.out]) | (refine wpList_build_key rfl rfl ?_; rw [HZI.out]) | (refine wpList_store_row rfl 32 _ _ rfl w.heap.size zi rfl rfl 32 _ R0.out SI.out rfl OY.out ?_) | fail)
 refine bodyPost_ret (v := .tuple #[.agg zi, .int .i64 3]) (results_cellT5 (p := 10) (u := 11) (ty := 32) rfl _ _ w.heap.size 32 zi (0, 0) _ rfl (setRow_heap _ _ _ _ _ _ R0.out) Tryd.underlying32 rfl SI.out _ rfl) rfl ?_
 exact ⟨rfl, Hid.out (bel5 B0.out)⟩
theorem tky_bad4 (w : World) (v1 v2 : Value) (s f : List Int) (k n g : Int) (h1 : HB w v1 s) (h2 : HB w v2 f) (d0 : ¬ 64 < s.length) (d1 : ¬ k < 1) (d2 : ¬ n < k) (d3 : ¬ 255 < n) (d4 : g < 1) : Calls Tryd.prog 42 #[v1, .int .i64 k, .int .i64 n, .int .i64 g, v2] w fun e w' => e = .returned (.tuple #[.agg (cellsB zeros16), .int .i64 3]) /\ Below w.heap.size w w' := by
 obtain ⟨p1, c1, rfl, _, _⟩ := h1.open
 obtain ⟨p2, c2, rfl, _, _⟩ := h2.open
 obtain ⟨zi, HZI⟩ : ∃ zd, Hid (cellsB zeros16 = zd) := ⟨_, rfl⟩
 have HZ0 : Hid ((Tryd.prog.info? 32).map (·.zero) = some (some (.agg zi))) := by rw [<- HZI.out]; exact hid zero_key
 have SI : Hid ((Tryd.prog.info? 32).map (·.size) = some zi.size) := by refine hid ?_; rw [<- HZI.out, cellsB_size]; exact size_key
 have OY : Hid (zi.all (·.oneCell') = true) := by refine hid ?_; rw [<- HZI.out]; exact cellsB_one _
 obtain ⟨W0, hW0⟩ : ∃ W0, Hid (w.alloc (.cells zi 32) = W0) := ⟨_, rfl⟩
 have B0 : Hid (Below w.heap.size w W0) := by rw [<- hW0.out]; exact (Below.refl _ w).alloc (Nat.le_refl _) _
 have R0 : Hid (W0.heap[w.heap.size]? = some (.cells zi 32 (0, 0))) := by rw [<- hW0.out]; exact heap_alloc_new w _
 obtain ⟨z1, HZ1⟩ : ∃ x, Hid (s.length = x) := ⟨_, rfl⟩
 obtain ⟨z2, HZ2⟩ : ∃ x, Hid (f.length = x) := ⟨_, rfl⟩
 rw [HZ1.out] at d0
 rw [HZ1.out, HZ2.out, HZI.out]
 have e0 : decide ((64 : Int) < (z1 : Int)) = false := decide_eq_false (by omega)
 have e1 : decide (k < 1) = false := decide_eq_false (by omega)
 have e2 : decide (n < k) = false := decide_eq_false (by omega)
 have e3 : decide (255 < n) = false := decide_eq_false (by omega)
 have e4 : decide (g < 1) = true := decide_eq_true (by omega)
 clear h1 h2 d0 d1 d2 d3 d4
 go_enter Tryd.func42, Tryd.ntmps42
 go_wp2_with (first | (refine wpList_alloc_aggT HZ0.out rfl rfl ?_; rw [hW0.out]) | (refine wpList_build_key rfl rfl ?_; rw [HZI.out]) | (refine wpList_store_row rfl 32 _ _ rfl w.heap.size zi rfl rfl 32 _ R0.out SI.out rfl OY.out ?_) | fail)
 refine bodyPost_ret (v := .tuple #[.agg zi, .int .i64 3]) (results_cellT5 (p := 10) (u := 11) (ty := 32) rfl _ _ w.heap.size 32 zi (0, 0) _ rfl (setRow_heap _ _ _ _ _ _ R0.out) Tryd.underlying32 rfl SI.out _ rfl) rfl ?_
 exact ⟨rfl, Hid.out (bel5 B0.out)⟩
theorem tky_bad5 (w : World) (v1 v2 : Value) (s f : List Int) (k n g : Int) (h1 : HB w v1 s) (h2 : HB w v2 f) (d0 : ¬ 64 < s.length) (d1 : ¬ k < 1) (d2 : ¬ n < k) (d3 : ¬ 255 < n) (d4 : ¬ g < 1) (d5 : 65790 < g) : Calls Tryd.prog 42 #[v1, .int .i64 k, .int .i64 n, .int .i64 g, v2] w fun e w' => e = .returned (.tuple #[.agg (cellsB zeros16), .int .i64 3]) /\ Below w.heap.size w w' := by
 obtain ⟨p1, c1, rfl, _, _⟩ := h1.open
 obtain ⟨p2, c2, rfl, _, _⟩ := h2.open
 obtain ⟨zi, HZI⟩ : ∃ zd, Hid (cellsB zeros16 = zd) := ⟨_, rfl⟩
 have HZ0 : Hid ((Tryd.prog.info? 32).map (·.zero) = some (some (.agg zi))) := by rw [<- HZI.out]; exact hid zero_key
 have SI : Hid ((Tryd.prog.info? 32).map (·.size) = some zi.size) := by refine hid ?_; rw [<- HZI.out, cellsB_size]; exact size_key
 have OY : Hid (zi.all (·.oneCell') = true) := by refine hid ?_; rw [<- HZI.out]; exact cellsB_one _
 obtain ⟨W0, hW0⟩ : ∃ W0, Hid (w.alloc (.cells zi 32) = W0) := ⟨_, rfl⟩
 have B0 : Hid (Below w.heap.size w W0) := by rw [<- hW0.out]; exact (Below.refl _ w).alloc (Nat.le_refl _) _
 have R0 : Hid (W0.heap[w.heap.size]? = some (.cells zi 32 (0, 0))) := by rw [<- hW0.out]; exact heap_alloc_new w _
 obtain ⟨z1, HZ1⟩ : ∃ x, Hid (s.length = x) := ⟨_, rfl⟩
 obtain ⟨z2, HZ2⟩ : ∃ x, Hid (f.length = x) := ⟨_, rfl⟩
 rw [HZ1.out] at d0
 rw [HZ1.out, HZ2.out, HZI.out]
 have e0 : decide ((64 : Int) < (z1 : Int)) = false := decide_eq_false (by omega)
 have e1 : decide (k < 1) = false := decide_eq_false (by omega)
 have e2 : decide (n < k) = false := decide_eq_false (by omega)
 have e3 : decide (255 < n) = false := decide_eq_false (by omega)
 have e4 : decide (g < 1) = false := decide_eq_false (by omega)
 have e5 : decide (65790 < g) = true := decide_eq_true (by omega)
 clear h1 h2 d0 d1 d2 d3 d4 d5
 go_enter Tryd.func42, Tryd.ntmps42
 go_wp2_with (first | (refine wpList_alloc_aggT HZ0.out rfl rfl ?_; rw [hW0.out]) | (refine wpList_build_key rfl rfl ?_; rw [HZI.out]) | (refine wpList_store_row rfl 32 _ _ rfl w.heap.size zi rfl rfl 32 _ R0.out SI.out rfl OY.out ?_) | fail)
 refine bodyPost_ret (v := .tuple #[.agg zi, .int .i64 3]) (results_cellT5 (p := 10) (u := 11) (ty := 32) rfl _ _ w.heap.size 32 zi (0, 0) _ rfl (setRow_heap _ _ _ _ _ _ R0.out) Tryd.underlying32 rfl SI.out _ rfl) rfl ?_
 exact ⟨rfl, Hid.out (bel5 B0.out)⟩
theorem tky_bad6 (w : World) (v1 v2 : Value) (s f : List Int) (k n g : Int) (h1 : HB w v1 s) (h2 : HB w v2 f) (d0 : ¬ 64 < s.length) (d1 : ¬ k < 1) (d2 : ¬ n < k) (d3 : ¬ 255 < n) (d4 : ¬ g < 1) (d5 : ¬ 65790 < g) (d6 : 16777216 < f.length) : Calls Tryd.prog 42 #[v1, .int .i64 k, .int .i64 n, .int .i64 g, v2] w fun e w' => e = .returned (.tuple #[.agg (cellsB zeros16), .int .i64 4]) /\ Below w.heap.size w w' := by
 obtain ⟨p1, c1, rfl, _, _⟩ := h1.open
 obtain ⟨p2, c2, rfl, _, _⟩ := h2.open
 obtain ⟨zi, HZI⟩ : ∃ zd, Hid (cellsB zeros16 = zd) := ⟨_, rfl⟩
 have HZ0 : Hid ((Tryd.prog.info? 32).map (·.zero) = some (some (.agg zi))) := by rw [<- HZI.out]; exact hid zero_key
 have SI : Hid ((Tryd.prog.info? 32).map (·.size) = some zi.size) := by refine hid ?_; rw [<- HZI.out, cellsB_size]; exact size_key
 have OY : Hid (zi.all (·.oneCell') = true) := by refine hid ?_; rw [<- HZI.out]; exact cellsB_one _
 obtain ⟨W0, hW0⟩ : ∃ W0, Hid (w.alloc (.cells zi 32) = W0) := ⟨_, rfl⟩
 have B0 : Hid (Below w.heap.size w W0) := by rw [<- hW0.out]; exact (Below.refl _ w).alloc (Nat.le_refl _) _
 have R0 : Hid (W0.heap[w.heap.size]? = some (.cells zi 32 (0, 0))) := by rw [<- hW0.out]; exact heap_alloc_new w _
 obtain ⟨z1, HZ1⟩ : ∃ x, Hid (s.length = x) := ⟨_, rfl⟩
 obtain ⟨z2, HZ2⟩ : ∃ x, Hid (f.length = x) := ⟨_, rfl⟩
 rw [HZ1.out] at d0
 rw [HZ2.out] at d6
 rw [HZ1.out, HZ2.out, HZI.out]
 have e0 : decide ((64 : Int) < (z1 : Int)) = false := decide_eq_false (by omega)
 have e1 : decide (k < 1) = false := decide_eq_false (by omega)
 have e2 : decide (n < k) = false := decide_eq_false (by omega)
 have e3 : decide (255 < n) = false := decide_eq_false (by omega)
 have e4 : decide (g < 1) = false := decide_eq_false (by omega)
 have e5 : decide (65790 < g) = false := decide_eq_false (by omega)
 have e6 : decide ((16777216 : Int) < (z2 : Int)) = true := decide_eq_true (by omega)
 clear h1 h2 d0 d1 d2 d3 d4 d5 d6
 go_enter Tryd.func42, Tryd.ntmps42
 go_wp2_with (first | (refine wpList_alloc_aggT HZ0.out rfl rfl ?_; rw [hW0.out]) | (refine wpList_build_key rfl rfl ?_; rw [HZI.out]) | (refine wpList_store_row rfl 32 _ _ rfl w.heap.size zi rfl rfl 32 _ R0.out SI.out rfl OY.out ?_) | fail)
 refine bodyPost_ret (v := .tuple #[.agg zi, .int .i64 4]) (results_cellT5 (p := 10) (u := 11) (ty := 32) rfl _ _ w.heap.size 32 zi (0, 0) _ rfl (setRow_heap _ _ _ _ _ _ R0.out) Tryd.underlying32 rfl SI.out _ rfl) rfl ?_
 exact ⟨rfl, Hid.out (bel5 B0.out)⟩
theorem rky_bad0 (w : World) (v1 v2 : Value) (s f : List Int) (k n g : Int) (h1 : HB w v1 s) (h2 : HB w v2 f)  (d0 : 64 < s.length) : Calls Tryd.prog 43 #[v1, .int .i64 k, .int .i64 n, .int .i64 g, v2] w fun e w' => e = .returned (.tuple #[.agg (cellsB zeros16), .int .i64 3]) /\ Below w.heap.size w w' := by
 obtain ⟨p1, c1, rfl, _, _⟩ := h1.open
 obtain ⟨p2, c2, rfl, _, _⟩ := h2.open
 obtain ⟨zi, HZI⟩ : ∃ zd, Hid (cellsB zeros16 = zd) := ⟨_, rfl⟩
 have HZ0 : Hid ((Tryd.prog.info? 32).map (·.zero) = some (some (.agg zi))) := by rw [<- HZI.out]; exact hid zero_key
 have SI : Hid ((Tryd.prog.info? 32).map (·.size) = some zi.size) := by refine hid ?_; rw [<- HZI.out, cellsB_size]; exact size_key
 have OY : Hid (zi.all (·.oneCell') = true) := by refine hid ?_; rw [<- HZI.out]; exact cellsB_one _
 obtain ⟨W0, hW0⟩ : ∃ W0, Hid (w.alloc (.cells zi 32) = W0) := ⟨_, rfl⟩
 have B0 : Hid (Below w.heap.size w W0) := by rw [<- hW0.out]; exact (Below.refl _ w).alloc (Nat.le_refl _) _
 have R0 : Hid (W0.heap[w.heap.size]? = some (.cells zi 32 (0, 0))) := by rw [<- hW0.out]; exact heap_alloc_new w _
 obtain ⟨z1, HZ1⟩ : ∃ x, Hid (s.length = x) := ⟨_, rfl⟩
 obtain ⟨z2, HZ2⟩ : ∃ x, Hid (f.length = x) := ⟨_, rfl⟩
 rw [HZ1.out] at d0
 rw [HZ1.out, HZ2.out, HZI.out]
 have e0 : decide ((64 : Int) < (z1 : Int)) = true := decide_eq_true (by omega)
 clear h1 h2 d0
 go_enter Tryd.func43, Tryd.ntmps43
 go_wp2_with (first | (refine wpList_alloc_aggT HZ0.out rfl rfl ?_; rw [hW0.out]) | (refine wpList_build_key rfl rfl ?_; rw [HZI.out]) | (refine wpList_store_row rfl 32 _ _ rfl w.heap.size zi rfl rfl 32 _ R0.out SI.out rfl OY.out ?_) | fail)
 refine bodyPost_ret (v := .tuple #[.agg zi, .int .i64 3]) (results_cellT5 (p := 10) (u := 11) (ty := 32) rfl _ _ w.heap.size 32 zi (0, 0) _ rfl (setRow_heap _ _ _ _ _ _ R0.out) Tryd.underlying32 rfl SI.out _ rfl) rfl ?_
 exact ⟨rfl, Hid.out (bel5 B0.out)⟩
theorem rky_bad1 (w : World) (v1 v2 : Value) (s f : List Int) (k n g : Int) (h1 : HB w v1 s) (h2 : HB w v2 f) (d0 : ¬ 64 < s.length) (d1 : k < 1) : Calls Tryd.prog 43 #[v1, .int .i64 k, .int .i64 n, .int .i64 g, v2] w fun e w' => e = .returned (.tuple #[.agg (cellsB zeros16), .int .i64 3]) /\ Below w.heap.size w w' := by
 obtain ⟨p1, c1, rfl, _, _⟩ := h1.open
 obtain ⟨p2, c2, rfl, _, _⟩ := h2.open
 obtain ⟨zi, HZI⟩ : ∃ zd, Hid (cellsB zeros16 = zd) := ⟨_, rfl⟩
 have HZ0 : Hid ((Tryd.prog.info? 32).map (·.zero) = some (some (.agg zi))) := by rw [<- HZI.out]; exact hid zero_key
 have SI : Hid ((Tryd.prog.info? 32).map (·.size) = some zi.size) := by refine hid ?_; rw [<- HZI.out, cellsB_size]; exact size_key
 have OY : Hid (zi.all (·.oneCell') = true) := by refine hid ?_; rw [<- HZI.out]; exact cellsB_one _
 obtain ⟨W0, hW0⟩ : ∃ W0, Hid (w.alloc (.cells zi 32) = W0) := ⟨_, rfl⟩
 have B0 : Hid (Below w.heap.size w W0) := by rw [<- hW0.out]; exact (Below.refl _ w).alloc (Nat.le_refl _) _
 have R0 : Hid (W0.heap[w.heap.size]? = some (.cells zi 32 (0, 0))) := by rw [<- hW0.out]; exact heap_alloc_new w _
 obtain ⟨z1, HZ1⟩ : ∃ x, Hid (s.length = x) := ⟨_, rfl⟩
 obtain ⟨z2, HZ2⟩ : ∃ x, Hid (f.length = x) := ⟨_, rfl⟩
 rw [HZ1.out] at d0
 rw [HZ1.out, HZ2.out, HZI.out]
 have e0 : decide ((64 : Int) < (z1 : Int)) = false := decide_eq_false (by omega)
 have e1 : decide (k < 1) = true := decide_eq_true (by omega)
 clear h1 h2 d0 d1
 go_enter Tryd.func43, Tryd.ntmps43
 go_wp2_with (first | (refine wpList_alloc_aggT HZ0.out rfl rfl ?_; rw [hW0.out]) | (refine wpList_build_key rfl rfl ?_; rw [HZI.out]) | (refine wpList_store_row rfl 32 _ _ rfl w.heap.size zi rfl rfl 32 _ R0.out SI.out rfl OY.out ?_) | fail)
 refine bodyPost_ret (v := .tuple #[.agg zi, .int .i64 3]) (results_cellT5 (p := 10) (u := 11) (ty := 32) rfl _ _ w.heap.size 32 zi (0, 0) _ rfl (setRow_heap _ _ _ _ _ _ R0.out) Tryd.underlying32 rfl SI.out _ rfl) rfl ?_
 exact ⟨rfl, Hid.out (bel5 B0.out)⟩
theorem rky_bad2 (w : World) (v1 v2 : Value) (s f : List Int) (k n g : Int) (h1 : HB w v1 s) (h2 : HB w v2 f) (d0 : ¬ 64 < s.length) (d1 : ¬ k < 1) (d2 : n < k) : Calls Tryd.prog 43 #[v1, .int .i64 k, .int .i64 n, .int .i64 g, v2] w fun e w' => e = .returned (.tuple #[.agg (cellsB zeros16), .int .i64 3]) /\ Below w.heap.size w w' := by
 obtain ⟨p1, c1, rfl, _, _⟩ := h1.open
 obtain ⟨p2, c2, rfl, _, _⟩ := h2.open
 obtain ⟨zi, HZI⟩ : ∃ zd, Hid (cellsB zeros16 = zd) := ⟨_, rfl⟩
 have HZ0 : Hid ((Tryd.prog.info? 32).map (·.zero) = some (some (.agg zi))) := by rw [<- HZI.out]; exact hid zero_key
 have SI : Hid ((Tryd.prog.info? 32).map (·.size) = some zi.size) := by refine hid ?_; rw [<- HZI.out, cellsB_size]; exact size_key
 have OY : Hid (zi.all (·.oneCell') = true) := by refine hid ?_; rw [<- HZI.out]; exact cellsB_one _
 obtain ⟨W0, hW0⟩ : ∃ W0, Hid (w.alloc (.cells zi 32) = W0) := ⟨_, rfl⟩
 have B0 : Hid (Below w.heap.size w W0) := by rw [<- hW0.out]; exact (Below.refl _ w).alloc (Nat.le_refl _) _
 have R0 : Hid (W0.heap[w.heap.size]? = some (.cells zi 32 (0, 0))) := by rw [<- hW0.out]; exact heap_alloc_new w _
 obtain ⟨z1, HZ1⟩ : ∃ x, Hid (s.length = x) := ⟨_, rfl⟩
 obtain ⟨z2, HZ2⟩ : ∃ x, Hid (f.length = x) := ⟨_, rfl⟩
 rw [HZ1.out] at d0
 rw [HZ1.out, HZ2.out, HZI.out]
 have e0 : decide ((64 : Int) < (z1 : Int)) = false := decide_eq_false (by omega)
 have e1 : decide (k < 1) = false := decide_eq_false (by omega)
 have e2 : decide (n < k) = true := decide_eq_true (by omega)
 clear h1 h2 d0 d1 d2
 go_enter Tryd.func43, Tryd.ntmps43
 go_wp2_with (first | (refine wpList_alloc_aggT HZ0.out rfl rfl ?_; rw [hW0.out]) | (refine wpList_build_key rfl rfl ?_; rw [HZI.out]) | (refine wpList_store_row rfl 32 _ _ rfl w.heap.size zi rfl rfl 32 _ R0.out SI.out rfl OY.out ?_) | fail)
 refine bodyPost_ret (v := .tuple #[.agg zi, .int .i64 3]) (results_cellT5 (p := 10) (u := 11) (ty := 32) rfl _ _ w.heap.size 32 zi (0, 0) _ rfl (setRow_heap _ _ _ _ _ _ R0.out) Tryd.underlying32 rfl SI.out _ rfl) rfl ?_
 exact ⟨rfl, Hid.out (bel5 B0.out)⟩
theorem rky_bad3 (w : World) (v1 v2 : Value) (s f : List Int) (k n g : Int) (h1 : HB w v1 s) (h2 : HB w v2 f) (d0 : ¬ 64 < s.length) (d1 : ¬ k < 1) (d2 : ¬ n < k) (d3 : 255 < n) : Calls Tryd.prog 43 #[v1, .int .i64 k, .int .i64 n, .int .i64 g, v2] w fun e w' => e = .returned (.tuple #[.agg (cellsB zeros16), .int .i64 3]) /\ Below w.heap.size w w' := by
 obtain ⟨p1, c1, rfl, _, _⟩ := h1.open
 obtain ⟨p2, c2, rfl, _, _⟩ := h2.open
 obtain ⟨zi, HZI⟩ : ∃ zd, Hid (cellsB zeros16 = zd) := ⟨_, rfl⟩
 have HZ0 : Hid ((Tryd.prog.info? 32).map (·.zero) = some (some (.agg zi))) := by rw [<- HZI.out]; exact hid zero_key
 have SI : Hid ((Tryd.prog.info? 32).map (·.size) = some zi.size) := by refine hid ?_; rw [<- HZI.out, cellsB_size]; exact size_key
 have OY : Hid (zi.all (·.oneCell') = true) := by refine hid ?_; rw [<- HZI.out]; exact cellsB_one _
 obtain ⟨W0, hW0⟩ : ∃ W0, Hid (w.alloc (.cells zi 32) = W0) := ⟨_, rfl⟩
 have B0 : Hid (Below w.heap.size w W0) := by rw [<- hW0.out]; exact (Below.refl _ w).alloc (Nat.le_refl _) _
 have R0 : Hid (W0.heap[w.heap.size]? = some (.cells zi 32 (0, 0))) := by rw [<- hW0.out]; exact heap_alloc_new w _
 obtain ⟨z1, HZ1⟩ : ∃ x, Hid (s.length = x) := ⟨_, rfl⟩
 obtain ⟨z2, HZ2⟩ : ∃ x, Hid (f.length = x) := ⟨_, rfl⟩
 rw [HZ1.out] at d0
 rw [HZ1.out, HZ2.out, HZI.out]
 have e0 : decide ((64 : Int) < (z1 : Int)) = false := decide_eq_false (by omega)
 have e1 : decide (k < 1) = false := decide_eq_false (by omega)
 have e2 : decide (n < k) = false := decide_eq_false (by omega)
 have e3 : decide (255 < n) = true := decide_eq_true (by omega)
 clear h1 h2 d0 d1 d2 d3
 go_enter Tryd.func43, Tryd.ntmps43
 go_wp2_with (first | (refine wpList_alloc_aggT HZ0.out rfl rfl ?_; rw [hW0.out]) | (refine wpList_build_key rfl rfl ?_; rw [HZI.out]) | (refine wpList_store_row rfl 32 _ _ rfl w.heap.size zi rfl rfl 32 _ R0.out SI.out rfl OY.out ?_) | fail)
 refine bodyPost_ret (v := .tuple #[.agg zi, .int .i64 3]) (results_cellT5 (p := 10) (u := 11) (ty := 32) rfl _ _ w.heap.size 32 zi (0, 0) _ rfl (setRow_heap _ _ _ _ _ _ R0.out) Tryd.underlying32 rfl SI.out _ rfl) rfl ?_
 exact ⟨rfl, Hid.out (bel5 B0.out)⟩
theorem rky_bad4 (w : World) (v1 v2 : Value) (s f : List Int) (k n g : Int) (h1 : HB w v1 s) (h2 : HB w v2 f) (d0 : ¬ 64 < s.length) (d1 : ¬ k < 1) (d2 : ¬ n < k) (d3 : ¬ 255 < n) (d4 : g < 1) : Calls Tryd.prog 43 #[v1, .int .i64 k, .int .i64 n, .int .i64 g, v2] w fun e w' => e = .returned (.tuple #[.agg (cellsB zeros16), .int .i64 3]) /\ Below w.heap.size w w' := by
 obtain ⟨p1, c1, rfl, _, _⟩ := h1.open
 obtain ⟨p2, c2, rfl, _, _⟩ := h2.open
 obtain ⟨zi, HZI⟩ : ∃ zd, Hid (cellsB zeros16 = zd) := ⟨_, rfl⟩
 have HZ0 : Hid ((Tryd.prog.info? 32).map (·.zero) = some (some (.agg zi))) := by rw [<- HZI.out]; exact hid zero_key
 have SI : Hid ((Tryd.prog.info? 32).map (·.size) = some zi.size) := by refine hid ?_; rw [<- HZI.out, cellsB_size]; exact size_key
 have OY : Hid (zi.all (·.oneCell') = true) := by refine hid ?_; rw [<- HZI.out]; exact cellsB_one _
 obtain ⟨W0, hW0⟩ : ∃ W0, Hid (w.alloc (.cells zi 32) = W0) := ⟨_, rfl⟩
 have B0 : Hid (Below w.heap.size w W0) := by rw [<- hW0.out]; exact (Below.refl _ w).alloc (Nat.le_refl _) _
 have R0 : Hid (W0.heap[w.heap.size]? = some (.cells zi 32 (0, 0))) := by rw [<- hW0.out]; exact heap_alloc_new w _
 obtain ⟨z1, HZ1⟩ : ∃ x, Hid (s.length = x) := ⟨_, rfl⟩
 obtain ⟨z2, HZ2⟩ : ∃ x, Hid (f.length = x) := ⟨_, rfl⟩
 rw [HZ1.out] at d0
 rw [HZ1.out, HZ2.out, HZI.out]
 have e0 : decide ((64 : Int) < (z1 : Int)) = false := decide_eq_false (by omega)
 have e1 : decide (k < 1) = false := decide_eq_false (by omega)
 have e2 : decide (n < k) = false := decide_eq_false (by omega)
 have e3 : decide (255 < n) = false := decide_eq_false (by omega)
 have e4 : decide (g < 1) = true := decide_eq_true (by omega)
 clear h1 h2 d0 d1 d2 d3 d4
 go_enter Tryd.func43, Tryd.ntmps43
 go_wp2_with (first | (refine wpList_alloc_aggT HZ0.out rfl rfl ?_; rw [hW0.out]) | (refine wpList_build_key rfl rfl ?_; rw [HZI.out]) | (refine wpList_store_row rfl 32 _ _ rfl w.heap.size zi rfl rfl 32 _ R0.out SI.out rfl OY.out ?_) | fail)
 refine bodyPost_ret (v := .tuple #[.agg zi, .int .i64 3]) (results_cellT5 (p := 10) (u := 11) (ty := 32) rfl _ _ w.heap.size 32 zi (0, 0) _ rfl (setRow_heap _ _ _ _ _ _ R0.out) Tryd.underlying32 rfl SI.out _ rfl) rfl ?_
 exact ⟨rfl, Hid.out (bel5 B0.out)⟩
theorem rky_bad5 (w : World) (v1 v2 : Value) (s f : List Int) (k n g : Int) (h1 : HB w v1 s) (h2 : HB w v2 f) (d0 : ¬ 64 < s.length) (d1 : ¬ k < 1) (d2 : ¬ n < k) (d3 : ¬ 255 < n) (d4 : ¬ g < 1) (d5 : 65790 < g) : Calls Tryd.prog 43 #[v1, .int .i64 k, .int .i64 n, .int .i64 g, v2] w fun e w' => e = .returned (.tuple #[.agg (cellsB zeros16), .int .i64 3]) /\ Below w.heap.size w w' := by
 obtain ⟨p1, c1, rfl, _, _⟩ := h1.open
 obtain ⟨p2, c2, rfl, _, _⟩ := h2.open
 obtain ⟨zi, HZI⟩ : ∃ zd, Hid (cellsB zeros16 = zd) := ⟨_, rfl⟩
 have HZ0 : Hid ((Tryd.prog.info? 32).map (·.zero) = some (some (.agg zi))) := by rw [<- HZI.out]; exact hid zero_key
 have SI : Hid ((Tryd.prog.info? 32).map (·.size) = some zi.size) := by refine hid ?_; rw [<- HZI.out, cellsB_size]; exact size_key
 have OY : Hid (zi.all (·.oneCell') = true) := by refine hid ?_; rw [<- HZI.out]; exact cellsB_one _
 obtain ⟨W0, hW0⟩ : ∃ W0, Hid (w.alloc (.cells zi 32) = W0) := ⟨_, rfl⟩
 have B0 : Hid (Below w.heap.size w W0) := by rw [<- hW0.out]; exact (Below.refl _ w).alloc (Nat.le_refl _) _
 have R0 : Hid (W0.heap[w.heap.size]? = some (.cells zi 32 (0, 0))) := by rw [<- hW0.out]; exact heap_alloc_new w _
 obtain ⟨z1, HZ1⟩ : ∃ x, Hid (s.length = x) := ⟨_, rfl⟩
 obtain ⟨z2, HZ2⟩ : ∃ x, Hid (f.length = x) := ⟨_, rfl⟩
 rw [HZ1.out] at d0
 rw [HZ1.out, HZ2.out, HZI.out]
 have e0 : decide ((64 : Int) < (z1 : Int)) = false := decide_eq_false (by omega)
 have e1 : decide (k < 1) = false := decide_eq_false (by omega)
 have e2 : decide (n < k) = false := decide_eq_false (by omega)
 have e3 : decide (255 < n) = false := decide_eq_false (by omega)
 have e4 : decide (g < 1) = false := decide_eq_false (by omega)
 have e5 : decide (65790 < g) = true := decide_eq_true (by omega)
 clear h1 h2 d0 d1 d2 d3 d4 d5
 go_enter Tryd.func43, Tryd.ntmps43
 go_wp2_with (first | (refine wpList_alloc_aggT HZ0.out rfl rfl ?_; rw [hW0.out]) | (refine wpList_build_key rfl rfl ?_; rw [HZI.out]) | (refine wpList_store_row rfl 32 _ _ rfl w.heap.size zi rfl rfl 32 _ R0.out SI.out rfl OY.out ?_) | fail)
 refine bodyPost_ret (v := .tuple #[.agg zi, .int .i64 3]) (results_cellT5 (p := 10) (u := 11) (ty := 32) rfl _ _ w.heap.size 32 zi (0, 0) _ rfl (setRow_heap _ _ _ _ _ _ R0.out) Tryd.underlying32 rfl SI.out _ rfl) rfl ?_
 exact ⟨rfl, Hid.out (bel5 B0.out)⟩
theorem rky_bad6 (w : World) (v1 v2 : Value) (s f : List Int) (k n g : Int) (h1 : HB w v1 s) (h2 : HB w v2 f) (d0 : ¬ 64 < s.length) (d1 : ¬ k < 1) (d2 : ¬ n < k) (d3 : ¬ 255 < n) (d4 : ¬ g < 1) (d5 : ¬ 65790 < g) (d6 : 16777216 < f.length) : Calls Tryd.prog 43 #[v1, .int .i64 k, .int .i64 n, .int .i64 g, v2] w fun e w' => e = .returned (.tuple #[.agg (cellsB zeros16), .int .i64 4]) /\ Below w.heap.size w w' := by
 obtain ⟨p1, c1, rfl, _, _⟩ := h1.open
 obtain ⟨p2, c2, rfl, _, _⟩ := h2.open
 obtain ⟨zi, HZI⟩ : ∃ zd, Hid (cellsB zeros16 = zd) := ⟨_, rfl⟩
 have HZ0 : Hid ((Tryd.prog.info? 32).map (·.zero) = some (some (.agg zi))) := by rw [<- HZI.out]; exact hid zero_key
 have SI : Hid ((Tryd.prog.info? 32).map (·.size) = some zi.size) := by refine hid ?_; rw [<- HZI.out, cellsB_size]; exact size_key
 have OY : Hid (zi.all (·.oneCell') = true) := by refine hid ?_; rw [<- HZI.out]; exact cellsB_one _
 obtain ⟨W0, hW0⟩ : ∃ W0, Hid (w.alloc (.cells zi 32) = W0) := ⟨_, rfl⟩
 have B0 : Hid (Below w.heap.size w W0) := by rw [<- hW0.out]; exact (Below.refl _ w).alloc (Nat.le_refl _) _
 have R0 : Hid (W0.heap[w.heap.size]? = some (.cells zi 32 (0, 0))) := by rw [<- hW0.out]; exact heap_alloc_new w _
 obtain ⟨z1, HZ1⟩ : ∃ x, Hid (s.length = x) := ⟨_, rfl⟩
 obtain ⟨z2, HZ2⟩ : ∃ x, Hid (f.length = x) := ⟨_, rfl⟩
 rw [HZ1.out] at d0
 rw [HZ2.out] at d6
 rw [HZ1.out, HZ2.out, HZI.out]
 have e0 : decide ((64 : Int) < (z1 : Int)) = false := decide_eq_false (by omega)
 have e1 : decide (k < 1) = false := decide_eq_false (by omega)
 have e2 : decide (n < k) = false := decide_eq_false (by omega)
 have e3 : decide (255 < n) = false := decide_eq_false (by omega)
 have e4 : decide (g < 1) = false := decide_eq_false (by omega)
 have e5 : decide (65790 < g) = false := decide_eq_false (by omega)
 have e6 : decide ((16777216 : Int) < (z2 : Int)) = true := decide_eq_true (by omega)
 clear h1 h2 d0 d1 d2 d3 d4 d5 d6
 go_enter Tryd.func43, Tryd.ntmps43
 go_wp2_with (first | (refine wpList_alloc_aggT HZ0.out rfl rfl ?_; rw [hW0.out]) | (refine wpList_build_key rfl rfl ?_; rw [HZI.out]) | (refine wpList_store_row rfl 32 _ _ rfl w.heap.size zi rfl rfl 32 _ R0.out SI.out rfl OY.out ?_) | fail)
 refine bodyPost_ret (v := .tuple #[.agg zi, .int .i64 4]) (results_cellT5 (p := 10) (u := 11) (ty := 32) rfl _ _ w.heap.size 32 zi (0, 0) _ rfl (setRow_heap _ _ _ _ _ _ R0.out) Tryd.underlying32 rfl SI.out _ rfl) rfl ?_
 exact ⟨rfl, Hid.out (bel5 B0.out)⟩
theorem tky_ok (w : World) (v1 v2 : Value) (s f : List Int) (k n g : Nat) (h1 : HB w v1 s) (h2 : HB w v2 f) (d0 : s.length <= 64) (d1 : 1 <= k) (d2 : k <= n) (d3 : n <= 255) (d4 : 1 <= g) (d5 : g <= 65790) (d6 : f.length <= 16777216) (hk : KC w) : Calls Tryd.prog 42 #[v1, .int .i64 (k : Int), .int .i64 (n : Int), .int .i64 (g : Int), v2] w fun e w' => e = .returned (.tuple #[.agg (cellsB ((tdL 1 [s, sixL k n g, f]).take 16)), .int .i64 0]) /\ Below w.heap.size w w' := by
 obtain ⟨p1, c1, rfl, _, _⟩ := h1.open
 obtain ⟨p2, c2, rfl, _, _⟩ := h2.open
 obtain ⟨zi, HZI⟩ : ∃ zd, Hid (cellsB zeros16 = zd) := ⟨_, rfl⟩
 have HZ0 : Hid ((Tryd.prog.info? 32).map (·.zero) = some (some (.agg zi))) := by rw [<- HZI.out]; exact hid zero_key
 have SI : Hid ((Tryd.prog.info? 32).map (·.size) = some zi.size) := by refine hid ?_; rw [<- HZI.out, cellsB_size]; exact size_key
 have OY : Hid (zi.all (·.oneCell') = true) := by refine hid ?_; rw [<- HZI.out]; exact cellsB_one _
 obtain ⟨W0, hW0⟩ : ∃ W0, Hid (w.alloc (.cells zi 32) = W0) := ⟨_, rfl⟩
 have B0 : Hid (Below w.heap.size w W0) := by rw [<- hW0.out]; exact (Below.refl _ w).alloc (Nat.le_refl _) _
 have R0 : Hid (W0.heap[w.heap.size]? = some (.cells zi 32 (0, 0))) := by rw [<- hW0.out]; exact heap_alloc_new w _
 have HX1 := hid h1
 have HX2 := hid h2
 obtain ⟨sx, HSX⟩ : ∃ x, Hid (sixL k n g = x) := ⟨_, rfl⟩
 have HSE : Hid (sx = [(k : Int), (n : Int)] ++ bigL 4 g) := hid HSX.out.symm
 have HSL : Hid (sx.length = 6) := hid (by rw [HSE.out]; simp [bigL_length])
 have HSB : Hid (∀ q ∈ sx, 0 <= q /\ q < 256) := hid (by
  rw [HSE.out]
  intro q hq
  rcases List.mem_append.1 hq with hq | hq
  ·have : q = (k : Int) \/ q = (n : Int) := by simpa using hq
   omega
  ·exact bigL_byt 4 g q hq)
 obtain ⟨D, HD⟩ : ∃ D, Hid (tdL 1 [s, sx, f] = D) := ⟨_, rfl⟩
 rw [HSX.out, HD.out]
 have HDl : Hid (D.length = 32) := by rw [<- HD.out]; exact hid (tdL_length _ _)
 obtain ⟨dm, HDM⟩ : ∃ dm, Hid (cellsB D = dm) := ⟨_, rfl⟩
 obtain ⟨zd, HZD⟩ : ∃ zd, Hid (cellsB zeros32 = zd) := ⟨_, rfl⟩
 have SD : Hid ((Tryd.prog.info? 34).map (·.size) = some dm.size) := by refine hid ?_; rw [<- HDM.out, cellsB_size, HDl.out]; exact size_digest
 have OD : Hid (dm.all (·.oneCell') = true) := by refine hid ?_; rw [<- HDM.out]; exact cellsB_one _
 have ZD : Hid (zd.size = dm.size) := by refine hid ?_; rw [<- HZD.out, <- HDM.out, cellsB_size, cellsB_size, HDl.out, zeros32_length]
 obtain ⟨L, HLL⟩ : ∃ L, Hid (D.take 16 = L) := ⟨_, rfl⟩
 have hyl : L.length = 16 := by rw [<- HLL.out, List.length_take, HDl.out]; rfl
 have HYL := hid hyl
 rw [HLL.out]
 obtain ⟨y, HY⟩ : ∃ y, Hid (cellsB L = y) := ⟨_, rfl⟩
 have SY : Hid ((Tryd.prog.info? 32).map (·.size) = some y.size) := by refine hid ?_; rw [<- HY.out, cellsB_size, hyl]; exact size_key
 have SY2 : Hid ((Tryd.prog.info? 32).map (·.size) = some (L.map (Value.int .u8)).length) := by refine hid ?_; rw [List.length_map, hyl]; exact size_key
 have OYY : Hid (y.all (·.oneCell') = true) := by refine hid ?_; rw [<- HY.out]; exact cellsB_one _
 have ZY : Hid (zi.size = y.size) := by refine hid ?_; rw [<- HZI.out, <- HY.out, cellsB_size, cellsB_size, hyl]; rfl
 have ZP : Hid (zi = cellsB (partT L 0)) := by refine hid ?_; rw [partT_none, hyl, <- HZI.out]; rfl
 have HY2 : Hid ((L.map (Value.int .u8)).toArray = y) := HY
 rw [HY.out]
 obtain ⟨z1, HZ1⟩ : ∃ x, Hid (s.length = x) := ⟨_, rfl⟩
 obtain ⟨z2, HZ2⟩ : ∃ x, Hid (f.length = x) := ⟨_, rfl⟩
 have D0 := hid d0
 have D6 := hid d6
 rw [HZ1.out] at d0
 rw [HZ2.out] at d6
 rw [HZ1.out, HZ2.out]
 rw [HZ1.out] at HX1
 rw [HZ2.out] at HX2
 have e0 : decide ((64 : Int) < (z1 : Int)) = false := decide_eq_false (by omega)
 have e1 : decide ((k : Int) < 1) = false := decide_eq_false (by omega)
 have e2 : decide ((n : Int) < (k : Int)) = false := decide_eq_false (by omega)
 have e3 : decide (255 < (n : Int)) = false := decide_eq_false (by omega)
 have e4 : decide ((g : Int) < 1) = false := decide_eq_false (by omega)
 have e5 : decide (65790 < (g : Int)) = false := decide_eq_false (by omega)
 have e6 : decide ((16777216 : Int) < (z2 : Int)) = false := decide_eq_false (by omega)
 have e2n : decide (n < k) = false := decide_eq_false (by omega)
 have e3n : decide (255 < n) = false := decide_eq_false (by omega)
 have e5n : decide (65790 < g) = false := decide_eq_false (by omega)
 have u1 : IntKind.u8.wrap (k : Int) = (k : Int) := by rw [IntKind.wrap_u8]; omega
 have u2 : IntKind.u8.wrap (n : Int) = (n : Int) := by rw [IntKind.wrap_u8]; omega
 have u3 : IntKind.u32.wrap (g : Int) = (g : Int) := by rw [IntKind.wrap_u32]; omega
 obtain ⟨W1, hW1⟩ : ∃ W1, Hid (W0.alloc (.cells #[.int .u8 (k : Int), .int .u8 (n : Int)] 5) = W1) := ⟨_, rfl⟩
 have B01 : Hid (Below W0.heap.size W0 W1) := by rw [<- hW1.out]; exact (Below.refl W0.heap.size W0).alloc (Nat.le_refl _) _
 have BW1 : Hid (Below w.heap.size w W1) := hid (B0.out.trans (B01.out.mono B0.out.size))
 have OL1 : Hid (W1.ownsRow W0.heap.size 5 1 (.slice (some ⟨W0.heap.size, 0, none⟩) 2 2) 2 [.int .u8 (k : Int), .int .u8 (n : Int)]) := by rw [<- hW1.out]; exact hid (World.ownsRow_lit (base := W0.heap.size) (e := 5) (size := 1) W0 #[.int .u8 (k : Int), .int .u8 (n : Int)] 2 (Nat.le_refl _) (by decide) rfl)
 have CB := hid (big_uint32 g (by omega) W1)
 have HK := hid hk
 have HB2 : Hid (HB W1 (.slice (some ⟨W0.heap.size, 0, none⟩) 2 2) [(k : Int), (n : Int)]) := hid (HB.of_own (l := [(k : Int), (n : Int)]) OL1.out (by
  intro q hq
  have : q = (k : Int) \/ q = (n : Int) := by simpa using hq
  omega))
 clear h1 h2 hyl d0 d1 d2 d3 d4 d5 d6 hk
 go_enter Tryd.func42, Tryd.ntmps42
 go_wp2_with (first | (refine wpList_alloc_aggT HZ0.out rfl rfl ?_; rw [hW0.out]) | rw [hW1.out] | fail)
 refine CB.out.mono ?_
 rintro e w2 ⟨v2, rfl, ho2, hb2⟩
 obtain ⟨p2', c2', ev2⟩ := own_slice ho2
 subst ev2
 obtain ⟨W3, hW3⟩ : ∃ W1, Hid (w2.alloc (.cells #[.slice (some ⟨W0.heap.size, 0, none⟩) 2 2, .slice p2' 4 c2'] 30) = W1) := ⟨_, rfl⟩
 have B23 : Hid (Below w2.heap.size w2 W3) := by rw [<- hW3.out]; exact (Below.refl w2.heap.size w2).alloc (Nat.le_refl _) _
 have H3 : Hid (W3.heap[w2.heap.size]? = some (.cells #[.slice (some ⟨W0.heap.size, 0, none⟩) 2 2, .slice p2' 4 c2'] 30 (0, 0))) := by rw [<- hW3.out]; exact heap_alloc_new w2 _
 have b13 := hb2.trans (B23.out.mono hb2.size)
 have CJ := join_any W3 _ [[(k : Int), (n : Int)], bigL 4 g] (HL.two5 H3.out (HB2.out.below b13) ((HB.of_own (l := bigL 4 g) (by rw [bigL_length]; exact ho2) (bigL_byt 4 g)).below B23.out)) (by simp [bigL_length])
 have fl : [[(k : Int), (n : Int)], bigL 4 g].flatten = sx := by rw [HSE.out]; simp
 rw [fl] at CJ
 have CJ := hid CJ
 have B03 : Hid (Below W0.heap.size W0 W3) := hid (B01.out.trans (b13.mono B01.out.size))
 have BW3 : Hid (Below w.heap.size w W3) := hid (BW1.out.trans (b13.mono BW1.out.size))
 clear ho2 hb2 fl b13 CB
 go_wp2_with (first | rw [hW3.out] | fail)
 refine CJ.out.mono ?_
 rintro e w4 ⟨v4, rfl, ho4, hb4⟩
 have B4 := hid (BW3.out.trans (hb4.mono BW3.out.size))
 have B04 := hid (B03.out.trans (hb4.mono B03.out.size))
 have HBS := hid (HB.of_own ho4 HSB.out)
 obtain ⟨p4, c4, ev4⟩ := own_slice ho4
 rw [HSL.out] at ev4
 subst ev4
 clear ho4 hb4 CJ
 obtain ⟨W5, hW5⟩ : ∃ W1, Hid (w4.alloc (.cells #[.slice p1 z1 c1, .slice p4 6 c4, .slice p2 z2 c2] 30) = W1) := ⟨_, rfl⟩
 have B45 : Hid (Below w4.heap.size w4 W5) := by rw [<- hW5.out]; exact (Below.refl w4.heap.size w4).alloc (Nat.le_refl _) _
 have H5 : Hid (W5.heap[w4.heap.size]? = some (.cells #[.slice p1 z1 c1, .slice p4 6 c4, .slice p2 z2 c2] 30 (0, 0))) := by rw [<- hW5.out]; exact heap_alloc_new w4 _
 have B5 := hid (B4.out.trans (B45.out.mono B4.out.size))
 have hB05 := hid (B04.out.trans (B45.out.mono B04.out.size))
 have hS05 := hid hB05.out.size
 have HL5 := HL.three5 H5.out (HX1.out.below B5.out) (HBS.out.below B45.out) (HX2.out.below B5.out)
 have C6 := tofC W5 1 _ [s, sx, f] HL5 (fun q hq => by
  have : q = s \/ q = sx \/ q = f := by simpa using hq
  have q1 := D0.out
  have q2 := D6.out
  have q3 := HSL.out
  rcases this with rfl | rfl | rfl <;> omega) (HK.out.below B5.out)
 rw [HD.out, HDM.out] at C6
 have C6 := hid C6
 clear HL5
 go_wp2_with (first | rw [hW5.out] | fail)
 refine C6.out.mono ?_
 rintro e w6 ⟨rfl, hb6⟩
 have B6 := hid (B5.out.trans (hb6.mono B5.out.size))
 have R6 : Hid (w6.heap[w.heap.size]? = some (.cells zi 32 (0, 0))) := hid (by
  have q := (Array.getElem?_eq_some_iff.1 R0.out).1
  have q1 : W0.heap.size <= W5.heap.size := by
   have a1 := B01.out.size
   have a2 := BW3.out.size
   have a3 := hS05.out
   exact a3
  rw [hb6.block _ (by omega)]
  rw [hB05.out.block _ q]; exact R0.out)
 have ZA := hid (heap_alloc_new w6 (.cells zd 34))
 obtain ⟨w7, HW7⟩ : ∃ x, Hid ((w6.alloc (.cells zd 34)).setRow w6.heap.size dm = x) := ⟨_, rfl⟩
 have Y7 : Hid (w7.heap[w6.heap.size]? = some (.cells dm 34 (0, 0))) := by refine hid ?_; rw [<- HW7.out]; exact setRow_heap _ _ _ _ _ _ ZA.out
 have B7 : Hid (Below w.heap.size w w7) := by refine hid ?_; rw [<- HW7.out]; exact bel_set5 (B6.out.alloc B6.out.size _) B6.out.size _
 have R7 : Hid (w7.heap[w.heap.size]? = some (.cells zi 32 (0, 0))) := by
  refine hid ?_
  rw [<- HW7.out]
  have q := (Array.getElem?_eq_some_iff.1 R6.out).1
  have q1 : ((w6.alloc (.cells zd 34)).setRow w6.heap.size dm).heap[w.heap.size]? = (w6.alloc (.cells zd 34)).heap[w.heap.size]? := by simp [World.setRow, Array.getElem?_modify, show w6.heap.size ≠ w.heap.size by omega]
  rw [q1, heap_alloc_old w6 _ q]
  exact R6.out
 have RG : Hid (w7.rangeAt w6.heap.size 0 (L.map (Value.int .u8))) := hid (by rw [<- HLL.out]; exact rangeT_take 16 (by rw [HDM.out]; exact Y7.out))
 have harr := run_arrayAt16 32 Tryd.underlying32
 clear hb6 C6
 go_wp2_with (first | (refine wpList_alloc_digest rfl rfl ?_; rw [HZD.out]) | (refine wpList_store_row rfl 34 _ _ rfl w6.heap.size dm rfl rfl 34 _ ZA.out SD.out ZD.out OD.out ?_; rw [HW7.out]) | (refine wpList_load_mid rfl 32 _ rfl w6.heap.size 0 rfl _ _ RG.out Tryd.underlying32 rfl SY2.out ?_; rw [HY2.out]) | (refine wpList_store_row rfl 32 _ _ rfl w.heap.size y rfl rfl 32 _ R7.out SY.out ZY.out OYY.out ?_) | fail)
 refine bodyPost_ret (v := .tuple #[.agg y, .int .i64 0]) (results_cellT5 (p := 10) (u := 11) (ty := 32) rfl _ _ w.heap.size 32 y (0, 0) _ rfl (setRow_heap _ _ _ _ _ _ R7.out) Tryd.underlying32 rfl SY.out _ rfl) rfl ?_
 exact ⟨rfl, Hid.out (bel5 B7.out)⟩
theorem rky_ok (w : World) (v1 v2 : Value) (s f : List Int) (k n g : Nat) (h1 : HB w v1 s) (h2 : HB w v2 f) (d0 : s.length <= 64) (d1 : 1 <= k) (d2 : k <= n) (d3 : n <= 255) (d4 : 1 <= g) (d5 : g <= 65790) (d6 : f.length <= 16777216) : Calls Tryd.prog 43 #[v1, .int .i64 (k : Int), .int .i64 (n : Int), .int .i64 (g : Int), v2] w fun e w' => e = .returned (.tuple #[.agg (cellsB ((digL (byL 1 [s, sixL k n g, f])).take 16)), .int .i64 0]) /\ Below w.heap.size w w' := by
 obtain ⟨p1, c1, rfl, _, _⟩ := h1.open
 obtain ⟨p2, c2, rfl, _, _⟩ := h2.open
 obtain ⟨zi, HZI⟩ : ∃ zd, Hid (cellsB zeros16 = zd) := ⟨_, rfl⟩
 have HZ0 : Hid ((Tryd.prog.info? 32).map (·.zero) = some (some (.agg zi))) := by rw [<- HZI.out]; exact hid zero_key
 have SI : Hid ((Tryd.prog.info? 32).map (·.size) = some zi.size) := by refine hid ?_; rw [<- HZI.out, cellsB_size]; exact size_key
 have OY : Hid (zi.all (·.oneCell') = true) := by refine hid ?_; rw [<- HZI.out]; exact cellsB_one _
 obtain ⟨W0, hW0⟩ : ∃ W0, Hid (w.alloc (.cells zi 32) = W0) := ⟨_, rfl⟩
 have B0 : Hid (Below w.heap.size w W0) := by rw [<- hW0.out]; exact (Below.refl _ w).alloc (Nat.le_refl _) _
 have R0 : Hid (W0.heap[w.heap.size]? = some (.cells zi 32 (0, 0))) := by rw [<- hW0.out]; exact heap_alloc_new w _
 have HX1 := hid h1
 have HX2 := hid h2
 obtain ⟨sx, HSX⟩ : ∃ x, Hid (sixL k n g = x) := ⟨_, rfl⟩
 have HSE : Hid (sx = [(k : Int), (n : Int)] ++ bigL 4 g) := hid HSX.out.symm
 have HSL : Hid (sx.length = 6) := hid (by rw [HSE.out]; simp [bigL_length])
 have HSB : Hid (∀ q ∈ sx, 0 <= q /\ q < 256) := hid (by
  rw [HSE.out]
  intro q hq
  rcases List.mem_append.1 hq with hq | hq
  ·have : q = (k : Int) \/ q = (n : Int) := by simpa using hq
   omega
  ·exact bigL_byt 4 g q hq)
 obtain ⟨D, HD⟩ : ∃ D, Hid (digL (byL 1 [s, sx, f]) = D) := ⟨_, rfl⟩
 rw [HSX.out, HD.out]
 have HDl : Hid (D.length = 32) := by rw [<- HD.out]; exact hid (digL_length _)
 obtain ⟨dm, HDM⟩ : ∃ dm, Hid (cellsB D = dm) := ⟨_, rfl⟩
 obtain ⟨zd, HZD⟩ : ∃ zd, Hid (cellsB zeros32 = zd) := ⟨_, rfl⟩
 have SD : Hid ((Tryd.prog.info? 34).map (·.size) = some dm.size) := by refine hid ?_; rw [<- HDM.out, cellsB_size, HDl.out]; exact size_digest
 have OD : Hid (dm.all (·.oneCell') = true) := by refine hid ?_; rw [<- HDM.out]; exact cellsB_one _
 have ZD : Hid (zd.size = dm.size) := by refine hid ?_; rw [<- HZD.out, <- HDM.out, cellsB_size, cellsB_size, HDl.out, zeros32_length]
 obtain ⟨L, HLL⟩ : ∃ L, Hid (D.take 16 = L) := ⟨_, rfl⟩
 have hyl : L.length = 16 := by rw [<- HLL.out, List.length_take, HDl.out]; rfl
 have HYL := hid hyl
 rw [HLL.out]
 obtain ⟨y, HY⟩ : ∃ y, Hid (cellsB L = y) := ⟨_, rfl⟩
 have SY : Hid ((Tryd.prog.info? 32).map (·.size) = some y.size) := by refine hid ?_; rw [<- HY.out, cellsB_size, hyl]; exact size_key
 have SY2 : Hid ((Tryd.prog.info? 32).map (·.size) = some (L.map (Value.int .u8)).length) := by refine hid ?_; rw [List.length_map, hyl]; exact size_key
 have OYY : Hid (y.all (·.oneCell') = true) := by refine hid ?_; rw [<- HY.out]; exact cellsB_one _
 have ZY : Hid (zi.size = y.size) := by refine hid ?_; rw [<- HZI.out, <- HY.out, cellsB_size, cellsB_size, hyl]; rfl
 have ZP : Hid (zi = cellsB (partT L 0)) := by refine hid ?_; rw [partT_none, hyl, <- HZI.out]; rfl
 have HY2 : Hid ((L.map (Value.int .u8)).toArray = y) := HY
 rw [HY.out]
 obtain ⟨z1, HZ1⟩ : ∃ x, Hid (s.length = x) := ⟨_, rfl⟩
 obtain ⟨z2, HZ2⟩ : ∃ x, Hid (f.length = x) := ⟨_, rfl⟩
 have D0 := hid d0
 have D6 := hid d6
 rw [HZ1.out] at d0
 rw [HZ2.out] at d6
 rw [HZ1.out, HZ2.out]
 rw [HZ1.out] at HX1
 rw [HZ2.out] at HX2
 have e0 : decide ((64 : Int) < (z1 : Int)) = false := decide_eq_false (by omega)
 have e1 : decide ((k : Int) < 1) = false := decide_eq_false (by omega)
 have e2 : decide ((n : Int) < (k : Int)) = false := decide_eq_false (by omega)
 have e3 : decide (255 < (n : Int)) = false := decide_eq_false (by omega)
 have e4 : decide ((g : Int) < 1) = false := decide_eq_false (by omega)
 have e5 : decide (65790 < (g : Int)) = false := decide_eq_false (by omega)
 have e6 : decide ((16777216 : Int) < (z2 : Int)) = false := decide_eq_false (by omega)
 have e2n : decide (n < k) = false := decide_eq_false (by omega)
 have e3n : decide (255 < n) = false := decide_eq_false (by omega)
 have e5n : decide (65790 < g) = false := decide_eq_false (by omega)
 have u1 : IntKind.u8.wrap (k : Int) = (k : Int) := by rw [IntKind.wrap_u8]; omega
 have u2 : IntKind.u8.wrap (n : Int) = (n : Int) := by rw [IntKind.wrap_u8]; omega
 have u3 : IntKind.u64.wrap (g : Int) = (g : Int) := by rw [IntKind.wrap_u64]; omega
 obtain ⟨W1, hW1⟩ : ∃ W1, Hid (W0.alloc (.cells #[.int .u8 (k : Int), .int .u8 (n : Int)] 5) = W1) := ⟨_, rfl⟩
 have B01 : Hid (Below W0.heap.size W0 W1) := by rw [<- hW1.out]; exact (Below.refl W0.heap.size W0).alloc (Nat.le_refl _) _
 have BW1 : Hid (Below w.heap.size w W1) := hid (B0.out.trans (B01.out.mono B0.out.size))
 have OL1 : Hid (W1.ownsRow W0.heap.size 5 1 (.slice (some ⟨W0.heap.size, 0, none⟩) 2 2) 2 [.int .u8 (k : Int), .int .u8 (n : Int)]) := by rw [<- hW1.out]; exact hid (World.ownsRow_lit (base := W0.heap.size) (e := 5) (size := 1) W0 #[.int .u8 (k : Int), .int .u8 (n : Int)] 2 (Nat.le_refl _) (by decide) rfl)
 have CB := hid (rbig5_any W1 g 4 (by omega) (by decide))
 clear h1 h2 hyl d0 d1 d2 d3 d4 d5 d6
 go_enter Tryd.func43, Tryd.ntmps43
 go_wp2_with (first | (refine wpList_alloc_aggT HZ0.out rfl rfl ?_; rw [hW0.out]) | rw [hW1.out] | fail)
 refine CB.out.mono ?_
 rintro e w2 ⟨v2, rfl, ho2, hb2⟩
 obtain ⟨p2', c2', ev2⟩ := own_slice ho2
 subst ev2
 have BW2 := hid (BW1.out.trans (hb2.mono BW1.out.size))
 have B02 := hid (B01.out.trans (hb2.mono B01.out.size))
 have O12 := hid (own_below OL1.out hb2)
 have HB2 := hid (HB.of_own (l := bigL 4 g) (by rw [bigL_length]; exact ho2) (bigL_byt 4 g))
 have S02 : Hid (W0.heap.size <= w2.heap.size) := hid (Nat.le_trans B01.out.size hb2.size)
 clear ho2 hb2 CB
 go_wp2_with (at_builtin; refine wpList_append_HB rfl _ _ rfl W0.heap.size _ 2 [.int .u8 (k : Int), .int .u8 (n : Int)] rfl O12.out _ (bigL 4 g) rfl HB2.out (by rw [bigL_length]; omega) S02.out ?_)
 intro v4 w4 ho4 hg4
 have ho4 : w4.ownsRow W0.heap.size 5 1 v4 sx.length (sx.map (Value.int .u8)) := by
  rw [HSE.out, List.map_append]
  exact ho4
 have B04 : Hid (Below W0.heap.size W0 w4) := hid (B02.out.grown hg4 B02.out.size (fun q e => (O12.out.lt q e).1))
 have B4 : Hid (Below w.heap.size w w4) := hid (BW2.out.grown hg4 BW2.out.size (fun q e => Nat.le_trans B0.out.size (O12.out.lt q e).1))
 have HBS := hid (HB.of_own ho4 HSB.out)
 obtain ⟨p4, c4, ev4⟩ := own_slice ho4
 rw [HSL.out] at ev4
 subst ev4
 clear ho4 hg4
 obtain ⟨W5, hW5⟩ : ∃ W1, Hid (w4.alloc (.cells #[.slice p1 z1 c1, .slice p4 6 c4, .slice p2 z2 c2] 30) = W1) := ⟨_, rfl⟩
 have B45 : Hid (Below w4.heap.size w4 W5) := by rw [<- hW5.out]; exact (Below.refl w4.heap.size w4).alloc (Nat.le_refl _) _
 have H5 : Hid (W5.heap[w4.heap.size]? = some (.cells #[.slice p1 z1 c1, .slice p4 6 c4, .slice p2 z2 c2] 30 (0, 0))) := by rw [<- hW5.out]; exact heap_alloc_new w4 _
 have B5 := hid (B4.out.trans (B45.out.mono B4.out.size))
 have hB05 := hid (B04.out.trans (B45.out.mono B04.out.size))
 have hS05 := hid hB05.out.size
 have HL5 := HL.three5 H5.out (HX1.out.below B5.out) (HBS.out.below B45.out) (HX2.out.below B5.out)
 have C6 := rdigestC W5 1 _ [s, sx, f] HL5 (by have := D0.out; have := D6.out; have := HSL.out; simp; omega) (fun q hq => by
  have : q = s \/ q = sx \/ q = f := by simpa using hq
  rcases this with rfl | rfl | rfl
  ·exact HX1.out.2
  ·exact HSB.out
  ·exact HX2.out.2)
 rw [HD.out, HDM.out] at C6
 have C6 := hid C6
 clear HL5
 go_wp2_with (first | rw [hW5.out] | fail)
 refine C6.out.mono ?_
 rintro e w6 ⟨rfl, hb6⟩
 have B6 := hid (B5.out.trans (hb6.mono B5.out.size))
 have R6 : Hid (w6.heap[w.heap.size]? = some (.cells zi 32 (0, 0))) := hid (by
  have q := (Array.getElem?_eq_some_iff.1 R0.out).1
  have q1 : W0.heap.size <= W5.heap.size := by
   have a1 := B01.out.size
   exact hS05.out
  rw [hb6.block _ (by omega)]
  rw [hB05.out.block _ q]; exact R0.out)
 have ZA := hid (heap_alloc_new w6 (.cells zd 34))
 obtain ⟨w7, HW7⟩ : ∃ x, Hid ((w6.alloc (.cells zd 34)).setRow w6.heap.size dm = x) := ⟨_, rfl⟩
 have Y7 : Hid (w7.heap[w6.heap.size]? = some (.cells dm 34 (0, 0))) := by refine hid ?_; rw [<- HW7.out]; exact setRow_heap _ _ _ _ _ _ ZA.out
 have B7 : Hid (Below w.heap.size w w7) := by refine hid ?_; rw [<- HW7.out]; exact bel_set5 (B6.out.alloc B6.out.size _) B6.out.size _
 have R7 : Hid (w7.heap[w.heap.size]? = some (.cells zi 32 (0, 0))) := by
  refine hid ?_
  rw [<- HW7.out]
  have q := (Array.getElem?_eq_some_iff.1 R6.out).1
  have q1 : ((w6.alloc (.cells zd 34)).setRow w6.heap.size dm).heap[w.heap.size]? = (w6.alloc (.cells zd 34)).heap[w.heap.size]? := by simp [World.setRow, Array.getElem?_modify, show w6.heap.size ≠ w.heap.size by omega]
  rw [q1, heap_alloc_old w6 _ q]
  exact R6.out
 obtain ⟨w8, HW8⟩ : ∃ x, Hid (w7.alloc (.cells zi 32) = x) := ⟨_, rfl⟩
 have S7 : Hid (w7.heap.size = w6.heap.size + 1) := by refine hid ?_; rw [<- HW7.out]; simp [World.setRow]
 have B78 : Hid (Below w7.heap.size w7 w8) := by rw [<- HW8.out]; exact (Below.refl w7.heap.size w7).alloc (Nat.le_refl _) _
 have I8 : Hid (w8.heap[w7.heap.size]? = some (.cells (cellsB (partT L 0)) 32 (0, 0))) := by rw [<- HW8.out, <- ZP.out]; exact heap_alloc_new w7 _
 have Y8 : Hid (w8.heap[w6.heap.size]? = some (.cells dm 34 (0, 0))) := hid ((B78.out.block _ (by have := S7.out; omega)).trans Y7.out)
 have R8 : Hid (w8.heap[w.heap.size]? = some (.cells zi 32 (0, 0))) := hid ((B78.out.block _ (Array.getElem?_eq_some_iff.1 R7.out).1).trans R7.out)
 have B8 : Hid (Below w.heap.size w w8) := hid (B7.out.trans (B78.out.mono B7.out.size))
 have HN1 : Hid (w6.heap.size ≠ w7.heap.size) := hid (by have := S7.out; omega)
 have HN2 : Hid (w.heap.size ≠ w7.heap.size) := hid (by have := (Array.getElem?_eq_some_iff.1 R7.out).1; omega)
 have HSZ : Hid (w.heap.size <= w7.heap.size) := hid B7.out.size
 clear hb6 C6
 go_wp2_with (first | (refine wpList_alloc_digest rfl rfl ?_; rw [HZD.out]) | (refine wpList_store_row rfl 34 _ _ rfl w6.heap.size dm rfl rfl 34 _ ZA.out SD.out ZD.out OD.out ?_; rw [HW7.out]) | (refine wpList_alloc_aggT HZ0.out rfl rfl ?_; rw [HW8.out]) | fail)
 go_loopw [15] (fun i wr => ∃ I : Nat, I <= 16 /\ i = .int .i64 (I : Int) /\ Hid (wr.heap[w7.heap.size]? = some (.cells (cellsB (partT L I)) 32 (0, 0))) /\ Hid (w8.grownBy wr (some w7.heap.size))) (fun i _ => 16 - (intOf i).toNat)
 case atStart => exact ⟨0, Nat.zero_le _, rfl, I8, ⟨rfl, rfl, rfl, Nat.le_refl _, fun _ _ _ => rfl⟩⟩
 case round =>
  obtain ⟨I, hI, rfl, HF, HG⟩ := hrel
  by_cases hlt : I < 16
  ·have hy : wr.heap[w6.heap.size]? = some (.cells dm 34 (0, 0)) := (HG.out.block _ (Array.getElem?_eq_some_iff.1 Y8.out).1 (fun e => HN1.out (by simpa using e))).trans Y8.out
   obtain ⟨x, HX⟩ : ∃ x, Hid (L.getD I 0 = x) := ⟨_, rfl⟩
   have hx : wr.cell? ⟨w6.heap.size, I, none⟩ = some (.int .u8 x) := by
    rw [cell_of_row wr _ _ _ _ _ hy, <- HDM.out, <- HX.out, <- HLL.out]
    have q := HDl.out
    simp [cellsB, List.getD, List.getElem?_take, show I < 16 from hlt, List.getElem?_eq_getElem (show I < D.length by omega)]
   have hcs := partT_length L I (by rw [HYL.out]; exact hI)
   have hci : ∃ z, wr.cell? ⟨w7.heap.size, I, none⟩ = some z := by
    rw [cell_of_row wr w7.heap.size I _ _ _ HF.out]
    exact ⟨_, Array.getElem?_eq_getElem (by rw [cellsB_size, hcs, HYL.out]; exact hlt)⟩
   obtain ⟨z, hz⟩ := hci
   have hfz : wr.frozen? ⟨w7.heap.size, I, none⟩ = false := by simp [World.frozen?, HF.out]
   have HST : Hid (partT L (I + 1) = (partT L I).set I x) := by
    show _ = _
    rw [<- HX.out]
    exact (partT_step L I (by rw [HYL.out]; exact hlt)).symm
   have hI16 : (I : Int) < 16 := by omega
   have hI32 : (I : Int) < 32 := by omega
   clear hcs hy
   go_wp2
   refine ⟨⟨I + 1, by omega, by go_num, ?_, ?_⟩, by simp [intOf]; omega⟩
   ·rw [HST.out, <- cellsB_setT]
    exact heap_setCell_same wr w7.heap.size I _ _ _ HF.out
   ·exact grown_trans HG.out (grown_set _ _ _ _)
  ·have hI' : I = 16 := by omega
   subst hI'
   have HFL : Hid (wr.heap[w7.heap.size]? = some (.cells y 32 (0, 0))) := by
    have q := HF.out
    rw [show partT L 16 = L by rw [<- HYL.out]; exact partT_all L, HY.out] at q
    exact q
   have R9 : Hid (wr.heap[w.heap.size]? = some (.cells zi 32 (0, 0))) := hid ((HG.out.block _ (Array.getElem?_eq_some_iff.1 R8.out).1 (fun e => HN2.out (by simpa using e))).trans R8.out)
   have B9 : Hid (Below w.heap.size w wr) := hid (B8.out.grown HG.out B8.out.size (fun k e => by cases e; exact HSZ.out))
   go_wp2_with (first | (refine wpList_load_row rfl 32 _ rfl w7.heap.size rfl 32 y (0, 0) _ HFL.out Tryd.underlying32 rfl SY.out ?_) | (refine wpList_store_row rfl 32 _ _ rfl w.heap.size y rfl rfl 32 _ R9.out SY.out ZY.out OYY.out ?_) | fail)
   refine bodyPost_ret (v := .tuple #[.agg y, .int .i64 0]) (results_cellT5 (p := 10) (u := 11) (ty := 32) rfl _ _ w.heap.size 32 y (0, 0) _ rfl (setRow_heap _ _ _ _ _ _ R9.out) Tryd.underlying32 rfl SY.out _ rfl) rfl ?_
   exact ⟨rfl, Hid.out (bel5 B9.out)⟩
theorem tkyC (w : World) (v1 v2 : Value) (s f : List Int) (k n g : Int) (h1 : HB w v1 s) (h2 : HB w v2 f) (hk : KC w) : Calls Tryd.prog 42 #[v1, .int .i64 k, .int .i64 n, .int .i64 g, v2] w fun e w' => e = .returned (.tuple #[.agg (cellsB (kyL s f k n g)), .int .i64 (kyE s f k n g)]) /\ Below w.heap.size w w' := by
 by_cases d0 : 64 < s.length
 ·have e : kyE s f k n g = 3 := if_pos (by omega)
  unfold kyL
  rw [e, if_neg (by decide)]
  exact tky_bad0 w v1 v2 s f k n g h1 h2 d0
 by_cases d1 : k < 1
 ·have e : kyE s f k n g = 3 := if_pos (by omega)
  unfold kyL
  rw [e, if_neg (by decide)]
  exact tky_bad1 w v1 v2 s f k n g h1 h2 d0 d1
 by_cases d2 : n < k
 ·have e : kyE s f k n g = 3 := if_pos (by omega)
  unfold kyL
  rw [e, if_neg (by decide)]
  exact tky_bad2 w v1 v2 s f k n g h1 h2 d0 d1 d2
 by_cases d3 : 255 < n
 ·have e : kyE s f k n g = 3 := if_pos (by omega)
  unfold kyL
  rw [e, if_neg (by decide)]
  exact tky_bad3 w v1 v2 s f k n g h1 h2 d0 d1 d2 d3
 by_cases d4 : g < 1
 ·have e : kyE s f k n g = 3 := if_pos (by omega)
  unfold kyL
  rw [e, if_neg (by decide)]
  exact tky_bad4 w v1 v2 s f k n g h1 h2 d0 d1 d2 d3 d4
 by_cases d5 : 65790 < g
 ·have e : kyE s f k n g = 3 := if_pos (by omega)
  unfold kyL
  rw [e, if_neg (by decide)]
  exact tky_bad5 w v1 v2 s f k n g h1 h2 d0 d1 d2 d3 d4 d5
 have hne : ¬ (64 < s.length \/ k < 1 \/ n < k \/ 255 < n \/ g < 1 \/ 65790 < g) := by omega
 by_cases d6 : 16777216 < f.length
 ·have e : kyE s f k n g = 4 := by unfold kyE; rw [if_neg hne, if_pos d6]
  unfold kyL
  rw [e, if_neg (by decide)]
  exact tky_bad6 w v1 v2 s f k n g h1 h2 d0 d1 d2 d3 d4 d5 d6
 ·have e : kyE s f k n g = 0 := by unfold kyE; rw [if_neg hne, if_neg d6]
  unfold kyL
  rw [e, if_pos rfl]
  obtain ⟨K, rfl⟩ : ∃ K : Nat, k = (K : Int) := ⟨k.toNat, by omega⟩
  obtain ⟨M, rfl⟩ : ∃ K : Nat, n = (K : Int) := ⟨n.toNat, by omega⟩
  obtain ⟨G, rfl⟩ : ∃ K : Nat, g = (K : Int) := ⟨g.toNat, by omega⟩
  have hok : TagOk 1 [s, sixL (K : Int) (M : Int) (G : Int), f] := by
   refine ⟨by omega, rfl, fun j hj => ?_⟩
   have hj2 : j = 0 \/ j = 1 \/ j = 2 := by simp at hj; omega
   rcases hj2 with rfl | rfl | rfl
   ·show decide (s.length <= 64) = true; exact decide_eq_true (by omega)
   ·show decide ((sixL (K : Int) (M : Int) (G : Int)).length = 6) = true; simp [sixL, bigL_length]
   ·show decide (f.length <= 16777216) = true; exact decide_eq_true (by omega)
  rw [<- td_ok hok]
  exact tky_ok w v1 v2 s f K M G h1 h2 (by omega) (by omega) (by omega) (by omega) (by omega) (by omega) (by omega) hk
theorem rkyC (w : World) (v1 v2 : Value) (s f : List Int) (k n g : Int) (h1 : HB w v1 s) (h2 : HB w v2 f) : Calls Tryd.prog 43 #[v1, .int .i64 k, .int .i64 n, .int .i64 g, v2] w fun e w' => e = .returned (.tuple #[.agg (cellsB (kyL s f k n g)), .int .i64 (kyE s f k n g)]) /\ Below w.heap.size w w' := by
 by_cases d0 : 64 < s.length
 ·have e : kyE s f k n g = 3 := if_pos (by omega)
  unfold kyL
  rw [e, if_neg (by decide)]
  exact rky_bad0 w v1 v2 s f k n g h1 h2 d0
 by_cases d1 : k < 1
 ·have e : kyE s f k n g = 3 := if_pos (by omega)
  unfold kyL
  rw [e, if_neg (by decide)]
  exact rky_bad1 w v1 v2 s f k n g h1 h2 d0 d1
 by_cases d2 : n < k
 ·have e : kyE s f k n g = 3 := if_pos (by omega)
  unfold kyL
  rw [e, if_neg (by decide)]
  exact rky_bad2 w v1 v2 s f k n g h1 h2 d0 d1 d2
 by_cases d3 : 255 < n
 ·have e : kyE s f k n g = 3 := if_pos (by omega)
  unfold kyL
  rw [e, if_neg (by decide)]
  exact rky_bad3 w v1 v2 s f k n g h1 h2 d0 d1 d2 d3
 by_cases d4 : g < 1
 ·have e : kyE s f k n g = 3 := if_pos (by omega)
  unfold kyL
  rw [e, if_neg (by decide)]
  exact rky_bad4 w v1 v2 s f k n g h1 h2 d0 d1 d2 d3 d4
 by_cases d5 : 65790 < g
 ·have e : kyE s f k n g = 3 := if_pos (by omega)
  unfold kyL
  rw [e, if_neg (by decide)]
  exact rky_bad5 w v1 v2 s f k n g h1 h2 d0 d1 d2 d3 d4 d5
 have hne : ¬ (64 < s.length \/ k < 1 \/ n < k \/ 255 < n \/ g < 1 \/ 65790 < g) := by omega
 by_cases d6 : 16777216 < f.length
 ·have e : kyE s f k n g = 4 := by unfold kyE; rw [if_neg hne, if_pos d6]
  unfold kyL
  rw [e, if_neg (by decide)]
  exact rky_bad6 w v1 v2 s f k n g h1 h2 d0 d1 d2 d3 d4 d5 d6
 ·have e : kyE s f k n g = 0 := by unfold kyE; rw [if_neg hne, if_neg d6]
  unfold kyL
  rw [e, if_pos rfl]
  obtain ⟨K, rfl⟩ : ∃ K : Nat, k = (K : Int) := ⟨k.toNat, by omega⟩
  obtain ⟨M, rfl⟩ : ∃ K : Nat, n = (K : Int) := ⟨n.toNat, by omega⟩
  obtain ⟨G, rfl⟩ : ∃ K : Nat, g = (K : Int) := ⟨g.toNat, by omega⟩
  exact rky_ok w v1 v2 s f K M G h1 h2 (by omega) (by omega) (by omega) (by omega) (by omega) (by omega) (by omega)
structure Tc where
 cl : Int
 tg : Nat
 pv : Value
 ps : List (List Int)
 dv : Value
 ds : List Int
 k : Int
 n : Int
 g : Int
 ky : List Int
 a : List Int
 b : List Int
 nu : Nat
def Tc.cs (o : Tc) : List Value := [.int .i64 o.cl, .int .u8 (o.tg : Int), o.pv, o.dv, .int .i64 o.k, .int .i64 o.n, .int .i64 o.g] ++ (o.ky.map (Value.int .u8) ++ (o.a.map (Value.int .u8) ++ (o.b.map (Value.int .u8) ++ [.int .u32 (o.nu : Int)])))
structure Tc.ok (o : Tc) : Prop where
 tg : o.tg < 256
 ky : X16 o.ky
 a : D32 o.a
 b : D32 o.b
 nu : o.nu < 4294967296
 ps : o.ps.flatten.length + o.ps.length + 1 <= 1048576
 ds : o.ds.length <= 1048576
def HTc (w : World) (o : Tc) : Prop := HL w o.pv o.ps /\ HB w o.dv o.ds
theorem HTc.below {w w' : World} {o : Tc} (h : HTc w o) (hb : Below w.heap.size w w') : HTc w' o := ⟨h.1.below hb, h.2.below hb⟩
theorem Tc.len {o : Tc} (h : o.ok) : o.cs.length = 88 := by simp [Tc.cs, h.ky.1, h.a.1, h.b.1]
theorem Tc.at {o : Tc} {W : World} {t : Nat} {T : TypeId} (hW : W.heap[t]? = some (.cells o.cs.toArray T (0, 0))) : W.cell? ⟨t, 0, none⟩ = some (.int .i64 o.cl) /\ W.cell? ⟨t, 1, none⟩ = some (.int .u8 (o.tg : Int)) /\ W.cell? ⟨t, 2, none⟩ = some o.pv /\ W.cell? ⟨t, 3, none⟩ = some o.dv /\ W.cell? ⟨t, 4, none⟩ = some (.int .i64 o.k) /\ W.cell? ⟨t, 5, none⟩ = some (.int .i64 o.n) /\ W.cell? ⟨t, 6, none⟩ = some (.int .i64 o.g) := by
 have e : ∀ i u, o.cs[i]? = some u -> W.cell? ⟨t, i, none⟩ = some u := fun i u hu => by rw [cell_of_row W t i _ _ _ hW]; simpa using hu
 exact ⟨e 0 _ rfl, e 1 _ rfl, e 2 _ rfl, e 3 _ rfl, e 4 _ rfl, e 5 _ rfl, e 6 _ rfl⟩
theorem Tc.range {o : Tc} (h : o.ok) {W : World} {t : Nat} {T : TypeId} (hW : W.heap[t]? = some (.cells o.cs.toArray T (0, 0))) : W.rangeAt t 7 (o.ky.map (Value.int .u8)) /\ W.rangeAt t 23 (o.a.map (Value.int .u8)) /\ W.rangeAt t 55 (o.b.map (Value.int .u8)) /\ W.cell? ⟨t, 87, none⟩ = some (.int .u32 (o.nu : Int)) := by
 have e : ∀ i u, o.cs[i]? = some u -> W.cell? ⟨t, i, none⟩ = some u := fun i u hu => by rw [cell_of_row W t i _ _ _ hW]; simpa using hu
 have h1 := h.ky.1
 have h2 := h.a.1
 have h3 := h.b.1
 refine ⟨fun j u hu => e _ _ ?_, fun j u hu => e _ _ ?_, fun j u hu => e _ _ ?_, e _ _ ?_⟩
 ·have hj : j < 16 := by have := (List.getElem?_eq_some_iff.1 hu).1; simpa [h1] using this
  unfold Tc.cs
  rw [List.getElem?_append_right (by simp), List.getElem?_append_left (by simp [h1]; omega)]
  simpa using hu
 ·have hj : j < 32 := by have := (List.getElem?_eq_some_iff.1 hu).1; simpa [h2] using this
  unfold Tc.cs
  rw [List.getElem?_append_right (by simp; omega), List.getElem?_append_right (by simp [h1]; omega), List.getElem?_append_left (by simp [h1, h2]; omega)]
  simp only [List.length_cons, List.length_nil, List.length_map, h1]
  rw [show 23 + j - (0 + 1 + 1 + 1 + 1 + 1 + 1 + 1) - 16 = j by omega]
  exact hu
 ·have hj : j < 32 := by have := (List.getElem?_eq_some_iff.1 hu).1; simpa [h3] using this
  unfold Tc.cs
  rw [List.getElem?_append_right (by simp; omega), List.getElem?_append_right (by simp [h1]; omega), List.getElem?_append_right (by simp [h1, h2]; omega), List.getElem?_append_left (by simp [h1, h2, h3]; omega)]
  simp only [List.length_cons, List.length_nil, List.length_map, h1, h2]
  rw [show 55 + j - (0 + 1 + 1 + 1 + 1 + 1 + 1 + 1) - 16 - 32 = j by omega]
  exact hu
 ·unfold Tc.cs
  rw [List.getElem?_append_right (by simp), List.getElem?_append_right (by simp [h1]), List.getElem?_append_right (by simp [h1, h2]), List.getElem?_append_right (by simp [h1, h2, h3])]
  simp [h1, h2, h3]
theorem size_op : (Tryd.prog.info? 37).map (·.size) = some 88 := by kernel_rfl
theorem slice_hT (W : World) (b n c hi : Nat) (h1 : hi <= c) (h2 : 0 < c) : (Instr.slice 30 (.slice (some ⟨b, 0, none⟩) n c) none (some (.int .i64 (hi : Int))) none).run Tryd.prog W = .ok (.slice (some ⟨b, 0, none⟩) hi c) W := by
 have elm : Tryd.prog.elem 30 = 5 := by kernel_rfl
 have h := run_slice_h (P := Tryd.prog) W 30 (some ⟨b, 0, none⟩) n c (by rw [elm]; exact Tryd.underlying30) .i64 (hi : Int) (by omega) (by omega)
 rw [h, elm, size_u8, Result.andThen_ok, Int.toNat_natCast]
 unfold sliced
 rw [if_neg (by omega)]
 simp [Go.WideShapes.add_plain]
theorem wp_alloc_aggT {T : TypeId} {cs : Array Value} (hz : (Tryd.prog.info? T).map (·.zero) = some (some (.agg cs))) {o : Oper} {a : Act} {w : World} {K : Act -> World -> Prop} {Q : Exit -> Act -> World -> Prop} (ho : o.op = .alloc T)
  (h : K (a.put o.dst (.pointer (some ⟨w.heap.size, 0, none⟩))) (w.alloc (.cells cs T))) : o.wp Tryd.prog a w K Q := by
 have hr : (Instr.alloc T true (.tuple #[])).run Tryd.prog w = .ok (.pointer (some ⟨w.heap.size, 0, none⟩)) (w.alloc (.cells cs T)) := by
  cases hi : Tryd.prog.info? T with
  | none => simp [hi] at hz
  | some i0 =>
   simp [hi] at hz
   simp [Instr.alloc, zeroValue, typeInfo, hi, hz, newVar, newRow, Value.cells]
 unfold Oper.wp
 simp only [execOp, ho, Sem.run_bind, hr, Result.andThen_ok]
 exact h
theorem keyedT {P : Nat -> World -> Prop} {K : Act -> World -> Prop} {G : Prop} (A : Nat -> Act) (hkey : ∀ d W', P d W' -> K (A d) W') (main : (∀ d W', P d W' -> K (A d) W') -> G) : G := main hkey
theorem kyL_len (s f : List Int) (k n g : Int) : (kyL s f k n g).length = 16 := by
 unfold kyL
 split
 ·rw [List.length_take, digL_length]; rfl
 ·rfl
theorem below_th {A B C : World} (h1 : Below A.heap.size A B) (h2 : Below B.heap.size B C) : Below A.heap.size A C := h1.trans (h2.mono h1.size)
theorem over_pre {w : World} {B g n c : Nat} {l : List Int} (h : w.ownsRow B 5 1 (.slice (some ⟨g, 0, none⟩) (n + 70) c) (n + 70) (l.map (Value.int .u8))) (hb : ∀ x ∈ l, 0 <= x /\ x < 256) (hl : l.length = n + 70) (hc : n + 70 <= c) : HB w (.slice (some ⟨g, 0, none⟩) n c) (l.take n) := by
 rw [<- hl] at h
 exact own_pre h hb n (by omega) (by omega)
theorem grown_setRowT (w : World) (g : Nat) (cs : Array Value) : w.grownBy (w.setRow g cs) (some g) :=
 ⟨rfl, rfl, rfl, by simp [World.setRow], fun i _ hr => by simp at hr; simp [World.setRow, Array.getElem?_modify, Ne.symm hr]⟩
theorem grown_trT {a b c : World} {r : Option Nat} (h : a.grownBy b r) (k : b.grownBy c r) : a.grownBy c r :=
 ⟨k.os.trans h.os, k.tape.trans h.tape, k.output.trans h.output, Nat.le_trans h.size k.size, fun i hi hr => (k.block i (Nat.lt_of_lt_of_le hi h.size) hr).trans (h.block i hi hr)⟩
end Go.Proofs.YtcpchhigiohlnaaDoor
