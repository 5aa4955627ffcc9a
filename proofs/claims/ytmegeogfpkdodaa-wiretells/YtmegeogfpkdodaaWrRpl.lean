/- wire.Reply, walked. -/
import Derived.Test.YtmegeogfpkdodaaWrPRead
import Derived.Test.YtmegeogfpkdodaaWrReq
set_option linter.unusedVariables false
set_option linter.unusedSimpArgs false
namespace Go.Proofs.Ytmegeogfpkdodaa
open Go Go.RowKit

abbrev zrep : Array Value := #[.int .u8 0, .slice none 0 0, .slice none 0 0]
/-- The cells of a reply. -/
def rpA (k : Int) (vn vb : Value) : Array Value := #[.int .u8 k, vn, vb]
theorem rpA_one (k : Int) (vn vb : Value) (h1 : vn.oneCell' = true) (h2 : vb.oneCell' = true) : (rpA k vn vb).all (·.oneCell') = true :=
  all_oneCell_toArray (cs := [.int .u8 k, vn, vb]) fun v hv => by
    simp only [List.mem_cons, List.not_mem_nil, or_false] at hv
    rcases hv with rfl | rfl | rfl
    · rfl
    · exact h1
    · exact h2
/-- Where the reading of bytes begins. -/
def ps0 (l : List Int) : PS := ⟨false, l, 0, [], 0, 0⟩
set_option maxRecDepth 100000 in
theorem run_build_pr (w : World) (g : Nat) (n : Int) : (Instr.build TP #[(0, .agg #[.pointer (some ⟨g, 0, none⟩), .int .i64 n])]).run Try.prog w = .ok (.agg #[.pointer (some ⟨g, 0, none⟩), .int .i64 n, .int .u8 0, .slice none 0 0, .slice none 0 0, .int .i64 0, .int .i64 0]) w := by
  kernel_rfl
set_option maxRecDepth 100000 in
theorem run_build_p0 (w : World) : (Instr.build 42 #[]).run Try.prog w = .ok (.agg zrep) w := by
  kernel_rfl
/-- What Reply tells of bytes. -/
def rpBad (l : List Int) (p : Int) : Prop :=
  ((pd1 l.length (ps0 l)).2 = false ∧ p = (pd1 l.length (ps0 l)).1) ∨
  ((pd1 l.length (ps0 l)).2 = true ∧ (pd2 l.length (ps0 l)).2 = false ∧ p = (pd2 l.length (ps0 l)).1) ∨
  ((pd1 l.length (ps0 l)).2 = true ∧ (pd2 l.length (ps0 l)).2 = true ∧ (pd3 l.length (ps0 l)).2 = false ∧ p = (pd3 l.length (ps0 l)).1) ∨
  ((pd1 l.length (ps0 l)).2 = true ∧ (pd2 l.length (ps0 l)).2 = true ∧ (pd3 l.length (ps0 l)).2 = true ∧ ((pt3 (ps0 l)).l.length : Int) ≠ lackP (ps0 l) ∧ p = edA l.length (pt3 (ps0 l)).l (lackP (ps0 l)))
def rpGood (l : List Int) (k : Int) (ns b : List Int) : Prop :=
  (pd1 l.length (ps0 l)).2 = true ∧ (pd2 l.length (ps0 l)).2 = true ∧ (pd3 l.length (ps0 l)).2 = true ∧ ((pt3 (ps0 l)).l.length : Int) = lackP (ps0 l) ∧ k = (pt3 (ps0 l)).k ∧ ns = (pt3 (ps0 l)).ns ∧ b = taken (pt3 (ps0 l)).l (pt3 (ps0 l)).sz
def RepQ (w : World) (l : List Int) (e : Ending) (w' : World) : Prop :=
  (∃ p, rpBad l p ∧ e = .returned (.tuple #[.agg zrep, .int .i64 p, .int .i64 201])) ∨
  (∃ k ns b vn v B B', rpGood l k ns b ∧ e = .returned (.tuple #[.agg (rpA k vn v), .int .i64 0, .int .i64 0]) ∧ w'.ownsRow B' 3 1 vn ns.length (ns.map (Value.int .i64)) ∧ w.heap.size ≤ B' ∧ (∀ x ∈ ns, 0 ≤ x ∧ x < 256) ∧ w'.ownsRow B 5 1 v b.length (b.map (Value.int .u8)) ∧ w.heap.size ≤ B ∧ ∀ x ∈ b, 0 ≤ x ∧ x < 256)
theorem own_setRowG {w : World} {B : Nat} {e : TypeId} {v : Value} {n : Nat} {xs : List Value} {b : Nat} {cs cs' : Array Value} {T : TypeId} (h : w.ownsRow B e 1 v n xs) (hb : w.heap[b]? = some (.cells cs T (0, 0))) (hT : T ≠ e) : (w.setRow b cs').ownsRow B e 1 v n xs := by
  refine ⟨h.1, h.2.elim .inl fun ⟨gg, cap, cur, z1, z2, z3, z4⟩ => .inr ⟨gg, cap, cur, z1, z2, ?_, z4⟩⟩
  rw [← z3]
  have hne : b ≠ gg := fun e => by rw [← e, hb] at z3; simp only [Option.some.injEq, Obj.cells.injEq] at z3; exact hT z3.2.1
  simp [World.setRow, Array.getElem?_modify, hne]
set_option maxRecDepth 100000 in
set_option maxHeartbeats 16000000 in
theorem reply_any (w : World) (v : Value) (l : List Int) (h : HB w v l) (hbig : l.length ≤ 140737488355328) :
    Calls Try.prog 19 #[v] w fun e w' => RepQ w l e w' ∧ Below w.heap.size w w' := by
  obtain ⟨W1, HW1⟩ : ∃ W : World, Hid (w.alloc (.cells zrep 42) = W) := ⟨_, hid rfl⟩
  have B1 : Hid (Below w.heap.size w W1) := by rw [← HW1.out]; exact hid ((Below.refl _ w).alloc (Nat.le_refl _) _)
  have hs1 : Hid (W1.heap.size = w.heap.size + 1) := hid (by rw [← HW1.out]; simp)
  have hbx : Hid (W1.heap[w.heap.size]? = some (.cells zrep 42 (0, 0))) := hid (by rw [← HW1.out]; exact heap_alloc_new w _)
  have C1 := hid (newSource_any W1 v l (h.later fun a _ hx => (B1.out.cell (World.block_lt_of_cell? w a hx)).trans hx) hbig)
  clear h
  go_enter Try.func19, Try.ntmps19
  refine wp_seq_k fun K0 h0 => ?_
  have H0 := hid h0
  clear h0
  go_wp2
  rw [HW1.out]
  refine H0.out _ _ ?_
  go_wp2_with fail
  refine C1.out.mono ?_
  rintro e w2 ⟨g, rfl, hr2, hg2, hB2⟩
  have hbd := hid fun W => run_build_pr W g (l.length : Int)
  obtain ⟨qa, HQA⟩ : ∃ m, Hid ((#[.pointer (some ⟨g, 0, none⟩), .int .i64 (l.length : Int), .int .u8 0, .slice none 0 0, .slice none 0 0, .int .i64 0, .int .i64 0] : Array Value) = m) := ⟨_, hid rfl⟩
  rw [HQA.out] at hbd
  obtain ⟨W3, HW3⟩ : ∃ W : World, Hid (w2.alloc (.cells qa TP) = W) := ⟨_, hid rfl⟩
  have Q3 : Hid (PR (W3.heap.size + 1) W3 w2.heap.size g l.length (ps0 l)) := hid (by
    have h1 : BR W3 w2.heap.size g TP (prL g l.length 0 (.slice none 0 0) (.slice none 0 0) 0 0) false l := ⟨by rw [← HW3.out, ← HQA.out]; exact heap_alloc_new w2 _, by rw [← HW3.out]; exact hr2.grow ((Below.refl _ w2).alloc (Nat.le_refl _) _)⟩
    have h2 := h1.lt
    exact ⟨_, h1, ⟨rfl, .inl ⟨rfl, rfl⟩⟩, ⟨⟨by show (0 : Int) ≤ 0; decide, by show (0 : Int) < 256; decide⟩, ⟨by show (0 : Int) ≤ 0; decide, by show (0 : Int) < 4294967296; decide⟩, fun x hx => absurd hx (by simp [ps0])⟩, by omega, by omega, fun _ => rfl⟩)
  have hb3 : Hid (W3.heap[w.heap.size]? = some (.cells zrep 42 (0, 0))) := hid (by
    have h1 := (hB2.block w.heap.size (by have := hs1.out; omega)).trans hbx.out
    have h2 : Below w2.heap.size w2 W3 := by rw [← HW3.out]; exact (Below.refl _ w2).alloc (Nat.le_refl _) _
    exact (h2.block _ (Array.getElem?_eq_some_iff.1 h1).1).trans h1)
  have B3 : Hid (Below w.heap.size w W3) := hid (B1.out.trans ((hB2.mono B1.out.size).trans (by rw [← HW3.out]; exact (Below.refl _ w2).alloc (Nat.le_trans B1.out.size hB2.size) _)))
  have hne : Hid (w.heap.size < g ∧ w.heap.size < w2.heap.size) := hid (by have := hs1.out; have := hB2.size; omega)
  have C3 := hid (readP_any W3 _ w2.heap.size g l.length (ps0 l) Q3.out rfl hbig (Nat.le_refl _))
  have SR : Hid ((Try.prog.info? 42).map (·.size) = some 3) := hid (by kernel_rfl)
  generalize hRR : w2.heap.size = R at C3 Q3 hne
  clear hr2 hg2 hB2 C1 HQA
  go_wp2_with (first | (refine wpList_buildQ rfl TP _ rfl #[(0, .agg #[.pointer (some ⟨g, 0, none⟩), .int .i64 (l.length : Int)])] (by go_simp) _ (hbd.out _) ?_) | rw [HW3.out] | fail)
  refine C3.out.mono ?_
  rintro e w4 ⟨hq4, he4⟩
  have h4 : w4.heap[w.heap.size]? = some (.cells zrep 42 (0, 0)) := (he4.block _ (Array.getElem?_eq_some_iff.1 hb3.out).1 (by have := hne.out; rintro (e | e) <;> omega)).trans hb3.out
  have B4 : Hid (Below w.heap.size w w4) := hid (B3.out.trans (he4.below B3.out.size (fun k q => by have := hne.out; rcases q with q | q <;> omega)))
  have H4 := hid h4
  clear h4 he4 C3 hbd HW3 hRR
  have BAD : Hid (∀ p, rpBad l p → RepQ w l (.returned (.tuple #[.agg zrep, .int .i64 p, .int .i64 201])) (w4.setRow w.heap.size zrep)) := hid (fun p hp => .inl ⟨p, hp, rfl⟩)
  have BS : Hid (∀ cs, Below w.heap.size w (w4.setRow w.heap.size cs)) := hid (fun cs => B4.out.trans ((ex_setRow (Ex.refl (fun k => k = w.heap.size) w4) rfl cs).below B4.out.size (fun k e => by omega)))
  have HS4 : Hid (∀ cs : Array Value, (w4.setRow w.heap.size cs).heap[w.heap.size]? = some (.cells cs 42 (0, 0))) := hid (fun cs => setRow_heap _ _ _ _ _ _ H4.out)
  have hz1 : Hid (zrep.all (·.oneCell') = true) := hid (rpA_one 0 _ _ rfl rfl)
  have hb0 := hid run_build_p0
  obtain ⟨zr, HZR⟩ : ∃ z, Hid (zrep = z) := ⟨_, hid rfl⟩
  have hzs : Hid (zr.size = 3) := hid (by rw [← HZR.out]; rfl)
  rw [HZR.out] at H4 BAD hz1 hb0
  rcases hq4 with ⟨q1, rfl⟩ | ⟨q1, q2, rfl⟩ | ⟨q1, q2, q3, rfl⟩ | ⟨q1, q2, q3, q4, rfl⟩ | ⟨q1, q2, q3, qq, rfl, vn, v4, B, B', q4, n1, n2, q5, q6, q7, q8⟩
  · have HB := hid (BAD.out _ (.inl ⟨q1, rfl⟩))
    generalize (pd1 l.length (ps0 l)).1 = p at HB ⊢
    go_wp2_with (first | (refine wpList_buildQ rfl 42 _ rfl #[] (by go_simp) _ (hb0.out _) ?_) | (refine wpList_store_row rfl 42 _ _ rfl w.heap.size zr rfl rfl 42 zr H4.out (by rw [hzs.out]; exact SR.out) rfl hz1.out ?_) | fail)
    refine bodyPost_ret (v := .tuple #[.agg zr, .int .i64 p, .int .i64 201]) (results_cellTT (p := 2) (q := 3) (q' := 4) (ty := 42) rfl _ _ w.heap.size 42 _ (0, 0) _ _ _ rfl rfl rfl (HS4.out _) Try.underlying42 rfl (by rw [hzs.out]; exact SR.out)) rfl ?_
    exact ⟨HB.out, BS.out _⟩
  · have HB := hid (BAD.out _ (.inr (.inl ⟨q1, q2, rfl⟩)))
    generalize (pd2 l.length (ps0 l)).1 = p at HB ⊢
    go_wp2_with (first | (refine wpList_buildQ rfl 42 _ rfl #[] (by go_simp) _ (hb0.out _) ?_) | (refine wpList_store_row rfl 42 _ _ rfl w.heap.size zr rfl rfl 42 zr H4.out (by rw [hzs.out]; exact SR.out) rfl hz1.out ?_) | fail)
    refine bodyPost_ret (v := .tuple #[.agg zr, .int .i64 p, .int .i64 201]) (results_cellTT (p := 2) (q := 3) (q' := 4) (ty := 42) rfl _ _ w.heap.size 42 _ (0, 0) _ _ _ rfl rfl rfl (HS4.out _) Try.underlying42 rfl (by rw [hzs.out]; exact SR.out)) rfl ?_
    exact ⟨HB.out, BS.out _⟩
  · have HB := hid (BAD.out _ (.inr (.inr (.inl ⟨q1, q2, q3, rfl⟩))))
    generalize (pd3 l.length (ps0 l)).1 = p at HB ⊢
    go_wp2_with (first | (refine wpList_buildQ rfl 42 _ rfl #[] (by go_simp) _ (hb0.out _) ?_) | (refine wpList_store_row rfl 42 _ _ rfl w.heap.size zr rfl rfl 42 zr H4.out (by rw [hzs.out]; exact SR.out) rfl hz1.out ?_) | fail)
    refine bodyPost_ret (v := .tuple #[.agg zr, .int .i64 p, .int .i64 201]) (results_cellTT (p := 2) (q := 3) (q' := 4) (ty := 42) rfl _ _ w.heap.size 42 _ (0, 0) _ _ _ rfl rfl rfl (HS4.out _) Try.underlying42 rfl (by rw [hzs.out]; exact SR.out)) rfl ?_
    exact ⟨HB.out, BS.out _⟩
  · have HB := hid (BAD.out _ (.inr (.inr (.inr ⟨q1, q2, q3, q4, rfl⟩))))
    generalize edA l.length (pt3 (ps0 l)).l (lackP (ps0 l)) = p at HB ⊢
    go_wp2_with (first | (refine wpList_buildQ rfl 42 _ rfl #[] (by go_simp) _ (hb0.out _) ?_) | (refine wpList_store_row rfl 42 _ _ rfl w.heap.size zr rfl rfl 42 zr H4.out (by rw [hzs.out]; exact SR.out) rfl hz1.out ?_) | fail)
    refine bodyPost_ret (v := .tuple #[.agg zr, .int .i64 p, .int .i64 201]) (results_cellTT (p := 2) (q := 3) (q' := 4) (ty := 42) rfl _ _ w.heap.size 42 _ (0, 0) _ _ _ rfl rfl rfl (HS4.out _) Try.underlying42 rfl (by rw [hzs.out]; exact SR.out)) rfl ?_
    exact ⟨HB.out, BS.out _⟩
  · have hone : v4.oneCell' = true := by obtain ⟨p, c, rfl⟩ := own_slice q5; rfl
    have hone2 : vn.oneCell' = true := by obtain ⟨p, c, rfl⟩ := own_slice n1; rfl
    have HQ : Hid (∀ cs', RepQ w l (.returned (.tuple #[.agg (rpA (pt3 (ps0 l)).k vn v4), .int .i64 0, .int .i64 0])) (w4.setRow w.heap.size cs')) := hid (fun cs' => .inr ⟨_, _, _, vn, v4, B, B', ⟨q1, q2, q3, qq, rfl, rfl, rfl⟩, rfl, own_setRowG n1 H4.out (by decide), Nat.le_trans B3.out.size n2, q8.2.2, own_setRowG q5 H4.out (by decide), Nat.le_trans B3.out.size q6, q7⟩)
    have RR : Hid (w4.rangeAt R 2 [.int .u8 (pt3 (ps0 l)).k, vn, v4]) := hid (fun j u hj => by
      rw [cell_of_row _ _ _ _ _ _ q4]
      have hj2 : j < 3 := by have := (List.getElem?_eq_some_iff.1 hj).1; simpa using this
      rcases (by omega : j = 0 ∨ j = 1 ∨ j = 2) with rfl | rfl | rfl <;> simpa [prL] using hj)
    have hm1 : Hid ((rpA (pt3 (ps0 l)).k vn v4).all (·.oneCell') = true) := hid (rpA_one _ _ _ hone2 hone)
    have hms : Hid ((rpA (pt3 (ps0 l)).k vn v4).size = 3) := hid rfl
    have HMM : Hid (([.int .u8 (pt3 (ps0 l)).k, vn, v4] : List Value).toArray = rpA (pt3 (ps0 l)).k vn v4) := hid rfl
    obtain ⟨m, HM⟩ : ∃ m, Hid (rpA (pt3 (ps0 l)).k vn v4 = m) := ⟨_, hid rfl⟩
    rw [HM.out] at HQ hm1 hms HMM
    clear q1 q2 q3 qq q4 q5 q6 q7 q8 n1 n2 hone hone2 BAD hb0 hz1
    go_wp2_with (first | (refine wpList_load_mid rfl 42 _ rfl R 2 rfl [.int .u8 (pt3 (ps0 l)).k, vn, v4] _ RR.out Try.underlying42 rfl SR.out ?_; rw [HMM.out]) | (refine wpList_store_row rfl 42 _ _ rfl w.heap.size m rfl rfl 42 zr H4.out (by rw [hms.out]; exact SR.out) (by rw [hms.out]; exact hzs.out) hm1.out ?_) | fail)
    refine bodyPost_ret (v := .tuple #[.agg m, .int .i64 0, .int .i64 0]) (results_cellTT (p := 2) (q := 3) (q' := 4) (ty := 42) rfl _ _ w.heap.size 42 _ (0, 0) _ _ _ rfl rfl rfl (HS4.out _) Try.underlying42 rfl (by rw [hms.out]; exact SR.out)) rfl ?_
    exact ⟨HQ.out _, BS.out _⟩
end Go.Proofs.Ytmegeogfpkdodaa
