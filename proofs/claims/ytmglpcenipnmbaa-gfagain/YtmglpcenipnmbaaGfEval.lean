/- gf.Eval, walked; and the same value power by power. -/
import Derived.Test.YtmglpcenipnmbaaGfDown
import Derived.Test.YtmglpcenipnmbaaGfRefLists
set_option linter.unusedSimpArgs false
set_option linter.unusedVariables false
namespace Go.Proofs.Ytmglpcenipnmbaa
open Go Go.RowKit

/-- The value, from the highest power down. -/
def horn (x : Nat) : List Int → Nat
  | [] => 0
  | c :: r => prod (horn x r) x ^^^ c.toNat
theorem horn_lt (x : Nat) : ∀ (l : List Int), (∀ c ∈ l, 0 ≤ c ∧ c < 256) → horn x l < 256
  | [], _ => by show 0 < 256; decide
  | c :: r, h => xor8 (prod_lt _ (horn_lt x r fun y hy => h y (List.mem_cons_of_mem _ hy))) (by have := h c List.mem_cons_self; omega)
theorem horn_drop (x : Nat) (l : List Int) (k : Nat) (h : k < l.length) : horn x (l.drop k) = prod (horn x (l.drop (k + 1))) x ^^^ gN l k := by
  rw [List.drop_eq_getElem_cons h, horn]
  simp [gN, List.getD, List.getElem?_eq_getElem h]
theorem evTo_lt {l : List Int} (hl : ∀ k, gN l k < 256) (x : Nat) : ∀ k, evTo l x k < 256
  | 0 => by show 0 < 256; decide
  | k + 1 => xor8 (evTo_lt hl x k) (prod_lt _ (hl k))
/-- Both ways come to the same. -/
theorem ev_horn (l : List Int) (x : Nat) (hx : x < 256) (hl : ∀ c ∈ l, 0 ≤ c ∧ c < 256) : evTo l x l.length = horn x l := by
  have hg : ∀ k, gN l k < 256 := fun k => by
    unfold gN
    by_cases hk : k < l.length
    · have := hl l[k] (List.getElem_mem hk)
      simp only [List.getD, List.getElem?_eq_getElem hk, Option.getD_some]
      omega
    · simp [List.getD, List.getElem?_eq_none (by omega : l.length ≤ k)]
  have hd : ∀ k, ∀ c ∈ l.drop k, 0 ≤ c ∧ c < 256 := fun k c hc => hl c (List.mem_of_mem_drop hc)
  have key : ∀ j, j ≤ l.length → evTo l x l.length = evTo l x (l.length - j) ^^^ prod (horn x (l.drop (l.length - j))) (powA x (l.length - j)) := by
    intro j
    induction j with
    | zero =>
      intro _
      rw [Nat.sub_zero, List.drop_length, horn, zero_prod _ (powA_lt x _), Nat.xor_zero]
    | succ j ih =>
      intro hj
      rw [ih (by omega)]
      obtain ⟨k, hk⟩ : ∃ k, k = l.length - (j + 1) := ⟨_, rfl⟩
      rw [← hk, show l.length - j = k + 1 by omega, horn_drop x l k (by omega)]
      have l1 := horn_lt x (l.drop (k + 1)) (hd (k + 1))
      rw [prod_left _ _ _ (prod_lt x l1) (hg k), evTo, powA, Nat.xor_assoc]
      congr 1
      rw [← prod_assoc _ _ _ l1 hx (powA_lt x k), prod_comm (powA x k) x (powA_lt x k) hx, Nat.xor_comm]
  have := key l.length (Nat.le_refl _)
  rw [Nat.sub_self, List.drop_zero, evTo, Nat.zero_xor, powA, prod_one _ (horn_lt x l hl)] at this
  exact this

set_option maxRecDepth 100000 in
set_option maxHeartbeats 4000000 in
theorem eval1_any (w : World) (k : Int) (c x V tb vb : Nat) (hc : c < 256) (hx : x < 256) (hV : V < 256) (hT : w.heap[tb]? = some (.cells (cells8 (mulsL x)) 61 (0, 0))) (hv : w.heap[vb]? = some (.cells #[.int .u8 (V : Int)] 5 (0, 0))) :
    Calls Try.prog 53 #[.int .i64 k, .int .u8 (c : Int), .pointer (some ⟨tb, 0, none⟩), .pointer (some ⟨vb, 0, none⟩)] w fun e w' => e = .returned (.tuple #[]) ∧ w' = w.setCell ⟨vb, 0, none⟩ (.int .u8 ((prod V x ^^^ c : Nat) : Int)) := by
  have q1 : w.cell? ⟨vb, 0, none⟩ = some (.int .u8 (V : Int)) := by rw [cell_of_row w vb 0 _ _ _ hv]; rfl
  have hfz : w.frozen? ⟨vb, 0, none⟩ = false := by simp [World.frozen?, hv]
  have q2 : w.cell? ⟨tb, V, none⟩ = some (.int .u8 ((prod V x : Nat) : Int)) := by
    rw [cell_of_row w tb V _ _ _ hT, ← mulsL_get x V hV]
    exact cells8_get (by rw [mulsL_length]; exact hV)
  have hp := prod_lt x hV
  obtain ⟨u, HU⟩ : ∃ u, Hid (prod V x = u) := ⟨_, rfl⟩
  rw [HU.out] at q2 hp ⊢
  have hxx := u8_xor_nat u c hp hc
  clear hT hv
  go_enter Try.func53, Try.ntmps53
  go_wp2
  go_end0
  exact ⟨rfl, rfl⟩

theorem zero_u8 : (Try.prog.info? 5).map (·.zero) = some (some (.int .u8 0)) := by kernel_rfl
set_option maxRecDepth 100000 in
set_option maxHeartbeats 4000000 in
theorem eval_any (w : World) (v : Value) (l : List Int) (x : Nat) (h : HB w v l) (hx : x < 256) :
    Calls Try.prog 31 #[v, .int .u8 (x : Int)] w fun e w' => e = .returned (.int .u8 ((horn x l : Nat) : Int)) ∧ Below w.heap.size w w' := by
  have HA := hid h
  obtain ⟨p, c, rfl, _, hc⟩ := h.open
  clear h
  unfold maxLen at hc
  obtain ⟨z, HZ⟩ : ∃ z, Hid (cells8 (zeros8 256) = z) := ⟨_, rfl⟩
  have hz := zero_b256
  rw [HZ.out] at hz
  have HZ0 := hid hz
  clear hz
  have C := hid (multiples_any w x hx)
  obtain ⟨m, Hm⟩ : ∃ m, Hid (cells8 (mulsL x) = m) := ⟨_, rfl⟩
  rw [Hm.out] at C
  have hms : m.size = 256 := by rw [← Hm.out, cells8_size, mulsL_length]
  have HIm : Hid ((Try.prog.info? 61).map (·.size) = some m.size) := by rw [hms]; exact size_b256
  have H1m : Hid (m.all (·.oneCell') = true) := by rw [← Hm.out]; exact cells8_one _
  have HZM : Hid (z.size = m.size) := by rw [hms, ← HZ.out, cells8_size, zeros8_length]; exact rfl
  obtain ⟨V, HV⟩ : ∃ V, Hid (horn x l = V) := ⟨_, rfl⟩
  rw [HV.out]
  go_enter Try.func31, Try.ntmps31
  go_wp2_with fail
  refine C.out.mono ?_
  rintro e w1 ⟨rfl, hB1⟩
  have B1 := hid hB1
  clear hB1 C
  have H0q : Hid ((w1.alloc (.cells z 61)).heap[w1.heap.size]? = some (.cells z 61 (0, 0))) := heap_alloc_new w1 _
  obtain ⟨w2, hw2⟩ : ∃ w2, Hid ((w1.alloc (.cells z 61)).setRow w1.heap.size m = w2) := ⟨_, rfl⟩
  obtain ⟨tb, htb⟩ : ∃ tb, tb = w1.heap.size := ⟨_, rfl⟩
  have HT2 : Hid (w2.heap[tb]? = some (.cells m 61 (0, 0))) := by rw [← hw2.out, htb]; exact setRow_heap _ _ _ _ _ _ H0q.out
  have hwt : w.heap.size ≤ tb := by rw [htb]; exact B1.out.size
  have B2 : Hid (Below w.heap.size w w2) := by rw [← hw2.out]; exact below_setRow (B1.out.alloc B1.out.size _) B1.out.size m
  have hs2 : w2.heap.size = tb + 1 := by rw [← hw2.out, htb]; simp [World.setRow]
  go_wp2_with (first | (refine wpList_alloc_agg HZ0.out rfl rfl ?_) | (refine wpList_store_row rfl 61 _ _ rfl _ m rfl rfl 61 _ H0q.out HIm.out HZM.out H1m.out ?_))
  rw [hw2.out]
  rw [← htb]
  have H3 : Hid ((w2.alloc (.cells #[.int .u8 0] 5)).heap[tb]? = some (.cells m 61 (0, 0))) := (Below.heap_alloc _ _ _ (by omega)).trans HT2.out
  have H4 : Hid ((w2.alloc (.cells #[.int .u8 0] 5)).heap[tb + 1]? = some (.cells #[.int .u8 0] 5 (0, 0))) := by
    have := heap_alloc_new w2 (.cells #[.int .u8 0] 5)
    rw [hs2] at this
    exact this
  have B3 : Hid (Below w.heap.size w (w2.alloc (.cells #[.int .u8 0] 5))) := B2.out.alloc (by omega) _
  refine (down_evl _ p l.length c (by have := hc; omega) _ _ undef undef undef (fun K wr => wr.heap[tb]? = some (.cells m 61 (0, 0)) ∧ wr.heap[tb + 1]? = some (.cells #[.int .u8 ((horn x (l.drop K) : Nat) : Int)] 5 (0, 0)) ∧ Below w.heap.size w wr) ?_ ?_).mono ?_
  · refine ⟨H3.out, ?_, B3.out⟩
    rw [List.drop_length]
    exact H4.out
  · rintro k wr hk ⟨i1, i2, i3⟩
    obtain ⟨b1, o1, c1, e1, _, _, hc1⟩ := HA.out.ne (by omega)
    simp only [Value.slice.injEq] at e1
    obtain ⟨rfl, _, rfl⟩ := e1
    have q1 := (i3.cell (World.block_lt_of_cell? w _ (hc1 k hk))).trans (hc1 k hk)
    obtain ⟨g1, l1⟩ := HA.out.gN k
    rw [g1] at q1
    refine ⟨b1, o1, gN l k, rfl, q1, ?_⟩
    have hl := horn_lt x (l.drop (k + 1)) (fun y hy => HA.out.2 y (List.mem_of_mem_drop hy))
    rw [← Hm.out] at i1
    refine (eval1_any wr (k : Int) (gN l k) x _ tb (tb + 1) l1 hx hl i1 i2).mono ?_
    rintro e w' ⟨rfl, rfl⟩
    refine ⟨rfl, ?_, ?_, i3.setCell (p := ⟨tb + 1, 0, none⟩) (by simp; omega) _⟩
    · rw [heap_setCell_other wr ⟨tb + 1, 0, none⟩ tb _ (by simp), i1, Hm.out]
    · rw [heap_setCell_same wr (tb + 1) 0 _ _ _ i2, horn_drop x l k hk]
      rfl
  · rintro e w4 ⟨rfl, i1, i2, i3⟩
    rw [List.drop_zero, HV.out] at i2
    have q1 : w4.cell? ⟨tb + 1, 0, none⟩ = some (.int .u8 (V : Int)) := by rw [cell_of_row w4 (tb + 1) 0 _ _ _ i2]; rfl
    have B4 := hid i3
    clear i1 i2 i3 H3 H4 B3 hs2
    subst htb
    go_wp2
    go_ret
    exact ⟨rfl, B4.out⟩
end Go.Proofs.Ytmglpcenipnmbaa
