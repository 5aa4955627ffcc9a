/- HeapLies: count, Pick, and the order that tells what it likes. -/
import Derived.Test.YtcgkcappfjhikaaHgD
import Derived.Test.YtcgkcappfjhikaaHpLives
set_option linter.unusedVariables false
set_option linter.unusedSimpArgs false
namespace Go.Proofs.Ytcgkcappfjhikaa
open Go Go.RowKit
def cntN (l : List Int) (x : Int) : Nat := l.count x
theorem cnt_take (l : List Int) (x : Int) (k : Nat) (hk : k < l.length) : cntN (l.take (k + 1)) x = cntN (l.take k) x + if l.getD k 0 = x then 1 else 0 := by
  unfold cntN
  rw [List.take_succ_eq_append_getElem hk, List.count_append, getD_of_lt hk]
  congr 1
  by_cases h : l[k] = x
  · simp [h]
  · simp [h]
theorem cnt_le (l : List Int) (x : Int) : cntN l x ≤ l.length := List.count_le_length
set_option maxRecDepth 100000 in
set_option maxHeartbeats 4000000 in
theorem count_any (w : World) (v : Value) (l : List Int) (x : Int) (h : I.HB w v l) (hbig : l.length ≤ 17592186043904) :
    Calls Try.prog 30 #[v, .int .i64 x] w fun e w' => e = .returned (.int .i64 (cntN l x : Int)) ∧ w' = w := by
  obtain ⟨p, c, hv, _, _⟩ := h.open
  have A : Hid (0 < l.length → ∃ b off, p = some ⟨b, off, none⟩ ∧ ∀ j, j < l.length → w.cell? ⟨b, off + j, none⟩ = some (.int .i64 (l.getD j 0))) := hid fun h0 => by
    obtain ⟨b, off, c', e', _, _, hh⟩ := h.ne h0
    rw [hv] at e'
    simp only [Value.slice.injEq, true_and] at e'
    exact ⟨b, off, e'.1, hh⟩
  subst hv
  clear h
  obtain ⟨n, hn⟩ : ∃ n, Hid (l.length = n) := ⟨_, rfl⟩
  rw [hn.out] at A hbig
  rw [hn.out]
  go_enter Try.func30, Try.ntmps30
  go_wp2_with fail
  go_loopw [5, 6] (fun vn vi wr => ∃ k : Nat, vi = .int .i64 (k : Int) ∧ k ≤ n ∧ vn = .int .i64 (cntN (l.take k) x : Int) ∧ Hid (wr = w)) (fun _ vi _ => n - (intOf vi).toNat)
  case atStart => exact ⟨0, rfl, Nat.zero_le _, by simp [cntN], hid rfl⟩
  case round =>
    obtain ⟨k, rfl, hk, rfl, HW⟩ := hrel
    obtain rfl := HW.out
    by_cases hlt : k < n
    · have hlt' : (k : Int) < (n : Int) := by omega
      obtain ⟨b, off, rfl, hh⟩ := A.out (by omega)
      have hc := hh k hlt
      have HS := hid (cnt_take l x k (by rw [hn.out]; exact hlt))
      have hb := cnt_le (l.take k) x
      have hb2 : (l.take k).length ≤ n := by rw [List.length_take]; omega
      obtain ⟨m, Hm⟩ : ∃ m, Hid (cntN (l.take k) x = m) := ⟨_, rfl⟩
      rw [Hm.out] at HS hb
      rw [Hm.out]
      obtain ⟨y, Hy⟩ : ∃ y, Hid (l.getD k 0 = y) := ⟨_, rfl⟩
      rw [Hy.out] at hc HS
      clear hh
      by_cases hxy : y = x
      · have HS2 : Hid (cntN (l.take (k + 1)) x = m + 1) := hid (by rw [HS.out, if_pos hxy])
        go_wp2_with fail
        exact ⟨⟨k + 1, by go_num, by omega, by rw [HS2.out]; go_num, by first | exact hid rfl | exact trivial⟩, by simp [intOf]; omega⟩
      · have HS2 : Hid (cntN (l.take (k + 1)) x = m) := hid (by rw [HS.out, if_neg hxy]; rfl)
        go_wp2_with fail
        exact ⟨⟨k + 1, by go_num, by omega, by rw [HS2.out], by first | exact hid rfl | exact trivial⟩, by simp [intOf]; omega⟩
    · have hkn : k = n := by omega
      have hge : ¬ (k : Int) < (n : Int) := by omega
      have HF : Hid (cntN (l.take k) x = cntN l x) := hid (by rw [List.take_of_length_le (by rw [hn.out]; omega)])
      rw [HF.out]
      go_wp2_with fail
      go_ret
      exact ⟨rfl, rfl⟩
/-- What Pick answers. -/
def pkV (x : Int) (n : Nat) : Int := if Int.tmod x n < 0 then Int.tmod x n + n else Int.tmod x n
theorem pkV_in (x : Int) (n : Nat) (h : 1 ≤ n) : 0 ≤ pkV x n ∧ pkV x n < n := by
  have b1 : -(n : Int) < Int.tmod x n := Int.lt_tmod_of_pos x (by omega)
  have b2 : Int.tmod x n < (n : Int) := Int.tmod_lt_of_pos x (by omega)
  unfold pkV
  split <;> omega
set_option maxRecDepth 100000 in
set_option maxHeartbeats 4000000 in
theorem pick_any (w : World) (x : Int) (n : Nat) (h1 : 1 ≤ n) (h2 : n ≤ 140737488355328) : Calls Try.prog 12 #[.int .i64 x, .int .i64 (n : Int)] w fun e w' => e = .returned (.int .i64 (pkV x n)) ∧ w' = w := by
  have b1 : -(n : Int) < Int.tmod x n := Int.lt_tmod_of_pos x (by omega)
  have b2 : Int.tmod x n < (n : Int) := Int.tmod_lt_of_pos x (by omega)
  have hn1 : ¬ ((n : Int) < 1) := by omega
  have hn0 : ¬ ((n : Int) = 0) := by omega
  have e : pkV x n = if Int.tmod x n < 0 then Int.tmod x n + n else Int.tmod x n := rfl
  obtain ⟨y, hy⟩ : ∃ y, Int.tmod x (n : Int) = y := ⟨_, rfl⟩
  rw [hy] at b1 b2 e
  by_cases hneg : y < 0
  · rw [if_pos hneg] at e
    rw [e]
    clear e
    go_enter Try.func12, Try.ntmps12
    go_wp2
    go_ret
    exact ⟨rfl, rfl⟩
  · rw [if_neg hneg] at e
    rw [e]
    clear e
    go_enter Try.func12, Try.ntmps12
    go_wp2
    go_ret
    exact ⟨rfl, rfl⟩
/-- v is a row of n bools. -/
def HBo (w : World) (v : Value) (n : Nat) (f : Nat → Bool) : Prop := ∃ (p : Option Addr) (c : Nat), v = .slice p n c ∧ (0 < n → ∃ b off, p = some ⟨b, off, none⟩ ∧ ∀ j, j < n → w.cell? ⟨b, off + j, none⟩ = some (.bool (f j)))
/-- What the order of HeapLies stands on: its boxes, and the lists behind them; c questions may still be asked. -/
structure LiJ (bl bs ba bt : Nat) (vl : Value) (l : List Int) (vt : Value) (nt : Nat) (f : Nat → Bool) (c : Nat) (w : World) : Prop where
  xl : w.heap[bl]? = some (.cells #[vl] 42 (0, 0))
  xs : w.heap[bs]? = some (.cells #[.bool false] 4 (0, 0))
  xa : ∃ a : Nat, w.heap[ba]? = some (.cells #[.int .i64 (a : Int)] 3 (0, 0)) ∧ a + c < 4611686018427387904
  xt : w.heap[bt]? = some (.cells #[vt] 68 (0, 0))
  hl : I.HB w vl l
  ht : HBo w vt nt f
def LiU (bl bs ba bt : Nat) (vl : Value) (l : List Int) (vt : Value) (nt : Nat) (k : Nat) : Prop := k = bl ∨ k = bs ∨ k = ba ∨ k = bt ∨ (0 < l.length ∧ vl.ownBlock = some k) ∨ (0 < nt ∧ vt.ownBlock = some k)
section
variable {bl bs ba bt : Nat} {vl : Value} {l : List Int} {vt : Value} {nt : Nat} {f : Nat → Bool} {c : Nat} {w : World}
theorem HB_stay {v : Value} (h : I.HB w v l) {w' : World} (hk : 0 < l.length → ∀ k, v.ownBlock = some k → w'.heap[k]? = w.heap[k]?) : I.HB w' v l := by
  obtain ⟨⟨p, c, h1, h2, h3, h4, h5⟩, h6⟩ := h
  refine ⟨⟨p, c, h1, h2, h3, h4, fun hne => ?_⟩, h6⟩
  obtain ⟨b, off, e, hh⟩ := h5 hne
  exact ⟨b, off, e, fun j hj => (World.cell?_of_block (a := ⟨b, off + j, none⟩) (hk (by omega) b (by rw [h1, e]; rfl))).trans (hh j hj)⟩
theorem HBo_stay {v : Value} {n : Nat} (h : HBo w v n f) {w' : World} (hk : 0 < n → ∀ k, v.ownBlock = some k → w'.heap[k]? = w.heap[k]?) : HBo w' v n f := by
  obtain ⟨p, c, h1, h5⟩ := h
  refine ⟨p, c, h1, fun hne => ?_⟩
  obtain ⟨b, off, e, hh⟩ := h5 hne
  exact ⟨b, off, e, fun j hj => (World.cell?_of_block (a := ⟨b, off + j, none⟩) (hk hne b (by rw [h1, e]; rfl))).trans (hh j hj)⟩
theorem LiJ.stay (h : LiJ bl bs ba bt vl l vt nt f c w) {w' : World} (hk : ∀ k, LiU bl bs ba bt vl l vt nt k → w'.heap[k]? = w.heap[k]?) : LiJ bl bs ba bt vl l vt nt f c w' := by
  obtain ⟨a, ha, hc⟩ := h.xa
  exact ⟨(hk _ (.inl rfl)).trans h.xl, (hk _ (.inr (.inl rfl))).trans h.xs, ⟨a, (hk _ (.inr (.inr (.inl rfl)))).trans ha, hc⟩, (hk _ (.inr (.inr (.inr (.inl rfl))))).trans h.xt, HB_stay h.hl (fun h0 k hv => hk k (.inr (.inr (.inr (.inr (.inl ⟨h0, hv⟩)))))), HBo_stay h.ht (fun h0 k hv => hk k (.inr (.inr (.inr (.inr (.inr ⟨h0, hv⟩))))))⟩
theorem LiJ.lt (h : LiJ bl bs ba bt vl l vt nt f c w) : ∀ k, LiU bl bs ba bt vl l vt nt k → k < w.heap.size := by
  intro k hk
  rcases hk with q | q | q | q | ⟨h0, q⟩ | ⟨h0, q⟩
  · rw [q]; exact (Array.getElem?_eq_some_iff.1 h.xl).1
  · rw [q]; exact (Array.getElem?_eq_some_iff.1 h.xs).1
  · obtain ⟨a, ha, _⟩ := h.xa
    rw [q]; exact (Array.getElem?_eq_some_iff.1 ha).1
  · rw [q]; exact (Array.getElem?_eq_some_iff.1 h.xt).1
  · obtain ⟨b, off, c', e, _, _, hh⟩ := h.hl.ne h0
    rw [e] at q
    cases q
    exact World.block_lt_of_cell? w ⟨b, off + 0, none⟩ (hh 0 h0)
  · obtain ⟨p, c', e, hh⟩ := h.ht
    obtain ⟨b, off, e2, h3⟩ := hh h0
    rw [e, e2] at q
    cases q
    exact World.block_lt_of_cell? w ⟨b, off + 0, none⟩ (h3 0 h0)
set_option maxRecDepth 100000 in
set_option maxHeartbeats 4000000 in
theorem lies1_any (h : LiJ bl bs ba bt vl l vt nt f (c + 1) w) (hbig : l.length ≤ 17592186043904) (hnt : nt ≤ 140737488355328) (a b : Int) (ha : a ∈ l) (hb : b ∈ l) (hne : ba ≠ bl ∧ ba ≠ bs ∧ ba ≠ bt ∧ (0 < l.length → vl.ownBlock ≠ some ba) ∧ (0 < nt → vt.ownBlock ≠ some ba)) :
    Calls Try.prog 29 #[.int .i64 a, .int .i64 b, .pointer (some ⟨bl, 0, none⟩), .pointer (some ⟨bs, 0, none⟩), .pointer (some ⟨ba, 0, none⟩), .pointer (some ⟨bt, 0, none⟩)] w fun e w' => ∃ r, e = .returned (.bool r) ∧ LiJ bl bs ba bt vl l vt nt f c w' ∧ Ex (fun k => k = ba) w w' := by
  obtain ⟨aq, hxa, hac⟩ := h.xa
  have C1 := hid (count_any w vl l a h.hl (by omega))
  have C2 := hid (count_any w vl l b h.hl (by omega))
  have n1 : 1 ≤ cntN l a := List.count_pos_iff.2 ha
  have n2 : 1 ≤ cntN l b := List.count_pos_iff.2 hb
  have c1 : w.cell? ⟨bl, 0, none⟩ = some vl := by rw [cell_of_row _ _ _ _ _ _ h.xl]; rfl
  have c3 : w.cell? ⟨ba, 0, none⟩ = some (.int .i64 (aq : Int)) := by rw [cell_of_row _ _ _ _ _ _ hxa]; rfl
  have f3 := free_of hxa 0
  obtain ⟨pl, cl, hvl, _, _⟩ := h.hl.open
  obtain ⟨pt, ct, hvt, hT⟩ := h.ht
  have H := hid h
  have HXA := hid hxa
  have HNE := hid hne
  have HT := hid hT
  have W1 : Hid (Ex (fun k => k = ba) w (w.setCell ⟨ba, 0, none⟩ (.int .i64 ((aq : Int) + 1)))) := hid ((Ex.refl (fun k => k = ba) w).setCell (x := ba) (o := 0) rfl _)
  have hoth : ∀ k, k ≠ ba → (w.setCell ⟨ba, 0, none⟩ (.int .i64 ((aq : Int) + 1))).heap[k]? = w.heap[k]? := fun k hk => bk_other (Ne.symm hk) _ _
  have HJ1 : Hid (LiJ bl bs ba bt vl l vt nt f c (w.setCell ⟨ba, 0, none⟩ (.int .i64 ((aq : Int) + 1)))) := hid
    ⟨(hoth _ (Ne.symm hne.1)).trans h.xl, (hoth _ (Ne.symm hne.2.1)).trans h.xs, ⟨aq + 1, by have := bk_set hxa 0 (.int .i64 ((aq : Int) + 1)); simpa using this, by omega⟩, (hoth _ (Ne.symm hne.2.2.1)).trans h.xt, HB_stay h.hl (fun h0 k hv => hoth k (fun e => hne.2.2.2.1 h0 (e ▸ hv))), HBo_stay h.ht (fun h0 k hv => hoth k (fun e => hne.2.2.2.2 h0 (e ▸ hv)))⟩
  subst hvl hvt
  obtain ⟨m1, Hm1⟩ : ∃ m, Hid (cntN l a = m) := ⟨_, rfl⟩
  obtain ⟨m2, Hm2⟩ : ∃ m, Hid (cntN l b = m) := ⟨_, rfl⟩
  rw [Hm1.out] at C1 n1
  rw [Hm2.out] at C2 n2
  have g1 : ¬ (m1 : Int) < 1 := by omega
  have g2 : ¬ (m2 : Int) < 1 := by omega
  have g1' : decide ((m1 : Int) < 1) = false := by simp; omega
  have g2' : decide ((m2 : Int) < 1) = false := by simp; omega
  clear h hne hT hxa ha hb hoth
  go_enter Try.func29, Try.ntmps29
  go_wp2_with fail
  refine C1.out.mono ?_
  rintro e w1 ⟨rfl, hw1⟩
  rw [hw1]
  clear hw1 C1
  go_wp2_with fail
  refine C2.out.mono ?_
  rintro e w2 ⟨rfl, hw2⟩
  rw [hw2]
  clear hw2 C2 c1
  go_wp2_with fail
  obtain ⟨wz, HWZ⟩ : ∃ wz, Hid (w.setCell ⟨ba, 0, none⟩ (.int .i64 ((aq : Int) + 1)) = wz) := ⟨_, rfl⟩
  rw [HWZ.out] at HJ1 W1
  rw [HWZ.out]
  have d4 : wz.cell? ⟨bt, 0, none⟩ = some (.slice pt nt ct) := by rw [cell_of_row _ _ _ _ _ _ HJ1.out.xt]; rfl
  have d3 : wz.cell? ⟨ba, 0, none⟩ = some (.int .i64 ((aq : Int) + 1)) := by
    have := bk_set HXA.out 0 (.int .i64 ((aq : Int) + 1))
    rw [HWZ.out] at this
    rw [cell_of_row _ _ _ _ _ _ this]
    rfl
  by_cases h0 : 0 < nt
  · have h0' : (0 : Int) < (nt : Int) := by omega
    have hn0 : (nt == 0) = false := by simp; omega
    have hn0' : ¬ (nt : Int) = 0 := by omega
    have em : ((aq : Int) + 1).tmod (nt : Int) = (((aq + 1) % nt : Nat) : Int) := by rw [Int.tmod_eq_emod_of_nonneg (by omega), show ((aq : Int) + 1) = ((aq + 1 : Nat) : Int) by omega]; rfl
    have hlt : (aq + 1) % nt < nt := Nat.mod_lt _ h0
    obtain ⟨p0, c0, hv0, hT2⟩ := HJ1.out.ht
    simp only [Value.slice.injEq, true_and] at hv0
    obtain ⟨rfl, rfl⟩ := hv0
    obtain ⟨b0, off, rfl, hcc⟩ := hT2 h0
    have hc := hcc _ hlt
    obtain ⟨ix, HIX⟩ : ∃ i, Hid ((aq + 1) % nt = i) := ⟨_, rfl⟩
    rw [HIX.out] at em hlt hc
    have hlt' : (ix : Int) < (nt : Int) := by omega
    clear hT2 hcc
    go_quiet (fail)
    go_wp2_with fail
    go_ret
    exact ⟨_, rfl, HJ1.out.stay (fun k _ => rfl), W1.out.drewN _⟩
  · have h0' : decide ((0 : Int) < (nt : Int)) = false := by simp; omega
    have h0'' : ¬ (0 : Int) < (nt : Int) := by omega
    have hn0 : nt = 0 := by omega
    subst hn0
    go_quiet (fail)
    go_wp2_with fail
    go_ret
    first | exact ⟨_, rfl, HJ1.out.stay (fun k _ => rfl), W1.out.drewN _⟩ | exact ⟨.inl rfl, HJ1.out.stay (fun k _ => rfl), W1.out.drewN _⟩
theorem lies_orc (hbig : l.length ≤ 17592186043904) (hnt : nt ≤ 140737488355328) (hne : ba ≠ bl ∧ ba ≠ bs ∧ ba ≠ bt ∧ (0 < l.length → vl.ownBlock ≠ some ba) ∧ (0 < nt → vt.ownBlock ≠ some ba)) :
    OrcF 29 #[.pointer (some ⟨bl, 0, none⟩), .pointer (some ⟨bs, 0, none⟩), .pointer (some ⟨ba, 0, none⟩), .pointer (some ⟨bt, 0, none⟩)] (fun c w => LiJ bl bs ba bt vl l vt nt f c w) (LiU bl bs ba bt vl l vt nt) (fun x => x ∈ l) (fun _ _ _ => True) where
  ask := fun c w a b hJ ha hb => (lies1_any hJ hbig hnt a b ha hb hne).mono fun e w' ⟨r, q1, q2, q3⟩ => ⟨r, q1, trivial, q2, q3.mono (fun k hk => .inr (.inr (.inl hk)))⟩
  stay := fun c w w' h hk => h.stay hk
  lt := fun c w h => h.lt
  mono := fun c c' w hc h => by
    obtain ⟨a, ha, hac⟩ := h.xa
    exact ⟨h.xl, h.xs, ⟨a, ha, by omega⟩, h.xt, h.hl, h.ht⟩
  ent := fun args w => enters_of Try.func29 (by kernel_rfl) rfl args w
theorem lies_ord : Ord False (fun x => x) (fun _ _ _ => True) := fun h => h.elim
end
end Go.Proofs.Ytcgkcappfjhikaa
