/- The document's clock (strongroomref18): a list. New, Set, first. -/
import Derived.Test.YtajdopmhdagehaaCkT
import Derived.Laws.AppendOwn
import Derived.Laws.OwnMore
import Derived.Laws.AppendOwnNone
set_option linter.unusedVariables false
set_option linter.unusedSimpArgs false
namespace Go.Proofs.Ytajdopmhdagehaa.Rc
open Go.Proofs.Ytajdopmhdagehaa
open Go Go.RowKit

/-- A thing that waits: its number, its tick, what it is. -/
abbrev Tr : Type := Int × Int × Int
def tcL (x : Tr) : List Value := [.int .i64 x.1, .int .i64 x.2.1, .int .u32 x.2.2]
def flat (l : List Tr) : List Value := l.flatMap tcL
theorem flat_append (a b : List Tr) : flat (a ++ b) = flat a ++ flat b := by simp [flat]
theorem flat_one (p : Tr) : flat [p] = tcL p := by simp [flat]
theorem flat_cons (p : Tr) (l : List Tr) : flat (p :: l) = tcL p ++ flat l := by simp [flat]
theorem flat_length (a : List Tr) : (flat a).length = a.length * 3 := by
  induction a with
  | nil => rfl
  | cons p l ih => rw [flat_cons, List.length_append, ih, List.length_cons]; show 3 + _ = _; omega
theorem flat_one_cell (l : List Tr) : ∀ u ∈ flat l, u.oneCell' = true := by
  intro u hu
  obtain ⟨p, _, hp⟩ := List.mem_flatMap.1 hu
  simp [tcL] at hp
  rcases hp with rfl | rfl | rfl <;> rfl
def tA (l : List Tr) (i : Nat) : Tr := l.getD i (0, 0, 0)
theorem tA_some {l : List Tr} {i : Nat} (h : i < l.length) : l[i]? = some (tA l i) := by simp [tA, h]
theorem flat_get (l : List Tr) : ∀ i, i < l.length → ∀ j, j < 3 → (flat l)[i * 3 + j]? = (tcL (tA l i))[j]? := by
  induction l with
  | nil => intro i h; simp at h
  | cons p l ih =>
    intro i h j hj
    rw [flat_cons]
    cases i with
    | zero =>
      rw [List.getElem?_append_left (by show 0 * 3 + j < 3; omega)]
      simp [tA]
    | succ i =>
      rw [List.getElem?_append_right (by show 3 ≤ (i + 1) * 3 + j; omega)]
      have : (i + 1) * 3 + j - (tcL p).length = i * 3 + j := by show (i + 1) * 3 + j - 3 = _; omega
      rw [this]
      have e : tA (p :: l) (i + 1) = tA l i := rfl
      rw [e]
      exact ih i (by simpa using h) j hj
theorem flat_take (l : List Tr) (i : Nat) : (flat l).take (i * 3) = flat (l.take i) := by
  induction l generalizing i with
  | nil => simp [flat]
  | cons p l ih =>
    cases i with
    | zero => simp [flat]
    | succ i =>
      rw [List.take_succ_cons, flat_cons, flat_cons, ← ih i, show (i + 1) * 3 = (tcL p).length + i * 3 by show _ = 3 + _; omega, List.take_length_add_append]
theorem flat_drop (l : List Tr) (i : Nat) : (flat l).drop (i * 3) = flat (l.drop i) := by
  induction l generalizing i with
  | nil => simp [flat]
  | cons p l ih =>
    cases i with
    | zero => simp [flat]
    | succ i =>
      rw [List.drop_succ_cons, flat_cons, ← ih i, show (i + 1) * 3 = (tcL p).length + i * 3 by show _ = 3 + _; omega, List.drop_length_add_append]
abbrev DT : TypeId := 59
/-- At y stands the document's clock of the things l. -/
structure HRc (w : World) (y : Nat) (tk : Int) (md : Nat) (l : List Tr) (v : Value) : Prop where
  top : w.heap[y]? = some (.cells #[.int .i64 tk, .int .i64 (md : Int), v] 40 (0, 0))
  row : w.ownsRow 0 59 3 v l.length (flat l)
/-- Where it lies. -/
def rS (y : Nat) (v : Value) (k : Nat) : Prop := k = y ∨ v.ownBlock = some k
theorem info_tr : (Try.prog.info? 59).map (fun i => (i.zero, i.size, i.bytes)) = some (some (.agg #[.int .i64 0, .int .i64 0, .int .u32 0]), 3, 24) := by kernel_rfl
theorem own3_slc {w : World} {B n : Nat} {e : TypeId} {v : Value} {xs : List Value} (h : w.ownsRow B e 3 v n xs) : ∃ p c, v = .slice p n c := by
  rcases h.2 with ⟨rfl, rfl⟩ | ⟨g, cap, cur, rfl, _⟩
  · exact ⟨none, 0, rfl⟩
  · exact ⟨_, _, rfl⟩
theorem own3_keep {w w' : World} {base n : Nat} {v : Value} {xs : List Value} (h : w.ownsRow base 59 3 v n xs) (hk : ∀ b, v.ownBlock = some b → w'.heap[b]? = w.heap[b]?) : w'.ownsRow base 59 3 v n xs := by
  refine ⟨h.1, ?_⟩
  rcases h.2 with q | ⟨b, cap, cur, hv, hb, hw, q⟩
  · exact .inl q
  · exact .inr ⟨b, cap, cur, hv, hb, (hk b (by rw [hv]; rfl)).trans hw, q⟩
theorem own3_lt {w : World} {base n : Nat} {v : Value} {xs : List Value} (h : w.ownsRow base 59 3 v n xs) : ∀ b, v.ownBlock = some b → base ≤ b ∧ b < w.heap.size := fun b hb => by
  rcases h.2 with ⟨q, _⟩ | ⟨b', cap, cur, hv, hb', hw, q⟩
  · rw [q] at hb; cases hb
  · rw [hv] at hb; cases hb; exact ⟨hb', (Array.getElem?_eq_some_iff.1 hw).1⟩
/-- append of a row of things, with where it goes. -/
theorem run_append_tr (w : World) (base : Nat) (ty : TypeId) (v : Value) (n : Nat) (xs : List Value) (hown : w.ownsRow base 59 3 v n xs) (a : Addr) (m c : Nat) (l : List Tr) (hl : l.length = m) (hx : ∀ j u, (flat l)[j]? = some u → w.cell? (a.add j) = some u) (hn : (n + m) * 24 ≤ 140737488355328) (hbase : base ≤ w.heap.size) :
    ∃ v' w', (Builtin.append_ #[38, 38] ty #[v, .slice (some a) m c]).run Try.prog w = .ok v' w' ∧ w'.ownsRow base 59 3 v' (n + m) (xs ++ flat l) ∧ w.grownBy w' v.ownBlock ∧
      (v'.ownBlock = v.ownBlock ∨ (v'.ownBlock = some w.heap.size ∧ w.grownBy w' none)) := by
  obtain ⟨i0, hi, hz0, hz1, hz2⟩ := info_parts info_tr
  have hll : (flat l).length = m * 3 := by rw [flat_length, hl]
  obtain ⟨v', w', hr, h2, h3, h4⟩ := run_append_own (P := Try.prog) w base 38 ty 59 i0 _ 3 24 Try.underlying38 hi hz0 hz1 hz2 rfl (by decide) v n xs hown a m c (flat l) hll hx (flat_one_cell l) (by unfold maxLen; omega) hn hbase
  refine ⟨v', w', hr, h2, h3, ?_⟩
  rcases hown.2 with ⟨rfl, rfl⟩ | ⟨g, cap, cur, rfl, hbg, hg, hnc, hcm, hcs, htake⟩
  · by_cases hm : m = 0
    · rw [h4.2 ⟨rfl, hm⟩]
      exact .inl rfl
    · have hr2 := run_append_nil (P := Try.prog) w 38 ty 59 i0 _ Try.underlying38 hi hz0 a m c (flat l) (by rw [hz1]; exact hll) hx (by omega) (by omega) (by rw [hz2]; omega)
      rw [hr] at hr2
      simp only [Result.ok.injEq] at hr2
      obtain ⟨rfl, rfl⟩ := hr2
      exact .inr ⟨rfl, ⟨rfl, rfl, rfl, by simp, fun k hk _ => heap_alloc_old w.drew _ hk⟩⟩
  · by_cases hroom : n + m ≤ cap
    · obtain ⟨w2, hr2, _⟩ := run_append_fits (P := Try.prog) w base 38 ty 59 i0 3 Try.underlying38 hi hz1 g n cap xs hown a m c (flat l) hll hx (flat_one_cell l) hroom
      rw [hr] at hr2
      simp only [Result.ok.injEq] at hr2
      obtain ⟨rfl, rfl⟩ := hr2
      exact .inl rfl
    · have hr2 := run_append_grow (P := Try.prog) w 38 ty 59 i0 _ Try.underlying38 hi hz0 ⟨g, 0, none⟩ n cap xs (by rw [hz1]; exact hown.1) (hown.cells (g := g) rfl) a m c (flat l) (by rw [hz1]; exact hll) hx (by omega) (by omega) (growslice_fits (by omega) (by rw [hz2]; omega))
      rw [hr] at hr2
      simp only [Result.ok.injEq] at hr2
      obtain ⟨rfl, rfl⟩ := hr2
      exact .inr ⟨rfl, ⟨rfl, rfl, rfl, by simp, fun k hk _ => heap_alloc_old w.drew _ hk⟩⟩
theorem wpList_append_tr {w : World} {ops : Array Oper} {rest : List Oper} {o : Oper} {a : Act} {Q : Exit → Act → World → Prop} (hgd : o.guard = none) (s x : Operand)
    (ho : o.op = .call { callee := .builtin .append, args := #[s, x], argTypes := #[38, 38] })
    (base : Nat) (v : Value) (n : Nat) (xs : List Value) (hs : a.eval s = v) (hown : w.ownsRow base 59 3 v n xs)
    (ad : Addr) (m c : Nat) (l : List Tr) (hx : a.eval x = .slice (some ad) m c) (hl : l.length = m) (hy : ∀ j u, (flat l)[j]? = some u → w.cell? (ad.add j) = some u) (hn : (n + m) * 24 ≤ 140737488355328) (hbase : base ≤ w.heap.size)
    (h : ∀ v' w', w'.ownsRow base 59 3 v' (n + m) (xs ++ flat l) → w.grownBy w' v.ownBlock → (v'.ownBlock = v.ownBlock ∨ (v'.ownBlock = some w.heap.size ∧ w.grownBy w' none)) → wpList Try.prog ops Q rest (a.put o.dst v') w') : wpList Try.prog ops Q (o :: rest) a w := by
  refine wpList_plain hgd fun K hK => ?_
  obtain ⟨v', w', hr, h2, h3, h4⟩ := run_append_tr w base o.type v n xs hown ad m c l hl hy hn hbase
  unfold Oper.wp execOp
  simp only [ho, resolve, invoke, builtin, Sem.run_bind, Sem.run_pure, Result.andThen_ok, List.map_toArray, List.map_cons, List.map_nil, hs, hx, hr]
  exact hK _ _ (h v' w' h2 h3 h4)
theorem news_block {w : World} {b : Nat} {cs : Array Value} {t : TypeId} {fr : Nat × Nat} {x : Tr} (h : w.heap[b]? = some (.cells cs t fr)) (hc : cs.toList = tcL x) : ∀ j u, (flat [x])[j]? = some u → w.cell? ((⟨b, 0, none⟩ : Addr).add j) = some u := fun j u hj => by
  rw [Go.WideShapes.add_plain, cell_of_row _ _ _ _ _ _ h, Nat.zero_add, ← Array.getElem?_toList, hc]
  rw [flat_one] at hj
  exact hj
section
variable {w : World} {y : Nat} {tk : Int} {md : Nat} {l : List Tr} {v : Value}
theorem HRc.lt (h : HRc w y tk md l v) : y < w.heap.size := (Array.getElem?_eq_some_iff.1 h.top).1
theorem HRc.c (h : HRc w y tk md l v) : w.cell? ⟨y, 0, none⟩ = some (.int .i64 tk) ∧ w.cell? ⟨y, 1, none⟩ = some (.int .i64 (md : Int)) ∧ w.cell? ⟨y, 2, none⟩ = some v := by
  refine ⟨?_, ?_, ?_⟩ <;> (rw [cell_of_row _ _ _ _ _ _ h.top]; rfl)
theorem HRc.vg (h : HRc w y tk md l v) : v.ownBlock ≠ some y := fun e => by
  rcases h.row.2 with ⟨q, _⟩ | ⟨b, cap, cur, q, _, hw, _⟩
  · rw [q] at e; cases e
  · rw [q] at e
    cases e
    rw [h.top] at hw
    simp only [Option.some.injEq, Obj.cells.injEq] at hw
    exact absurd hw.2.1 (by decide)
theorem HRc.of (h : HRc w y tk md l v) {w' : World} (hk : ∀ k, rS y v k → w'.heap[k]? = w.heap[k]?) : HRc w' y tk md l v :=
  ⟨(hk y (.inl rfl)).trans h.top, own3_keep h.row fun b hb => hk b (.inr hb)⟩
theorem HRc.vlt (h : HRc w y tk md l v) : ∀ k, rS y v k → k < w.heap.size := fun k hk => by
  rcases hk with q | q
  · rw [q]; exact h.lt
  · exact (own3_lt h.row k q).2
theorem HRc.below (h : HRc w y tk md l v) {w' : World} (hb : Below w.heap.size w w') : HRc w' y tk md l v := h.of fun k hk => hb.block k (h.vlt k hk)
theorem HRc.ex (h : HRc w y tk md l v) {w' : World} {U : Nat → Prop} (he : Ex U w w') (hd : ∀ k, rS y v k → ¬ U k) : HRc w' y tk md l v := h.of fun k hk => he.block k (h.vlt k hk) (hd k hk)
/-- The cells of a thing. -/
theorem HRc.item (h : HRc w y tk md l v) {i : Nat} (hi : i < l.length) : ∃ b cap, v = .slice (some ⟨b, 0, none⟩) l.length cap ∧ l.length ≤ cap ∧ w.cell? ⟨b, i * 3, none⟩ = some (.int .i64 (tA l i).1) ∧ w.cell? ⟨b, i * 3 + 1, none⟩ = some (.int .i64 (tA l i).2.1) ∧ w.cell? ⟨b, i * 3 + 2, none⟩ = some (.int .u32 (tA l i).2.2) := by
  rcases h.row.2 with ⟨_, q⟩ | ⟨b, cap, cur, hv, _, hw, q1, q2, q3, q4⟩
  · omega
  · have at' : ∀ j, j < 3 → w.cell? ⟨b, i * 3 + j, none⟩ = (tcL (tA l i))[j]? := fun j hj => by
      rw [cell_of_row _ _ _ _ _ _ hw, ← flat_get l i hi j hj, ← q4, List.getElem?_take, if_pos (by omega), Array.getElem?_toList]
    exact ⟨b, cap, hv, q1, at' 0 (by omega), at' 1 (by omega), at' 2 (by omega)⟩
set_option maxRecDepth 100000 in
set_option maxHeartbeats 4000000 in
theorem may_any (w : World) (t : Int) : Calls Try.prog 44 #[.int .i64 t] w fun e w' => e = .returned (.bool (tkB t)) ∧ w' = w := by
  by_cases h0 : 0 ≤ t
  · by_cases h1 : t ≤ 1099511627776
    · have e : tkB t = true := by unfold tkB; simp [h0, h1]
      rw [e]
      clear e
      go_enter Try.func44, Try.ntmps44
      go_wp2
      go_ret
      exact ⟨rfl, rfl⟩
    · have e : tkB t = false := by unfold tkB; simp [h1]
      rw [e]
      clear e
      go_enter Try.func44, Try.ntmps44
      go_wp2
      go_ret
      exact ⟨rfl, rfl⟩
  · have e : tkB t = false := by unfold tkB; simp [h0]
    rw [e]
    clear e
    go_enter Try.func44, Try.ntmps44
    go_wp2
    go_ret
    exact ⟨rfl, rfl⟩
set_option maxRecDepth 100000 in
set_option maxHeartbeats 4000000 in
theorem rnew_ok (w : World) (t : Int) (h : tkB t = true) : Calls Try.prog 10 #[.int .i64 t] w fun e w' => e = .returned (.tuple #[ptr w.heap.size, .int .i64 0]) ∧ HRc w' w.heap.size t 0 [] (.slice none 0 0) ∧ Below w.heap.size w w' := by
  have CI := hid (may_any w t)
  rw [h] at CI
  clear h
  go_enter Try.func10, Try.ntmps10
  go_wp2_with fail
  refine CI.out.mono ?_
  rintro e w1 ⟨rfl, hw⟩
  rw [hw]
  clear hw
  go_wp2_with fail
  go_ret2
  exact ⟨rfl, ⟨heap_alloc_new w _, ⟨rfl, .inl ⟨rfl, rfl⟩⟩⟩, (Below.refl _ _).alloc (Nat.le_refl _) _⟩
set_option maxRecDepth 100000 in
set_option maxHeartbeats 8000000 in
theorem rset_ok (h : HRc w y tk md l v) (t x : Int) (ht : rcE tk t = 0) (hmd : md < 1152921504606846976) (hroom : (l.length + 1) * 24 ≤ 140737488355328) :
    Calls Try.prog 20 #[ptr y, .int .i64 t, .int .u32 x] w fun e w' => e = .returned (.tuple #[.int .i64 (md : Int), .int .i64 0]) ∧ ∃ v', HRc w' y tk (md + 1) (l ++ [((md : Int), t, x)]) v' ∧ Ex (rS y v) w w' ∧ (v'.ownBlock = v.ownBlock ∨ ∃ b, v'.ownBlock = some b ∧ w.heap.size ≤ b) := by
  have CI := hid (may_any w t)
  have htk : tkB t = true ∧ ¬ t < tk := by
    unfold rcE at ht
    split at ht
    · rename_i q
      split at ht
      · cases ht
      · exact ⟨q, by assumption⟩
    · cases ht
  rw [htk.1] at CI
  obtain ⟨-, hlt⟩ := htk
  have hle : tk ≤ t := by omega
  obtain ⟨c0, c1, c2⟩ := h.c
  have f1 := free_of h.top 1
  have hyl := h.lt
  have hvg := h.vg
  have H := hid h
  obtain ⟨pv, cv, hv⟩ := own3_slc h.row
  subst hv
  obtain ⟨n, hn⟩ : ∃ n, Hid (l.length = n) := ⟨_, rfl⟩
  rw [hn.out] at c2 hroom hvg
  have HV := hid hvg
  clear h ht hvg
  go_enter Try.func20, Try.ntmps20
  go_wp2_with fail
  refine CI.out.mono ?_
  rintro e w1 ⟨rfl, hw⟩
  rw [hw]
  clear hw CI
  have hs1 : ((w.setCell ⟨y, 1, none⟩ (.int .i64 ((md : Int) + 1))).alloc (.cells #[.int .i64 (md : Int), .int .i64 t, .int .u32 x] 59)).heap.size = w.heap.size + 1 := by simp [sz_set]
  have hb1 : ((w.setCell ⟨y, 1, none⟩ (.int .i64 ((md : Int) + 1))).alloc (.cells #[.int .i64 (md : Int), .int .i64 t, .int .u32 x] 59)).heap[w.heap.size]? = some (.cells #[.int .i64 (md : Int), .int .i64 t, .int .u32 x] 59 (0, 0)) := by
    have := heap_alloc_new (w.setCell ⟨y, 1, none⟩ (.int .i64 ((md : Int) + 1))) (.cells #[.int .i64 (md : Int), .int .i64 t, .int .u32 x] 59)
    rw [sz_set] at this
    exact this
  have HOW : Hid (((w.setCell ⟨y, 1, none⟩ (.int .i64 ((md : Int) + 1))).alloc (.cells #[.int .i64 (md : Int), .int .i64 t, .int .u32 x] 59)).ownsRow 0 59 3 (.slice pv n cv) n (flat l)) := hid (by
    have h1 := H.out.row
    rw [hn.out] at h1
    refine own3_keep h1 fun b hb => (heap_alloc_old _ _ (by rw [sz_set]; exact (own3_lt h1 b hb).2)).trans (bk_other (fun e => HV.out (by rw [e]; exact hb)) _ _)
    )
  have HT1 : Hid (((w.setCell ⟨y, 1, none⟩ (.int .i64 ((md : Int) + 1))).alloc (.cells #[.int .i64 (md : Int), .int .i64 t, .int .u32 x] 59)).heap[y]? = some (.cells #[.int .i64 tk, .int .i64 ((md : Int) + 1), .slice pv n cv] 40 (0, 0))) := hid (by
    have h1 := bk_set H.out.top 1 (.int .i64 ((md : Int) + 1))
    rw [hn.out] at h1
    exact (heap_alloc_old _ _ (by rw [sz_set]; exact hyl)).trans (by simpa using h1))
  have HE1 : Hid (Ex (rS y (.slice pv l.length cv)) w ((w.setCell ⟨y, 1, none⟩ (.int .i64 ((md : Int) + 1))).alloc (.cells #[.int .i64 (md : Int), .int .i64 t, .int .u32 x] 59))) := hid (((Ex.refl _ w).setCell (.inl rfl) _).alloc _)
  have HS1 := hid hs1
  have HB1 := hid hb1
  clear hs1 hb1
  go_wp2_with (at_builtin; refine wpList_append_tr rfl _ _ rfl 0 _ n _ rfl HOW.out ⟨w.heap.size, 0, none⟩ 1 1 [((md : Int), t, x)] rfl rfl (news_block HB1.out rfl) hroom (Nat.zero_le _) ?_)
  intro v0 w2 hown hgr hor
  obtain ⟨p', c', hv0⟩ := own3_slc hown
  subst hv0
  have hs2 : w.heap.size + 1 ≤ w2.heap.size := by have := hgr.size; rw [HS1.out] at this; exact this
  have htop2 := (hgr.block y (by rw [HS1.out]; omega) (Ne.symm HV.out)).trans HT1.out
  have d2 : w2.cell? ⟨y, 2, none⟩ = some (.slice pv n cv) := by rw [cell_of_row _ _ _ _ _ _ htop2]; rfl
  have g2 := free_of htop2 2
  have HT2 := hid htop2
  have HOWN := hid hown
  have HGR := hid hgr
  have HOR := hid hor
  clear htop2 hown hgr hor c0 c1 c2 f1
  go_wp2_with fail
  go_ret2
  have hvy : (Value.slice p' (n + 1) c').ownBlock ≠ some y := fun e => by
    rcases HOWN.out.2 with ⟨q, _⟩ | ⟨b, cap, cur, q, _, hw, _⟩
    · rw [q] at e; cases e
    · rw [q] at e
      cases e
      rw [HT2.out] at hw
      simp only [Option.some.injEq, Obj.cells.injEq] at hw
      exact absurd hw.2.1 (by decide)
  refine ⟨rfl, .slice p' (n + 1) c', ⟨?_, ?_⟩, ?_, ?_⟩
  · have := bk_set HT2.out 2 (.slice p' (n + 1) c')
    simpa using this
  · rw [flat_append, List.length_append, List.length_singleton, hn.out]
    exact own3_keep HOWN.out fun b hb => bk_other (fun e => hvy (by rw [e]; exact hb)) _ _
  · refine Ex.setCell ?_ (.inl rfl) _
    exact HE1.out.trans (Ex.grown (S := rS y (.slice pv l.length cv)) HGR.out (fun k hk => .inr (by rw [hn.out]; exact hk))) (fun _ q => .inl q)
  · rcases HOR.out with q | ⟨q, _⟩
    · exact .inl (by rw [hn.out]; exact q)
    · exact .inr ⟨_, q, by have := HS1.out; omega⟩
end
end Go.Proofs.Ytajdopmhdagehaa.Rc
