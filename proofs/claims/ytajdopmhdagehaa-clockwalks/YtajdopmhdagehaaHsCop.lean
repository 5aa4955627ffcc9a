/- copied: a heap of the same things in rows of its own. -/
import Derived.Test.YtajdopmhdagehaaHsDrain
set_option linter.unusedVariables false
set_option linter.unusedSimpArgs false
namespace Go.Proofs.Ytajdopmhdagehaa.Ds
open Go.Proofs.Ytajdopmhdagehaa
open Go Go.RowKit
section
variable {J : World → Prop} {U : Nat → Prop} {Dm : Pr → Prop} {fid : Nat} {fr : Array Value} {Ls : Pr → Pr → Bool → Prop} {ord : Prop} {key : Pr → Int}
variable {w : World} {g : Nat} {sf F : Value} {mp : Option Nat} {L : List (Rw Pr)} {nx : Nat} {lo : Int} {v : Value} {S : Nat → Prop}
/-- A row without its block. -/
def kr (r : Rw Pr) : Nat × Pr := (r.t, r.x)
theorem rat_kr {L L' : List (Rw Pr)} (h : L'.map kr = L.map kr) (i : Nat) : kr (rat L' i) = kr (rat L i) := by
  have hl : L'.length = L.length := by have := congrArg List.length h; simpa using this
  by_cases hi : i < L.length
  · have h1 : (L'.map kr)[i]? = (L.map kr)[i]? := by rw [h]
    rw [List.getElem?_map, List.getElem?_map, rat_some hi, rat_some (hl ▸ hi)] at h1
    simpa using h1
  · unfold rat
    rw [List.getD_eq_getElem?_getD, List.getD_eq_getElem?_getD, List.getElem?_eq_none (by omega), List.getElem?_eq_none (by omega)]
theorem hp_kr {L L' : List (Rw Pr)} (h : L'.map kr = L.map kr) (h0 : hp key L) : hp key L' := by
  have hl : L'.length = L.length := by have := congrArg List.length h; simpa using this
  intro i i0 hi
  have h1 := h0 i i0 (by omega)
  have e1 := rat_kr h i
  have e2 := rat_kr h (par i)
  unfold kr at e1 e2
  simp only [Prod.mk.injEq] at e1 e2
  unfold nl ahd at *
  rw [e1.1, e1.2, e2.1, e2.2]
  exact h1
theorem HHp.cpush (h : HHp w g sf F none L nx lo v S) {w' : World} {v' : Value} {r : Rw Pr} (ht : r.t < nx) (hnew : ∀ q ∈ L, q.t ≠ r.t) (hl : L.length < nx)
    (top : w'.heap[g]? = some (.cells #[sf, F, v', .map none, .int .i64 0, .int .i64 lo] 144 (0, 0)))
    (row : w'.ownsRow 0 146 1 v' (L.length + 1) ((L.map fun r => ptr r.b) ++ [ptr r.b]))
    (each : ∀ q ∈ L, w'.heap[q.b]? = w.heap[q.b]?) (new : HRow w' r L.length) (sz : w.heap.size ≤ w'.heap.size)
    (vb : ∀ b, v'.ownBlock = some b → S b ∨ (w.heap.size ≤ b ∧ b < w'.heap.size)) (rb : w.heap.size ≤ r.b) :
    HHp w' g sf F none (L ++ [r]) nx lo v' (fun k => S k ∨ (w.heap.size ≤ k ∧ k < w'.heap.size)) where
  top := by rw [top]; simp [nxc]
  row := by simpa using row
  each := fun i q hq => by
    by_cases hi : i < L.length
    · rw [List.getElem?_append_left hi] at hq
      exact (each q (List.mem_of_getElem? hq)).trans (h.each i q hq)
    · rw [List.getElem?_append_right (by omega)] at hq
      have hi0 : i - L.length = 0 := by
        rcases Nat.eq_zero_or_pos (i - L.length) with e | e
        · exact e
        · rw [List.getElem?_eq_none (by simp; omega)] at hq; cases hq
      rw [hi0] at hq
      simp at hq
      subst hq
      have : i = L.length := by omega
      rw [this]
      exact new
  held := fun k hk => by cases hk
  tk := fun q hq => by
    rcases List.mem_append.1 hq with z | z
    · exact h.tk q z
    · rw [List.mem_singleton.1 z]; exact ht
  one := by
    rw [List.map_append, List.nodup_append]
    refine ⟨h.one, by simp, fun a ha b hb => ?_⟩
    obtain ⟨q, hq, rfl⟩ := List.mem_map.1 ha
    simp at hb
    rw [hb]
    exact hnew q hq
  sg := .inl h.sg
  sr := vb
  se := fun q hq => by
    rcases List.mem_append.1 hq with z | z
    · exact .inl (h.se q z)
    · rw [List.mem_singleton.1 z]
      exact .inr ⟨rb, (Array.getElem?_eq_some_iff.1 new).1⟩
  lt := fun k hk => by
    rcases hk with z | z
    · have := h.lt k z; omega
    · exact z.2
  few := h.few
  len := by simp; omega
/-- The world of a round ahead of the append. -/
def cpW (w1 : World) (r : Rw Pr) (i : Nat) : World := (w1.alloc (.cells #[.int .i64 (r.t : Int), .int .i64 r.x.1, .int .i64 r.x.2.1, .string r.x.2.2, .int .i64 (i : Int)] 148)).alloc (.cells #[.pointer (some ⟨w1.heap.size, 0, none⟩)] 146)
theorem cp_size (w1 : World) (r : Rw Pr) (i : Nat) : (cpW w1 r i).heap.size = w1.heap.size + 2 := by
  show ((w1.heap.push _).push _).size = _
  rw [Array.size_push, Array.size_push]
theorem cp_old (w1 : World) (r : Rw Pr) (i : Nat) {k : Nat} (hk : k < w1.heap.size) : (cpW w1 r i).heap[k]? = w1.heap[k]? := by
  show ((w1.heap.push _).push _)[k]? = _
  rw [Array.getElem?_push, if_neg (by rw [Array.size_push]; omega), Array.getElem?_push, if_neg (by omega)]
theorem cp_row (w1 : World) (r : Rw Pr) (i : Nat) : (cpW w1 r i).heap[w1.heap.size]? = some (.cells #[.int .i64 (r.t : Int), .int .i64 r.x.1, .int .i64 r.x.2.1, .string r.x.2.2, .int .i64 (i : Int)] 148 (0, 0)) := by
  show ((w1.heap.push _).push _)[w1.heap.size]? = _
  rw [Array.getElem?_push, if_neg (by rw [Array.size_push]; omega), Array.getElem?_push, if_pos rfl]
theorem cp_lit (w1 : World) (r : Rw Pr) (i : Nat) : (cpW w1 r i).cell? ⟨w1.heap.size + 1, 0, none⟩ = some (ptr w1.heap.size) := by
  have : (cpW w1 r i).heap[w1.heap.size + 1]? = some (.cells #[.pointer (some ⟨w1.heap.size, 0, none⟩)] 146 (0, 0)) := by
    show ((w1.heap.push _).push _)[w1.heap.size + 1]? = _
    rw [Array.getElem?_push, if_pos (by rw [Array.size_push])]
  rw [cell_of_row _ _ _ _ _ _ this]
  rfl
/-- What copied has come to. -/
def CoQ (F : Value) (w : World) (L : List (Rw Pr)) (nx : Nat) (g' : Nat) (w' : World) : Prop :=
  ∃ L' v', HHp w' g' (.pointer none) F none L' nx (-1) v' (fun k => w.heap.size ≤ k ∧ k < w'.heap.size) ∧ Below w.heap.size w w' ∧ L'.map kr = L.map kr
theorem ch_hp (w : World) (F : Value) {nx : Nat} (hnx : nx < 1152921504606846976) (W : World) (hW : W = w.alloc (.cells #[.pointer none, F, .slice none 0 0, .map none, .int .i64 0, .int .i64 (-1)] 144)) : HHp W w.heap.size (.pointer none) F none [] nx (-1) (.slice none 0 0) (fun k => w.heap.size ≤ k ∧ k < W.heap.size) where
  top := by rw [hW]; exact heap_alloc_new w _
  row := ⟨rfl, .inl ⟨rfl, rfl⟩⟩
  each := fun i r h => by simp at h
  held := fun m hm => by cases hm
  tk := fun r h => by cases h
  one := by simp
  sg := ⟨Nat.le_refl _, by rw [hW]; simp⟩
  sr := fun b hb => by cases hb
  se := fun r h => by cases h
  lt := fun k h => h.2
  few := hnx
  len := by simp
set_option maxRecDepth 100000 in
set_option maxHeartbeats 8000000 in
theorem copied_ok (h : HHp w g sf (.func (.func fid) #[] fr) mp L nx (-1) v S) (hroom : L.length ≤ 17592186044416) :
    Calls Try.prog 85 #[ptr g] w fun e w' => ∃ g', e = .returned (ptr g') ∧ CoQ (.func (.func fid) #[] fr) w L nx g' w' := by
  have c1 := h.cg.2.1
  have c2 := h.cg.2.2.1
  have c5 := h.cg.2.2.2.2.2
  have lg := h.lt g h.sg
  have H0 := hid h
  obtain ⟨pp, cc, hv⟩ := own_slc h.row
  subst hv
  have hlen := h.len
  have hfew := h.few
  obtain ⟨n, HN⟩ : ∃ n, Hid (L.length = n) := ⟨_, rfl⟩
  rw [HN.out] at c2 hroom hlen
  have HC0 := hid (ch_hp w (.func (.func fid) #[] fr) hfew _ rfl)
  clear h hfew
  go_enter Try.func85, Try.ntmps85
  go_wp2_with fail
  go_region
  go_wp2_with fail
  have HC1 : Hid (HHp (w.alloc (.cells #[.pointer none, .func (.func fid) #[] fr, .slice none 0 0, .map none, .int .i64 0, .int .i64 (-1)] 144)).drew w.heap.size (.pointer none) (.func (.func fid) #[] fr) none [] nx (-1) (.slice none 0 0) (fun k => w.heap.size ≤ k ∧ k < (w.alloc (.cells #[.pointer none, .func (.func fid) #[] fr, .slice none 0 0, .map none, .int .i64 0, .int .i64 (-1)] 144)).drew.heap.size)) := hid (HC0.out.of fun _ _ => rfl)
  have HB1 : Hid (Below w.heap.size w (w.alloc (.cells #[.pointer none, .func (.func fid) #[] fr, .slice none 0 0, .map none, .int .i64 0, .int .i64 (-1)] 144)).drew) := hid (((Below.refl _ _).alloc (Nat.le_refl _) _).trans ((Dr.one _ 1).below _))
  go_loopw [22] (fun vi wr => ∃ (i : Nat) (L' : List (Rw Pr)) (v' : Value), vi = .int .i64 (i : Int) ∧ i ≤ n ∧ Hid (HHp wr w.heap.size (.pointer none) (.func (.func fid) #[] fr) none L' nx (-1) v' (fun k => w.heap.size ≤ k ∧ k < wr.heap.size)) ∧ Hid (Below w.heap.size w wr) ∧ Hid (L'.map kr = (L.take i).map kr)) (fun vi _ => n - (intOf vi).toNat)
  case atStart => exact ⟨0, [], _, rfl, Nat.zero_le _, HC1, HB1, hid (by simp)⟩
  case round =>
    clear HC0 HC1 HB1
    obtain ⟨i, L', v', rfl, hi, HC, HB, HKR⟩ := hrel
    by_cases hlt : i < n
    · have hlt' : (i : Int) < (n : Int) := by omega
      have hiL : i < L.length := by rw [HN.out]; exact hlt
      obtain ⟨b, cap, cur, hv0, hb0, -, -, -, -, hcu⟩ := H0.out.slc (by omega)
      have hr0 : w.cell? ⟨b, i, none⟩ = some (ptr (rat L i).b) := by rw [cell_of_row _ _ _ _ _ _ hb0]; exact hcu i hiL
      have hrc : wr.cell? ⟨b, i, none⟩ = some (ptr (rat L i).b) := (HB.out.cell (World.block_lt_of_cell? w _ hr0)).trans hr0
      have hrow := H0.out.each i _ (rat_some hiL)
      have hroww : HRow wr (rat L i) i := (HB.out.block _ (Array.getElem?_eq_some_iff.1 hrow).1).trans hrow
      have HTK := hid (H0.out.tk _ (rat_mem hiL))
      have HNEW : Hid (∀ q ∈ L', q.t ≠ (rat L i).t) := hid fun q hq => by
        have h1 : kr q ∈ (L.take i).map kr := by rw [← HKR.out]; exact List.mem_map.2 ⟨q, hq, rfl⟩
        obtain ⟨p, hp, ep⟩ := List.mem_map.1 h1
        obtain ⟨j, hj⟩ := List.mem_iff_getElem?.1 hp
        rw [List.getElem?_take] at hj
        split at hj
        · rename_i hji
          have h2 := H0.out.tne (i := j) (j := i) (by omega) hiL (by omega)
          rw [rat_eq hj] at h2
          unfold kr at ep
          simp only [Prod.mk.injEq] at ep
          rw [← ep.1]
          exact h2
        · cases hj
      have HTAKE : Hid ((L.take (i + 1)).map kr = (L.take i).map kr ++ [kr (rat L i)]) := hid (by rw [List.take_add_one, rat_some hiL]; simp)
      have hl' : L'.length = i := by
        have := congrArg List.length HKR.out
        simp at this
        omega
      simp only [Value.slice.injEq] at hv0
      obtain ⟨rfl, -, -⟩ := hv0
      obtain ⟨r, HR⟩ : ∃ r, Hid (rat L i = r) := ⟨_, rfl⟩
      rw [HR.out] at hrc hroww HTK HNEW HTAKE
      obtain ⟨q0, ⟨q1, q2, q3⟩, q9⟩ := hroww.c
      have d2 := HC.out.cg.2.2.1
      have HK := hid HC.out.kinds
      have g2 := free_of HC.out.top 2
      have lG := HC.out.lt _ HC.out.sg
      have lrb := (Array.getElem?_eq_some_iff.1 hroww).1
      have how : (cpW wr r i).ownsRow 0 146 1 v' L'.length (L'.map fun r => ptr r.b) := by
        refine ⟨HC.out.row.1, ?_⟩
        rcases HC.out.row.2 with q | ⟨b', cap', cur', hv, hb, hw, q⟩
        · exact .inl q
        · exact .inr ⟨b', cap', cur', hv, hb, (cp_old _ _ _ (HC.out.lt b' (HC.out.sr b' (by rw [hv]; rfl)))).trans hw, q⟩
      obtain ⟨p1, cc1, hv1⟩ := own_slc HC.out.row
      subst hv1
      rw [hl'] at d2 how
      have HOW := hid how
      clear how hrow hr0 hb0 hcu hroww
      go_wp2_with (at_builtin; refine wpList_append_prow (w := cpW wr r i) rfl _ _ rfl 0 _ i _ rfl HOW.out ⟨wr.heap.size + 1, 0, none⟩ 1 wr.heap.size rfl (cp_lit _ _ _) ?q1 (Nat.zero_le _) ?_)
      case q1 => omega
      intro v0 w2 hown hgr hor
      obtain ⟨p', c', hv0⟩ := own_slc hown
      subst hv0
      have hsz2 : wr.heap.size + 2 ≤ w2.heap.size := by have := hgr.size; rw [cp_size] at this; exact this
      have hvG : (Value.slice p1 i cc1).ownBlock ≠ some w.heap.size := fun e => (HK.out.2.1 _ (by rw [hl']; exact e)).1 rfl
      have htop2 := (hgr.block w.heap.size (by rw [cp_size]; omega) (Ne.symm hvG)).trans ((cp_old wr r i lG).trans HC.out.top)
      have e2 : w2.cell? ⟨w.heap.size, 2, none⟩ = some (.slice p1 i cc1) := by rw [cell_of_row _ _ _ _ _ _ htop2, hl']; rfl
      have f2 := free_of htop2 2
      have HOWN := hid hown
      have HGR := hid hgr
      have HOR := hid hor
      have HT2 := hid htop2
      clear hown hgr hor htop2 d2 g2 HOW
      go_wp2_with fail
      have hw3 : (w2.setCell ⟨w.heap.size, 2, none⟩ (.slice p' (i + 1) c')).heap[w.heap.size]? = some (.cells #[.pointer none, .func (.func fid) #[] fr, .slice p' (i + 1) c', .map none, .int .i64 0, .int .i64 (-1)] 144 (0, 0)) := by
        have := bk_set HT2.out 2 (.slice p' (i + 1) c')
        simpa [nxc] using this
      have hvr : ∀ b, (Value.slice p1 i cc1).ownBlock = some b → b < wr.heap.size := fun b hb => HC.out.lt b (HC.out.sr b (by rw [hl']; exact hb))
      have hr3 : (w2.setCell ⟨w.heap.size, 2, none⟩ (.slice p' (i + 1) c')).heap[wr.heap.size]? = some (.cells #[.int .i64 (r.t : Int), .int .i64 r.x.1, .int .i64 r.x.2.1, .string r.x.2.2, .int .i64 (i : Int)] 148 (0, 0)) := by
        rw [bk_other (by omega), HGR.out.block _ (by rw [cp_size]; omega) (fun e => ?_), cp_row]
        have := hvr _ e.symm
        omega
      have hold : ∀ k, k < wr.heap.size → k ≠ w.heap.size → some k ≠ (Value.slice p1 i cc1).ownBlock → (w2.setCell ⟨w.heap.size, 2, none⟩ (.slice p' (i + 1) c')).heap[k]? = wr.heap[k]? := fun k hk hkg hkv => by
        rw [bk_other (Ne.symm hkg), HGR.out.block _ (by rw [cp_size]; omega) hkv, cp_old _ _ _ hk]
      have hsz3 : (w2.setCell ⟨w.heap.size, 2, none⟩ (.slice p' (i + 1) c')).heap.size = w2.heap.size := sz_set _ _ _ _
      have hown3 : (w2.setCell ⟨w.heap.size, 2, none⟩ (.slice p' (i + 1) c')).ownsRow 0 146 1 (.slice p' (i + 1) c') (i + 1) ((L'.map fun r => ptr r.b) ++ [ptr wr.heap.size]) := by
        refine ⟨HOWN.out.1, ?_⟩
        rcases HOWN.out.2 with q | ⟨b', cap', cur', hv, hb, hw, q⟩
        · exact .inl q
        · refine .inr ⟨b', cap', cur', hv, hb, ?_, q⟩
          rw [bk_other (fun e => ?_)]
          · exact hw
          · rw [← e, HT2.out] at hw
            simp only [Option.some.injEq, Obj.cells.injEq] at hw
            exact absurd hw.2.1 (by decide)
      have hb3 : Below w.heap.size w (w2.setCell ⟨w.heap.size, 2, none⟩ (.slice p' (i + 1) c')) := by
        have h1 : Below w.heap.size wr (cpW wr r i) := ⟨rfl, rfl, rfl, by rw [cp_size]; omega, fun k hk => cp_old _ _ _ (by have := HB.out.size; omega)⟩
        refine ((HB.out.trans h1).grown HGR.out (by rw [cp_size]; have := HB.out.size; omega) (fun k e => ?_)).setCell (Nat.le_refl _) _
        have := HC.out.sr k (by rw [hl']; exact e)
        exact this.1
      have HP := HC.out.cpush (w' := w2.setCell ⟨w.heap.size, 2, none⟩ (.slice p' (i + 1) c')) (r := ⟨wr.heap.size, r.t, r.x⟩) HTK.out HNEW.out (by omega) hw3 (by rw [hl']; exact hown3) (fun q hq => ?e1) (by rw [hl']; exact hr3) (by rw [hsz3]; omega) (fun b' hb' => ?e2) (Nat.le_refl _)
      case e1 => exact hold q.b (HC.out.lt _ (HC.out.se q hq)) (HK.out.1 q hq) (fun e => (HK.out.2.1 q.b (by rw [hl']; exact e.symm)).2 q hq rfl)
      case e2 =>
        rcases HOR.out with q | ⟨q, _⟩
        · rw [q] at hb'
          exact .inl (HC.out.sr b' (by rw [hl']; exact hb'))
        · rw [q, cp_size] at hb'
          cases hb'
          refine .inr ⟨by omega, ?_⟩
          rw [hsz3]
          rcases HOWN.out.2 with ⟨z, _⟩ | ⟨b'', cap', cur', hv, _, hw, _⟩
          · rw [z] at q; cases q
          · rw [hv] at q
            simp only [Value.ownBlock, Option.some.injEq, cp_size] at q
            rw [← q]
            exact (Array.getElem?_eq_some_iff.1 hw).1
      have eS : (fun k => (fun k => w.heap.size ≤ k ∧ k < wr.heap.size) k ∨ (wr.heap.size ≤ k ∧ k < (w2.setCell ⟨w.heap.size, 2, none⟩ (.slice p' (i + 1) c')).heap.size)) = (fun k => w.heap.size ≤ k ∧ k < (w2.setCell ⟨w.heap.size, 2, none⟩ (.slice p' (i + 1) c')).heap.size) := by
        funext k
        apply propext
        have z1 := HB.out.size
        rw [hsz3]
        constructor
        · rintro (z | z)
          · exact ⟨z.1, by have := z.2; omega⟩
          · exact ⟨by have := z.1; omega, z.2⟩
        · intro z
          by_cases hk : k < wr.heap.size
          · exact .inl ⟨z.1, hk⟩
          · exact .inr ⟨by omega, z.2⟩
      rw [eS] at HP
      exact ⟨⟨i + 1, _, _, by go_num, by omega, hid HP, hid hb3, hid (by rw [HTAKE.out, List.map_append, HKR.out]; rfl)⟩, by simp [intOf]; omega⟩
    · have hin : i = n := by omega
      have hge : ¬ (i : Int) < (n : Int) := by omega
      go_wp2_with fail
      go_ret
      refine ⟨_, rfl, L', v', HC.out, HB.out, ?_⟩
      rw [HKR.out, List.take_of_length_le (by rw [HN.out]; omega)]
end
end Go.Proofs.Ytajdopmhdagehaa.Ds
