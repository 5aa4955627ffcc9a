/- New, made, ready, Push, Len of a heap. -/
import Derived.Test.YtajdopmhdagehaaHsTake
import Derived.Test.YtajdopmhdagehaaHsApp
import Derived.LaidEqlPtr
set_option linter.unusedVariables false
set_option linter.unusedSimpArgs false
namespace Go.Proofs.Ytajdopmhdagehaa.Ds
open Go.Proofs.Ytajdopmhdagehaa
open Go Go.RowKit
section
variable {J : World → Prop} {U : Nat → Prop} {Dm : Pr → Prop} {fid : Nat} {fr : Array Value} {Ls : Pr → Pr → Bool → Prop} {ord : Prop} {key : Pr → Int}
variable {w : World} {g : Nat} {sf F : Value} {mp : Option Nat} {L : List (Rw Pr)} {nx : Nat} {lo : Int} {v : Value} {S : Nat → Prop}
theorem HHp.pushed (h : HHp w g sf F mp L nx lo v S) {m : Nat} (hmp : mp = some m) {w' : World} {v' : Value} {x : Pr} {r : Rw Pr} (ht : r.t = nx)
    (top : w'.heap[g]? = some (.cells #[sf, F, v', .map mp, .int .i64 ((nx : Int) + 1), .int .i64 lo] 144 (0, 0)))
    (row : w'.ownsRow 0 146 1 v' (L.length + 1) ((L.map fun r => ptr r.b) ++ [ptr r.b]))
    (each : ∀ q ∈ L, w'.heap[q.b]? = w.heap[q.b]?) (new : HRow w' r L.length) (hm : HMr w' m (L ++ [r])) (sz : w.heap.size ≤ w'.heap.size)
    (vb : ∀ b, v'.ownBlock = some b → S b ∨ (w.heap.size ≤ b ∧ b < w'.heap.size)) (rb : w.heap.size ≤ r.b) (few : nx + 1 < 1152921504606846976) :
    HHp w' g sf F mp (L ++ [r]) (nx + 1) lo v' (fun k => S k ∨ (w.heap.size ≤ k ∧ k < w'.heap.size)) where
  top := by subst hmp; rw [top]; simp [nxc]
  row := by simpa using row
  each := fun i q hq => by
    by_cases hi : i < L.length
    · rw [List.getElem?_append_left hi] at hq
      exact (each q (List.mem_of_getElem? hq)).trans (h.each i q hq)
    · rw [List.getElem?_append_right (by omega)] at hq
      have hi0 : i - L.length = 0 := by
        rcases Nat.eq_zero_or_pos (i - L.length) with e | e
        · exact e
        · rw [List.getElem?_eq_none (by simp; omega)] at hq; cases hq
      rw [hi0] at hq
      simp at hq
      subst hq
      have : i = L.length := by omega
      rw [this]
      exact new
  held := fun k hk => by
    rw [hmp] at hk
    cases hk
    exact ⟨hm, .inl (h.held m hmp).2⟩
  tk := fun q hq => by
    rcases List.mem_append.1 hq with z | z
    · have := h.tk q z; omega
    · rw [List.mem_singleton.1 z, ht]; omega
  one := by
    rw [List.map_append, List.nodup_append]
    refine ⟨h.one, by simp, fun a ha b hb => ?_⟩
    obtain ⟨q, hq, rfl⟩ := List.mem_map.1 ha
    simp at hb
    have := h.tk q hq
    omega
  sg := .inl h.sg
  sr := vb
  se := fun q hq => by
    rcases List.mem_append.1 hq with z | z
    · exact .inl (h.se q z)
    · rw [List.mem_singleton.1 z]
      exact .inr ⟨rb, (Array.getElem?_eq_some_iff.1 new).1⟩
  lt := fun k hk => by
    rcases hk with z | z
    · have := h.lt k z; omega
    · exact z.2
  few := few
  len := by have := h.len; simp; omega
theorem info_hp : ∃ j, Try.prog.info? 144 = some j := Option.isSome_iff_exists.1 (by kernel_rfl)
theorem eq_hp (a : Addr) (w : World) : (binOp .eql 105 (.pointer (some a)) (.pointer (some a))).run Try.prog w = .ok (.bool true) w := by
  obtain ⟨j, hj⟩ := info_hp
  exact run_eql_ptr_same w a Try.underlying105 hj
theorem eq_hp0 (a : Addr) (w : World) : (binOp .eql 105 (.pointer none) (.pointer (some a))).run Try.prog w = .ok (.bool false) w := by
  have h : ∀ d : Nat, (Op.equalIn (d + 1) 105 (.pointer none) (.pointer (some a))).run Try.prog w = .ok false w := fun d => by simp [Op.equalIn, run_underlying Try.underlying105]
  simp only [binOp]
  simp [Op.equal, Op.maxDepth, h 9999]
set_option maxRecDepth 100000 in
theorem made_ok (h : HHp w g (ptr g) F mp L nx lo v S) : Calls Try.prog 82 #[ptr g] w fun e w' => e = .returned (.bool true) ∧ w' = w := by
  have c0 := h.cg.1
  have he := eq_hp
  clear h
  go_enter Try.func82, Try.ntmps82
  go_wp2
  go_ret
  exact ⟨rfl, rfl⟩
set_option maxRecDepth 100000 in
theorem made_nil (w : World) : Calls Try.prog 82 #[.pointer none] w fun e w' => e = .returned (.bool false) ∧ w' = w := by
  go_enter Try.func82, Try.ntmps82
  go_wp2
  go_ret
  exact ⟨rfl, rfl⟩
set_option maxRecDepth 100000 in
theorem made_zero (c0 : w.cell? ⟨g, 0, none⟩ = some (.pointer none)) : Calls Try.prog 82 #[ptr g] w fun e w' => e = .returned (.bool false) ∧ w' = w := by
  have he := eq_hp0
  go_enter Try.func82, Try.ntmps82
  go_wp2
  go_ret
  exact ⟨rfl, rfl⟩
set_option maxRecDepth 100000 in
theorem ready_none (a : Value) (w : World) (C : Calls Try.prog 82 #[a] w fun e w' => e = .returned (.bool false) ∧ w' = w) : Calls Try.prog 83 #[a] w fun e w' => e = .returned (.bool false) ∧ w' = w := by
  have CC := hid C
  clear C
  go_enter Try.func83, Try.ntmps83
  go_wp2_with fail
  refine CC.out.mono ?_
  rintro e w1 ⟨rfl, hw⟩
  rw [hw]
  clear hw
  go_wp2_with fail
  go_ret
  exact ⟨rfl, rfl⟩
set_option maxRecDepth 100000 in
set_option maxHeartbeats 4000000 in
theorem ready_ok (O : Orc fid fr J U Dm Ls) (h : Lv J U Dm fid fr w g (ptr g) mp L nx (-1) v S) : Calls Try.prog 83 #[ptr g] w fun e w' => e = .returned (.bool true) ∧ Lv J U Dm fid fr w' g (ptr g) mp L nx (-1) v S ∧ Ex S w w' := by
  have CM := hid (made_ok h.hp)
  have CS := hid (settle_none O h)
  have c5 := h.hp.cg.2.2.2.2.2
  clear h
  go_enter Try.func83, Try.ntmps83
  go_wp2_with fail
  refine CM.out.mono ?_
  rintro e w1 ⟨rfl, hw⟩
  rw [hw]
  clear hw
  go_wp2_with fail
  refine CS.out.mono ?_
  rintro e w2 ⟨rfl, h2, he2⟩
  have H2 := hid h2
  have HE2 := hid he2
  clear h2 he2
  go_wp2_with fail
  go_ret
  exact ⟨rfl, H2.out, HE2.out⟩
set_option maxRecDepth 100000 in
set_option maxHeartbeats 4000000 in
theorem len_ok (h : HHp w g (ptr g) F mp L nx lo v S) : Calls Try.prog 51 #[ptr g] w fun e w' => e = .returned (.int .i64 (L.length : Int)) ∧ w' = w := by
  have CM := hid (made_ok h)
  have c2 := h.cg.2.2.1
  obtain ⟨p, c, hv⟩ := own_slc h.row
  rw [hv] at c2
  clear h
  obtain ⟨n, hn⟩ : ∃ n, Hid (L.length = n) := ⟨_, rfl⟩
  rw [hn.out] at c2
  rw [hn.out]
  go_enter Try.func51, Try.ntmps51
  go_wp2_with fail
  refine CM.out.mono ?_
  rintro e w1 ⟨rfl, hw⟩
  rw [hw]
  clear hw
  go_wp2_with fail
  go_ret
  exact ⟨rfl, rfl⟩
/-- The world ahead of the append. -/
def pshW (w1 : World) (g nx : Nat) (x : Pr) (n : Nat) : World := (((w1.setCell ⟨g, 4, none⟩ (.int .i64 ((nx : Int) + 1))).alloc (.cells #[.int .i64 (nx : Int), .int .i64 x.1, .int .i64 x.2.1, .string x.2.2, .int .i64 (n : Int)] 148)).alloc (.cells #[.pointer (some ⟨w1.heap.size, 0, none⟩)] 146)).drew
theorem psh_size (w1 : World) (g nx : Nat) (x : Pr) (n : Nat) : (pshW w1 g nx x n).heap.size = w1.heap.size + 2 := by
  show (((w1.setCell ⟨g, 4, none⟩ (.int .i64 ((nx : Int) + 1))).heap.push _).push _).size = _
  rw [Array.size_push, Array.size_push, sz_set]
theorem psh_old (w1 : World) (g nx : Nat) (x : Pr) (n : Nat) {k : Nat} (hk : k < w1.heap.size) : (pshW w1 g nx x n).heap[k]? = (w1.setCell ⟨g, 4, none⟩ (.int .i64 ((nx : Int) + 1))).heap[k]? := by
  show (((w1.setCell ⟨g, 4, none⟩ (.int .i64 ((nx : Int) + 1))).heap.push _).push _)[k]? = _
  rw [Array.getElem?_push, if_neg (by rw [Array.size_push, sz_set]; omega), Array.getElem?_push, if_neg (by rw [sz_set]; omega)]
theorem psh_row (w1 : World) (g nx : Nat) (x : Pr) (n : Nat) : (pshW w1 g nx x n).heap[w1.heap.size]? = some (.cells #[.int .i64 (nx : Int), .int .i64 x.1, .int .i64 x.2.1, .string x.2.2, .int .i64 (n : Int)] 148 (0, 0)) := by
  show (((w1.setCell ⟨g, 4, none⟩ (.int .i64 ((nx : Int) + 1))).heap.push _).push _)[w1.heap.size]? = _
  rw [Array.getElem?_push, if_neg (by rw [Array.size_push, sz_set]; omega), Array.getElem?_push, if_pos (by rw [sz_set])]
theorem psh_lit (w1 : World) (g nx : Nat) (x : Pr) (n : Nat) : (pshW w1 g nx x n).cell? ⟨w1.heap.size + 1, 0, none⟩ = some (ptr w1.heap.size) := by
  have : (pshW w1 g nx x n).heap[w1.heap.size + 1]? = some (.cells #[.pointer (some ⟨w1.heap.size, 0, none⟩)] 146 (0, 0)) := by
    show (((w1.setCell ⟨g, 4, none⟩ (.int .i64 ((nx : Int) + 1))).heap.push _).push _)[w1.heap.size + 1]? = _
    rw [Array.getElem?_push, if_pos (by rw [Array.size_push, sz_set])]
  rw [cell_of_row _ _ _ _ _ _ this]
  rfl
/-- What Push has come to. -/
def PuQ (ord : Prop) (key : Pr → Int) (J : World → Prop) (U : Nat → Prop) (Dm : Pr → Prop) (fid : Nat) (fr : Array Value) (w : World) (g : Nat) (mp : Option Nat) (L : List (Rw Pr)) (nx : Nat) (x : Pr) (S : Nat → Prop) (w' : World) : Prop :=
  ∃ L' v' S' b, Lv J U Dm fid fr w' g (ptr g) mp L' (nx + 1) (-1) v' S' ∧ Ex (SU S U) w w' ∧ L'.Perm (⟨b, nx, x⟩ :: L) ∧ (ord → hp key L → hp key L') ∧ ∀ k, S' k → S k ∨ w.heap.size ≤ k
set_option maxRecDepth 100000 in
set_option maxHeartbeats 4000000 in
theorem push_ok (O : Orc fid fr J U Dm Ls) (hO : Ord ord key Ls) (h : Lv J U Dm fid fr w g (ptr g) mp L nx (-1) v S) {m : Nat} (hmp : mp = some m) (x : Pr) (hx : Dm x) (hroom : nx < 17592186044416) :
    Calls Try.prog 53 #[ptr g, .agg #[.int .i64 x.1, .int .i64 x.2.1, .string x.2.2]] w fun e w' => e = .returned (.tuple #[.int .i64 (nx : Int), .int .i64 0]) ∧ PuQ ord key J U Dm fid fr w g mp L nx x S w' := by
  have h0 : Lv J U Dm fid fr (w.alloc (.cells #[.int .i64 x.1, .int .i64 x.2.1, .string x.2.2] 56)) g (ptr g) mp L nx (-1) v S :=
    ⟨h.hp.of (fun k hk => heap_alloc_old w _ (h.hp.lt k hk)), O.stay _ _ h.j (fun k hk => heap_alloc_old w _ (O.lt _ h.j k hk)), h.ap, h.dm⟩
  have CR := hid (ready_ok O h0)
  have HSX : Hid (¬ S w.heap.size) := hid fun q => by have := h.hp.lt _ q; omega
  have hSx : (w.alloc (.cells #[.int .i64 x.1, .int .i64 x.2.1, .string x.2.2] 56)).heap[w.heap.size]? = some (.cells #[.int .i64 x.1, .int .i64 x.2.1, .string x.2.2] 56 (0, 0)) := heap_alloc_new w _
  have EX0 : Hid (Ex S w (w.alloc (.cells #[.int .i64 x.1, .int .i64 x.2.1, .string x.2.2] 56))) := hid ((Ex.refl S w).alloc _)
  have HSX2 := hid hSx
  clear h h0 hSx
  have HX := hid hx
  clear hx
  subst hmp
  go_enter Try.func53, Try.ntmps53
  go_wp2_with fail
  refine CR.out.mono ?_
  rintro e w1 ⟨rfl, h1, he1⟩
  have H1 := hid h1
  have hbx := (he1.block w.heap.size ((Array.getElem?_eq_some_iff.1 HSX2.out).1) HSX.out).trans HSX2.out
  have x0 : w1.cell? ⟨w.heap.size, 0, none⟩ = some (.int .i64 x.1) := by rw [cell_of_row _ _ _ _ _ _ hbx]; rfl
  have x1 : w1.cell? ⟨w.heap.size, 1, none⟩ = some (.int .i64 x.2.1) := by rw [cell_of_row _ _ _ _ _ _ hbx]; rfl
  have x2 : w1.cell? ⟨w.heap.size, 2, none⟩ = some (.string x.2.2) := by rw [cell_of_row _ _ _ _ _ _ hbx]; rfl
  have HE1 : Hid (Ex S w w1) := hid (EX0.out.trans he1 (fun _ q => .inl q))
  clear hbx HSX HSX2 EX0
  have c2 := h1.hp.cg.2.2.1
  have c4 : w1.cell? ⟨g, 4, none⟩ = some (.int .i64 (nx : Int)) := h1.hp.cg.2.2.2.2.1
  have f4 := free_of h1.hp.top 4
  have lg := h1.hp.lt g h1.hp.sg
  have HK := hid h1.hp.kinds
  have hln := h1.hp.len
  have how : (pshW w1 g nx x L.length).ownsRow 0 146 1 v L.length (L.map fun r => ptr r.b) := by
    refine ⟨h1.hp.row.1, ?_⟩
    rcases h1.hp.row.2 with q | ⟨b, cap, cur, hv, hb, hw, q⟩
    · exact .inl q
    · refine .inr ⟨b, cap, cur, hv, hb, ?_, q⟩
      have hob : v.ownBlock = some b := by rw [hv]; rfl
      rw [psh_old _ _ _ _ _ (h1.hp.lt b (h1.hp.sr b hob)), bk_other (Ne.symm (HK.out.2.1 b hob).1)]
      exact hw
  have HOW := hid how
  have htop := bk_set h1.hp.top 4 (.int .i64 ((nx : Int) + 1))
  rw [← psh_old w1 g nx x L.length lg] at htop
  have HTOP := hid htop
  clear how htop
  obtain ⟨pp, cc, hv⟩ := own_slc h1.hp.row
  subst hv
  obtain ⟨n, hn⟩ : ∃ n, Hid (L.length = n) := ⟨_, rfl⟩
  rw [hn.out] at c2 hln HOW HTOP
  clear h1 he1 CR
  go_wp2_with fail
  go_region
  go_wp2_with (at_builtin; refine wpList_append_prow (w := pshW w1 g nx x n) rfl _ _ rfl 0 _ n _ rfl HOW.out ⟨w1.heap.size + 1, 0, none⟩ 1 w1.heap.size rfl (psh_lit _ _ _ _ _) ?q1 (Nat.zero_le _) ?_)
  case q1 => omega
  intro v0 w2 hown hgr hor
  obtain ⟨p', c', hv0⟩ := own_slc hown
  subst hv0
  have lt2 : w1.heap.size + 2 ≤ w2.heap.size := by have := hgr.size; rw [psh_size] at this; exact this
  have hvg : (Value.slice pp n cc).ownBlock ≠ some g := fun e => by
    have := (HK.out.2.1 g (by rw [hn.out]; exact e)).1
    exact this rfl
  have htop2 := (hgr.block g (by rw [psh_size]; omega) (Ne.symm hvg)).trans HTOP.out
  have d2 : w2.cell? ⟨g, 2, none⟩ = some (.slice pp n cc) := by rw [cell_of_row _ _ _ _ _ _ htop2]; rfl
  have g2 := free_of htop2 2
  have HOWN := hid hown
  have HGR := hid hgr
  have HOR := hid hor
  have HT2 := hid htop2
  clear hown hgr hor htop2 c2 c4 f4 HOW
  go_wp2_with fail
  -- behind the store of the new slice
  have hw3 : (w2.setCell ⟨g, 2, none⟩ (.slice p' (n + 1) c')).heap[g]? = some (.cells #[ptr g, .func (.func fid) #[] fr, (.slice p' (n + 1) c'), .map (some m), .int .i64 ((nx : Int) + 1), .int .i64 (-1)] 144 (0, 0)) := by
    have := bk_set HT2.out 2 (.slice p' (n + 1) c')
    simpa using this
  have hr3 : (w2.setCell ⟨g, 2, none⟩ (.slice p' (n + 1) c')).heap[w1.heap.size]? = some (.cells #[.int .i64 (nx : Int), .int .i64 x.1, .int .i64 x.2.1, .string x.2.2, .int .i64 (n : Int)] 148 (0, 0)) := by
    rw [bk_other (by omega), HGR.out.block _ (by rw [psh_size]; omega) (fun e => ?_), psh_row]
    have := H1.out.hp.lt _ (H1.out.hp.sr _ (by rw [hn.out]; exact e.symm))
    omega
  have hold : ∀ k, k < w1.heap.size → k ≠ g → some k ≠ (Value.slice pp n cc).ownBlock → (w2.setCell ⟨g, 2, none⟩ (.slice p' (n + 1) c')).heap[k]? = w1.heap[k]? := fun k hk hkg hkv => by
    rw [bk_other (Ne.symm hkg), HGR.out.block _ (by rw [psh_size]; omega) hkv, psh_old _ _ _ _ _ hk, bk_other (Ne.symm hkg)]
  have hm3 : HMr (w2.setCell ⟨g, 2, none⟩ (.slice p' (n + 1) c')) m L := by
    obtain ⟨z1, z2, z3⟩ := HK.out.2.2 m rfl
    rw [hn.out] at z3
    exact (H1.out.hp.held m rfl).1.of (hold m (H1.out.hp.lt m (H1.out.hp.held m rfl).2) z1 (Ne.symm z3))
  have hsz3 : (w2.setCell ⟨g, 2, none⟩ (.slice p' (n + 1) c')).heap.size = w2.heap.size := sz_set _ _ _ _
  have hown3 : (w2.setCell ⟨g, 2, none⟩ (.slice p' (n + 1) c')).ownsRow 0 146 1 (.slice p' (n + 1) c') (n + 1) ((L.map fun r => ptr r.b) ++ [ptr w1.heap.size]) := by
    refine ⟨HOWN.out.1, ?_⟩
    rcases HOWN.out.2 with q | ⟨b, cap, cur, hv, hb, hw, q⟩
    · exact .inl q
    · refine .inr ⟨b, cap, cur, hv, hb, ?_, q⟩
      rw [bk_other (fun e => ?_)]
      · exact hw
      · rw [← e, HT2.out] at hw
        simp only [Option.some.injEq, Obj.cells.injEq] at hw
        exact absurd hw.2.1 (by decide)
  have hex3 : Ex S w1 (w2.setCell ⟨g, 2, none⟩ (.slice p' (n + 1) c')) := by
    refine ⟨HGR.out.os, HGR.out.tape, HGR.out.output, by rw [hsz3]; omega, fun k hk hnS => hold k hk (fun e => hnS (e ▸ H1.out.hp.sg)) (fun e => hnS (H1.out.hp.sr k (by rw [hn.out]; exact e.symm)))⟩
  obtain ⟨w3, HW3⟩ : ∃ w3, Hid (w2.setCell ⟨g, 2, none⟩ (.slice p' (n + 1) c') = w3) := ⟨_, rfl⟩
  rw [HW3.out] at hw3 hr3 hold hm3 hsz3 hown3 hex3
  rw [HW3.out]
  clear HW3
  have e3 : w3.cell? ⟨g, 3, none⟩ = some (.map (some m)) := by rw [cell_of_row _ _ _ _ _ _ hw3]; rfl
  have e0 : w3.cell? ⟨w1.heap.size, 0, none⟩ = some (.int .i64 (nx : Int)) := by rw [cell_of_row _ _ _ _ _ _ hr3]; rfl
  obtain ⟨w4, y1, y2, y3, y4⟩ := run_store_new (w := w3.drew) (r := ⟨w1.heap.size, nx, x⟩) (hm3.of rfl) (fun q hq e => by have := H1.out.hp.tk q hq; simp at e; omega)
  have hm3l := hm3.lt
  have hmg : m ≠ g := (HK.out.2.2 m rfl).1
  have hms := (H1.out.hp.held m rfl).2
  have hmr : m ≠ w1.heap.size := by have := H1.out.hp.lt m hms; omega
  have hr4 : w4.heap[w1.heap.size]? = some (.cells #[.int .i64 (nx : Int), .int .i64 x.1, .int .i64 x.2.1, .string x.2.2, .int .i64 (n : Int)] 148 (0, 0)) := (y3.block w1.heap.size ((Array.getElem?_eq_some_iff.1 hr3).1) (fun e => hmr (by cases e; rfl))).trans hr3
  have hw4 := (y3.block g ((Array.getElem?_eq_some_iff.1 hw3).1) (fun e => hmg (by cases e; rfl))).trans hw3
  have n3 : w4.cell? ⟨g, 3, none⟩ = some (.map (some m)) := by rw [cell_of_row _ _ _ _ _ _ hw4]; rfl
  have n0 : w4.cell? ⟨w1.heap.size, 0, none⟩ = some (.int .i64 (nx : Int)) := by rw [cell_of_row _ _ _ _ _ _ hr4]; rfl
  have n2 : w4.cell? ⟨w1.heap.size, 4, none⟩ = some (.int .i64 (n : Int)) := by rw [cell_of_row _ _ _ _ _ _ hr4]; rfl
  have HP : HHp w4 g (ptr g) (.func (.func fid) #[] fr) (some m) (L ++ [⟨w1.heap.size, nx, x⟩]) (nx + 1) (-1) (.slice p' (n + 1) c') (fun k => S k ∨ (w1.heap.size ≤ k ∧ k < w4.heap.size)) := by
    refine H1.out.hp.pushed (x := x) (r := ⟨w1.heap.size, nx, x⟩) rfl rfl hw4 ?_ ?_ ?_ y2 ?_ ?_ (Nat.le_refl _) (by omega)
    · rw [hn.out]
      refine ⟨hown3.1, ?_⟩
      rcases hown3.2 with q | ⟨b, cap, cur, hv, hb, hw, q⟩
      · exact .inl q
      · refine .inr ⟨b, cap, cur, hv, hb, (y3.block b ((Array.getElem?_eq_some_iff.1 hw).1) (fun e => ?_)).trans hw, q⟩
        cases e
        obtain ⟨es, c, z, _⟩ := hm3
        rw [z] at hw
        cases hw
    · intro q hq
      have z := H1.out.hp.lt _ (H1.out.hp.se q hq)
      rw [y3.block q.b (by show q.b < w3.heap.size; omega) (fun e => (HK.out.2.2 m rfl).2.1 q hq (by cases e; rfl))]
      exact hold q.b z (HK.out.1 q hq) (fun e => (HK.out.2.1 q.b (by rw [hn.out]; exact e.symm)).2 q hq rfl)
    · rw [hn.out]; exact hr4
    · have := hex3.size
      rw [y4]
      exact this
    · intro b hb
      rcases HOR.out with q | ⟨q, _⟩
      · rw [q] at hb
        exact .inl (H1.out.hp.sr b (by rw [hn.out]; exact hb))
      · rw [q, psh_size] at hb
        cases hb
        refine .inr ⟨by omega, ?_⟩
        rw [y4]
        show w1.heap.size + 2 < w3.heap.size
        rcases HOWN.out.2 with ⟨z, _⟩ | ⟨b', cap, cur, hv, _, hw, _⟩
        · rw [z] at q; cases q
        · rw [hv] at q
          simp only [Value.ownBlock, Option.some.injEq, psh_size] at q
          rw [← q, hsz3]
          exact (Array.getElem?_eq_some_iff.1 hw).1
  have EX4 : Ex S w1 w4 := hex3.drew.trans (Ex.grown (S := S) y3 (fun k hk => by cases hk; exact hms)) (fun _ q => .inl q)
  have HL4 : Hid (Lv J U Dm fid fr w4 g (ptr g) (some m) (L ++ [⟨w1.heap.size, nx, x⟩]) (nx + 1) (-1) (.slice p' (n + 1) c') (fun k => S k ∨ (w1.heap.size ≤ k ∧ k < w4.heap.size))) := hid
    ⟨HP, O.stay _ _ H1.out.j (fun k hk => EX4.block k (O.lt _ H1.out.j k hk) (fun q => H1.out.ap k q hk)), fun k hk => by
      rcases hk with q | q
      · exact H1.out.ap k q
      · intro z
        have := O.lt _ H1.out.j k z
        omega, fun r hr => by
      rcases List.mem_append.1 hr with q | q
      · exact H1.out.dm r q
      · rw [List.mem_singleton.1 q]; exact HX.out⟩
  have HEX4 := hid EX4
  have CS := hid (settle_any O hO n HL4.out (by have := hn.out; simp; omega))
  have Y1 := hid y1
  clear hw3 hr3 hold hm3 hown3 hex3 hr4 hw4 HP EX4 y2 y3 y4 hm3l d2 g2 HGR HOWN HOR HT2
  refine wp_region_held_drew (S := (fun W => W.cell? ⟨g, 3, none⟩ = some (.map (some m)) ∧ W.cell? ⟨w1.heap.size, 0, none⟩ = some (.int .i64 (nx : Int)))) (by kernel_rfl) ⟨e3, e0⟩ (fun hHeld => ?_)
  have HS := hid hHeld
  clear hHeld
  change wpAnyH _ _ _ _ _ _ _ _ (World.drew _)
  refine wpAnyH_take (i := 0) (v := ?_) rfl (by kernel_rfl) (by kernel_rfl) (by kernel_rfl) (fun _ _ _ h => h) (Or.inl ⟨by rfl, ?q0⟩) HS.out ?_
  case q0 => intro w hSw; obtain ⟨z1, z2⟩ := hSw; go_simp; rfl
  simp only [Act.put, List.getElem_toArray, List.getElem_cons_zero, List.getElem_cons_succ, List.setIfInBounds_toArray, List.set_cons_zero, List.set_cons_succ]
  refine wpAnyH_take (i := 1) (v := ?_) rfl (by kernel_rfl) (by kernel_rfl) (by kernel_rfl) (fun _ _ _ h => h) (Or.inl ⟨by rfl, ?q1⟩) HS.out ?_
  case q1 => intro w hSw; obtain ⟨z1, z2⟩ := hSw; go_simp; rfl
  simp only [Act.put, List.getElem_toArray, List.getElem_cons_zero, List.getElem_cons_succ, List.setIfInBounds_toArray, List.set_cons_zero, List.set_cons_succ]
  refine wpAnyH_take (i := 2) (v := ?_) rfl (by kernel_rfl) (by kernel_rfl) (by kernel_rfl) (fun _ _ _ h => h) (Or.inl ⟨by rfl, ?q2⟩) HS.out ?_
  case q2 => intro w hSw; obtain ⟨z1, z2⟩ := hSw; go_simp; rfl
  simp only [Act.put, List.getElem_toArray, List.getElem_cons_zero, List.getElem_cons_succ, List.setIfInBounds_toArray, List.set_cons_zero, List.set_cons_succ]
  refine wpAnyH_take (i := 3) (v := ?_) rfl (by kernel_rfl) (by kernel_rfl) (by kernel_rfl) (fun _ _ _ h => h) (Or.inl ⟨by rfl, ?q3⟩) HS.out ?_
  case q3 => intro w hSw; obtain ⟨z1, z2⟩ := hSw; go_simp; rfl
  simp only [Act.put, List.getElem_toArray, List.getElem_cons_zero, List.getElem_cons_succ, List.setIfInBounds_toArray, List.set_cons_zero, List.set_cons_succ]
  refine wpAnyH_take (i := 4) (v := ?_) rfl (by kernel_rfl) (by kernel_rfl) (by kernel_rfl) (fun _ _ _ h => h) (Or.inl ⟨by rfl, ?q4⟩) HS.out ?_
  case q4 => intro w hSw; obtain ⟨z1, z2⟩ := hSw; go_simp; rfl
  simp only [Act.put, List.getElem_toArray, List.getElem_cons_zero, List.getElem_cons_succ, List.setIfInBounds_toArray, List.set_cons_zero, List.set_cons_succ]
  refine wpAnyH_take (i := 5) (v := ?_) rfl (by kernel_rfl) (by kernel_rfl) (by kernel_rfl) (fun _ _ _ h => h) (Or.inl ⟨by rfl, ?q5⟩) HS.out ?_
  case q5 => intro w hSw; obtain ⟨z1, z2⟩ := hSw; go_simp; rfl
  simp only [Act.put, List.getElem_toArray, List.getElem_cons_zero, List.getElem_cons_succ, List.setIfInBounds_toArray, List.set_cons_zero, List.set_cons_succ]
  refine wpAnyH_take (i := 6) (v := ?_) rfl (by kernel_rfl) (by kernel_rfl) (by kernel_rfl) (fun _ _ _ h => h) (Or.inl ⟨by rfl, ?q6⟩) HS.out ?_
  case q6 => intro w hSw; obtain ⟨z1, z2⟩ := hSw; go_simp; rfl
  simp only [Act.put, List.getElem_toArray, List.getElem_cons_zero, List.getElem_cons_succ, List.setIfInBounds_toArray, List.set_cons_zero, List.set_cons_succ]
  refine wpAnyH_take (i := 7) (v := ?_) rfl (by kernel_rfl) (by kernel_rfl) (by kernel_rfl) (fun _ _ _ h => h) (Or.inl ⟨by rfl, ?q7⟩) HS.out ?_
  case q7 => intro w hSw; obtain ⟨z1, z2⟩ := hSw; go_simp; rfl
  simp only [Act.put, List.getElem_toArray, List.getElem_cons_zero, List.getElem_cons_succ, List.setIfInBounds_toArray, List.set_cons_zero, List.set_cons_succ]
  refine wpAnyH_take (i := 8) (v := ?_) rfl (by kernel_rfl) (by kernel_rfl) (by kernel_rfl) (fun _ _ _ h => h) (Or.inl ⟨by rfl, ?q8⟩) HS.out ?_
  case q8 => intro w hSw; obtain ⟨z1, z2⟩ := hSw; go_simp; rfl
  simp only [Act.put, List.getElem_toArray, List.getElem_cons_zero, List.getElem_cons_succ, List.setIfInBounds_toArray, List.set_cons_zero, List.set_cons_succ]
  refine wpAnyH_ready (rs := [9]) (by kernel_rfl) (by simp) ?_
  refine AllReadyH.cons rfl (fun K hK => ?_) AllReadyH.nil
  replace hK := hid hK
  go_simp
  refine hK.out _ _ ⟨n3, n0⟩ (fun _ => ?_)
  clear hK K
  refine wpAnyH_done (by kernel_rfl) ?_ _
  clear HS e3 e0 y1 Y1
  go_wp2_with fail
  refine CS.out.mono ?_
  rintro e w5 ⟨rfl, L', hL', hE', hP', hq'⟩
  have HL' := hid hL'
  have HE' := hid hE'
  have HP' := hid hP'
  have HQ' := hid hq'
  have k0 : w5.cell? ⟨w1.heap.size, 0, none⟩ = some (.int .i64 (nx : Int)) := by
    have : (⟨w1.heap.size, nx, x⟩ : Rw Pr) ∈ L' := hP'.symm.subset (by simp)
    obtain ⟨i, hi⟩ := List.mem_iff_getElem?.1 this
    exact (hL'.hp.each i _ hi).c.1
  clear CS hL' hE' hP' hq'
  go_wp2_with fail
  go_ret2
  refine ⟨rfl, L', _, _, w1.heap.size, HL'.out, (HE1.out.mono (fun k hk => .inl hk)).trans ((HEX4.out.mono (fun k hk => .inl hk) : Ex (SU S U) w1 w4).trans HE'.out (fun k hk => ?_)) (fun _ q => .inl q), HP'.out.trans List.perm_append_comm, fun o q => HQ'.out o ?_, fun k hk => ?_⟩
  · rcases hk with (q | q) | q
    · exact .inl (.inl q)
    · exact .inr q.1
    · exact .inl (.inr q)
  · have := q.push (r := ⟨w1.heap.size, nx, x⟩)
    rw [hn.out] at this
    exact this
  · rcases hk with q | q
    · exact .inl q
    · have := HE1.out.size
      exact .inr (by omega)
end
end Go.Proofs.Ytajdopmhdagehaa.Ds
