/- Of the road to serverTicksUpto_holds: SvSt, SameBytes, ArrB, SvSame, SvSameK, SvSameS, AppI. -/
import Derived.Test.YthmhpenjegfbcaaG03
import Derived.Test.YthmhpenjegfbcaaG00
import Derived.Test.YthmhpenjegfbcaaChecked
import Derived.Deep.MidRow
import Derived.Laws.AppendOwn
set_option linter.unusedVariables false
set_option linter.unusedSimpArgs false
namespace Go.Proofs.Ythmhpenjegfbcaa
open Go Go.RowKit
open Go.ChangeMaps (setBlock)
structure HRk (w : World) (B : Nat) (x : Rk) : Prop where
  ok : x.k.sp.ok
  by' : OBy w x.vb x.k.bs
  ls : OwL w B x.vl x.k.ls
  low : ∀ k, x.vb.ownBlock = some k → B ≤ k
theorem HRk.one {w : World} {B : Nat} {x : Rk} (h : HRk w B x) : RkOk x := by
  obtain ⟨p, c, hv⟩ := h.by'.slc
  obtain ⟨b, cap, hv2, _⟩ := h.ls
  exact ⟨h.ok, by rw [hv]; rfl, by rw [hv2]; rfl⟩
theorem HRk.of {w w' : World} {B : Nat} {x : Rk} (h : HRk w B x) (hk : ∀ k : Nat, (∃ (cs : Array Value) (T : TypeId), w.heap[k]? = some (Obj.cells cs T (0, 0)) ∧ T ≠ 60) → w'.heap[k]? = w.heap[k]?) : HRk w' B x := by
  refine ⟨h.ok, h.by'.of fun k q => ?_, ?_, h.low⟩
  · rcases h.by'.1.2 with ⟨e, _⟩ | ⟨b, cap, cur, hv, hb, hw, _⟩
    · rw [e] at q; cases q
    · rw [hv] at q; cases q
      exact hk _ ⟨_, _, hw, by decide⟩
  · obtain ⟨b, cap, hv, hr, hB, hc⟩ := h.ls
    refine ⟨b, cap, hv, hr.of ?_, hB, hc⟩
    obtain ⟨tl, q, _⟩ := hr
    exact hk _ ⟨_, _, q, by decide⟩
theorem flat_rowsK (f : Rk → List Value) : ∀ (l : List Rk), (∀ x ∈ l, (f x).length = 19) → ∀ (i j : Nat) (x : Rk), l[i]? = some x → j < 19 → (l.flatMap f)[i * 19 + j]? = (f x)[j]?
  | [], _, i, j, x, hx, _ => by simp at hx
  | a :: l, h, 0, j, x, hx, hj => by
    simp at hx
    subst hx
    rw [List.flatMap_cons, Nat.zero_mul, Nat.zero_add, List.getElem?_append_left (by rw [h a (List.mem_cons_self ..)]; exact hj)]
  | a :: l, h, i + 1, j, x, hx, hj => by
    have ha := h a (List.mem_cons_self ..)
    rw [List.flatMap_cons, List.getElem?_append_right (by omega), ha, show (i + 1) * 19 + j - 19 = i * 19 + j by omega]
    exact flat_rowsK f l (fun y hy => h y (List.mem_cons_of_mem _ hy)) i j x (by simpa using hx) hj
def kpK (Z : List (MapEntry × En)) : List Kp := Z.map (·.2.k)
def unS (seen : Array Nat) (Z : List (MapEntry × En)) : List (MapEntry × En) := Z.filter fun z => !seen.contains z.1.born
structure RgS (w0 : World) (g b c : Nat) (room tick : Int) (Z : List (MapEntry × En)) (S : Nat → Prop) (wr : World) (seen : Array Nat) (v : Value) (C : List Rk) : Prop where
  z : HZ wr g b c room tick Z S
  it : wr.heap[w0.heap.size + 1]? = some (.mapIter (some b) c seen c)
  box : wr.heap[w0.heap.size]? = some (.cells #[.int .i64 0, .int .i64 0, .slice none 0 0] 24 (0, 0))
  row : wr.ownsRow (w0.heap.size + 2) 60 19 v C.length (C.flatMap rkL)
  all : ∀ x ∈ C, HRk wr (w0.heap.size + 2) x
  perm : (C.map (·.k) ++ kpK (unS seen Z)).Perm (kpK Z)
  bel : Below w0.heap.size w0 wr
theorem unS_push {seen : Array Nat} {A B : List (MapEntry × En)} {z : MapEntry × En} (hn : ((A ++ z :: B).map (·.1.born)).Nodup) (hs : seen.contains z.1.born = false) :
    (kpK (unS seen (A ++ z :: B))).Perm (z.2.k :: kpK (unS (seen.push z.1.born) (A ++ z :: B))) := by
  have h1 : (!seen.contains z.1.born) = true := by rw [hs]; rfl
  have h2 : (!(seen.push z.1.born).contains z.1.born) = false := by simp
  rw [List.map_append, List.map_cons, List.nodup_append] at hn
  obtain ⟨n1, n2, n3⟩ := hn
  have hA : A.filter (fun y => !(seen.push z.1.born).contains y.1.born) = A.filter (fun y => !seen.contains y.1.born) := List.filter_congr fun y hy => by
    have : y.1.born ≠ z.1.born := n3 _ (List.mem_map.2 ⟨y, hy, rfl⟩) _ (List.mem_cons_self ..)
    simp [Array.contains_push, this]
  have hB : B.filter (fun y => !(seen.push z.1.born).contains y.1.born) = B.filter (fun y => !seen.contains y.1.born) := List.filter_congr fun y hy => by
    have : y.1.born ≠ z.1.born := fun e => (List.nodup_cons.1 n2).1 (e ▸ List.mem_map.2 ⟨y, hy, rfl⟩)
    simp [Array.contains_push, this]
  unfold kpK unS
  rw [List.filter_append, List.filter_cons, h1, if_pos rfl, List.filter_append, List.filter_cons, h2, hA, hB]
  simp only [List.map_append, List.map_cons]
  exact List.perm_middle
theorem rowK {w : World} {B : Nat} {v : Value} {C : List Rk} (hC : ∀ x ∈ C, x.k.sp.ok) (h : w.ownsRow B 60 19 v C.length (C.flatMap rkL)) (h0 : 0 < C.length) : ∃ b cap cur, v = .slice (some ⟨b, 0, none⟩) C.length cap ∧ B ≤ b ∧ w.heap[b]? = some (.cells cur 60 (0, 0)) ∧ RwK w b C := by
  rcases h.2 with ⟨_, e0⟩ | ⟨b, cap, cur, hv, hb, hw, hn, hm, hs, ht⟩
  · omega
  · refine ⟨b, cap, cur, hv, hb, hw, fun i hi r u hr => ?_⟩
    rw [cell_of_row _ _ _ _ _ _ hw]
    have hl : r < 19 := by
      have := (List.getElem?_eq_some_iff.1 hr).1
      rw [rkL_length (hC _ (List.getElem_mem hi))] at this
      exact this
    have e : (C.flatMap rkL)[i * 19 + r]? = (rkL C[i])[r]? := flat_rowsK rkL C (fun x hx => rkL_length (hC x hx)) i r C[i] (List.getElem?_eq_getElem hi) hl
    rw [← ht, List.getElem?_take, if_pos (by omega)] at e
    rw [← Array.getElem?_toList, e]
    exact hr
theorem results_cellS {P : Program} {fn : Func} {p : Tmp} {ty : TypeId} (h : fn.results = #[.cell p ty]) (tmps : Array Value) (w : World) (g : Nat) (t : TypeId) (cs : Array Value) (fr : Nat × Nat) (d : TypeDesc)
    (hp : tmps.getD p undef = .pointer (some ⟨g, 0, none⟩)) (hg : w.heap[g]? = some (.cells cs t fr)) (hu : P.underlying ty = some d) (hd : (match d with | .struct _ | .array _ _ => true | _ => false) = true) (hi : (P.info? ty).map (·.size) = some cs.size) :
    (results fn tmps).run P w = .ok (.agg cs) w := by
  have hp' : tmps[p]?.getD undef = .pointer (some ⟨g, 0, none⟩) := by simpa using hp
  simp [results, h, hp', asAddr, run_loadVar_row w g t ty cs fr d hg hu hd hi]
theorem RdK.exB {w w' : World} {vk : Value} {Ks : List Rk} {n : Nat} (h : RdK w vk Ks) (hn : w.heap[n]? = some (.cells #[.int .i64 0, .int .i64 0, .slice none 0 0] 24 (0, 0))) (hE : Ex (fun k => k = n) w w') : RdK w' vk Ks := by
  have hno : ∀ (a : Addr) (k : IntKind) (x : Int), k ≠ .i64 → w.cell? a = some (.int k x) → a.block ≠ n := fun a k x hk hc e => by
    obtain ⟨ab, ao, an⟩ := a
    simp only at e
    subst e
    cases an with
    | some _ => simp [World.cell?, hn] at hc
    | none =>
      rw [cell_of_row _ _ _ _ _ _ hn] at hc
      rcases (by omega : ao = 0 ∨ ao = 1 ∨ ao = 2 ∨ 3 ≤ ao) with rfl | rfl | rfl | q
      · simp at hc; exact hk hc.1.symm
      · simp at hc; exact hk hc.1.symm
      · simp at hc
      · rw [Array.getElem?_eq_none (by simpa using q)] at hc; cases hc
  have hcell : ∀ (a : Addr) (v : Value), a.block ≠ n → w.cell? a = some v → w'.cell? a = some v := fun a v hb hc => by
    rw [← hc]
    exact World.cell?_of_block (hE.block a.block (World.block_lt_of_cell? w a hc) hb)
  obtain ⟨p, c, h1, h2, h3⟩ := h
  refine ⟨p, c, h1, fun hl => ?_, fun x hx => ?_⟩
  · obtain ⟨b, off, e, hbl, hr⟩ := h2 hl
    refine ⟨b, off, e, Nat.lt_of_lt_of_le hbl hE.size, fun i hi => ?_⟩
    have hok := (h3 Ks[i] (List.getElem_mem hi)).1
    have h0 := hr i hi 0 _ (kpL_ix hok Ks[i].vb Ks[i].vl (j := 0) (by decide))
    have hb := hno _ .u8 _ (by decide) h0
    exact fun j v hv => hcell _ _ hb (hr i hi j v hv)
  · obtain ⟨q1, q2, q3⟩ := h3 x hx
    refine ⟨q1, q2.later fun a y hy => hcell _ _ (hno a .u8 y (by decide) hy) hy, ?_⟩
    obtain ⟨p', c', e1, e2⟩ := q3
    refine ⟨p', c', e1, fun hl => ?_⟩
    obtain ⟨b', off', e, hr⟩ := e2 hl
    have h0 := (lzL_at x.k.ls 0 (List.length_pos_iff.2 hl)).1
    have hb := hno _ .u32 _ (by decide) (hr _ _ h0)
    exact ⟨b', off', e, fun j v hv => hcell _ _ hb (hr j v hv)⟩
theorem ownsRow_of {w w' : World} {B : Nat} {T : TypeId} {n k : Nat} {v : Value} {l : List Value} (h : w.ownsRow B T n v k l) (hk : ∀ j, v.ownBlock = some j → w'.heap[j]? = w.heap[j]?) : w'.ownsRow B T n v k l := by
  refine ⟨h.1, ?_⟩
  rcases h.2 with q | ⟨b, cap, cur, hv, hb, hw, q⟩
  · exact .inl q
  · exact .inr ⟨b, cap, cur, hv, hb, (hk b (by rw [hv]; rfl)).trans hw, q⟩
theorem ownsRow_block {w : World} {B : Nat} {T : TypeId} {n k : Nat} {v : Value} {l : List Value} (h : w.ownsRow B T n v k l) {j : Nat} (hj : v.ownBlock = some j) : B ≤ j ∧ ∃ cur, w.heap[j]? = some (.cells cur T (0, 0)) := by
  rcases h.2 with ⟨q, _⟩ | ⟨b, cap, cur, hv, hb, hw, q⟩
  · rw [q] at hj; cases hj
  · rw [hv] at hj; cases hj
    exact ⟨hb, cur, hw⟩
theorem ownsRow_slc {w : World} {B : Nat} {T : TypeId} {n k : Nat} {v : Value} {l : List Value} (h : w.ownsRow B T n v k l) : ∃ p c, v = .slice p k c := by
  rcases h.2 with ⟨q, e⟩ | ⟨b, cap, cur, hv, _⟩
  · exact ⟨none, 0, by rw [q, e]⟩
  · exact ⟨_, _, hv⟩
theorem yieldsIf_buildS {P : Program} {ops : Array Oper} {S : World → Prop} {op : Oper} {a : Act} (hw : Region.wanted op (yielded ops a.tmps) = true) (t : TypeId) (parts : Array (Nat × Operand)) (ho : op.op = .build t parts) (ps : Array (Nat × Value)) (hps : (parts.map fun (i, x) => (i, a.eval x)) = ps) (v : Value)
    (hr : ∀ w, (Instr.build t ps).run P w = .ok v w) : YieldsIf P ops S op v a :=
  .inl ⟨hw, fun w _ => by
    unfold execOp
    simp only [ho, Sem.run_bind, hps, hr, Result.andThen_ok]
    rfl⟩
theorem wanted_lit {P : Program} {ops : Array Oper} {o : Oper} {a : Act} {w w' : World} {K : Act → World → Prop} {Q : Exit → Act → World → Prop} {X : Prop} (hw : Region.wanted o (yielded ops a.tmps) = true) (t : TypeId) (len : Nat) (parts : Array (Nat × Operand)) (ho : o.op = .buildSlice t len parts) (ps : Array (Nat × Value)) (hps : (parts.map fun (i, x) => (i, a.eval x)) = ps) (v : Value)
    (hr : (Instr.buildSlice t len ps).run P w = .ok v w') (h : K (a.put o.dst v) w') : if Region.wanted o (yielded ops a.tmps) = true then Oper.wp P o a w K Q else X := by
  rw [if_pos hw]
  unfold Oper.wp execOp
  simp only [ho, Sem.run_bind, hps, hr, Result.andThen_ok]
  exact h
theorem rkL_one' {k : Kp} {p1 p2 : Option Addr} {n1 c1 n2 c2 : Nat} {v : Value} (h : v ∈ kpL k (.slice p1 n1 c1) (.slice p2 n2 c2)) : v.oneCell' = true := by
  unfold kpL at h
  rcases List.mem_append.1 h with h | h
  · obtain ⟨x, _, rfl⟩ := List.mem_map.1 h; rfl
  · simp at h
    rcases h with rfl | rfl | rfl <;> rfl
theorem left_less1 {A B : List (MapEntry × En)} {z : MapEntry × En} {seen : Array Nat} (hs : seen.contains z.1.born = false) : (leftOf ((A ++ z :: B).map (·.1)).toArray (seen.push z.1.born)).size < (leftOf ((A ++ z :: B).map (·.1)).toArray seen).size := by
  have e2 : (A ++ z :: B).map (·.1) = A.map (·.1) ++ z.1 :: B.map (·.1) := by simp
  have e1 : (A ++ z :: B).map (·.1) = A.map (·.1) ++ ([z.1] ++ B.map (·.1)) := by simp
  have := left_less (A := A.map (·.1)) (B := B.map (·.1)) (mid := [z.1]) (.inr rfl) hs
  rw [← e1, ← e2] at this
  exact this
def RdF (w : World) (B : Nat) (vk : Value) (Ks : List Rk) : Prop := ∀ W : World, w.heap.size ≤ W.heap.size → (∀ j, B ≤ j → j < w.heap.size → W.heap[j]? = w.heap[j]?) → RdK W vk Ks
theorem RdF.rd {w : World} {B : Nat} {vk : Value} {Ks : List Rk} (h : RdF w B vk Ks) : RdK w vk Ks := h w (Nat.le_refl _) fun _ _ _ => rfl
set_option maxRecDepth 100000 in
set_option maxHeartbeats 16000000 in
theorem state_own {w : World} {g b c : Nat} {room tick : Int} {Z : List (MapEntry × En)} {S : Nat → Prop} (h : HZ w g b c room tick Z S) (hn : Z.length ≤ 1048576) (hby : ∀ z ∈ Z, z.2.k.bs.length ≤ 1048576) : Calls Try.prog 9 #[.pointer (some ⟨g, 0, none⟩)] w fun e w' => ∃ vk Ks, e = .returned (.agg #[.int .i64 room, .int .i64 tick, vk]) ∧ RdF w' (w.heap.size + 1) vk Ks ∧ (Ks.map (·.k)).Perm (kpK Z) ∧ Ks.Pairwise (fun x y => cmpS x.k.sp y.k.sp < 0) ∧ Below w.heap.size w w' := by
  have hgl := h.lt g h.sg
  have hbl := h.lt b h.sb
  obtain ⟨WA, HWA⟩ : ∃ W : World, Hid (w.alloc (.cells #[.int .i64 0, .int .i64 0, .slice none 0 0] 24) = W) := ⟨_, hid rfl⟩
  have BA : Hid (Below w.heap.size w WA) := by rw [← HWA.out]; exact hid ((Below.refl _ w).alloc (Nat.le_refl _) _)
  have ZA : Hid (WA.heap.size = w.heap.size + 1) := hid (by rw [← HWA.out]; simp)
  have hA := h.below BA.out
  have CM := hid (made_yes WA g b room tick _ hA.top)
  have c4 := hA.top.c.2.2.2.2
  have hr : (Instr.range 64 (.map (some b))).run Try.prog WA = .ok (.pointer (some ⟨w.heap.size + 1, 0, none⟩)) (WA.alloc (.mapIter (some b) c #[] c)) := by
    have := run_range_map (P := Try.prog) WA 64 _ _ b _ c Try.underlying64 hA.mp
    rw [ZA.out] at this
    exact this
  obtain ⟨W0, HW0⟩ : ∃ W : World, Hid (WA.alloc (.mapIter (some b) c #[] c) = W) := ⟨_, hid rfl⟩
  have B0 : Hid (Below WA.heap.size WA W0) := by rw [← HW0.out]; exact hid ((Below.refl _ WA).alloc (Nat.le_refl _) _)
  have R0 : Hid (RgS w g b c room tick Z S W0 #[] (.slice none 0 0) []) := hid (by
    refine ⟨hA.below B0.out, ?_, ?_, World.ownsRow_nil _ _ _ _, (fun x hx => by cases hx), ?_, BA.out.trans (B0.out.mono BA.out.size)⟩
    · rw [← HW0.out]
      have := heap_alloc_new WA (.mapIter (some b) c #[] c)
      rwa [ZA.out] at this
    · rw [B0.out.block _ (by rw [ZA.out]; omega), ← HWA.out]
      exact heap_alloc_new w _
    · have : unS #[] Z = Z := by unfold unS; simp
      rw [this]
      simp)
  have HH := hid h
  have HBY := hid hby
  clear h hA hby
  go_enter Try.func9, Try.ntmps9
  refine wp_seq_k fun K0 h0 => ?_
  have H0 := hid h0
  clear h0
  go_wp2
  rw [HWA.out]
  refine H0.out _ _ ?_
  go_wp2_with fail
  refine CM.out.mono ?_
  rintro e w' ⟨rfl, hw'⟩
  subst hw'
  go_wp2
  rw [HW0.out]
  clear hr c4
  go_loopw [3, 15] (fun u3 _ wr => ∃ seen C, RgS w g b c room tick Z S wr seen u3 C) (fun _ _ wr => leftN wr b (w.heap.size + 1))
  case atStart => exact ⟨#[], [], R0.out⟩
  case round =>
    obtain ⟨seen, C, hR⟩ := hrel
    have HR := hid hR
    clear hR
    have hnx := run_next_at (P := Try.prog) wr 0 (w.heap.size + 1) b c c seen _ c HR.out.it HR.out.z.mp (fun x hx => by
      simp only [List.toList_toArray] at hx
      obtain ⟨z, hz, rfl⟩ := List.mem_map.1 hx
      exact HR.out.z.old z hz) (Nat.le_refl _)
    rcases hnx with ⟨hl0, hn⟩ | ⟨e, he, w1, hw1, hn⟩
    · have hl := hid hl0
      clear hl0
      have hun : unS seen Z = [] := by
        have : (leftOf (Z.map (·.1)).toArray seen).toList = (unS seen Z).map (·.1) := by
          unfold leftOf unS
          rw [List.filter_toArray, List.toList_toArray, List.filter_map]
          rfl
        rw [Array.eq_empty_of_size_eq_zero hl.out] at this
        exact List.map_eq_nil_iff.1 this.symm
      have HP : Hid ((C.map (·.k)).Perm (kpK Z)) := hid (by have := HR.out.perm; rw [hun] at this; simpa [kpK] using this)
      have hCl : C.length = Z.length := by have := HP.out.length_eq; simpa [kpK] using this
      have CS : Hid (Calls Try.prog 27 #[u3, .func (.func 28) #[] #[]] wr fun e w' => ∃ Ks, e = .returned (.tuple #[]) ∧ RdF w' (w.heap.size + 1) u3 Ks ∧ (Ks.map (·.k)).Perm (kpK Z) ∧ Ks.Pairwise (fun x y => cmpS x.k.sp y.k.sp < 0) ∧ HZ w' g b c room tick Z S ∧ w'.heap[w.heap.size]? = some (.cells #[.int .i64 0, .int .i64 0, .slice none 0 0] 24 (0, 0)) ∧ Below w.heap.size w w') := hid (by
        by_cases hC0 : C.length = 0
        · have eC : C = [] := List.length_eq_zero_iff.1 hC0
          have hP := HP.out
          have hrow := HR.out.row
          rw [eC] at hrow hP
          have hv : ∃ p cap, u3 = .slice p 0 cap := by
            rcases hrow.2 with ⟨q, _⟩ | ⟨b', cap, cur, hv, _⟩
            · exact ⟨none, 0, q⟩
            · exact ⟨_, cap, hv⟩
          obtain ⟨p, cap, hv⟩ := hv
          rw [hv]
          have hcon := AnyF.slices_SortFunc_none sortK p cap (.func (.func 28) #[] #[]) wr
          change Calls Try.prog 27 _ _ _ at hcon
          refine hcon.mono ?_
          rintro e w' ⟨rfl, rfl⟩
          exact ⟨[], rfl, (fun _ _ _ => ⟨p, cap, rfl, (fun q => absurd rfl q), (fun x hx => by cases hx)⟩), hP, List.Pairwise.nil, HR.out.z, HR.out.box, HR.out.bel⟩
        · obtain ⟨bv, cap, cur, hv, hbv, hcur, hRw⟩ := rowK (fun x hx => (HR.out.all x hx).ok) HR.out.row (by omega)
          rw [hv]
          refine (ksort_any wr bv cap C (fun x hx => (HR.out.all x hx).one) hRw hcur (by omega)).mono ?_
          rintro e w' ⟨rfl, C', hp, hs, hrw, hE⟩
          have hSl := HH.out.lt
          have hlc : C'.length = C.length := hp.length_eq
          have hbvl : bv < w'.heap.size := Nat.lt_of_lt_of_le (Array.getElem?_eq_some_iff.1 hcur).1 hE.size
          have hP' : (C'.map (·.k)).Perm (kpK Z) := (hp.map _).trans HP.out
          have hall : ∀ x ∈ C', HRk w' (w.heap.size + 2) x := fun x hx => (HR.out.all x (hp.subset hx)).of fun k ⟨cs, T, q, hT⟩ => hE.block k (Array.getElem?_eq_some_iff.1 q).1 (fun e => by
            rw [e, hcur] at q
            simp at q
            exact hT q.2.symm)
          refine ⟨C', rfl, (fun W hWs hW => ⟨some ⟨bv, 0, none⟩, cap, by rw [hlc], fun _ => ⟨bv, 0, rfl, Nat.lt_of_lt_of_le hbvl hWs, fun i hi j v hv => by rw [Nat.zero_add]; exact (World.cell?_of_block (w := w') (w' := W) (a := ⟨bv, i * 19 + j, none⟩) (hW bv (by omega) hbvl)).trans (hrw i hi j v hv)⟩, fun x hx => ?_⟩), hP', ?_, HR.out.z.of fun k hk => hE.block k (HR.out.z.lt k hk) (by have := hSl k hk; omega), (hE.block _ (by have := HR.out.bel.size; have := (Array.getElem?_eq_some_iff.1 HR.out.box).1; omega) (by omega)).trans HR.out.box, HR.out.bel.trans (hE.below HR.out.bel.size (fun k hk => by omega))⟩
          · have hx' := hall x hx
            obtain ⟨b2, cap2, hv2, hr2, hB2, _⟩ := hx'.ls
            have hr3 : ORl W b2 cap2 x.k.ls := hr2.of (by
              obtain ⟨tl, q, _⟩ := hr2
              exact hW b2 (by omega) (Array.getElem?_eq_some_iff.1 q).1)
            have hb3 : OBy W x.vb x.k.bs := hx'.by'.of fun k q => hW k (by have := hx'.low k q; omega) (by
              rcases hx'.by'.1.2 with ⟨e0, _⟩ | ⟨b0, cap0, cur0, hv0, _, hw0, _⟩
              · rw [e0] at q; cases q
              · rw [hv0] at q; cases q
                exact (Array.getElem?_eq_some_iff.1 hw0).1)
            exact ⟨hx'.ok, hb3.hb, ⟨_, cap2, hv2, fun _ => ⟨b2, 0, rfl, hr3.rl⟩⟩⟩
          · have hnd : (C'.map (·.k.sp)).Nodup := by
              have h1 : ((kpK Z).map (·.sp)).Nodup := by unfold kpK; rw [List.map_map]; exact HH.out.one
              have h2 := (hP'.map (·.sp)).nodup_iff.2 h1
              rw [List.map_map] at h2
              exact h2
            unfold List.Nodup at hnd
            rw [List.pairwise_map] at hnd
            exact (hs.and hnd).imp fun {x y} ⟨q1, q2⟩ => by
              rcases cmpS_three x.k.sp y.k.sp with q | q | q
              · exact q
              · exact absurd q q2
              · exact absurd q q1)
      go_wp2_with fail
      refine CS.out.mono ?_
      rintro e w5 ⟨Ks, rfl, k1, k2, k3, k4, k5, k6⟩
      have hgc := k4.top.c
      have g1 := hgc.2.1
      have g2 := hgc.2.2.1
      have fb := free_of k5
      have f0 := fb 0
      have f1 := fb 1
      have f2 := fb 2
      have i0 : w5.cell? ⟨w.heap.size, 0, none⟩ = some (.int .i64 0) := (cell_of_row _ _ _ _ _ _ k5).trans rfl
      have i1 : w5.cell? ⟨w.heap.size, 1, none⟩ = some (.int .i64 0) := (cell_of_row _ _ _ _ _ _ k5).trans rfl
      have i2 : w5.cell? ⟨w.heap.size, 2, none⟩ = some (.slice none 0 0) := (cell_of_row _ _ _ _ _ _ k5).trans rfl
      have HK := hid (And.intro k1 (And.intro k2 (And.intro k3 (And.intro k5 k6))))
      obtain ⟨pk, ck, hvk, -⟩ := k1.rd
      subst hvk
      clear k2 k3 k4 k5 k6 hgc fb
      have hgne : g ≠ w.heap.size := by omega
      go_wp2_with fail
      go_region
      go_wp2
      have hcell := heap_setCell (heap_setCell (heap_setCell HK.out.2.2.2.1 0 (.int .i64 room)) 1 (.int .i64 tick)) 2 (.slice pk Ks.length ck)
      have hB9 : Below w.heap.size w ((((w5.setCell ⟨w.heap.size, 0, none⟩ (.int .i64 room)).setCell ⟨w.heap.size, 1, none⟩ (.int .i64 tick)).setCell ⟨w.heap.size, 2, none⟩ (.slice pk Ks.length ck)).drew) := (((HK.out.2.2.2.2.setCell (Nat.le_refl _) _).setCell (Nat.le_refl _) _).setCell (Nat.le_refl _) _).drew
      have hx9 : Ex (fun k => k = w.heap.size) w5 ((((w5.setCell ⟨w.heap.size, 0, none⟩ (.int .i64 room)).setCell ⟨w.heap.size, 1, none⟩ (.int .i64 tick)).setCell ⟨w.heap.size, 2, none⟩ (.slice pk Ks.length ck)).drew) := (((((Ex.refl (fun k => k = w.heap.size) w5).setCell (x := w.heap.size) rfl _).setCell (x := w.heap.size) rfl _).setCell (x := w.heap.size) rfl _).drew)
      refine bodyPost_ret (v := .agg #[.int .i64 room, .int .i64 tick, .slice pk Ks.length ck]) (results_cellS (p := 2) (ty := 24) rfl _ _ w.heap.size 24 _ (0, 0) _ rfl hcell Try.underlying24 rfl (by kernel_rfl)) rfl ?_
      exact ⟨_, Ks, rfl, (fun W hWs hW => HK.out.1 W (Nat.le_trans hx9.size hWs) fun j h1 h2 => (hW j h1 (Nat.lt_of_lt_of_le h2 hx9.size)).trans (hx9.block j h2 (by omega))), HK.out.2.1, HK.out.2.2.1, hB9⟩
    · obtain ⟨he1, he2⟩ := leftOf_mem he
      obtain ⟨z, hz, hze⟩ := List.mem_map.1 he1
      subst hze
      have hzN := HBY.out z hz
      have hSl : ∀ k, S k → k < w.heap.size := HH.out.lt
      have hrl : w.heap.size + 1 < wr.heap.size := (Array.getElem?_eq_some_iff.1 HR.out.it).1
      have hw1h : w1.heap = wr.heap := by rcases hw1 with rfl | rfl <;> rfl
      obtain ⟨W1, HW1⟩ : ∃ x, Hid (setBlock w1 (w.heap.size + 1) (.mapIter (some b) c (seen.push z.1.born) c) = x) := ⟨_, hid rfl⟩
      rw [HW1.out] at hn
      have hk1 : ∀ k, k ≠ w.heap.size + 1 → W1.heap[k]? = wr.heap[k]? := fun k hk => by
        rw [← HW1.out, ← hw1h]
        simp [setBlock, Ne.symm hk]
      have hit1 : W1.heap[w.heap.size + 1]? = some (.mapIter (some b) c (seen.push z.1.born) c) := by
        rw [← HW1.out]
        simp only [setBlock]
        rw [Array.getElem?_setIfInBounds_self_of_lt (by rw [hw1h]; exact hrl)]
      have hs1 : W1.heap.size = wr.heap.size := by rw [← HW1.out, ← hw1h]; simp [setBlock]
      have hZ1 : HZ W1 g b c room tick Z S := HR.out.z.of fun k hk => hk1 k (by have := hSl k hk; omega)
      have hb1 : Below w.heap.size w W1 := by
        have hx := HR.out.bel
        have : Below w.heap.size w w1 := by rcases hw1 with rfl | rfl; exact hx; exact hx.drew
        refine ⟨?_, ?_, ?_, by have := hx.size; omega, fun k hk => (hk1 k (by omega)).trans (hx.block k hk)⟩
        · rw [← HW1.out]; exact this.os
        · rw [← HW1.out]; exact this.tape
        · rw [← HW1.out]; exact this.output
      have hen := run_entry_at (P := Try.prog) W1 (w.heap.size + 1) b c seen _ c z.1 hit1 hZ1.mp (by rw [List.toList_toArray]; exact he1) (by rw [List.toList_toArray, List.map_map]; exact hZ1.born)
      rw [(hZ1.key z hz).1, (hZ1.key z hz).2] at hen hn
      have HZ1 := hid hZ1
      have HIT := hid hit1
      have HB1 := hid hb1
      have HS1 := hid hs1
      have HK1 := hid hk1
      clear hZ1 hit1 hb1 hs1 hw1 hk1
      have hEz := HZ1.out.each z hz
      have hok := hEz.ok
      obtain ⟨m, HM⟩ : ∃ x, Hid (spA z.2.k.sp = x) := ⟨_, hid rfl⟩
      have hms : Hid (m.size = 17) := hid (by rw [← HM.out]; exact spA_size hok)
      have hm1 : Hid (m.all (·.oneCell') = true) := hid (by rw [← HM.out]; exact all_oneCell_toArray fun v hv => spL_one hv)
      have hmi : Hid ((Try.prog.info? 63).map (·.size) = some m.size) := hid (by rw [hms.out]; exact size_spot)
      unfold spV at hen hn
      rw [HM.out] at hen hn
      obtain ⟨W2, HW2⟩ : ∃ x, Hid ((W1.alloc (.cells zspot 63)).setRow W1.heap.size m = x) := ⟨_, hid rfl⟩
      have B2 : Hid (Below W1.heap.size W1 W2) := hid (by
        rw [← HW2.out]
        refine ⟨rfl, rfl, rfl, by simp [World.setRow], fun k hk => ?_⟩
        simp only [World.setRow, Array.getElem?_modify]
        rw [if_neg (by omega)]
        exact Below.heap_alloc _ _ _ hk)
      have hsb2 : W2.heap[W1.heap.size]? = some (.cells (spL z.2.k.sp).toArray 63 (0, 0)) := by
        rw [show (spL z.2.k.sp).toArray = m from HM.out, ← HW2.out]
        exact setRow_heap _ _ _ _ _ _ (heap_alloc_new W1 (.cells zspot 63))
      have HS2 : Hid (W2.heap.size = W1.heap.size + 1) := hid (by rw [← HW2.out]; simp [World.setRow])
      have HZ2 := hid (HZ1.out.below B2.out)
      have HE2 := hid (HZ2.out.each z hz)
      obtain ⟨p3, c3, hu3⟩ := ownsRow_slc HR.out.row
      subst hu3
      have OB : Hid (∀ k, (Value.slice p3 C.length c3).ownBlock = some k → w.heap.size + 2 ≤ k ∧ k < wr.heap.size ∧ ∃ cur, wr.heap[k]? = some (.cells cur 60 (0, 0))) := hid (fun k hk => by
        obtain ⟨q1, cur, q2⟩ := ownsRow_block HR.out.row hk
        exact ⟨q1, (Array.getElem?_eq_some_iff.1 q2).1, cur, q2⟩)
      -- whatever the region has done
      have KC : Hid (∀ W, Ex (fun k => (Value.slice p3 C.length c3).ownBlock = some k) W2 W → W.rangeAt W1.heap.size 0 (spL z.2.k.sp) ∧ HEn W z.2) := hid (fun W hW => by
        have q1 := HS1.out
        have q2 := HS2.out
        refine ⟨range_of ((hW.block _ (by omega) (fun e => by have := (OB.out _ e).2.1; omega)).trans hsb2), HE2.out.of fun k hk => hW.block k ?_ (fun e => ?_)⟩
        · exact HZ2.out.lt k (HZ2.out.se z hz k hk)
        · have := (OB.out _ e).1
          have := hSl k (HZ2.out.se z hz k hk)
          omega)
      obtain ⟨pb, cb, hbv⟩ := HE2.out.by'.slc
      have LL : Hid (spL z.2.k.sp = z.2.k.sp.ix.map (Value.int .u8) ++ [.int .i64 z.2.k.sp.nb]) := hid rfl
      have KD : Hid (∀ W, Ex (fun k => (Value.slice p3 C.length c3).ownBlock = some k) W2 W → W.rangeAt W1.heap.size 0 (z.2.k.sp.ix.map (Value.int .u8)) ∧ W.cell? ⟨W1.heap.size, 16, none⟩ = some (.int .i64 z.2.k.sp.nb) ∧ W.cell? ⟨z.2.hb, 0, none⟩ = some (.slice pb z.2.k.bs.length cb) ∧ W.cell? ⟨z.2.hb, 1, none⟩ = some (.slice (some ⟨z.2.b, 0, none⟩) z.2.k.ls.length z.2.cap)) := hid (fun W hW => by
        obtain ⟨h1, h2⟩ := KC.out W hW
        refine ⟨fun j v hj => h1 j v ?_, ?_, ?_, ?_⟩
        · rw [LL.out, List.getElem?_append_left (List.getElem?_eq_some_iff.1 hj).1]; exact hj
        · have := h1 16 (.int .i64 z.2.k.sp.nb) (by rw [LL.out, List.getElem?_append_right (by simp [hok.1])]; simp [hok.1])
          simpa using this
        · rw [← hbv]; exact (cell_of_row _ _ _ _ _ _ h2.hd).trans rfl
        · exact (cell_of_row _ _ _ _ _ _ h2.hd).trans rfl)
      have CB : Hid (∀ W, Ex (fun k => (Value.slice p3 C.length c3).ownBlock = some k) W2 W → Calls Try.prog 25 #[.slice pb z.2.k.bs.length cb] W fun e w' => ∃ v1, e = .returned v1 ∧ w'.ownsRow W.heap.size 5 1 v1 z.2.k.bs.length (z.2.k.bs.map (Value.int .u8)) ∧ Below W.heap.size W w') := hid (fun W hW => by
        have := (KC.out W hW).2.by'.hb
        rw [hbv] at this
        exact clone_any W _ z.2.k.bs this (by omega))
      have CL : Hid (∀ W, Ex (fun k => (Value.slice p3 C.length c3).ownBlock = some k) W2 W → Calls Try.prog 26 #[.slice (some ⟨z.2.b, 0, none⟩) z.2.k.ls.length z.2.cap] W fun e w' => ∃ v', e = .returned v' ∧ OwL w' W.heap.size v' z.2.k.ls ∧ Below W.heap.size W w') := hid (fun W hW => by
        have q := (KC.out W hW).2
        exact lclone_any W _ z.2.k.ls ⟨_, _, rfl, fun _ => ⟨_, _, rfl, q.row.rl⟩⟩ q.some q.few)
      have HSI : Hid ((Try.prog.info? 27).map (·.size) = some (z.2.k.sp.ix.map (Value.int .u8)).length) := hid (by rw [List.length_map, hok.1]; kernel_rfl)
      have HBD := hid fun (W : World) (p1 p2 : Option Addr) (n1 c1 n2 c2 : Nat) => run_build_kept W hok p1 p2 n1 c1 n2 c2
      have HLT := hid fun (W : World) (p1 p2 : Option Addr) (n1 c1 n2 c2 : Nat) => run_lit_kept W hok p1 p2 n1 c1 n2 c2
      have HOK := hid hok
      have HZZ := hid hz
      have HM0 := hid (leftN_eq HR.out.it HR.out.z.mp)
      clear hsb2 hEz hbv
      have bd : Ex (fun k => (Value.slice p3 C.length c3).ownBlock = some k) W2 W2.drew := (Ex.refl _ W2).drew
      go_wp2_with (refine wpList_store_row rfl 63 _ _ rfl W1.heap.size m rfl rfl 63 zspot (heap_alloc_new W1 _) hmi.out (by rw [hms.out]; exact zspot_size) hm1.out ?_; rw [HW2.out])
      refine wp_region_held_drew (S := Ex (fun k => (Value.slice p3 C.length c3).ownBlock = some k) W2) (by kernel_rfl) bd (fun hHeld => ?_)
      have HS := hid hHeld
      clear hHeld
      change wpAnyH _ _ _ _ _ _ _ _ (World.drew _)
      refine wpAnyH_take (i := 0) (v := ?_) rfl (by kernel_rfl) (by kernel_rfl) (by kernel_rfl) (fun _ _ _ h => h) (Or.inl ⟨by rfl, ?q0⟩) HS.out ?_
      case q0 => intro w hSw; obtain ⟨q1, q2, q3, q4⟩ := KD.out _ hSw; go_simp; rfl
      simp only [Act.put, List.getElem_toArray, List.getElem_cons_zero, List.getElem_cons_succ, List.setIfInBounds_toArray, List.set_cons_zero, List.set_cons_succ]
      refine wpAnyH_take (i := 1) (v := ?_) rfl (by kernel_rfl) (by kernel_rfl) (by kernel_rfl) (fun _ _ _ h => h) (Or.inl ⟨by rfl, ?q1⟩) HS.out ?_
      case q1 => intro w hSw; obtain ⟨q1, q2, q3, q4⟩ := KD.out _ hSw; go_simp; rfl
      simp only [Act.put, List.getElem_toArray, List.getElem_cons_zero, List.getElem_cons_succ, List.setIfInBounds_toArray, List.set_cons_zero, List.set_cons_succ]
      refine wpAnyH_take (i := 2) rfl (by kernel_rfl) (by kernel_rfl) (by kernel_rfl) (fun _ _ _ h => h) (yieldsIf_load_mid (by rfl) 27 _ rfl W1.heap.size 0 rfl (z.2.k.sp.ix.map (Value.int .u8)) _ (fun W hW => (KD.out W hW).1) Try.underlying27 rfl HSI.out) HS.out ?_
      simp only [Act.put, List.getElem_toArray, List.getElem_cons_zero, List.getElem_cons_succ, List.setIfInBounds_toArray, List.set_cons_zero, List.set_cons_succ]
      refine wpAnyH_take (i := 3) (v := ?_) rfl (by kernel_rfl) (by kernel_rfl) (by kernel_rfl) (fun _ _ _ h => h) (Or.inl ⟨by rfl, ?q3⟩) HS.out ?_
      case q3 => intro w hSw; obtain ⟨q1, q2, q3, q4⟩ := KD.out _ hSw; go_simp; rfl
      simp only [Act.put, List.getElem_toArray, List.getElem_cons_zero, List.getElem_cons_succ, List.setIfInBounds_toArray, List.set_cons_zero, List.set_cons_succ]
      refine wpAnyH_take (i := 4) (v := ?_) rfl (by kernel_rfl) (by kernel_rfl) (by kernel_rfl) (fun _ _ _ h => h) (Or.inl ⟨by rfl, ?q4⟩) HS.out ?_
      case q4 => intro w hSw; obtain ⟨q1, q2, q3, q4⟩ := KD.out _ hSw; go_simp; rfl
      simp only [Act.put, List.getElem_toArray, List.getElem_cons_zero, List.getElem_cons_succ, List.setIfInBounds_toArray, List.set_cons_zero, List.set_cons_succ]
      refine wpAnyH_take (i := 5) (v := ?_) rfl (by kernel_rfl) (by kernel_rfl) (by kernel_rfl) (fun _ _ _ h => h) (Or.inl ⟨by rfl, ?q5⟩) HS.out ?_
      case q5 => intro w hSw; obtain ⟨q1, q2, q3, q4⟩ := KD.out _ hSw; go_simp; rfl
      simp only [Act.put, List.getElem_toArray, List.getElem_cons_zero, List.getElem_cons_succ, List.setIfInBounds_toArray, List.set_cons_zero, List.set_cons_succ]
      refine wpAnyH_take (i := 6) (v := ?_) rfl (by kernel_rfl) (by kernel_rfl) (by kernel_rfl) (fun _ _ _ h => h) (Or.inl ⟨by rfl, ?q6⟩) HS.out ?_
      case q6 => intro w hSw; obtain ⟨q1, q2, q3, q4⟩ := KD.out _ hSw; go_simp; rfl
      simp only [Act.put, List.getElem_toArray, List.getElem_cons_zero, List.getElem_cons_succ, List.setIfInBounds_toArray, List.set_cons_zero, List.set_cons_succ]
      refine wpAnyH_take (i := 7) (v := ?_) rfl (by kernel_rfl) (by kernel_rfl) (by kernel_rfl) (fun _ _ _ h => h) (Or.inl ⟨by rfl, ?q7⟩) HS.out ?_
      case q7 => intro w hSw; obtain ⟨q1, q2, q3, q4⟩ := KD.out _ hSw; go_simp; rfl
      simp only [Act.put, List.getElem_toArray, List.getElem_cons_zero, List.getElem_cons_succ, List.setIfInBounds_toArray, List.set_cons_zero, List.set_cons_succ]
      refine wpAnyH_take (i := 8) (v := ?_) rfl (by kernel_rfl) (by kernel_rfl) (by kernel_rfl) (fun _ _ _ h => h) (Or.inl ⟨by rfl, ?q8⟩) HS.out ?_
      case q8 => intro w hSw; obtain ⟨q1, q2, q3, q4⟩ := KD.out _ hSw; go_simp; rfl
      simp only [Act.put, List.getElem_toArray, List.getElem_cons_zero, List.getElem_cons_succ, List.setIfInBounds_toArray, List.set_cons_zero, List.set_cons_succ]
      refine wpAnyH_take (i := 10) (v := ?_) rfl (by kernel_rfl) (by kernel_rfl) (by kernel_rfl) (fun _ _ _ h => h) (Or.inl ⟨by rfl, ?q10⟩) HS.out ?_
      case q10 => intro w hSw; obtain ⟨q1, q2, q3, q4⟩ := KD.out _ hSw; go_simp; rfl
      simp only [Act.put, List.getElem_toArray, List.getElem_cons_zero, List.getElem_cons_succ, List.setIfInBounds_toArray, List.set_cons_zero, List.set_cons_succ]
      refine wpAnyH_take (i := 11) (v := ?_) rfl (by kernel_rfl) (by kernel_rfl) (by kernel_rfl) (fun _ _ _ h => h) (Or.inl ⟨by rfl, ?q11⟩) HS.out ?_
      case q11 => intro w hSw; obtain ⟨q1, q2, q3, q4⟩ := KD.out _ hSw; go_simp; rfl
      simp only [Act.put, List.getElem_toArray, List.getElem_cons_zero, List.getElem_cons_succ, List.setIfInBounds_toArray, List.set_cons_zero, List.set_cons_succ]
      refine wpAnyH_take (i := 12) (v := ?_) rfl (by kernel_rfl) (by kernel_rfl) (by kernel_rfl) (fun _ _ _ h => h) (Or.inl ⟨by rfl, ?q12⟩) HS.out ?_
      case q12 => intro w hSw; obtain ⟨q1, q2, q3, q4⟩ := KD.out _ hSw; go_simp; rfl
      simp only [Act.put, List.getElem_toArray, List.getElem_cons_zero, List.getElem_cons_succ, List.setIfInBounds_toArray, List.set_cons_zero, List.set_cons_succ]
      refine wpAnyH_take (i := 13) (v := ?_) rfl (by kernel_rfl) (by kernel_rfl) (by kernel_rfl) (fun _ _ _ h => h) (Or.inl ⟨by rfl, ?q13⟩) HS.out ?_
      case q13 => intro w hSw; obtain ⟨q1, q2, q3, q4⟩ := KD.out _ hSw; go_simp; rfl
      simp only [Act.put, List.getElem_toArray, List.getElem_cons_zero, List.getElem_cons_succ, List.setIfInBounds_toArray, List.set_cons_zero, List.set_cons_succ]
      refine wpAnyH_ready (rs := [9]) (by kernel_rfl) (by simp) ?_
      refine AllReadyH.cons rfl (fun K hK => ?_) AllReadyH.nil
      replace hK := hid hK
      go_simp
      refine (CB.out _ HS.out).mono ?_
      rintro e w3 ⟨v1, rfl, ho1, hb3⟩
      have E3 := hid (HS.out.trans (S' := fun _ => False) (Ex.of_below hb3) (fun _ q => q.elim))
      have O1 := hid ho1
      have B3 := hid hb3
      obtain ⟨p1, c1, hv1⟩ := own_slc ho1
      subst hv1
      clear ho1 hb3
      refine hK.out _ _ E3.out (fun _ => ?_)
      clear hK K HS
      have HS := E3
      refine wpAnyH_ready (rs := [14]) (by kernel_rfl) (by simp) ?_
      refine AllReadyH.cons rfl (fun K hK => ?_) AllReadyH.nil
      replace hK := hid hK
      go_simp
      refine (CL.out _ HS.out).mono ?_
      rintro e w4 ⟨v2, rfl, ho2, hb4⟩
      have E4 := hid (HS.out.trans (S' := fun _ => False) (Ex.of_below hb4) (fun _ q => q.elim))
      have O2 := hid ho2
      have B4 := hid hb4
      obtain ⟨b2, cap2, hv2, -⟩ := ho2
      subst hv2
      clear hb4
      refine hK.out _ _ E4.out (fun _ => ?_)
      clear hK K HS
      have HS := E4
      refine wpAnyH_take (i := 15) rfl (by kernel_rfl) (by kernel_rfl) (by kernel_rfl) (fun _ _ _ h => h) (yieldsIf_buildS (by rfl) 60 _ rfl #[(0, .agg (ixA z.2.k.sp)), (1, .int .i64 z.2.k.sp.nb), (2, .slice p1 z.2.k.bs.length c1), (3, .slice (some ⟨b2, 0, none⟩) z.2.k.ls.length cap2)] (by unfold ixA; go_simp) _ (fun W => HBD.out W _ _ _ _ _ _)) HS.out ?_
      simp only [Act.put, List.getElem_toArray, List.getElem_cons_zero, List.getElem_cons_succ, List.setIfInBounds_toArray, List.set_cons_zero, List.set_cons_succ]
      obtain ⟨L, HL⟩ : ∃ L, Hid (kpL z.2.k (.slice p1 z.2.k.bs.length c1) (.slice (some ⟨b2, 0, none⟩) z.2.k.ls.length cap2) = L) := ⟨_, hid rfl⟩
      have hlit := HLT.out w4 p1 (some ⟨b2, 0, none⟩) z.2.k.bs.length c1 z.2.k.ls.length cap2
      rw [HL.out] at hlit
      rw [HL.out]
      obtain ⟨w5, HW5⟩ : ∃ W : World, Hid (w4.alloc (.cells L.toArray 60) = W) := ⟨_, hid rfl⟩
      rw [HW5.out] at hlit
      refine wpAnyH_ready (rs := [16]) (by kernel_rfl) (by simp) ?_
      refine AllReadyH.cons rfl (fun K hK => ?_) AllReadyH.nil
      replace hK := hid hK
      refine wanted_lit (by rfl) 22 1 _ rfl #[(0, .agg L.toArray)] (by go_simp) _ hlit ?_
      simp only [Act.put, List.getElem_toArray, List.getElem_cons_zero, List.getElem_cons_succ, List.setIfInBounds_toArray, List.set_cons_zero, List.set_cons_succ]
      have B5 : Hid (Below w4.heap.size w4 w5) := hid (by rw [← HW5.out]; exact (Below.refl _ w4).alloc (Nat.le_refl _) _)
      have E5 := hid (HS.out.trans (S' := fun _ => False) (Ex.of_below B5.out) (fun _ q => q.elim))
      refine hK.out _ _ E5.out (fun _ => ?_)
      clear hK K HS hlit
      have HS := E5
      have HL5 : Hid (w5.heap[w4.heap.size]? = some (.cells L.toArray 60 (0, 0))) := hid (by rw [← HW5.out]; exact heap_alloc_new w4 _)
      have HLl : Hid (L.length = 1 * 19) := hid (by rw [← HL.out]; exact kpL_length HOK.out _ _)
      have K5 : Hid (∀ k, k < W2.heap.size → w5.heap[k]? = W2.heap[k]?) := hid (fun k hk => by
        have s2 : W2.heap.size ≤ w3.heap.size := B3.out.size
        have s3 := B4.out.size
        rw [B5.out.block k (by omega), B4.out.block k (by omega)]
        exact B3.out.block k hk)
      have O5 : Hid (w5.ownsRow (w.heap.size + 2) 60 19 (.slice p3 C.length c3) C.length (C.flatMap rkL)) := hid (ownsRow_of HR.out.row fun k hk => by
        have q1 := HS1.out
        have q2 := HS2.out
        obtain ⟨a1, a2, -⟩ := OB.out k hk
        rw [K5.out k (by omega), B2.out.block k (by omega), HK1.out k (by omega)])
      have S5 : Hid (w.heap.size + 2 ≤ w5.heap.size ∧ W2.heap.size ≤ w3.heap.size ∧ w3.heap.size ≤ w4.heap.size ∧ w4.heap.size < w5.heap.size) := hid (by
        have s2 : W2.heap.size ≤ w3.heap.size := B3.out.size
        have s3 := B4.out.size
        have s4 := (Array.getElem?_eq_some_iff.1 HL5.out).1
        have q1 := HS1.out
        have q2 := HS2.out
        omega)
      have HCl : Hid (C.length ≤ 1048576) := hid (by
        have := HR.out.perm.length_eq
        simp [kpK] at this
        omega)
      obtain ⟨i0, hi, hz0, hz1, hz2⟩ := info_parts info_kept
      clear HBD HLT
      refine wpAnyH_ready (rs := [17]) (by kernel_rfl) (by simp) ?_
      refine AllReadyH.cons rfl (fun K hK => ?_) AllReadyH.nil
      replace hK := hid hK
      rw [if_pos (by rfl)]
      refine wp_append_own w5 _ _ 22 rfl (w.heap.size + 2) 60 i0 (.agg zkept) 19 72 Try.underlying22 hi hz0 hz1 hz2 rfl (by decide) (.slice p3 C.length c3) C.length (C.flatMap rkL) rfl O5.out ⟨w4.heap.size, 0, none⟩ 1 1 L rfl HLl.out (fun j u hj => by
          rw [Go.WideShapes.add_plain, Nat.zero_add, cell_of_row _ _ _ _ _ _ HL5.out]
          simpa using hj) (fun u hu => rkL_one' (by rw [HL.out]; exact hu)) (by have := HCl.out; unfold maxLen; omega) (by have := HCl.out; omega) S5.out.1 (fun v6 w6 ho6 hg6 _ => ?_)
      have O6 := hid ho6
      have G6 := hid hg6
      obtain ⟨p6, c6, hv6⟩ := ownsRow_slc ho6
      subst hv6
      clear ho6 hg6
      simp only [Act.put, List.getElem_toArray, List.getElem_cons_zero, List.getElem_cons_succ, List.setIfInBounds_toArray, List.set_cons_zero, List.set_cons_succ]
      have E6 := hid (HS.out.trans (Ex.grown (S := fun k => (Value.slice p3 C.length c3).ownBlock = some k) G6.out (fun k hk => hk)) (fun _ q => .inl q))
      refine hK.out _ _ E6.out (fun _ => ?_)
      clear hK K HS
      have HS := E6
      refine wpAnyH_take (i := 18) (v := ?_) rfl (by kernel_rfl) (by kernel_rfl) (by kernel_rfl) (fun _ _ _ h => h) (Or.inl ⟨by rfl, ?q18⟩) HS.out ?_
      case q18 => intro w hSw; obtain ⟨q1, q2, q3, q4⟩ := KD.out _ hSw; go_simp; rfl
      simp only [Act.put, List.getElem_toArray, List.getElem_cons_zero, List.getElem_cons_succ, List.setIfInBounds_toArray, List.set_cons_zero, List.set_cons_succ]
      refine wpAnyH_done (by kernel_rfl) ?_ _
      have K6 : Hid (∀ k, k < wr.heap.size → k ≠ w.heap.size + 1 → (Value.slice p3 C.length c3).ownBlock ≠ some k → w6.heap[k]? = wr.heap[k]?) := hid (fun k hk h1 h2 => by
        have q1 := HS1.out
        have q2 := HS2.out
        rw [E6.out.block k (by omega) h2, B2.out.block k (by omega), HK1.out k h1])
      have N6 : Hid (∀ k, W2.heap.size ≤ k → k < w5.heap.size → w6.heap[k]? = w5.heap[k]?) := hid (fun k hk h1 => G6.out.block k h1 (fun e => by
        have q1 := HS1.out
        have q2 := HS2.out
        have := (OB.out k e.symm).2.1
        omega))
      have I6 : Hid (w6.heap[w.heap.size + 1]? = some (.mapIter (some b) c (seen.push z.1.born) c)) := hid (by
        have q1 := HS1.out
        have q2 := HS2.out
        rw [E6.out.block _ (by omega) (fun e => by have := (OB.out _ e).1; omega), B2.out.block _ (by omega)]
        exact HIT.out)
      have Z6 : Hid (HZ w6 g b c room tick Z S) := hid (HZ2.out.of fun k hk => E6.out.block k (HZ2.out.lt k hk) (fun e => by
        have := (OB.out _ e).1
        have := hSl k hk
        omega))
      have X6 : Hid (HRk w6 (w.heap.size + 2) ⟨z.2.k, .slice p1 z.2.k.bs.length c1, .slice (some ⟨b2, 0, none⟩) z.2.k.ls.length cap2⟩) := hid (by
        have q1 := HS1.out
        have q2 := HS2.out
        have q3 := S5.out
        refine ⟨HOK.out, ?_, ?_, fun k hk => ?_⟩
        · have h1 : OBy w3 (.slice p1 z.2.k.bs.length c1) z.2.k.bs := ⟨own_mono O1.out (Nat.zero_le _), HE2.out.by'.2⟩
          refine h1.of fun k hk => ?_
          obtain ⟨a1, cur, a2⟩ := ownsRow_block O1.out hk
          have a3 := (Array.getElem?_eq_some_iff.1 a2).1
          have a4 : W2.heap.size ≤ k := a1
          rw [N6.out k a4 (by omega), B5.out.block k (by omega), B4.out.block k (by omega)]
        · obtain ⟨b', cap', e, hr, hB, hc⟩ := O2.out
          have a3 := hr.lt
          cases e
          refine ⟨b2, cap2, rfl, hr.of ?_, by omega, hc⟩
          rw [N6.out b2 (by omega) (by omega), B5.out.block b2 (by omega)]
        · obtain ⟨a1, cur, a2⟩ := ownsRow_block O1.out hk
          have a4 : W2.heap.size ≤ k := a1
          omega)
      obtain ⟨A, B, hAB⟩ := List.append_of_mem HZZ.out
      have R6 : Hid (RgS w g b c room tick Z S w6 (seen.push z.1.born) (.slice p6 (C.length + 1) c6) (C ++ [⟨z.2.k, .slice p1 z.2.k.bs.length c1, .slice (some ⟨b2, 0, none⟩) z.2.k.ls.length cap2⟩])) := hid (by
        refine ⟨Z6.out, I6.out, ?_, ?_, ?_, ?_, ?_⟩
        · rw [K6.out _ (by omega) (by omega) (fun e => by have := (OB.out _ e).1; omega)]
          exact HR.out.box
        · rw [List.length_append, List.flatMap_append]
          have e : [(⟨z.2.k, .slice p1 z.2.k.bs.length c1, .slice (some ⟨b2, 0, none⟩) z.2.k.ls.length cap2⟩ : Rk)].flatMap rkL = L := by rw [← HL.out]; simp [rkL]
          rw [e]
          exact O6.out
        · intro x hx
          rcases List.mem_append.1 hx with hx | hx
          · refine (HR.out.all x hx).of fun k ⟨cs, T, q, hT⟩ => K6.out k (Array.getElem?_eq_some_iff.1 q).1 (fun e => ?_) (fun e => ?_)
            · rw [e, HR.out.it] at q; cases q
            · obtain ⟨-, -, cur, a⟩ := OB.out k e
              rw [a] at q
              simp at q
              exact hT q.2.symm
          · rw [List.mem_singleton.1 hx]; exact X6.out
        · have hp := HR.out.perm
          have hb0 := HH.out.born
          rw [hAB] at hp hb0 ⊢
          refine List.Perm.trans ?_ hp
          rw [List.map_append, List.append_assoc]
          exact (List.Perm.append_left _ (unS_push hb0 he2)).symm
        · exact HB1.out.trans ((B2.out.mono HB1.out.size).trans (E6.out.below (by have q1 := HS1.out; have q2 := HS2.out; omega) (fun k hk => by have := (OB.out _ hk).1; omega))))
      have M6 : Hid (leftN w6 b (w.heap.size + 1) < leftN wr b (w.heap.size + 1)) := hid (by
        rw [leftN_eq I6.out Z6.out.mp, HM0.out, hAB]
        exact left_less1 he2)
      go_wp2
      exact ⟨⟨_, _, R6.out⟩, M6.out⟩
theorem state_any {w : World} {g b c : Nat} {room tick : Int} {Z : List (MapEntry × En)} {S : Nat → Prop} (h : HZ w g b c room tick Z S) (hn : Z.length ≤ 1048576) (hby : ∀ z ∈ Z, z.2.k.bs.length ≤ 1048576) : Calls Try.prog 9 #[.pointer (some ⟨g, 0, none⟩)] w fun e w' => ∃ vk Ks, e = .returned (.agg #[.int .i64 room, .int .i64 tick, vk]) ∧ RdK w' vk Ks ∧ (Ks.map (·.k)).Perm (kpK Z) ∧ Ks.Pairwise (fun x y => cmpS x.k.sp y.k.sp < 0) ∧ Below w.heap.size w w' :=
  (state_own h hn hby).mono fun e w' ⟨vk, Ks, h1, h2, h3⟩ => ⟨vk, Ks, h1, h2.rd, h3⟩
end Go.Proofs.Ythmhpenjegfbcaa
namespace Go.Proofs.Ythmhpenjegfbcaa
open Go.RowKit
theorem take_eq_step (la lb : List Int) (k : Nat) (ha : k < la.length) (hb : k < lb.length) (h : la.take k = lb.take k) (e : la.getD k 0 = lb.getD k 0) : la.take (k + 1) = lb.take (k + 1) := by
  rw [List.take_succ_eq_append_getElem ha, List.take_succ_eq_append_getElem hb, h]
  have e1 : la.getD k 0 = la[k] := by simp [List.getD, List.getElem?_eq_getElem ha]
  have e2 : lb.getD k 0 = lb[k] := by simp [List.getD, List.getElem?_eq_getElem hb]
  rw [e1, e2] at e
  rw [e]
theorem take_ne (la lb : List Int) (k : Nat) (e : la.getD k 0 ≠ lb.getD k 0) : la ≠ lb := fun h => e (by rw [h])
set_option maxHeartbeats 400000 in
theorem sameBytes_any (w : World) (va vb : Value) (la lb : List Int) (ha : HB w va la) (hb : HB w vb lb) :
    Calls Try.prog 15 #[va, vb] w fun e w' => e = .returned (.bool (decide (la = lb))) ∧ Dr w w' := by
  by_cases hlen : la.length = lb.length
  · by_cases h0 : 0 < la.length
    · obtain ⟨b1, o1, c1, rfl, hc1, hm1, hk1⟩ := ha.ne h0
      obtain ⟨b2, o2, c2, rfl, hc2, hm2, hk2⟩ := hb.ne (by omega)
      unfold maxLen at hm1 hm2
      have hm : la.length ≤ 9223372036854775807 := by omega
      have HL : Hid (la.length = lb.length) := hlen
      rw [← hlen]
      have hcd : ∀ j, j < la.length → w.cell? ⟨b2, o2 + j, none⟩ = some (.int .u8 (lb.getD j 0)) := fun j hj => hk2 j (by omega)
      clear hlen hk2
      go_enter Try.func15, Try.ntmps15
      go_wp2
      go_loopw [5] (fun i wr => ∃ k : Nat, k ≤ la.length ∧ i = .int .i64 k ∧ la.take k = lb.take k ∧ Dr w wr) (fun i _ => la.length - (intOf i).toNat)
      case atStart => exact ⟨0, Nat.zero_le _, rfl, rfl, Dr.refl _⟩
      case round =>
        obtain ⟨k, hk, rfl, ht, q, rfl⟩ := hrel
        by_cases hlt : k < la.length
        · have g1 := hk1 k hlt
          have g2 := hcd k hlt
          obtain ⟨x, hx⟩ : ∃ x, la.getD k 0 = x := ⟨_, rfl⟩
          obtain ⟨y, hy⟩ : ∃ y, lb.getD k 0 = y := ⟨_, rfl⟩
          rw [hx] at g1
          rw [hy] at g2
          have HX := hid hx
          have HY := hid hy
          clear hx hy hk1 hcd
          by_cases he : x = y
          · have hne : (x != y) = false := by simpa using he
            have HE := hid he
            clear he
            go_wp2
            go_quiet (fail)
            go_wp2
            exact ⟨⟨k + 1, by omega, by go_num, take_eq_step la lb k hlt (by have := HL.out; omega) ht (by rw [HX.out, HY.out, HE.out]), Dr.one _ _⟩, by simp [intOf]; omega⟩
          · have hne : (x != y) = true := by simpa using he
            go_wp2
            go_quiet (fail)
            go_wp2
            go_ret
            exact ⟨by simp [take_ne la lb k (by rw [HX.out, HY.out]; exact he)], (Dr.one _ _).drewN _⟩
        · go_wp2
          go_ret
          have e : la = lb := by
            have h1 := List.take_of_length_le (show la.length ≤ k by omega)
            have h2 := List.take_of_length_le (show lb.length ≤ k by have := HL.out; omega)
            rw [← h1, ← h2, ht]
          exact ⟨by simp [e], Dr.one _ _⟩
    · obtain ⟨p1, c1, rfl, _, _⟩ := ha.open
      obtain ⟨p2, c2, rfl, _, _⟩ := hb.open
      have e1 : la = [] := List.length_eq_zero_iff.1 (by omega)
      have e2 : lb = [] := List.length_eq_zero_iff.1 (by omega)
      subst e1 e2
      go_enter Try.func15, Try.ntmps15
      go_wp2
      go_loop [5] (fun i => i = .int .i64 0) (fun _ => 0)
      case atStart => rfl
      case round =>
        subst hrel
        go_wp2
        go_ret
        exact ⟨rfl, Dr.refl _⟩
  · obtain ⟨p1, c1, rfl, _, _⟩ := ha.open
    obtain ⟨p2, c2, rfl, _, _⟩ := hb.open
    have hne : ((la.length : Int) != (lb.length : Int)) = true := by rw [bne_iff_ne]; omega
    go_enter Try.func15, Try.ntmps15
    go_wp2
    go_ret
    exact ⟨by simp [show la ≠ lb from fun e => hlen (by rw [e])], Dr.refl _⟩
def cellsB (l : List Int) : Array Value := (l.map (Value.int .u8)).toArray
theorem cellsB_size (l : List Int) : (cellsB l).size = l.length := by simp [cellsB]
theorem cellsB_one (l : List Int) : (cellsB l).all (·.oneCell') = true := all_oneCell_toArray (fun v hv => by obtain ⟨x, _, rfl⟩ := List.mem_map.1 hv; rfl)
def zeros32 : List Int := List.replicate 32 0
theorem isAgg_u8 (w : World) : (isAgg 5).run Try.prog w = .ok false w := by
  unfold isAgg
  rw [Sem.run_bind, run_underlying Try.underlying5 w]
  rfl
theorem part_u8 (w : World) (l : List Int) (i : Nat) (hi : i < l.length) : (part 5 (cellsB l) i).run Try.prog w = .ok (.int .u8 (l.getD i 0)) w := by
  have e : (cellsB l)[i]? = some (.int .u8 (l.getD i 0)) := by simp [cellsB, List.getD, List.getElem?_eq_getElem hi]
  simp [part, e]
def eqRound (d : Nat) (xs ys : List Int) (i : Nat) (_ : Option Bool × Unit) : Sem (ForInStep (Option Bool × Unit)) := do
  let a ← part 5 (cellsB xs) (i * 1)
  let b ← part 5 (cellsB ys) (i * 1)
  let c ← Op.equalIn (d + 1) 5 a b
  if (!c) = true then pure (ForInStep.done (some false, ())) else pure (ForInStep.yield (none, ()))
theorem run_eqRound (w : World) (d : Nat) (xs ys : List Int) (i : Nat) (s : Option Bool × Unit) (hx : i < xs.length) (hy : i < ys.length) :
    (eqRound d xs ys i s).run Try.prog w = .ok (if xs.getD i 0 = ys.getD i 0 then .yield (none, ()) else .done (some false, ())) w := by
  unfold eqRound
  simp only [Sem.run_bind, Nat.mul_one, part_u8 w xs i hx, part_u8 w ys i hy, Result.andThen_ok, run_equalIn_int w d 5 .u8 .u8 _ _ Try.underlying5]
  by_cases h : xs.getD i 0 = ys.getD i 0
  · have e : (xs.getD i 0 == ys.getD i 0) = true := by simpa using h
    rw [e, if_pos h]; rfl
  · have e : (xs.getD i 0 == ys.getD i 0) = false := by simpa using h
    rw [e, if_neg h]; rfl
theorem run_eqRounds (w : World) (d n : Nat) (xs ys : List Int) (hx : xs.length = n) (hy : ys.length = n) : ∀ (m k : Nat), k + m = n → xs.take k = ys.take k →
    (forIn (List.range' k m 1) ((none : Option Bool), ()) (eqRound d xs ys)).run Try.prog w = .ok (if xs = ys then (none, ()) else (some false, ())) w
  | 0, k, hk, ht => by
    have e : xs = ys := by rw [← List.take_of_length_le (show xs.length ≤ k by omega), ← List.take_of_length_le (show ys.length ≤ k by omega), ht]
    simp [e]
  | m + 1, k, hk, ht => by
    rw [List.range'_succ, List.forIn_cons, Sem.run_bind, run_eqRound w d xs ys k _ (by omega) (by omega), Result.andThen_ok]
    by_cases h : xs.getD k 0 = ys.getD k 0
    · rw [if_pos h]
      have h2 : xs.take (k + 1) = ys.take (k + 1) := by
        rw [List.take_succ_eq_append_getElem (by omega), List.take_succ_eq_append_getElem (by omega), ht]
        rw [getD_of_lt (by omega), getD_of_lt (by omega)] at h
        rw [h]
      exact run_eqRounds w d n xs ys hx hy m (k + 1) (by omega) h2
    · rw [if_neg h, if_neg (fun e => h (by rw [e]))]
      rfl
theorem run_equalIn_bytes (w : World) (d n : Nat) (t : TypeId) (ht : Try.prog.underlying t = some (.array n 5)) (xs ys : List Int) (hx : xs.length = n) (hy : ys.length = n) :
    (Op.equalIn (d + 2) t (.agg (cellsB xs)) (.agg (cellsB ys))).run Try.prog w = .ok (decide (xs = ys)) w := by
  rw [Op.equalIn]
  simp only [Sem.run_bind, run_underlying ht, Result.andThen_ok, size_u8]
  have hr := run_eqRounds w d n xs ys hx hy n 0 (by omega) rfl
  have e : (forIn (m := Sem) [:n] ((none : Option Bool), ()) (eqRound d xs ys)) = forIn (List.range' 0 n 1) ((none : Option Bool), ()) (eqRound d xs ys) := by
    rw [Std.Legacy.Range.forIn_eq_forIn_range']
    simp [Std.Legacy.Range.size]
  rw [← e] at hr
  refine (congrArg (fun r => Result.andThen r _) hr).trans ?_
  by_cases h : xs = ys
  · simp [h]
  · simp [h]
theorem run_neq_bytes (w : World) (n : Nat) (t : TypeId) (ht : Try.prog.underlying t = some (.array n 5)) (xs ys : List Int) (hx : xs.length = n) (hy : ys.length = n) :
    (binOp .neq t (.agg (cellsB xs)) (.agg (cellsB ys))).run Try.prog w = .ok (.bool (!decide (xs = ys))) w := by
  rw [run_neq_struct, run_equalIn_bytes w 9998 n t ht xs ys hx hy]
  rfl
theorem run_eql_bytes (w : World) (n : Nat) (t : TypeId) (ht : Try.prog.underlying t = some (.array n 5)) (xs ys : List Int) (hx : xs.length = n) (hy : ys.length = n) :
    (binOp .eql t (.agg (cellsB xs)) (.agg (cellsB ys))).run Try.prog w = .ok (.bool (decide (xs = ys))) w := by
  rw [run_eql_struct, run_equalIn_bytes w 9998 n t ht xs ys hx hy]
  rfl
end Go.Proofs.Ythmhpenjegfbcaa
namespace Go.Proofs.Ythmhpenjegfbcaa
open Go Go.RowKit
theorem take_stepG {α : Type} [DecidableEq α] {la lb : List α} {k : Nat} (ha : k < la.length) (hb : k < lb.length) (h : la.take k = lb.take k) (e : la[k] = lb[k]) : la.take (k + 1) = lb.take (k + 1) := by
  rw [List.take_succ_eq_append_getElem ha, List.take_succ_eq_append_getElem hb, h, e]
theorem RdL.c {w : World} {v : Value} {ls : List Lz} (h : RdL w v ls) (hl : 0 < ls.length) : ∃ b off c, v = .slice (some ⟨b, off, none⟩) ls.length c ∧ ∀ i (hi : i < ls.length), w.cell? ⟨b, off + i * 2, none⟩ = some (.int .u32 ls[i].who) ∧ w.cell? ⟨b, off + i * 2 + 1, none⟩ = some (.int .i64 ls[i].til) := by
  obtain ⟨p, c, h1, h2⟩ := h
  obtain ⟨b, off, rfl, hr⟩ := h2 (List.length_pos_iff.1 hl)
  exact ⟨b, off, c, h1, fun i hi => ⟨hr _ _ (lzL_at ls i hi).1, hr _ _ (lzL_at ls i hi).2⟩⟩
set_option maxRecDepth 100000 in
set_option maxHeartbeats 4000000 in
theorem sameLeases_any (w : World) (va vb : Value) (la lb : List Lz) (ha : RdL w va la) (hb : RdL w vb lb) (hm : la.length ≤ 1048576) :
    Calls Try.prog 38 #[va, vb] w fun e w' => e = .returned (.bool (decide (la = lb))) ∧ Dr w w' := by
  by_cases hlen : la.length = lb.length
  · by_cases h0 : 0 < la.length
    · obtain ⟨b1, o1, c1, rfl, hk1⟩ := ha.c h0
      obtain ⟨b2, o2, c2, rfl, hk2⟩ := hb.c (by omega)
      have hneq := run_neq_lease
      have HL : Hid (la.length = lb.length) := hid hlen
      rw [← hlen]
      clear ha hb hlen
      have HK1 := hid hk1
      have HK2 := hid hk2
      clear hk1 hk2
      go_enter Try.func38, Try.ntmps38
      go_wp2
      go_loopw [5] (fun i wr => ∃ k : Nat, k ≤ la.length ∧ i = .int .i64 k ∧ la.take k = lb.take k ∧ Dr w wr) (fun i _ => la.length - (intOf i).toNat)
      case atStart => exact ⟨0, Nat.zero_le _, rfl, rfl, Dr.refl _⟩
      case round =>
        obtain ⟨k, hk, rfl, ht, q, rfl⟩ := hrel
        by_cases hlt : k < la.length
        · have hlt2 : k < lb.length := by have := HL.out; omega
          obtain ⟨g1, g2⟩ := HK1.out k hlt
          obtain ⟨g3, g4⟩ := HK2.out k hlt2
          obtain ⟨x, HX⟩ : ∃ x, Hid (la[k] = x) := ⟨_, hid rfl⟩
          obtain ⟨y, HY⟩ : ∃ y, Hid (lb[k] = y) := ⟨_, hid rfl⟩
          rw [HX.out] at g1 g2
          rw [HY.out] at g3 g4
          obtain ⟨x1, x2⟩ := x
          obtain ⟨y1, y2⟩ := y
          simp only at g1 g2 g3 g4
          by_cases he : x1 = y1 ∧ x2 = y2
          · have hne : (!(x1 == y1 && x2 == y2)) = false := by simp [he.1, he.2]
            have HE := hid he
            clear he
            go_wp2
            go_region
            go_wp2
            exact ⟨⟨k + 1, by omega, by go_num, take_stepG hlt hlt2 ht (by rw [HX.out, HY.out, HE.out.1, HE.out.2]), Dr.one _ _⟩, by simp [intOf]; omega⟩
          · have hne : (!(x1 == y1 && x2 == y2)) = true := by simp; omega
            have HE := hid he
            clear he
            go_wp2
            go_region
            go_wp2
            go_ret
            refine ⟨?_, Dr.one _ _⟩
            have : la ≠ lb := fun e => by
              have h1 := HX.out
              have h2 := HY.out
              subst e
              rw [h1] at h2
              simp at h2
              exact HE.out h2
            simp [this]
        · go_wp2
          go_ret
          have e : la = lb := by
            have h1 := List.take_of_length_le (show la.length ≤ k by omega)
            have h2 := List.take_of_length_le (show lb.length ≤ k by have := HL.out; omega)
            rw [← h1, ← h2, ht]
          exact ⟨by simp [e], Dr.one _ _⟩
    · obtain ⟨p1, c1, rfl, _⟩ := ha
      obtain ⟨p2, c2, rfl, _⟩ := hb
      have e1 : la = [] := List.length_eq_zero_iff.1 (by omega)
      have e2 : lb = [] := List.length_eq_zero_iff.1 (by omega)
      subst e1 e2
      go_enter Try.func38, Try.ntmps38
      go_wp2
      go_loop [5] (fun i => i = .int .i64 0) (fun _ => 0)
      case atStart => rfl
      case round =>
        subst hrel
        go_wp2
        go_ret
        exact ⟨rfl, Dr.refl _⟩
  · obtain ⟨p1, c1, rfl, _⟩ := ha
    obtain ⟨p2, c2, rfl, _⟩ := hb
    have hl' : ((la.length : Int) != (lb.length : Int)) = true := by rw [bne_iff_ne]; omega
    go_enter Try.func38, Try.ntmps38
    go_wp2
    go_ret
    refine ⟨?_, Dr.refl _⟩
    have : la ≠ lb := fun e => hlen (by rw [e])
    simp [this]
def RdR (w : World) (x : Rk) : Prop := x.k.sp.ok ∧ HB w x.vb x.k.bs ∧ RdL w x.vl x.k.ls
theorem RdR.below {w w' : World} {x : Rk} (h : RdR w x) (hb : Below w.heap.size w w') : RdR w' x := ⟨h.1, h.2.1.below hb, h.2.2.below hb⟩
def kpE (x y : Kp) : Bool := decide (x.sp.ix = y.sp.ix) && ((x.sp.nb == y.sp.nb) && (decide (x.bs = y.bs) && decide (x.ls = y.ls)))
theorem kpE_iff {x y : Kp} : kpE x y = true ↔ x = y := by
  obtain ⟨⟨a1, a2⟩, a3, a4⟩ := x
  obtain ⟨⟨b1, b2⟩, b3, b4⟩ := y
  unfold kpE
  simp [and_assoc]
set_option maxRecDepth 100000 in
set_option maxHeartbeats 8000000 in
theorem sameKept_any (w : World) (x y : Rk) (hx : RdR w x) (hy : RdR w y) (hm : x.k.ls.length ≤ 1048576) :
    Calls Try.prog 24 #[.agg (rkL x).toArray, .agg (rkL y).toArray] w fun e w' => e = .returned (.bool (kpE x.k y.k)) ∧ Below w.heap.size w w' := by
  obtain ⟨W1, HW1⟩ : ∃ W : World, Hid (w.alloc (.cells (rkL x).toArray 60) = W) := ⟨_, hid rfl⟩
  obtain ⟨W2, HW2⟩ : ∃ W : World, Hid (W1.alloc (.cells (rkL y).toArray 60) = W) := ⟨_, hid rfl⟩
  have Z1 : Hid (W1.heap.size = w.heap.size + 1) := hid (by rw [← HW1.out]; simp)
  have B1 : Hid (Below w.heap.size w W1) := by rw [← HW1.out]; exact hid ((Below.refl _ w).alloc (Nat.le_refl _) _)
  have B2 : Hid (Below W1.heap.size W1 W2) := by rw [← HW2.out]; exact hid ((Below.refl _ W1).alloc (Nat.le_refl _) _)
  have r1 : W2.rangeAt w.heap.size 0 (rkL x) := range_of ((B2.out.block _ (by have := Z1.out; omega)).trans (by rw [← HW1.out]; exact heap_alloc_new w _))
  have r2 : W2.rangeAt (w.heap.size + 1) 0 (rkL y) := range_of (by rw [← Z1.out, ← HW2.out]; exact heap_alloc_new W1 _)
  have BB : Hid (Below w.heap.size w W2) := hid (B1.out.trans (B2.out.mono B1.out.size))
  have ok1 := hx.1
  have ok2 := hy.1
  have cc : ∀ {g : Nat} {z : Rk}, W2.rangeAt g 0 (rkL z) → z.k.sp.ok → W2.rangeAt g 0 (z.k.sp.ix.map (Value.int .u8)) ∧ W2.cell? ⟨g, 16, none⟩ = some (.int .i64 z.k.sp.nb) ∧ W2.cell? ⟨g, 17, none⟩ = some z.vb ∧ W2.cell? ⟨g, 18, none⟩ = some z.vl := fun {g z} r ok => by
    have q1 := r 16 _ (kpL_16 ok z.vb z.vl)
    have q2 := r 17 _ (kpL_17 ok z.vb z.vl)
    have q3 := r 18 _ (kpL_18 ok z.vb z.vl)
    rw [Nat.zero_add] at q1 q2 q3
    refine ⟨fun j v hv => r j v ?_, q1, q2, q3⟩
    have hj := (List.getElem?_eq_some_iff.1 hv).1
    unfold rkL kpL
    rw [List.getElem?_append_left hj]
    exact hv
  obtain ⟨ra, a16, a17, a18⟩ := cc r1 ok1
  obtain ⟨rb, b16, b17, b18⟩ := cc r2 ok2
  have RA := hid ra
  have RB := hid rb
  have SA : Hid ((Try.prog.info? 27).map (·.size) = some (x.k.sp.ix.map (Value.int .u8)).length) := hid (by rw [List.length_map, ok1.1]; kernel_rfl)
  have SB : Hid ((Try.prog.info? 27).map (·.size) = some (y.k.sp.ix.map (Value.int .u8)).length) := hid (by rw [List.length_map, ok2.1]; kernel_rfl)
  have heq := fun W => run_eql_bytes W 16 27 Try.underlying27 x.k.sp.ix y.k.sp.ix ok1.1 ok2.1
  obtain ⟨ia, HIA⟩ : ∃ m, Hid (cellsB x.k.sp.ix = m) := ⟨_, hid rfl⟩
  obtain ⟨ib, HIB⟩ : ∃ m, Hid (cellsB y.k.sp.ix = m) := ⟨_, hid rfl⟩
  have HIA' : Hid ((x.k.sp.ix.map (Value.int .u8)).toArray = ia) := hid HIA.out
  have HIB' : Hid ((y.k.sp.ix.map (Value.int .u8)).toArray = ib) := hid HIB.out
  rw [HIA.out, HIB.out] at heq
  have CB := hid fun (W : World) (hW : Dr W2 W) => sameBytes_any W x.vb y.vb x.k.bs y.k.bs ((hx.2.1.below BB.out).below (hW.below _)) ((hy.2.1.below BB.out).below (hW.below _))
  have CL := hid fun (W : World) (hW : Dr W2 W) => sameLeases_any W x.vl y.vl x.k.ls y.k.ls ((hx.2.2.below BB.out).below (hW.below _)) ((hy.2.2.below BB.out).below (hW.below _)) hm
  obtain ⟨p1, c1, e1, -, -⟩ := hx.2.1.open
  obtain ⟨p2, c2, e2, -, -⟩ := hy.2.1.open
  obtain ⟨p3, c3, e3, -⟩ := hx.2.2
  obtain ⟨p4, c4, e4, -⟩ := hy.2.2
  rw [e1] at a17 CB
  rw [e2] at b17 CB
  rw [e3] at a18 CL
  rw [e4] at b18 CL
  unfold kpE
  obtain ⟨d1, D1⟩ : ∃ d, Hid (decide (x.k.sp.ix = y.k.sp.ix) = d) := ⟨_, hid rfl⟩
  obtain ⟨d2, D2⟩ : ∃ d, Hid ((x.k.sp.nb == y.k.sp.nb) = d) := ⟨_, hid rfl⟩
  obtain ⟨d3, D3⟩ : ∃ d, Hid (decide (x.k.bs = y.k.bs) = d) := ⟨_, hid rfl⟩
  obtain ⟨d4, D4⟩ : ∃ d, Hid (decide (x.k.ls = y.k.ls) = d) := ⟨_, hid rfl⟩
  have hd2 := D2.out
  rw [D1.out] at heq
  rw [D1.out, D2.out, D3.out, D4.out]
  rw [D3.out] at CB
  rw [D4.out] at CL
  obtain ⟨m1, HM1⟩ : ∃ m, Hid ((rkL x).toArray = m) := ⟨_, hid rfl⟩
  obtain ⟨m2, HM2⟩ : ∃ m, Hid ((rkL y).toArray = m) := ⟨_, hid rfl⟩
  rw [HM1.out] at HW1
  rw [HM2.out] at HW2
  rw [HM1.out, HM2.out]
  clear ra rb r1 r2 cc hx hy ok1 ok2 e1 e2 e3 e4
  have Z1' := Z1.out
  go_enter Try.func24, Try.ntmps24
  refine wp_seq_k fun K0 h0 => ?_
  have H0 := hid h0
  clear h0
  go_wp2
  rw [HW1.out, HW2.out]
  refine H0.out _ _ ?_
  cases d1 with
  | false =>
    go_wp2_with (first | (refine wpList_load_mid rfl 27 _ rfl w.heap.size 0 rfl (x.k.sp.ix.map (Value.int .u8)) _ RA.out Try.underlying27 rfl SA.out ?_; rw [HIA'.out]) | (refine wpList_load_mid rfl 27 _ rfl (w.heap.size + 1) 0 rfl (y.k.sp.ix.map (Value.int .u8)) _ RB.out Try.underlying27 rfl SB.out ?_; rw [HIB'.out]))
    go_ret
    exact ⟨rfl, BB.out⟩
  | true =>
    cases d2 with
    | false =>
      go_wp2_with (first | (refine wpList_load_mid rfl 27 _ rfl w.heap.size 0 rfl (x.k.sp.ix.map (Value.int .u8)) _ RA.out Try.underlying27 rfl SA.out ?_; rw [HIA'.out]) | (refine wpList_load_mid rfl 27 _ rfl (w.heap.size + 1) 0 rfl (y.k.sp.ix.map (Value.int .u8)) _ RB.out Try.underlying27 rfl SB.out ?_; rw [HIB'.out]))
      go_ret
      exact ⟨rfl, BB.out⟩
    | true =>
      go_wp2_with (first | (refine wpList_load_mid rfl 27 _ rfl w.heap.size 0 rfl (x.k.sp.ix.map (Value.int .u8)) _ RA.out Try.underlying27 rfl SA.out ?_; rw [HIA'.out]) | (refine wpList_load_mid rfl 27 _ rfl (w.heap.size + 1) 0 rfl (y.k.sp.ix.map (Value.int .u8)) _ RB.out Try.underlying27 rfl SB.out ?_; rw [HIB'.out]))
      refine (CB.out _ (Dr.refl _)).mono ?_
      rintro e w3 ⟨rfl, q3, rfl⟩
      cases d3 with
      | false =>
        go_wp2
        go_ret
        exact ⟨rfl, BB.out.trans ((Dr.one W2 q3).below _)⟩
      | true =>
        go_wp2_with fail
        refine (CL.out _ (Dr.one _ _)).mono ?_
        rintro e w4 ⟨rfl, q4, rfl⟩
        go_wp2
        go_ret
        exact ⟨by simp, BB.out.trans ((Dr.one W2 _).below _)⟩
def ksE (xs ys : List Rk) : Bool := decide (xs.length = ys.length) && (xs.zip ys).all fun z => kpE z.1.k z.2.k
theorem ksE_iff {xs ys : List Rk} : ksE xs ys = true ↔ xs.map (·.k) = ys.map (·.k) := by
  unfold ksE
  simp only [Bool.and_eq_true, decide_eq_true_eq]
  constructor
  · rintro ⟨h1, h2⟩
    apply List.ext_getElem (by simpa using h1)
    intro i q1 q2
    simp only [List.length_map] at q1 q2
    rw [List.getElem_map, List.getElem_map]
    have := List.all_eq_true.1 h2 (xs[i], ys[i]) (List.mem_iff_getElem.2 ⟨i, by simp; omega, by simp⟩)
    exact kpE_iff.1 this
  · intro h
    have hl : xs.length = ys.length := by have := congrArg List.length h; simpa using this
    refine ⟨hl, List.all_eq_true.2 fun z hz => ?_⟩
    obtain ⟨i, hi, rfl⟩ := List.mem_iff_getElem.1 hz
    simp only [List.getElem_zip]
    refine kpE_iff.2 ?_
    simp at hi
    have e1 : (xs.map (·.k))[i]'(by simp; omega) = (ys.map (·.k))[i]'(by simp; omega) := by simp only [h]
    simpa using e1
theorem ksE_no {xs ys : List Rk} {k : Nat} (h1 : k < xs.length) (h2 : k < ys.length) (h : kpE xs[k].k ys[k].k = false) : ksE xs ys = false := by
  rw [Bool.eq_false_iff]
  intro q
  have := ksE_iff.1 q
  have e1 : (xs.map (·.k))[k]'(by simpa using h1) = (ys.map (·.k))[k]'(by simpa using h2) := by simp only [this]
  simp only [List.getElem_map] at e1
  rw [kpE_iff.2 e1] at h
  cases h
theorem ksE_yes {xs ys : List Rk} (hl : xs.length = ys.length) (h : ∀ j (h1 : j < xs.length) (h2 : j < ys.length), kpE xs[j].k ys[j].k = true) : ksE xs ys = true := by
  unfold ksE
  simp only [Bool.and_eq_true, decide_eq_true_eq]
  refine ⟨hl, List.all_eq_true.2 fun z hz => ?_⟩
  obtain ⟨i, hi, rfl⟩ := List.mem_iff_getElem.1 hz
  simp only [List.getElem_zip]
  have hi' : i < xs.length ∧ i < ys.length := by simp at hi; omega
  exact h i hi'.1 hi'.2
theorem ksE_len {xs ys : List Rk} (hl : xs.length ≠ ys.length) : ksE xs ys = false := by
  unfold ksE
  simp [hl]
set_option maxRecDepth 100000 in
set_option maxHeartbeats 8000000 in
theorem sameStore_any (w : World) (ra ta rb tb : Int) (va vb : Value) (xs ys : List Rk) (hx : RdK w va xs) (hy : RdK w vb ys) (hn : xs.length ≤ 1048576) (hm : ∀ x ∈ xs, x.k.ls.length ≤ 1048576) :
    Calls Try.prog 8 #[.agg #[.int .i64 ra, .int .i64 ta, va], .agg #[.int .i64 rb, .int .i64 tb, vb]] w fun e w' => e = .returned (.bool ((ra == rb) && ((ta == tb) && ksE xs ys))) ∧ Below w.heap.size w w' := by
  have HX := hid hx
  have HY := hid hy
  obtain ⟨p1, c1, rfl, x2, x3⟩ := hx
  obtain ⟨p2, c2, rfl, y2, y3⟩ := hy
  have X2 := hid x2
  have X3 := hid x3
  have Y2 := hid y2
  have Y3 := hid y3
  have HM := hid hm
  clear x2 x3 y2 y3 hm
  obtain ⟨W1, HW1⟩ : ∃ W : World, Hid (w.alloc (.cells #[.int .i64 ra, .int .i64 ta, .slice p1 xs.length c1] 24) = W) := ⟨_, hid rfl⟩
  obtain ⟨W2, HW2⟩ : ∃ W : World, Hid (W1.alloc (.cells #[.int .i64 rb, .int .i64 tb, .slice p2 ys.length c2] 24) = W) := ⟨_, hid rfl⟩
  have Z1 : Hid (W1.heap.size = w.heap.size + 1) := hid (by rw [← HW1.out]; simp)
  have Z2 : Hid (W2.heap.size = w.heap.size + 2) := hid (by rw [← HW2.out]; simp [Z1.out])
  have B1 : Hid (Below w.heap.size w W1) := by rw [← HW1.out]; exact hid ((Below.refl _ w).alloc (Nat.le_refl _) _)
  have B2 : Hid (Below W1.heap.size W1 W2) := by rw [← HW2.out]; exact hid ((Below.refl _ W1).alloc (Nat.le_refl _) _)
  have BB : Hid (Below w.heap.size w W2) := hid (B1.out.trans (B2.out.mono B1.out.size))
  have h1 : W2.heap[w.heap.size]? = some (.cells #[.int .i64 ra, .int .i64 ta, .slice p1 xs.length c1] 24 (0, 0)) := (B2.out.block _ (by have := Z1.out; omega)).trans (by rw [← HW1.out]; exact heap_alloc_new w _)
  have h2 : W2.heap[w.heap.size + 1]? = some (.cells #[.int .i64 rb, .int .i64 tb, .slice p2 ys.length c2] 24 (0, 0)) := by rw [← Z1.out, ← HW2.out]; exact heap_alloc_new W1 _
  have a0 : W2.cell? ⟨w.heap.size, 0, none⟩ = some (.int .i64 ra) := (cell_of_row _ _ _ _ _ _ h1).trans rfl
  have a1 : W2.cell? ⟨w.heap.size, 1, none⟩ = some (.int .i64 ta) := (cell_of_row _ _ _ _ _ _ h1).trans rfl
  have a2 : W2.cell? ⟨w.heap.size, 2, none⟩ = some (.slice p1 xs.length c1) := (cell_of_row _ _ _ _ _ _ h1).trans rfl
  have b0 : W2.cell? ⟨w.heap.size + 1, 0, none⟩ = some (.int .i64 rb) := (cell_of_row _ _ _ _ _ _ h2).trans rfl
  have b1 : W2.cell? ⟨w.heap.size + 1, 1, none⟩ = some (.int .i64 tb) := (cell_of_row _ _ _ _ _ _ h2).trans rfl
  have b2 : W2.cell? ⟨w.heap.size + 1, 2, none⟩ = some (.slice p2 ys.length c2) := (cell_of_row _ _ _ _ _ _ h2).trans rfl
  have KC : Hid (∀ W, Below W2.heap.size W2 W → W.cell? ⟨w.heap.size, 2, none⟩ = some (.slice p1 xs.length c1) ∧ W.cell? ⟨w.heap.size + 1, 2, none⟩ = some (.slice p2 ys.length c2)) := hid (fun W hW => ⟨(hW.cell (p := ⟨w.heap.size, 2, none⟩) (by have := Z2.out; show w.heap.size < W2.heap.size; omega)).trans a2, (hW.cell (p := ⟨w.heap.size + 1, 2, none⟩) (by have := Z2.out; show w.heap.size + 1 < W2.heap.size; omega)).trans b2⟩)
  clear h1 h2
  obtain ⟨d1, D1⟩ : ∃ d, Hid ((ra == rb) = d) := ⟨_, hid rfl⟩
  obtain ⟨d2, D2⟩ : ∃ d, Hid ((ta == tb) = d) := ⟨_, hid rfl⟩
  have n1 : (ra != rb) = !d1 := by rw [← D1.out]; rfl
  have n2 : (ta != tb) = !d2 := by rw [← D2.out]; rfl
  rw [D1.out, D2.out]
  have Z1' := Z1.out
  go_enter Try.func8, Try.ntmps8
  refine wp_seq_k fun K0 h0 => ?_
  have H0 := hid h0
  clear h0
  go_wp2
  rw [HW1.out, HW2.out]
  refine H0.out _ _ ?_
  cases d1 with
  | false =>
    go_wp2
    go_ret
    exact ⟨rfl, BB.out⟩
  | true =>
    cases d2 with
    | false =>
      go_wp2
      go_ret
      exact ⟨rfl, BB.out⟩
    | true =>
      by_cases hlen : xs.length = ys.length
      · have n3 : ((xs.length : Int) != (ys.length : Int)) = false := by rw [hlen]; simp
        have HLE := hid hlen
        clear hlen
        go_wp2
        go_loopw [5] (fun i wr => ∃ k : Nat, k ≤ xs.length ∧ i = .int .i64 k ∧ (∀ j (h1 : j < xs.length) (h2 : j < ys.length), j < k → kpE xs[j].k ys[j].k = true) ∧ Below W2.heap.size W2 wr) (fun i _ => xs.length - (intOf i).toNat)
        case atStart => exact ⟨0, Nat.zero_le _, rfl, (fun j _ _ hj => by omega), Below.refl _ _⟩
        case round =>
          obtain ⟨k, hk, rfl, ht, hB⟩ := hrel
          have HT := hid ht
          have HBr := hid hB
          clear ht hB a0 a1 a2 b0 b1 b2
          obtain ⟨g1, g2⟩ := KC.out _ HBr.out
          by_cases hlt : k < xs.length
          · have hlt2 : k < ys.length := by have := HLE.out; omega
            obtain ⟨k1, f1, hp1, hl1, hr1⟩ := X2.out (fun e => by rw [e] at hlt; simp at hlt)
            obtain ⟨k2, f2, hp2, hl2, hr2⟩ := Y2.out (fun e => by rw [e] at hlt2; simp at hlt2)
            subst hp1 hp2
            have BR := hid (BB.out.trans (HBr.out.mono (by have := Z2.out; omega)))
            have R1 : Hid (∀ W, Below wr.heap.size wr W → W.rangeAt k1 (f1 + k * 19) (rkL xs[k])) := hid (fun W hW => range_below0 (range_below0 (hr1 k hlt) BR.out hl1) hW (Nat.lt_of_lt_of_le hl1 BR.out.size))
            have R2 : Hid (∀ W, Below wr.heap.size wr W → W.rangeAt k2 (f2 + k * 19) (rkL ys[k])) := hid (fun W hW => range_below0 (range_below0 (hr2 k hlt2) BR.out hl2) hW (Nat.lt_of_lt_of_le hl2 BR.out.size))
            have ox := X3.out xs[k] (List.getElem_mem hlt)
            have oy := Y3.out ys[k] (List.getElem_mem hlt2)
            have Q1 := hid (size_rk ox.1)
            have Q2 := hid (size_rk oy.1)
            have CK : Hid (∀ W, Below wr.heap.size wr W → Calls Try.prog 24 #[.agg (rkL xs[k]).toArray, .agg (rkL ys[k]).toArray] W fun e w' => e = .returned (.bool (kpE xs[k].k ys[k].k)) ∧ Below W.heap.size W w') := hid (fun W hW => sameKept_any W xs[k] ys[k] ((show RdR w xs[k] from ox).below BR.out |>.below hW) ((show RdR w ys[k] from oy).below BR.out |>.below hW) (HM.out _ (List.getElem_mem hlt)))
            have KD : Hid (∀ W, Below wr.heap.size wr W → W.cell? ⟨w.heap.size, 2, none⟩ = some (.slice (some ⟨k1, f1, none⟩) xs.length c1) ∧ W.cell? ⟨w.heap.size + 1, 2, none⟩ = some (.slice (some ⟨k2, f2, none⟩) ys.length c2)) := hid (fun W hW => KC.out W (HBr.out.trans (hW.mono HBr.out.size)))
            obtain ⟨d, HD⟩ : ∃ d, Hid (kpE xs[k].k ys[k].k = d) := ⟨_, hid rfl⟩
            obtain ⟨m1, HM1⟩ : ∃ m, Hid ((rkL xs[k]).toArray = m) := ⟨_, hid rfl⟩
            obtain ⟨m2, HM2⟩ : ∃ m, Hid ((rkL ys[k]).toArray = m) := ⟨_, hid rfl⟩
            rw [HD.out, HM1.out, HM2.out] at CK
            have hlt' : (k : Int) < (xs.length : Int) := by omega
            have hlt2' : (k : Int) < (ys.length : Int) := by omega
            have bd : Below wr.heap.size wr wr.drew := (Below.refl _ wr).drew
            clear hr1 hr2 ox oy
            go_wp2_with fail
            refine wp_region_held_drew (S := Below wr.heap.size wr) (by kernel_rfl) bd (fun hHeld => ?_)
            have HS := hid hHeld
            clear hHeld
            change wpAnyH _ _ _ _ _ _ _ _ (World.drew _)
            refine wpAnyH_take (i := 0) (v := ?_) rfl (by kernel_rfl) (by kernel_rfl) (by kernel_rfl) (fun _ _ _ h => h) (Or.inl ⟨by rfl, ?q0⟩) HS.out ?_
            case q0 => intro w hSw; obtain ⟨q1, q2⟩ := KD.out _ hSw; go_simp; rfl
            simp only [Act.put, List.getElem_toArray, List.getElem_cons_zero, List.getElem_cons_succ, List.setIfInBounds_toArray, List.set_cons_zero, List.set_cons_succ]
            refine wpAnyH_take (i := 1) (v := ?_) rfl (by kernel_rfl) (by kernel_rfl) (by kernel_rfl) (fun _ _ _ h => h) (Or.inl ⟨by rfl, ?q1⟩) HS.out ?_
            case q1 => intro w hSw; obtain ⟨q1, q2⟩ := KD.out _ hSw; go_simp; rfl
            simp only [Act.put, List.getElem_toArray, List.getElem_cons_zero, List.getElem_cons_succ, List.setIfInBounds_toArray, List.set_cons_zero, List.set_cons_succ]
            refine wpAnyH_take (i := 2) (v := ?_) rfl (by kernel_rfl) (by kernel_rfl) (by kernel_rfl) (fun _ _ _ h => h) (Or.inl ⟨by rfl, ?q2⟩) HS.out ?_
            case q2 => intro w hSw; obtain ⟨q1, q2⟩ := KD.out _ hSw; go_simp; rfl
            simp only [Act.put, List.getElem_toArray, List.getElem_cons_zero, List.getElem_cons_succ, List.setIfInBounds_toArray, List.set_cons_zero, List.set_cons_succ]
            refine wpAnyH_take (i := 3) (v := ?_) rfl (by kernel_rfl) (by kernel_rfl) (by kernel_rfl) (fun _ _ _ h => h) (Or.inl ⟨by rfl, ?q3⟩) HS.out ?_
            case q3 => intro w hSw; obtain ⟨q1, q2⟩ := KD.out _ hSw; go_simp; rfl
            simp only [Act.put, List.getElem_toArray, List.getElem_cons_zero, List.getElem_cons_succ, List.setIfInBounds_toArray, List.set_cons_zero, List.set_cons_succ]
            refine wpAnyH_take (i := 4) rfl (by kernel_rfl) (by kernel_rfl) (by kernel_rfl) (fun _ _ _ h => h) (yieldsIf_load_mid (by rfl) 60 _ rfl k1 (f1 + k * 19) rfl (rkL xs[k]) _ R1.out Try.underlying60 rfl Q1.out) HS.out ?_
            simp only [Act.put, List.getElem_toArray, List.getElem_cons_zero, List.getElem_cons_succ, List.setIfInBounds_toArray, List.set_cons_zero, List.set_cons_succ]
            rw [HM1.out]
            refine wpAnyH_take (i := 5) (v := ?_) rfl (by kernel_rfl) (by kernel_rfl) (by kernel_rfl) (fun _ _ _ h => h) (Or.inl ⟨by rfl, ?q5⟩) HS.out ?_
            case q5 => intro w hSw; obtain ⟨q1, q2⟩ := KD.out _ hSw; go_simp; rfl
            simp only [Act.put, List.getElem_toArray, List.getElem_cons_zero, List.getElem_cons_succ, List.setIfInBounds_toArray, List.set_cons_zero, List.set_cons_succ]
            refine wpAnyH_take (i := 6) (v := ?_) rfl (by kernel_rfl) (by kernel_rfl) (by kernel_rfl) (fun _ _ _ h => h) (Or.inl ⟨by rfl, ?q6⟩) HS.out ?_
            case q6 => intro w hSw; obtain ⟨q1, q2⟩ := KD.out _ hSw; go_simp; rfl
            simp only [Act.put, List.getElem_toArray, List.getElem_cons_zero, List.getElem_cons_succ, List.setIfInBounds_toArray, List.set_cons_zero, List.set_cons_succ]
            refine wpAnyH_take (i := 7) (v := ?_) rfl (by kernel_rfl) (by kernel_rfl) (by kernel_rfl) (fun _ _ _ h => h) (Or.inl ⟨by rfl, ?q7⟩) HS.out ?_
            case q7 => intro w hSw; obtain ⟨q1, q2⟩ := KD.out _ hSw; go_simp; rfl
            simp only [Act.put, List.getElem_toArray, List.getElem_cons_zero, List.getElem_cons_succ, List.setIfInBounds_toArray, List.set_cons_zero, List.set_cons_succ]
            refine wpAnyH_take (i := 8) (v := ?_) rfl (by kernel_rfl) (by kernel_rfl) (by kernel_rfl) (fun _ _ _ h => h) (Or.inl ⟨by rfl, ?q8⟩) HS.out ?_
            case q8 => intro w hSw; obtain ⟨q1, q2⟩ := KD.out _ hSw; go_simp; rfl
            simp only [Act.put, List.getElem_toArray, List.getElem_cons_zero, List.getElem_cons_succ, List.setIfInBounds_toArray, List.set_cons_zero, List.set_cons_succ]
            refine wpAnyH_take (i := 9) rfl (by kernel_rfl) (by kernel_rfl) (by kernel_rfl) (fun _ _ _ h => h) (yieldsIf_load_mid (by rfl) 60 _ rfl k2 (f2 + k * 19) rfl (rkL ys[k]) _ R2.out Try.underlying60 rfl Q2.out) HS.out ?_
            simp only [Act.put, List.getElem_toArray, List.getElem_cons_zero, List.getElem_cons_succ, List.setIfInBounds_toArray, List.set_cons_zero, List.set_cons_succ]
            rw [HM2.out]
            refine wpAnyH_ready (rs := [10]) (by kernel_rfl) (by simp) ?_
            refine AllReadyH.cons rfl (fun K hK => ?_) AllReadyH.nil
            replace hK := hid hK
            go_simp
            refine (CK.out _ HS.out).mono ?_
            rintro e w3 ⟨rfl, hb3⟩
            have B3 := hid (HS.out.trans (hb3.mono HS.out.size))
            clear hb3
            refine hK.out _ _ B3.out (fun _ => ?_)
            clear hK K HS
            have HS := B3
            refine wpAnyH_take (i := 11) (v := ?_) rfl (by kernel_rfl) (by kernel_rfl) (by kernel_rfl) (fun _ _ _ h => h) (Or.inl ⟨by rfl, ?q11⟩) HS.out ?_
            case q11 => intro w hSw; obtain ⟨q1, q2⟩ := KD.out _ hSw; go_simp; rfl
            simp only [Act.put, List.getElem_toArray, List.getElem_cons_zero, List.getElem_cons_succ, List.setIfInBounds_toArray, List.set_cons_zero, List.set_cons_succ]
            refine wpAnyH_done (by kernel_rfl) ?_ _
            cases d with
            | false =>
              go_wp2
              go_ret
              refine ⟨?_, BR.out.trans (B3.out.mono BR.out.size)⟩
              rw [ksE_no hlt hlt2 HD.out]
              rfl
            | true =>
              go_wp2
              refine ⟨⟨k + 1, by omega, by go_num, (fun j h1 h2 hj => ?_), HBr.out.trans (B3.out.mono HBr.out.size)⟩, by simp [intOf]; omega⟩
              by_cases e : j = k
              · subst e; exact HD.out
              · exact HT.out j h1 h2 (by omega)
          · go_wp2
            go_ret
            refine ⟨?_, BB.out.trans (HBr.out.mono (by have := Z2.out; omega))⟩
            rw [ksE_yes HLE.out (fun j h1 h2 => HT.out j h1 h2 (by omega))]
            rfl
      · have n3 : ((xs.length : Int) != (ys.length : Int)) = true := by rw [bne_iff_ne]; omega
        go_wp2
        go_ret
        exact ⟨by rw [ksE_len hlen]; rfl, BB.out⟩
end Go.Proofs.Ythmhpenjegfbcaa
namespace Go.Proofs.Ythmhpenjegfbcaa
open Go.RowKit
theorem info_int : (Try.prog.info? 3).map (fun i => (i.zero, i.size, i.bytes)) = some (some (.int .i64 0), 1, 8) := by kernel_rfl
theorem run_append_int (w : World) (base : Nat) (ty : TypeId) (v : Value) (n : Nat) (xs : List Value) (hown : w.ownsRow base 3 1 v n xs) (a : Addr) (c : Nat) (x : Int) (hx : w.cell? a = some (.int .i64 x)) (hn : n + 1 ≤ 1000000) (hbase : base ≤ w.heap.size) :
    ∃ v' w', (Builtin.append_ #[44, 44] ty #[v, .slice (some a) 1 c]).run Try.prog w = .ok v' w' ∧ w'.ownsRow base 3 1 v' (n + 1) (xs ++ [.int .i64 x]) ∧ w.grownBy w' v.ownBlock ∧
      (v'.ownBlock = v.ownBlock ∨ (v'.ownBlock = some w.heap.size ∧ w.grownBy w' none)) := by
  obtain ⟨i0, hi, hz0, hz1, hz2⟩ := info_parts info_int
  have hnews : ∀ j u, [Value.int .i64 x][j]? = some u → w.cell? (a.add j) = some u := by
    intro j u hj
    match j, hj with
    | 0, hj => simp at hj; subst hj; simpa [Addr.add] using hx
  have h1 : ∀ u ∈ [Value.int .i64 x], u.oneCell' = true := by intro u hu; simp at hu; subst hu; rfl
  obtain ⟨v', w', hr, h2, h3, _⟩ := run_append_own (P := Try.prog) w base 44 ty 3 i0 (.int .i64 0) 1 8 Try.underlying44 hi hz0 hz1 hz2 rfl (by decide) v n xs hown a 1 c [.int .i64 x] rfl hnews h1 (by unfold maxLen; omega) (by omega) hbase
  refine ⟨v', w', hr, h2, h3, ?_⟩
  rcases hown.2 with ⟨rfl, rfl⟩ | ⟨g, cap, cur, rfl, hbg, hg, hnc, hcm, hcs, htake⟩
  · have hr2 := run_append_nil (P := Try.prog) w 44 ty 3 i0 (.int .i64 0) Try.underlying44 hi hz0 a 1 c [.int .i64 x] (by rw [hz1]; rfl) hnews (by omega) (by omega) (by rw [hz2]; omega)
    rw [hr] at hr2
    simp only [Result.ok.injEq] at hr2
    obtain ⟨rfl, rfl⟩ := hr2
    exact .inr ⟨rfl, ⟨rfl, rfl, rfl, by simp, fun k hk _ => heap_alloc_old w.drew _ hk⟩⟩
  · by_cases hroom : n + 1 ≤ cap
    · obtain ⟨w2, hr2, _⟩ := run_append_fits (P := Try.prog) w base 44 ty 3 i0 1 Try.underlying44 hi hz1 g n cap xs hown a 1 c [.int .i64 x] rfl hnews h1 hroom
      rw [hr] at hr2
      simp only [Result.ok.injEq] at hr2
      obtain ⟨rfl, rfl⟩ := hr2
      exact .inl rfl
    · have hr2 := run_append_grow (P := Try.prog) w 44 ty 3 i0 (.int .i64 0) Try.underlying44 hi hz0 ⟨g, 0, none⟩ n cap xs (by rw [hz1]; exact hown.1) (hown.cells (g := g) rfl) a 1 c [.int .i64 x] (by rw [hz1]; rfl) hnews (by omega) (by omega) (growslice_fits (by omega) (by rw [hz2]; omega))
      rw [hr] at hr2
      simp only [Result.ok.injEq] at hr2
      obtain ⟨rfl, rfl⟩ := hr2
      exact .inr ⟨rfl, ⟨rfl, rfl, rfl, by simp, fun k hk _ => heap_alloc_old w.drew _ hk⟩⟩
theorem wpList_append_int {w : World} {ops : Array Oper} {rest : List Oper} {o : Oper} {a : Act} {Q : Exit → Act → World → Prop} (hgd : o.guard = none) (s x : Operand)
    (ho : o.op = .call { callee := .builtin .append, args := #[s, x], argTypes := #[44, 44] })
    (base : Nat) (v : Value) (n : Nat) (xs : List Value) (hs : a.eval s = v) (hown : w.ownsRow base 3 1 v n xs)
    (ad : Addr) (c : Nat) (y : Int) (hx : a.eval x = .slice (some ad) 1 c) (hy : w.cell? ad = some (.int .i64 y)) (hn : n + 1 ≤ 1000000) (hbase : base ≤ w.heap.size)
    (h : ∀ v' w', w'.ownsRow base 3 1 v' (n + 1) (xs ++ [.int .i64 y]) → w.grownBy w' v.ownBlock → (v'.ownBlock = v.ownBlock ∨ (v'.ownBlock = some w.heap.size ∧ w.grownBy w' none)) → wpList Try.prog ops Q rest (a.put o.dst v') w') : wpList Try.prog ops Q (o :: rest) a w := by
  refine wpList_plain hgd fun K hK => ?_
  obtain ⟨v', w', hr, h2, h3, h4⟩ := run_append_int w base o.type v n xs hown ad c y hy hn hbase
  unfold Oper.wp execOp
  simp only [ho, resolve, invoke, builtin, Sem.run_bind, Sem.run_pure, Result.andThen_ok, List.map_toArray, List.map_cons, List.map_nil, hs, hx, hr]
  exact hK _ _ (h v' w' h2 h3 h4)
end Go.Proofs.Ythmhpenjegfbcaa
