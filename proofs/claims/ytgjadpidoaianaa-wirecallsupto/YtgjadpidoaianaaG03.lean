/- Of the road to wireCallsUpto_holds: WrIx, WrTake, WrFl, WrSeq, WrSrc. -/
import Derived.Test.YtgjadpidoaianaaG02
import Derived.Laws.CopyRow
import Derived.Laws.IdiomCopy
import Derived.Deep.MidRow
import Derived.Deep.RegionHeld
import Derived.Deep.RegionHeld3
import Derived.OrdersHeld
import Derived.Test.YtgjadpidoaianaaG00
import Derived.Shelf.Abstract
set_option linter.unusedVariables false
set_option linter.unusedSimpArgs false
namespace Go.Proofs.Ytgjadpidoaianaa
open Go Go.RowKit
def indexF (s : QS) : QS × Bool := ({ s.adv 16 with r := { s.r with ix := if okTake s.l 16 then taken s.l 16 else s.r.ix } }, true)
theorem size_u8q : (Try.prog.info? 5).map (·.size) = some 1 := by kernel_rfl
theorem qrL_ix (g n : Nat) (r : Rq) (v : Value) (sz : Int) (L : List Int) (h : L.length = 16) (hr : r.ix.length = 16) :
    (qrL g n r v sz).take 3 ++ L.map (Value.int .u8) ++ (qrL g n r v sz).drop (3 + (L.map (Value.int .u8)).length) = qrL g n { r with ix := L } v sz := by
  obtain ⟨k, ix, nb, pl, ln, who, til⟩ := r
  simp only at hr
  simp [qrL, rqL, h, List.drop_append, hr]
theorem run_copy_ix (w : World) (R g n : Nat) (f : Bool) (l : List Int) (r : Rq) (sz : Int) (hB : BR w R g TQ (qrL g n r (.slice none 0 0) sz) f l) (hok : r.ok) (ty : TypeId) (u : Value) (m : List Int) (hb : HB w u (taken m 16)) :
    ∃ w', (Builtin.copy_ #[36, 36] ty #[.slice (some ⟨R, 3, none⟩) 16 16, u]).run Try.prog w = .ok (.int .i64 ((taken m 16).length : Int)) w' ∧
      BR w' R g TQ (qrL g n { r with ix := if okTake m 16 then taken m 16 else r.ix } (.slice none 0 0) sz) f l ∧ Ex (RG R g) w w' := by
  obtain ⟨⟨p, c, rfl, hlc, hm, hpc, hcell⟩, hby⟩ := hb
  by_cases hk : okTake m 16 = true
  · have hl : (taken m 16).length = 16 := by
      have := (okTake_iff.1 hk).2
      simp only [taken, hk, if_true, List.length_take]
      omega
    obtain ⟨bb, off, rfl, hh⟩ := hcell (by intro e; rw [e] at hl; simp at hl)
    have hsz : (qrL g n r (.slice none 0 0) sz).length = 26 := by simp [qrL, rqL, hok.1]
    have hr := run_copy_row Try.prog w 36 36 ty 5 R 3 16 16 ⟨bb, off, none⟩ (taken m 16).length c _ TQ ((taken m 16).map (Value.int .u8)) Try.underlying36 size_u8q hB.blk (by rw [List.length_map, hl]; rfl) (fun j v hv => by
      have hj : j < (taken m 16).length := by have := (List.getElem?_eq_some_iff.1 hv).1; simpa using this
      rw [Go.WideShapes.add_plain, hh j hj]
      simp only [List.getElem?_map, List.getElem?_eq_getElem hj, Option.map_some] at hv
      rw [getD_of_lt hj]
      exact hv) (by simp [hsz, hl]) (fun v hv => by obtain ⟨x, _, rfl⟩ := List.mem_map.1 hv; rfl)
    have e2 := qrL_ix g n r (.slice none 0 0) sz (taken m 16) hl hok.1
    simp only [List.toList_toArray] at hr
    rw [e2] at hr
    refine ⟨w.setRow R (qrL g n { r with ix := taken m 16 } (.slice none 0 0) sz).toArray, ?_, ?_, ?_⟩
    · rw [hr]; simp [goInt]
    · rw [if_pos hk]
      refine ⟨setRow_heap w R _ _ TQ _ hB.blk, hB.rd.ex (S := fun k => k = R) ⟨rfl, rfl, rfl, by simp [World.setRow], fun k hk hn => ?_⟩ (fun e => hB.ne TQ_ok e.symm) (fun k e _ => by subst e; exact ⟨_, _, _, hB.blk, by decide⟩)⟩
      simp [World.setRow, Array.getElem?_modify, Ne.symm hn]
    · exact ⟨rfl, rfl, rfl, by simp [World.setRow], fun k hk hn => by simp [World.setRow, Array.getElem?_modify, show R ≠ k from fun e => hn (.inl e.symm)]⟩
  · have hk' : okTake m 16 = false := by simpa using hk
    have ht : taken m 16 = [] := by simp [taken, hk']
    refine ⟨w, ?_, ?_, Ex.refl _ _⟩
    · have := run_copy_none (P := Try.prog) w 36 36 ty 5 (some ⟨R, 3, none⟩) p 16 16 (taken m 16).length c Try.underlying36 size_u8q (by rw [ht]; rfl)
      rw [this, ht]
      rfl
    · rw [if_neg hk]
      exact hB
set_option maxRecDepth 100000 in
set_option maxHeartbeats 4000000 in
theorem index_any (w : World) (R g n : Nat) (s : QS) (h : QR w R g n s) (hbig : s.l.length ≤ 140737488355328) :
    Calls Try.prog 78 #[.pointer (some ⟨R, 0, none⟩)] w fun e w' => e = .returned (.bool (indexF s).2) ∧ QR w' R g n (indexF s).1 ∧ Ex (RG R g) w w' := by
  obtain ⟨f, l, r, sz⟩ := s
  obtain ⟨hB, hok, hsz⟩ := h
  simp only at hB hok hbig hsz
  have HZ := hid hsz
  simp only [indexF, QS.adv]
  obtain ⟨IX, HIX⟩ : ∃ L, Hid ((if okTake l 16 = true then taken l 16 else r.ix) = L) := ⟨_, hid rfl⟩
  obtain ⟨FF, HFF⟩ : ∃ b, Hid ((f || !okTake l 16) = b) := ⟨_, hid rfl⟩
  rw [HIX.out, HFF.out]
  have HB := hid hB
  have HO := hid hok
  have C1 := hid (fun q => bytes_any (w.drewN q) g f l 16 (hB.dr q).rd hbig)
  have hd : w.drew = w.drewN 1 := rfl
  have K0 : Hid (∀ W, Ex (RG R g) w W → W.heap[R]? = w.heap[R]? → W.cell? ⟨R, 0, none⟩ = some (.pointer (some ⟨g, 0, none⟩))) := hid (fun W _ he => by
    have := hB.cell (i := 0) (v := .pointer (some ⟨g, 0, none⟩)) rfl
    simpa only [World.cell?, he] using this)
  clear hB hok hsz
  go_enter Try.func78, Try.ntmps78
  go_wp2_with fail
  refine wp_region_held_drew (S := (fun W => W.cell? ⟨R, 0, none⟩ = some (.pointer (some ⟨g, 0, none⟩)))) (by kernel_rfl) (K0.out _ ((Ex.refl _ w).drewN 1) rfl) (fun hHeld => ?_)
  have HS := hid hHeld
  clear hHeld
  change wpAnyH _ _ _ _ _ _ _ _ (World.drew _)
  refine wpAnyH_take (i := 0) (v := ?_) rfl (by kernel_rfl) (by kernel_rfl) (by kernel_rfl) (fun _ _ _ h => h) (Or.inl ⟨by rfl, ?q0⟩) HS.out ?_
  case q0 => intro w hSw; have q0 : _ = _ := hSw; go_simp; rfl
  simp only [Act.put, List.getElem_toArray, List.getElem_cons_zero, List.getElem_cons_succ, List.setIfInBounds_toArray, List.set_cons_zero, List.set_cons_succ]
  refine wpAnyH_take (i := 1) (v := ?_) rfl (by kernel_rfl) (by kernel_rfl) (by kernel_rfl) (fun _ _ _ h => h) (Or.inl ⟨by rfl, ?q1⟩) HS.out ?_
  case q1 => intro w hSw; have q0 : _ = _ := hSw; go_simp; rfl
  simp only [Act.put, List.getElem_toArray, List.getElem_cons_zero, List.getElem_cons_succ, List.setIfInBounds_toArray, List.set_cons_zero, List.set_cons_succ]
  refine wpAnyH_take (i := 2) (v := ?_) rfl (by kernel_rfl) (by kernel_rfl) (by kernel_rfl) (fun _ _ _ h => h) (Or.inl ⟨by rfl, ?q2⟩) HS.out ?_
  case q2 => intro w hSw; have q0 : _ = _ := hSw; go_simp; rfl
  simp only [Act.put, List.getElem_toArray, List.getElem_cons_zero, List.getElem_cons_succ, List.setIfInBounds_toArray, List.set_cons_zero, List.set_cons_succ]
  refine wpAnyH_take (i := 3) (v := ?_) rfl (by kernel_rfl) (by kernel_rfl) (by kernel_rfl) (fun _ _ _ h => h) (Or.inl ⟨by rfl, ?q3⟩) HS.out ?_
  case q3 => intro w hSw; have q0 : _ = _ := hSw; go_simp; rfl
  simp only [Act.put, List.getElem_toArray, List.getElem_cons_zero, List.getElem_cons_succ, List.setIfInBounds_toArray, List.set_cons_zero, List.set_cons_succ]
  refine wpAnyH_take (i := 4) (v := ?_) rfl (by kernel_rfl) (by kernel_rfl) (by kernel_rfl) (fun _ _ _ h => h) (Or.inl ⟨by rfl, ?q4⟩) HS.out ?_
  case q4 => intro w hSw; have q0 : _ = _ := hSw; go_simp; rfl
  simp only [Act.put, List.getElem_toArray, List.getElem_cons_zero, List.getElem_cons_succ, List.setIfInBounds_toArray, List.set_cons_zero, List.set_cons_succ]
  refine wpAnyH_take (i := 5) (v := ?_) rfl (by kernel_rfl) (by kernel_rfl) (by kernel_rfl) (fun _ _ _ h => h) (Or.inl ⟨by rfl, ?q5⟩) HS.out ?_
  case q5 => intro w hSw; have q0 : _ = _ := hSw; go_simp; rfl
  simp only [Act.put, List.getElem_toArray, List.getElem_cons_zero, List.getElem_cons_succ, List.setIfInBounds_toArray, List.set_cons_zero, List.set_cons_succ]
  refine wpAnyH_take (i := 6) (v := ?_) rfl (by kernel_rfl) (by kernel_rfl) (by kernel_rfl) (fun _ _ _ h => h) (Or.inl ⟨by rfl, ?q6⟩) HS.out ?_
  case q6 => intro w hSw; have q0 : _ = _ := hSw; go_simp; rfl
  simp only [Act.put, List.getElem_toArray, List.getElem_cons_zero, List.getElem_cons_succ, List.setIfInBounds_toArray, List.set_cons_zero, List.set_cons_succ]
  refine wpAnyH_take (i := 7) (v := ?_) rfl (by kernel_rfl) (by kernel_rfl) (by kernel_rfl) (fun _ _ _ h => h) (Or.inl ⟨by rfl, ?q7⟩) HS.out ?_
  case q7 => intro w hSw; have q0 : _ = _ := hSw; go_simp; rfl
  simp only [Act.put, List.getElem_toArray, List.getElem_cons_zero, List.getElem_cons_succ, List.setIfInBounds_toArray, List.set_cons_zero, List.set_cons_succ]
  refine wpAnyH_take (i := 8) (v := ?_) rfl (by kernel_rfl) (by kernel_rfl) (by kernel_rfl) (fun _ _ _ h => h) (Or.inl ⟨by rfl, ?q8⟩) HS.out ?_
  case q8 => intro w hSw; have q0 : _ = _ := hSw; go_simp; rfl
  simp only [Act.put, List.getElem_toArray, List.getElem_cons_zero, List.getElem_cons_succ, List.setIfInBounds_toArray, List.set_cons_zero, List.set_cons_succ]
  refine wpAnyH_take (i := 9) (v := ?_) rfl (by kernel_rfl) (by kernel_rfl) (by kernel_rfl) (fun _ _ _ h => h) (Or.inl ⟨by rfl, ?q9⟩) HS.out ?_
  case q9 => intro w hSw; have q0 : _ = _ := hSw; go_simp; rfl
  simp only [Act.put, List.getElem_toArray, List.getElem_cons_zero, List.getElem_cons_succ, List.setIfInBounds_toArray, List.set_cons_zero, List.set_cons_succ]
  refine wpAnyH_ready (rs := [10]) (by kernel_rfl) (by simp) ?_
  refine AllReadyH.cons rfl (fun K hK => ?_) AllReadyH.nil
  replace hK := hid hK
  go_simp
  refine (C1.out 1).mono ?_
  rintro e w1 ⟨v1, B1, rfl, hown, hB1, hb1, hr1, hg1⟩
  have hB2 := (HB.out.dr 1).still TQ_ok hg1 hr1
  have E2 : Ex (RG R g) w w1 := ((Ex.refl _ w).drewN 1).trans (Ex.grown (S := RG R g) hg1 (fun k e => .inr (by simpa using e.symm))) (fun _ q => .inl q)
  obtain ⟨w2, hcp, hB3, E3⟩ := run_copy_ix w1 R g n _ _ r sz hB2 HO.out 3 v1 l hb1
  rw [HIX.out, HFF.out] at hB3
  have HB3 := hid hB3
  have HE3 := hid (E2.trans E3 (fun _ q => .inl q))
  have HBT := hid hb1.2
  have hs2 : w2.cell? ⟨R, 0, none⟩ = some (.pointer (some ⟨g, 0, none⟩)) := hB3.cell rfl
  have HS2 := hid hs2
  have hs1 : w1.cell? ⟨R, 0, none⟩ = some (.pointer (some ⟨g, 0, none⟩)) := hB2.cell rfl
  have HS1 := hid hs1
  clear hown hB1 hr1 hg1 hB2 E2 hB3 E3 hs2 hs1 C1 K0
  obtain ⟨p1, c1, e1, -, -⟩ := hb1.open
  clear hb1
  subst e1
  refine hK.out _ _ HS1.out (fun _ => ?_)
  clear hK K
  refine wpAnyH_ready (rs := [11]) (by kernel_rfl) (by simp) ?_
  refine AllReadyH.cons rfl (fun K hK => ?_) AllReadyH.nil
  replace hK := hid hK
  go_simp
  refine hK.out _ _ HS2.out (fun _ => ?_)
  clear hK K
  refine wpAnyH_done (by kernel_rfl) ?_ _
  go_wp2
  go_ret
  refine ⟨rfl, ⟨HB3.out, ?_, HZ.out⟩, HE3.out⟩
  refine ⟨?_, ?_⟩
  · show IX.length = 16
    rw [← HIX.out]
    split
    · rename_i hk
      have := (okTake_iff.1 hk).2
      simp only [taken, hk, if_true, List.length_take]
      omega
    · exact HO.out.1
  · show ∀ x ∈ IX, _
    rw [← HIX.out]
    split
    · exact HBT.out
    · exact HO.out.2
structure Fds (R g m : Nat) (fid : Nat → Nat) (S : Nat → Prop) (J : Nat → World → Prop) (f : Nat → Bool) (l : Nat → List Int) (bk : Nat → Bool) : Prop where
  rd : ∀ k u, J k u → RD u g true (f k) (l k)
  stay : ∀ k u u', J k u → Below u.heap.size u u' → J k u'
  ask : ∀ k, k < m → ∀ u, J k u → Calls Try.prog (fid k) #[.pointer (some ⟨R, 0, none⟩)] u fun e u' => e = .returned (.bool (bk k)) ∧ J (k + 1) u' ∧ Ex S u u'
  ent : ∀ k, k < m → ∀ args w, (callFunc (fid k) args).run Try.prog w = .ok (.enter (fid k) args) w
def tkA (n : Nat) (l : Nat → List Int) (bk : Nat → Bool) : Nat → Int × Bool
  | 0 => (0, true)
  | k + 1 => if (!bk k && (tkA n l bk k).2) = true then ((n : Int) - (l k).length, false) else tkA n l bk k
def tkE (n m : Nat) (f : Nat → Bool) (l : Nat → List Int) (bk : Nat → Bool) : Int × Bool := if f m = true then ((n : Int), false) else tkA n l bk m
set_option maxRecDepth 100000 in
set_option maxHeartbeats 8000000 in
theorem takeS_any {R g m n : Nat} {fid : Nat → Nat} {S : Nat → Prop} {J : Nat → World → Prop} {f : Nat → Bool} {l : Nat → List Int} {bk : Nat → Bool} (D : Fds R g m fid S J f l bk) (w : World) (hJ : J 0 w) (hn : n ≤ 140737488355328) (hl : ∀ k, (l k).length ≤ n)
    (hSx : ¬ S w.heap.size) (b o c : Nat) (p : Option Addr) (hp : 0 < m → p = some ⟨b, o, none⟩) (hmc : m ≤ c) (hcm : c ≤ maxLen) (hm : m ≤ 1000) (hSb : 0 < m → ¬ S b) (hc : ∀ k, k < m → w.cell? ⟨b, o + k, none⟩ = some (.func (.func (fid k)) #[.pointer (some ⟨R, 0, none⟩)] #[])) :
    Calls Try.prog 61 #[.agg #[.pointer (some ⟨g, 0, none⟩), .int .i64 (n : Int)], .slice p m c] w fun e w' => e = .returned (.tuple #[.int .i64 (tkE n m f l bk).1, .bool (tkE n m f l bk).2]) ∧ J m w' ∧ Ex S w w' := by
  obtain ⟨TE, HTE⟩ : ∃ x, Hid (tkE n m f l bk = x) := ⟨_, hid rfl⟩
  rw [HTE.out]
  have TEQ : Hid (TE = if f m = true then ((n : Int), false) else tkA n l bk m) := hid HTE.out.symm
  clear HTE
  obtain ⟨W1, HW1⟩ : ∃ W : World, Hid (w.alloc (.cells #[.pointer (some ⟨g, 0, none⟩), .int .i64 (n : Int)] 80) = W) := ⟨_, hid rfl⟩
  have B1 : Hid (Below w.heap.size w W1) := by rw [← HW1.out]; exact hid ((Below.refl _ w).alloc (Nat.le_refl _) _)
  have hs1 : Hid (W1.heap.size = w.heap.size + 1) := hid (by rw [← HW1.out]; simp)
  have hbx : Hid (W1.heap[w.heap.size]? = some (.cells #[.pointer (some ⟨g, 0, none⟩), .int .i64 (n : Int)] 80 (0, 0))) := hid (by rw [← HW1.out]; exact heap_alloc_new w _)
  have KX : Hid (∀ W, Ex S W1 W → W.cell? ⟨w.heap.size, 0, none⟩ = some (.pointer (some ⟨g, 0, none⟩)) ∧ W.cell? ⟨w.heap.size, 1, none⟩ = some (.int .i64 (n : Int)) ∧ ∀ k, k < m → W.cell? ⟨b, o + k, none⟩ = some (.func (.func (fid k)) #[.pointer (some ⟨R, 0, none⟩)] #[])) := hid (fun W hW => by
    have h1 := (hW.block w.heap.size (by have := hs1.out; omega) hSx).trans hbx.out
    refine ⟨by simp [World.cell?, h1], by simp [World.cell?, h1], fun k hk => ?_⟩
    have h2 := hc k hk
    have hlt : b < w.heap.size := World.block_lt_of_cell? w _ h2
    have h3 : W.heap[b]? = w.heap[b]? := (hW.block b (by have := hs1.out; omega) (hSb (by omega))).trans (B1.out.block b hlt)
    simpa only [World.cell?, h3] using h2)
  have J1 : Hid (J 0 W1) := hid (D.stay 0 w W1 hJ B1.out)
  have FIN : Hid (∀ W, Ex S W1 W → Ex S w W) := hid (fun W hW => (Ex.of_below B1.out).trans hW (fun _ q => .inl q))
  have DD := hid D
  have HLn := hid hl
  have hp' := hid hp
  clear hc hJ hl D hp
  have hn' : (n : Int) ≤ 140737488355328 := by omega
  go_enter Try.func61, Try.ntmps61
  go_wp2_with (first | rw [HW1.out] | fail)
  go_loopw [6, 7, 13] (fun a s i wr => ∃ k : Nat, k ≤ m ∧ i = .int .i64 k ∧ a = .int .i64 (tkA n l bk k).1 ∧ s = .bool (tkA n l bk k).2 ∧ J k wr ∧ Ex S W1 wr) (fun _ _ i _ => m - (intOf i).toNat)
  case atStart => exact ⟨0, Nat.zero_le _, rfl, rfl, rfl, J1.out, Ex.refl _ _⟩
  case round =>
    obtain ⟨k, hk, rfl, rfl, rfl, hJ, hE⟩ := hrel
    by_cases hlt : k < m
    · obtain ⟨x0, x1, x2⟩ := KX.out wr hE
      have x3 := x2 k hlt
      have hpe := hp'.out (by omega)
      have CL : Hid (∀ q, Calls Try.prog 70 #[.pointer (some ⟨g, 0, none⟩)] (wr.drewN q) fun e w' => e = .returned (.int .i64 ((l k).length : Int)) ∧ w' = wr.drewN q) := hid (fun q => left_any _ g true (f k) (l k) (DD.out.rd k _ (DD.out.stay k wr _ hJ ⟨rfl, rfl, rfl, Nat.le_refl _, fun _ _ => rfl⟩)))
      have CA : Hid (∀ q, Calls Try.prog (fid k) #[.pointer (some ⟨R, 0, none⟩)] (wr.drewN q) fun e u' => e = .returned (.bool (bk k)) ∧ J (k + 1) u' ∧ Ex S (wr.drewN q) u') := hid (fun q => DD.out.ask k hlt _ (DD.out.stay k wr _ hJ ⟨rfl, rfl, rfl, Nat.le_refl _, fun _ _ => rfl⟩))
      have EN : Hid (∀ args w, (callFunc (fid k) args).run Try.prog w = .ok (.enter (fid k) args) w) := hid (DD.out.ent k hlt)
      have hlk := HLn.out k
      have ST : Hid (tkA n l bk (k + 1) = if (!bk k && (tkA n l bk k).2) = true then ((n : Int) - (l k).length, false) else tkA n l bk k) := hid rfl
      obtain ⟨at0, sd0, hT⟩ : ∃ a b, tkA n l bk k = (a, b) := ⟨_, _, rfl⟩
      rw [hT] at ST ⊢
      simp only at ST ⊢
      have HE := hid hE
      generalize (l k).length = L at hlk CL ST
      generalize bk k = bb at CA ST
      obtain ⟨fd, HFD⟩ : ∃ x, Hid (fid k = x) := ⟨_, hid rfl⟩
      rw [HFD.out] at CA EN x3
      clear x2 hJ hE hT
      have hw : IntKind.i64.wrap ((n : Int) - (L : Int)) = (n : Int) - (L : Int) := by rw [IntKind.wrap_i64]; omega
      subst hpe
      go_wp2_with fail
      go_quiet ((go_at_call 70; exact Calls.quiet_of_same (CL.out _)))
      go_wp2_with fail
      rw [EN.out, Oper.upon_enter]
      refine (CA.out _).mono ?_
      rintro e w2 ⟨rfl, hJ2, hE2⟩
      have HE2 : Hid (Ex S W1 w2) := hid ((HE.out.drewN _).trans hE2 (fun _ q => .inl q))
      have HJ2 := hid hJ2
      clear hJ2 hE2 CA CL HE x0 x1 x3
      cases bb <;> cases sd0 <;> (
        go_wp2_with fail
        refine ⟨⟨k + 1, by omega, by go_num, ?_, ?_, HJ2.out, HE2.out⟩, by simp [intOf]; omega⟩ <;> rw [ST.out] <;> rfl)
    · obtain rfl : k = m := by omega
      obtain ⟨x0, x1, x2⟩ := KX.out wr hE
      have CE := hid (end_any wr g true (f k) (l k) (DD.out.rd k _ hJ))
      have HJ := hid hJ
      have HE := hid (FIN.out wr hE)
      obtain ⟨en, HEN⟩ : ∃ x, Hid (endNo true (f k) (l k) = x) := ⟨_, hid rfl⟩
      rw [HEN.out] at CE
      obtain ⟨at0, sd0, hT⟩ : ∃ a b, tkA n l bk k = (a, b) := ⟨_, _, rfl⟩
      rw [hT] at TEQ ⊢
      simp only
      have FE : (f k = true ∧ en = 10) ∨ (f k = false ∧ (en == 10) = false) := by
        rw [← HEN.out]
        unfold endNo
        cases f k
        · right; simp; split <;> decide
        · left; simp
      clear x2 hJ hE hT HEN hlt hk J1 FIN KX HLn DD hp'
      rcases FE with ⟨hf, rfl⟩ | ⟨hf, hen⟩ <;> rw [hf] at TEQ <;> clear hf
      · go_wp2_with fail
        refine CE.out.mono ?_
        rintro e w2 ⟨rfl, hw2⟩
        subst hw2
        go_wp2_with fail
        go_ret2
        exact ⟨by rw [TEQ.out]; rfl, HJ.out, HE.out⟩
      · go_wp2_with fail
        refine CE.out.mono ?_
        rintro e w2 ⟨rfl, hw2⟩
        subst hw2
        go_wp2_with fail
        go_ret2
        exact ⟨by rw [TEQ.out]; rfl, HJ.out, HE.out⟩
def cl (R fid : Nat) : Value := .func (.func fid) #[.pointer (some ⟨R, 0, none⟩)] #[]
abbrev TF : TypeId := 107
theorem info_fd : (Try.prog.info? TF).map (fun i => (i.zero, i.size, i.bytes)) = some (some Value.nilFunc, 1, 8) := by kernel_rfl
theorem wpList_append_fd {w : World} {ops : Array Oper} {rest : List Oper} {o : Oper} {a : Act} {Q : Exit → Act → World → Prop} (hgd : o.guard = none) (s x : Operand)
    (ho : o.op = .call { callee := .builtin .append, args := #[s, x], argTypes := #[100, 100] })
    (base R : Nat) (v : Value) (n : Nat) (xs : List Value) (hs : a.eval s = v) (hown : w.ownsRow base TF 1 v n xs)
    (b m : Nat) (ys : List Nat) (hx : a.eval x = .slice (some ⟨b, 0, none⟩) m m) (hm : ys.length = m) (hy : w.heap[b]? = some (.cells (ys.map (cl R)).toArray TF (0, 0)))
    (hn : n + m ≤ 1000) (hbase : base ≤ w.heap.size)
    (h : ∀ v' w', w'.ownsRow base TF 1 v' (n + m) (xs ++ ys.map (cl R)) → w.grownBy w' v.ownBlock → wpList Try.prog ops Q rest (a.put o.dst v') w') : wpList Try.prog ops Q (o :: rest) a w := by
  obtain ⟨i0, hi, hz0, hz1, hz2⟩ := info_parts info_fd
  refine wpList_append_own w hgd s x 100 ho base TF i0 _ 1 8 Try.underlying100 hi hz0 hz1 hz2 rfl (by decide) v n xs hs hown ⟨b, 0, none⟩ m m (ys.map (cl R)) hx (by simp [hm]) ?_ ?_ (by unfold maxLen; omega) (by omega) hbase ?_
  · intro j u hj
    rw [Go.WideShapes.add_plain, cell_of_row _ _ _ _ _ _ hy]
    simpa using hj
  · intro u hu
    obtain ⟨x, _, rfl⟩ := List.mem_map.1 hu
    rfl
  · intro v' w' h1 h2 _
    exact h v' w' h1 h2
theorem own_lit (w : World) (R B : Nat) (ys : List Nat) (hB : B ≤ w.heap.size) (hl : ys.length ≤ 1000) : (w.alloc (.cells (ys.map (cl R)).toArray TF)).ownsRow B TF 1 (.slice (some ⟨w.heap.size, 0, none⟩) ys.length ys.length) ys.length (ys.map (cl R)) :=
  ⟨by simp, .inr ⟨_, _, _, rfl, hB, heap_alloc_new w _, Nat.le_refl _, by unfold maxLen; omega, by simp, by simp [List.take_of_length_le]⟩⟩
theorem own_alloc {w : World} {B : Nat} {v : Value} {n : Nat} {xs : List Value} (h : w.ownsRow B TF 1 v n xs) (o : Obj) : (w.alloc o).ownsRow B TF 1 v n xs := by
  obtain ⟨h0, h⟩ := h
  refine ⟨h0, h.elim .inl fun ⟨g, cap, cur, h1, h2, h3, h4⟩ => .inr ⟨g, cap, cur, h1, h2, ?_, h4⟩⟩
  rw [← h3]
  have := (Array.getElem?_eq_some_iff.1 h3).1
  show (w.heap.push o)[g]? = _
  rw [Array.getElem?_push, if_neg (by omega)]
def flF : Int → List Nat
  | 1 => [78]
  | 2 => [78, 79, 80, 81, 84]
  | 3 => [78, 79, 82, 83]
  | 4 => [78, 80, 81]
  | 5 => [78, 80]
  | _ => []
set_option maxRecDepth 100000 in
set_option maxHeartbeats 8000000 in
theorem fields_1 (w : World) (R : Nat) (hk : w.cell? ⟨R, 2, none⟩ = some (.int .u8 1)) (hR : R < w.heap.size) :
    Calls Try.prog 63 #[.pointer (some ⟨R, 0, none⟩)] w fun e w' => ∃ v, e = .returned v ∧ w'.ownsRow w.heap.size TF 1 v 1 ((flF 1).map (cl R)) ∧ Below w.heap.size w w' := by
  obtain ⟨W1, HW1⟩ : ∃ W : World, Hid (w.alloc (.cells #[cl R 78] TF) = W) := ⟨_, hid rfl⟩
  have HW1' : w.alloc (.cells #[.func (.func 78) #[.pointer (some ⟨R, 0, none⟩)] #[]] TF) = W1 := HW1.out
  have O1 : Hid (W1.ownsRow w.heap.size TF 1 (.slice (some ⟨w.heap.size, 0, none⟩) 1 1) 1 ([78].map (cl R))) := hid (by rw [← HW1.out]; exact own_lit w R _ [78] (Nat.le_refl _) (by decide))
  have B1 : Hid (Below w.heap.size w W1) := by rw [← HW1.out]; exact hid ((Below.refl _ w).alloc (Nat.le_refl _) _)
  have KX : Hid (∀ W, Below w.heap.size w W → W.cell? ⟨R, 2, none⟩ = some (.int .u8 1)) := hid (fun W hW => (hW.cell (p := ⟨R, 2, none⟩) hR).trans hk)
  clear hk
  have hk1 := KX.out W1 B1.out
  go_enter Try.func63, Try.ntmps63
  go_wp2_with (first | rw [HW1'] | fail)
  go_ret
  exact ⟨_, rfl, O1.out, B1.out⟩
set_option maxRecDepth 100000 in
set_option maxHeartbeats 8000000 in
theorem fields_2 (w : World) (R : Nat) (hk : w.cell? ⟨R, 2, none⟩ = some (.int .u8 2)) (hR : R < w.heap.size) :
    Calls Try.prog 63 #[.pointer (some ⟨R, 0, none⟩)] w fun e w' => ∃ v, e = .returned v ∧ w'.ownsRow w.heap.size TF 1 v 5 ((flF 2).map (cl R)) ∧ Below w.heap.size w w' := by
  obtain ⟨W1, HW1⟩ : ∃ W : World, Hid (w.alloc (.cells #[cl R 78] TF) = W) := ⟨_, hid rfl⟩
  have HW1' : w.alloc (.cells #[.func (.func 78) #[.pointer (some ⟨R, 0, none⟩)] #[]] TF) = W1 := HW1.out
  have O1 : Hid (W1.ownsRow w.heap.size TF 1 (.slice (some ⟨w.heap.size, 0, none⟩) 1 1) 1 ([78].map (cl R))) := hid (by rw [← HW1.out]; exact own_lit w R _ [78] (Nat.le_refl _) (by decide))
  have B1 : Hid (Below w.heap.size w W1) := by rw [← HW1.out]; exact hid ((Below.refl _ w).alloc (Nat.le_refl _) _)
  have KX : Hid (∀ W, Below w.heap.size w W → W.cell? ⟨R, 2, none⟩ = some (.int .u8 2)) := hid (fun W hW => (hW.cell (p := ⟨R, 2, none⟩) hR).trans hk)
  clear hk
  have hk1 := KX.out W1 B1.out
  go_enter Try.func63, Try.ntmps63
  obtain ⟨V0, HV0⟩ : ∃ W : World, Hid (W1.alloc (.cells #[cl R 79] TF) = W) := ⟨_, hid rfl⟩
  have HV0' : W1.alloc (.cells #[.func (.func 79) #[.pointer (some ⟨R, 0, none⟩)] #[]] TF) = V0 := HV0.out
  have OV0 : Hid (V0.ownsRow w.heap.size TF 1 (.slice (some ⟨w.heap.size, 0, none⟩) 1 1) 1 ([78].map (cl R))) := hid (by rw [← HV0.out]; exact own_alloc O1.out _)
  have BV0 : Hid (Below w.heap.size w V0) := by rw [← HV0.out]; exact hid (B1.out.alloc B1.out.size _)
  have LV0 : Hid (V0.heap[W1.heap.size]? = some (.cells ([79].map (cl R)).toArray TF (0, 0))) := hid (by rw [← HV0.out]; exact heap_alloc_new W1 _)
  go_wp2_with (first | rw [HW1'] | rw [HV0'] | (at_builtin; refine wpList_append_fd rfl _ _ rfl w.heap.size R _ _ _ rfl OV0.out _ 1 [79] rfl rfl LV0.out (by decide) BV0.out.size ?_) | fail)
  intro v0 X0 ow0 gr0
  have OX0 := hid ow0
  have BX0 : Hid (Below w.heap.size w X0) := hid (BV0.out.grown gr0 BV0.out.size (fun k e => (OV0.out.lt k e).1))
  clear ow0 gr0
  have hk2 := KX.out X0 BX0.out
  obtain ⟨V1, HV1⟩ : ∃ W : World, Hid (X0.alloc (.cells #[cl R 80, cl R 81] TF) = W) := ⟨_, hid rfl⟩
  have HV1' : X0.alloc (.cells #[.func (.func 80) #[.pointer (some ⟨R, 0, none⟩)] #[], .func (.func 81) #[.pointer (some ⟨R, 0, none⟩)] #[]] TF) = V1 := HV1.out
  have OV1 : Hid (V1.ownsRow w.heap.size TF 1 v0 2 ([78, 79].map (cl R))) := hid (by rw [← HV1.out]; exact own_alloc OX0.out _)
  have BV1 : Hid (Below w.heap.size w V1) := by rw [← HV1.out]; exact hid (BX0.out.alloc BX0.out.size _)
  have LV1 : Hid (V1.heap[X0.heap.size]? = some (.cells ([80, 81].map (cl R)).toArray TF (0, 0))) := hid (by rw [← HV1.out]; exact heap_alloc_new X0 _)
  go_wp2_with (first | rw [HV1'] | (at_builtin; refine wpList_append_fd rfl _ _ rfl w.heap.size R _ _ _ rfl OV1.out _ 2 [80, 81] rfl rfl LV1.out (by decide) BV1.out.size ?_) | fail)
  intro v1 X1 ow1 gr1
  have OX1 := hid ow1
  have BX1 : Hid (Below w.heap.size w X1) := hid (BV1.out.grown gr1 BV1.out.size (fun k e => (OV1.out.lt k e).1))
  clear ow1 gr1
  have hk3 := KX.out X1 BX1.out
  obtain ⟨V2, HV2⟩ : ∃ W : World, Hid (X1.alloc (.cells #[cl R 84] TF) = W) := ⟨_, hid rfl⟩
  have HV2' : X1.alloc (.cells #[.func (.func 84) #[.pointer (some ⟨R, 0, none⟩)] #[]] TF) = V2 := HV2.out
  have OV2 : Hid (V2.ownsRow w.heap.size TF 1 v1 4 ([78, 79, 80, 81].map (cl R))) := hid (by rw [← HV2.out]; exact own_alloc OX1.out _)
  have BV2 : Hid (Below w.heap.size w V2) := by rw [← HV2.out]; exact hid (BX1.out.alloc BX1.out.size _)
  have LV2 : Hid (V2.heap[X1.heap.size]? = some (.cells ([84].map (cl R)).toArray TF (0, 0))) := hid (by rw [← HV2.out]; exact heap_alloc_new X1 _)
  go_wp2_with (first | rw [HV2'] | (at_builtin; refine wpList_append_fd rfl _ _ rfl w.heap.size R _ _ _ rfl OV2.out _ 1 [84] rfl rfl LV2.out (by decide) BV2.out.size ?_) | fail)
  intro v2 X2 ow2 gr2
  have OX2 := hid ow2
  have BX2 : Hid (Below w.heap.size w X2) := hid (BV2.out.grown gr2 BV2.out.size (fun k e => (OV2.out.lt k e).1))
  clear ow2 gr2
  have hk4 := KX.out X2 BX2.out
  go_wp2_with fail
  go_ret
  exact ⟨_, rfl, OX2.out, BX2.out⟩
set_option maxRecDepth 100000 in
set_option maxHeartbeats 8000000 in
theorem fields_3 (w : World) (R : Nat) (hk : w.cell? ⟨R, 2, none⟩ = some (.int .u8 3)) (hR : R < w.heap.size) :
    Calls Try.prog 63 #[.pointer (some ⟨R, 0, none⟩)] w fun e w' => ∃ v, e = .returned v ∧ w'.ownsRow w.heap.size TF 1 v 4 ((flF 3).map (cl R)) ∧ Below w.heap.size w w' := by
  obtain ⟨W1, HW1⟩ : ∃ W : World, Hid (w.alloc (.cells #[cl R 78] TF) = W) := ⟨_, hid rfl⟩
  have HW1' : w.alloc (.cells #[.func (.func 78) #[.pointer (some ⟨R, 0, none⟩)] #[]] TF) = W1 := HW1.out
  have O1 : Hid (W1.ownsRow w.heap.size TF 1 (.slice (some ⟨w.heap.size, 0, none⟩) 1 1) 1 ([78].map (cl R))) := hid (by rw [← HW1.out]; exact own_lit w R _ [78] (Nat.le_refl _) (by decide))
  have B1 : Hid (Below w.heap.size w W1) := by rw [← HW1.out]; exact hid ((Below.refl _ w).alloc (Nat.le_refl _) _)
  have KX : Hid (∀ W, Below w.heap.size w W → W.cell? ⟨R, 2, none⟩ = some (.int .u8 3)) := hid (fun W hW => (hW.cell (p := ⟨R, 2, none⟩) hR).trans hk)
  clear hk
  have hk1 := KX.out W1 B1.out
  go_enter Try.func63, Try.ntmps63
  obtain ⟨V0, HV0⟩ : ∃ W : World, Hid (W1.alloc (.cells #[cl R 79, cl R 82, cl R 83] TF) = W) := ⟨_, hid rfl⟩
  have HV0' : W1.alloc (.cells #[.func (.func 79) #[.pointer (some ⟨R, 0, none⟩)] #[], .func (.func 82) #[.pointer (some ⟨R, 0, none⟩)] #[], .func (.func 83) #[.pointer (some ⟨R, 0, none⟩)] #[]] TF) = V0 := HV0.out
  have OV0 : Hid (V0.ownsRow w.heap.size TF 1 (.slice (some ⟨w.heap.size, 0, none⟩) 1 1) 1 ([78].map (cl R))) := hid (by rw [← HV0.out]; exact own_alloc O1.out _)
  have BV0 : Hid (Below w.heap.size w V0) := by rw [← HV0.out]; exact hid (B1.out.alloc B1.out.size _)
  have LV0 : Hid (V0.heap[W1.heap.size]? = some (.cells ([79, 82, 83].map (cl R)).toArray TF (0, 0))) := hid (by rw [← HV0.out]; exact heap_alloc_new W1 _)
  go_wp2_with (first | rw [HW1'] | rw [HV0'] | (at_builtin; refine wpList_append_fd rfl _ _ rfl w.heap.size R _ _ _ rfl OV0.out _ 3 [79, 82, 83] rfl rfl LV0.out (by decide) BV0.out.size ?_) | fail)
  intro v0 X0 ow0 gr0
  have OX0 := hid ow0
  have BX0 : Hid (Below w.heap.size w X0) := hid (BV0.out.grown gr0 BV0.out.size (fun k e => (OV0.out.lt k e).1))
  clear ow0 gr0
  have hk2 := KX.out X0 BX0.out
  go_wp2_with fail
  go_ret
  exact ⟨_, rfl, OX0.out, BX0.out⟩
set_option maxRecDepth 100000 in
set_option maxHeartbeats 8000000 in
theorem fields_4 (w : World) (R : Nat) (hk : w.cell? ⟨R, 2, none⟩ = some (.int .u8 4)) (hR : R < w.heap.size) :
    Calls Try.prog 63 #[.pointer (some ⟨R, 0, none⟩)] w fun e w' => ∃ v, e = .returned v ∧ w'.ownsRow w.heap.size TF 1 v 3 ((flF 4).map (cl R)) ∧ Below w.heap.size w w' := by
  obtain ⟨W1, HW1⟩ : ∃ W : World, Hid (w.alloc (.cells #[cl R 78] TF) = W) := ⟨_, hid rfl⟩
  have HW1' : w.alloc (.cells #[.func (.func 78) #[.pointer (some ⟨R, 0, none⟩)] #[]] TF) = W1 := HW1.out
  have O1 : Hid (W1.ownsRow w.heap.size TF 1 (.slice (some ⟨w.heap.size, 0, none⟩) 1 1) 1 ([78].map (cl R))) := hid (by rw [← HW1.out]; exact own_lit w R _ [78] (Nat.le_refl _) (by decide))
  have B1 : Hid (Below w.heap.size w W1) := by rw [← HW1.out]; exact hid ((Below.refl _ w).alloc (Nat.le_refl _) _)
  have KX : Hid (∀ W, Below w.heap.size w W → W.cell? ⟨R, 2, none⟩ = some (.int .u8 4)) := hid (fun W hW => (hW.cell (p := ⟨R, 2, none⟩) hR).trans hk)
  clear hk
  have hk1 := KX.out W1 B1.out
  go_enter Try.func63, Try.ntmps63
  obtain ⟨V0, HV0⟩ : ∃ W : World, Hid (W1.alloc (.cells #[cl R 80, cl R 81] TF) = W) := ⟨_, hid rfl⟩
  have HV0' : W1.alloc (.cells #[.func (.func 80) #[.pointer (some ⟨R, 0, none⟩)] #[], .func (.func 81) #[.pointer (some ⟨R, 0, none⟩)] #[]] TF) = V0 := HV0.out
  have OV0 : Hid (V0.ownsRow w.heap.size TF 1 (.slice (some ⟨w.heap.size, 0, none⟩) 1 1) 1 ([78].map (cl R))) := hid (by rw [← HV0.out]; exact own_alloc O1.out _)
  have BV0 : Hid (Below w.heap.size w V0) := by rw [← HV0.out]; exact hid (B1.out.alloc B1.out.size _)
  have LV0 : Hid (V0.heap[W1.heap.size]? = some (.cells ([80, 81].map (cl R)).toArray TF (0, 0))) := hid (by rw [← HV0.out]; exact heap_alloc_new W1 _)
  go_wp2_with (first | rw [HW1'] | rw [HV0'] | (at_builtin; refine wpList_append_fd rfl _ _ rfl w.heap.size R _ _ _ rfl OV0.out _ 2 [80, 81] rfl rfl LV0.out (by decide) BV0.out.size ?_) | fail)
  intro v0 X0 ow0 gr0
  have OX0 := hid ow0
  have BX0 : Hid (Below w.heap.size w X0) := hid (BV0.out.grown gr0 BV0.out.size (fun k e => (OV0.out.lt k e).1))
  clear ow0 gr0
  have hk2 := KX.out X0 BX0.out
  go_wp2_with fail
  go_ret
  exact ⟨_, rfl, OX0.out, BX0.out⟩
set_option maxRecDepth 100000 in
set_option maxHeartbeats 8000000 in
theorem fields_5 (w : World) (R : Nat) (hk : w.cell? ⟨R, 2, none⟩ = some (.int .u8 5)) (hR : R < w.heap.size) :
    Calls Try.prog 63 #[.pointer (some ⟨R, 0, none⟩)] w fun e w' => ∃ v, e = .returned v ∧ w'.ownsRow w.heap.size TF 1 v 2 ((flF 5).map (cl R)) ∧ Below w.heap.size w w' := by
  obtain ⟨W1, HW1⟩ : ∃ W : World, Hid (w.alloc (.cells #[cl R 78] TF) = W) := ⟨_, hid rfl⟩
  have HW1' : w.alloc (.cells #[.func (.func 78) #[.pointer (some ⟨R, 0, none⟩)] #[]] TF) = W1 := HW1.out
  have O1 : Hid (W1.ownsRow w.heap.size TF 1 (.slice (some ⟨w.heap.size, 0, none⟩) 1 1) 1 ([78].map (cl R))) := hid (by rw [← HW1.out]; exact own_lit w R _ [78] (Nat.le_refl _) (by decide))
  have B1 : Hid (Below w.heap.size w W1) := by rw [← HW1.out]; exact hid ((Below.refl _ w).alloc (Nat.le_refl _) _)
  have KX : Hid (∀ W, Below w.heap.size w W → W.cell? ⟨R, 2, none⟩ = some (.int .u8 5)) := hid (fun W hW => (hW.cell (p := ⟨R, 2, none⟩) hR).trans hk)
  clear hk
  have hk1 := KX.out W1 B1.out
  go_enter Try.func63, Try.ntmps63
  obtain ⟨V0, HV0⟩ : ∃ W : World, Hid (W1.alloc (.cells #[cl R 80] TF) = W) := ⟨_, hid rfl⟩
  have HV0' : W1.alloc (.cells #[.func (.func 80) #[.pointer (some ⟨R, 0, none⟩)] #[]] TF) = V0 := HV0.out
  have OV0 : Hid (V0.ownsRow w.heap.size TF 1 (.slice (some ⟨w.heap.size, 0, none⟩) 1 1) 1 ([78].map (cl R))) := hid (by rw [← HV0.out]; exact own_alloc O1.out _)
  have BV0 : Hid (Below w.heap.size w V0) := by rw [← HV0.out]; exact hid (B1.out.alloc B1.out.size _)
  have LV0 : Hid (V0.heap[W1.heap.size]? = some (.cells ([80].map (cl R)).toArray TF (0, 0))) := hid (by rw [← HV0.out]; exact heap_alloc_new W1 _)
  go_wp2_with (first | rw [HW1'] | rw [HV0'] | (at_builtin; refine wpList_append_fd rfl _ _ rfl w.heap.size R _ _ _ rfl OV0.out _ 1 [80] rfl rfl LV0.out (by decide) BV0.out.size ?_) | fail)
  intro v0 X0 ow0 gr0
  have OX0 := hid ow0
  have BX0 : Hid (Below w.heap.size w X0) := hid (BV0.out.grown gr0 BV0.out.size (fun k e => (OV0.out.lt k e).1))
  clear ow0 gr0
  have hk2 := KX.out X0 BX0.out
  go_wp2_with fail
  go_ret
  exact ⟨_, rfl, OX0.out, BX0.out⟩
abbrev Fst := QS → QS × Bool
def sq (fs : List Fst) (s : QS) : Nat → QS
  | 0 => s
  | k + 1 => ((fs.getD k (fun s => (s, true))) (sq fs s k)).1
def tkS (n : Nat) (fs : List Fst) (s : QS) : Int × Bool := tkE n fs.length (fun k => (sq fs s k).f) (fun k => (sq fs s k).l) (fun k => ((fs.getD k (fun s => (s, true))) (sq fs s k)).2)
structure Runs (fid : Nat) (φ : Fst) : Prop where
  run : ∀ w R g n s, QR w R g n s → s.l.length ≤ 140737488355328 → Calls Try.prog fid #[.pointer (some ⟨R, 0, none⟩)] w fun e w' => e = .returned (.bool (φ s).2) ∧ QR w' R g n (φ s).1 ∧ Ex (RG R g) w w'
  less : ∀ s, (φ s).1.l.length ≤ s.l.length
  ent : ∀ args w, (callFunc fid args).run Try.prog w = .ok (.enter fid args) w
theorem leftAt_le (l : List Int) (n : Int) : (leftAt l n).length ≤ l.length := by unfold leftAt; split <;> simp
theorem BR.below {w w' : World} {R g : Nat} {T : TypeId} {cs : List Value} {f : Bool} {l : List Int} (h : BR w R g T cs f l) (hb : Below w.heap.size w w') : BR w' R g T cs f l :=
  ⟨(hb.block R (Array.getElem?_eq_some_iff.1 h.blk).1).trans h.blk, h.rd.grow hb⟩
theorem QR.below {w w' : World} {R g n : Nat} {s : QS} (h : QR w R g n s) (hb : Below w.heap.size w w') : QR w' R g n s := ⟨h.1.below hb, h.2⟩
theorem BR.lt {w : World} {R g : Nat} {T : TypeId} {cs : List Value} {f : Bool} {l : List Int} (h : BR w R g T cs f l) : R < w.heap.size ∧ g < w.heap.size := by
  obtain ⟨v, hb, _⟩ := h.rd
  exact ⟨(Array.getElem?_eq_some_iff.1 h.blk).1, (Array.getElem?_eq_some_iff.1 hb).1⟩
theorem runs_kind : Runs 62 kindF := ⟨fun w R g n s h _ => kind_any w R g n s h, fun s => leftAt_le _ _, fun args w => enters_of Try.func62 (by kernel_rfl) rfl args w⟩
theorem runs_index : Runs 78 indexF := ⟨fun w R g n s h hb => index_any w R g n s h hb, fun s => leftAt_le _ _, fun args w => enters_of Try.func78 (by kernel_rfl) rfl args w⟩
theorem runs_number : Runs 79 numberF := ⟨fun w R g n s h _ => number_any w R g n s h, fun s => leftAt_le _ _, fun args w => enters_of Try.func79 (by kernel_rfl) rfl args w⟩
theorem runs_who : Runs 80 whoF := ⟨fun w R g n s h _ => who_any w R g n s h, fun s => leftAt_le _ _, fun args w => enters_of Try.func80 (by kernel_rfl) rfl args w⟩
theorem runs_until : Runs 81 untilF := ⟨fun w R g n s h _ => until_any w R g n s h, fun s => leftAt_le _ _, fun args w => enters_of Try.func81 (by kernel_rfl) rfl args w⟩
theorem runs_at : Runs 82 atF := ⟨fun w R g n s h _ => atQ_any w R g n s h, fun s => leftAt_le _ _, fun args w => enters_of Try.func82 (by kernel_rfl) rfl args w⟩
theorem runs_length : Runs 83 lengthF := ⟨fun w R g n s h _ => length_any w R g n s h, fun s => leftAt_le _ _, fun args w => enters_of Try.func83 (by kernel_rfl) rfl args w⟩
theorem runs_bytes : Runs 84 bytesF := ⟨fun w R g n s h _ => bytesQ_any w R g n s h, fun s => leftAt_le _ _, fun args w => enters_of Try.func84 (by kernel_rfl) rfl args w⟩
def flS : Int → List Fst
  | 1 => [indexF]
  | 2 => [indexF, numberF, whoF, untilF, bytesF]
  | 3 => [indexF, numberF, atF, lengthF]
  | 4 => [indexF, whoF, untilF]
  | 5 => [indexF, whoF]
  | _ => []
def AllRuns (ids : List Nat) (fs : List Fst) : Prop := ids.length = fs.length ∧ ∀ k (h1 : k < ids.length) (h2 : k < fs.length), Runs ids[k] fs[k]
theorem AllRuns.nil : AllRuns [] [] := ⟨rfl, fun k h => by simp at h⟩
theorem AllRuns.cons {i : Nat} {φ : Fst} {ids : List Nat} {fs : List Fst} (h : Runs i φ) (t : AllRuns ids fs) : AllRuns (i :: ids) (φ :: fs) :=
  ⟨by simp [t.1], fun k h1 h2 => by
    cases k with
    | zero => exact h
    | succ k => exact t.2 k (by simpa using h1) (by simpa using h2)⟩
theorem fl_runs (k : Int) (hk : kdB k = true) : AllRuns (flF k) (flS k) ∧ (flF k).length ≤ 5 := by
  have : k = 1 ∨ k = 2 ∨ k = 3 ∨ k = 4 ∨ k = 5 := by simp [kdB] at hk; omega
  rcases this with rfl | rfl | rfl | rfl | rfl
  · exact ⟨.cons runs_index .nil, by decide⟩
  · exact ⟨.cons runs_index (.cons runs_number (.cons runs_who (.cons runs_until (.cons runs_bytes .nil)))), by decide⟩
  · exact ⟨.cons runs_index (.cons runs_number (.cons runs_at (.cons runs_length .nil))), by decide⟩
  · exact ⟨.cons runs_index (.cons runs_who (.cons runs_until .nil)), by decide⟩
  · exact ⟨.cons runs_index (.cons runs_who .nil), by decide⟩
theorem sq_le {ids : List Nat} {fs : List Fst} (h : AllRuns ids fs) (s : QS) : ∀ k, (sq fs s k).l.length ≤ s.l.length
  | 0 => Nat.le_refl _
  | k + 1 => by
    unfold sq
    by_cases hk : k < fs.length
    · have e : fs.getD k (fun s => (s, true)) = fs[k] := by simp [List.getD, List.getElem?_eq_getElem hk]
      rw [e]
      exact Nat.le_trans ((h.2 k (by rw [h.1]; exact hk) hk).less _) (sq_le h s k)
    · have e : fs.getD k (fun s => (s, true)) = (fun s => (s, true)) := by simp [List.getD, List.getElem?_eq_none (show fs.length ≤ k by omega)]
      rw [e]
      exact sq_le h s k
theorem fds_of {ids : List Nat} {fs : List Fst} (h : AllRuns ids fs) (R g n : Nat) (s : QS) (hs : s.l.length ≤ 140737488355328) :
    Fds R g fs.length (fun k => ids.getD k 0) (RG R g) (fun k u => QR u R g n (sq fs s k)) (fun k => (sq fs s k).f) (fun k => (sq fs s k).l) (fun k => ((fs.getD k (fun s => (s, true))) (sq fs s k)).2) where
  rd := fun k u hu => hu.1.rd
  stay := fun k u u' hu hb => hu.below hb
  ask := fun k hk u hu => by
    have e1 : ids.getD k 0 = ids[k]'(by rw [h.1]; exact hk) := by simp [List.getD, List.getElem?_eq_getElem (show k < ids.length by rw [h.1]; exact hk)]
    have e2 : fs.getD k (fun s => (s, true)) = fs[k] := by simp [List.getD, List.getElem?_eq_getElem hk]
    simp only [sq]
    rw [e1, e2]
    exact (h.2 k (by rw [h.1]; exact hk) hk).run u R g n _ hu (Nat.le_trans (sq_le h s k) hs)
  ent := fun k hk args w => by
    have e1 : ids.getD k 0 = ids[k]'(by rw [h.1]; exact hk) := by simp [List.getD, List.getElem?_eq_getElem (show k < ids.length by rw [h.1]; exact hk)]
    simp only [e1]
    exact (h.2 k (by rw [h.1]; exact hk) hk).ent args w
theorem takeQ_any {ids : List Nat} {fs : List Fst} (h : AllRuns ids fs) (hm : ids.length ≤ 1000) (w : World) (R g n B : Nat) (s : QS) (hQ : QR w R g n s) (hn : n ≤ 140737488355328) (hs : s.l.length ≤ n) (v : Value) (ho : w.ownsRow B TF 1 v ids.length (ids.map (cl R))) (hBR : R < B) (hBg : g < B) :
    Calls Try.prog 61 #[.agg #[.pointer (some ⟨g, 0, none⟩), .int .i64 (n : Int)], v] w fun e w' => e = .returned (.tuple #[.int .i64 (tkS n fs s).1, .bool (tkS n fs s).2]) ∧ QR w' R g n (sq fs s fs.length) ∧ Ex (RG R g) w w' := by
  have hl := hQ.1.lt
  have D := fds_of h R g n s (Nat.le_trans hs hn)
  rcases ho.2 with ⟨rfl, e0⟩ | ⟨b, cap, cur, rfl, hb, hblk, hnc, hm2, hsz, htk⟩
  · have e1 : fs.length = 0 := by rw [← h.1]; exact e0
    have := takeS_any D w hQ hn (fun k => Nat.le_trans (sq_le h s k) hs) (by rintro (e | e) <;> omega) 0 0 0 none (fun q => by omega) (by omega) (by unfold maxLen; omega) (by omega) (fun q => by omega) (fun k hk => by omega)
    unfold tkS
    rw [e1] at this ⊢
    exact this
  · have := takeS_any D w hQ hn (fun k => Nat.le_trans (sq_le h s k) hs) (by rintro (e | e) <;> omega) b 0 cap (some ⟨b, 0, none⟩) (fun _ => rfl) (by rw [← h.1]; exact hnc) hm2 (by rw [← h.1]; exact hm) (fun _ => by rintro (e | e) <;> omega) (fun k hk => by
      have hk' : k < ids.length := by rw [h.1]; exact hk
      rw [Nat.zero_add, cell_of_row _ _ _ _ _ _ hblk]
      have e : cur[k]? = (cur.toList.take (ids.length * 1))[k]? := by rw [List.getElem?_take, if_pos (by omega), Array.getElem?_toList]
      rw [e, htk]
      simp [cl, List.getD, List.getElem?_eq_getElem hk'])
    rw [h.1]
    exact this
theorem results_cell1 {P : Program} {fn : Func} {p : Tmp} {ty : TypeId} (h : fn.results = #[.cell p ty]) (tmps : Array Value) (w : World) (g : Nat) (t : TypeId) (cs : Array Value) (fr : Nat × Nat) (d : TypeDesc)
    (hp : tmps.getD p undef = .pointer (some ⟨g, 0, none⟩)) (hg : w.heap[g]? = some (.cells cs t fr)) (hu : P.underlying ty = some d) (hd : (match d with | .struct _ | .array _ _ => true | _ => false) = true) (hi : (P.info? ty).map (·.size) = some cs.size) :
    (results fn tmps).run P w = .ok (.agg cs) w := by
  have hp' : tmps[p]?.getD undef = .pointer (some ⟨g, 0, none⟩) := by simpa using hp
  simp [results, h, hp', asAddr, run_loadVar_row w g t ty cs fr d hg hu hd hi]
theorem heap_setA {w : World} {b : Nat} {cs : Array Value} {T : TypeId} (h : w.heap[b]? = some (.cells cs T (0, 0))) (i : Nat) (v : Value) :
    (w.setCell ⟨b, i, none⟩ v).heap[b]? = some (.cells (cs.setIfInBounds i v) T (0, 0)) := by
  simp [World.setCell, Array.getElem?_modify, h]
set_option maxRecDepth 100000 in
set_option maxHeartbeats 4000000 in
theorem newSource_any (w : World) (v : Value) (l : List Int) (h : HB w v l) (hbig : l.length ≤ 140737488355328) :
    Calls Try.prog 41 #[v] w fun e w' => ∃ g, e = .returned (.agg #[.pointer (some ⟨g, 0, none⟩), .int .i64 (l.length : Int)]) ∧ RD w' g true false l ∧ w.heap.size ≤ g ∧ Below w.heap.size w w' := by
  obtain ⟨W1, HW1⟩ : ∃ W : World, Hid (w.alloc (.cells #[.pointer none, .int .i64 0] 80) = W) := ⟨_, hid rfl⟩
  have B1 : Hid (Below w.heap.size w W1) := by rw [← HW1.out]; exact hid ((Below.refl _ w).alloc (Nat.le_refl _) _)
  have hs1 : Hid (W1.heap.size = w.heap.size + 1) := hid (by rw [← HW1.out]; simp)
  have hbx : Hid (W1.heap[w.heap.size]? = some (.cells #[.pointer none, .int .i64 0] 80 (0, 0))) := hid (by rw [← HW1.out]; exact heap_alloc_new w _)
  have C1 := hid (newReader_any W1 v l ((h.later fun a _ hx => (B1.out.cell (World.block_lt_of_cell? w a hx)).trans hx)) hbig)
  obtain ⟨p, c, e, hlc, hm⟩ := h.open
  clear h
  subst e
  go_enter Try.func41, Try.ntmps41
  go_wp2_with (first | rw [HW1.out] | fail)
  refine C1.out.mono ?_
  rintro e w2 ⟨g, rfl, hr, hg, hB⟩
  have hb2 : w2.heap[w.heap.size]? = some (.cells #[.pointer none, .int .i64 0] 80 (0, 0)) := (hB.block _ (by have := hs1.out; omega)).trans hbx.out
  have c0 : w2.cell? ⟨w.heap.size, 0, none⟩ = some (.pointer none) := by simp [World.cell?, hb2]
  have c1 : w2.cell? ⟨w.heap.size, 1, none⟩ = some (.int .i64 0) := by simp [World.cell?, hb2]
  have f0 := free_of hb2 0
  have f1 := free_of hb2 1
  have HB2 := hid hb2
  have HR := hid hr
  have HG : Hid (w.heap.size < g) := hid (by have := hs1.out; omega)
  have HBB : Hid (Below w.heap.size w w2) := hid (B1.out.trans (hB.mono B1.out.size))
  clear hb2 hr hg hB C1
  go_wp2_with fail
  have hcell := heap_setA (heap_setA HB2.out 0 (.pointer (some ⟨g, 0, none⟩))) 1 (.int .i64 (l.length : Int))
  have EE := ((Ex.refl (fun k => k = w.heap.size) w2).setCell (x := w.heap.size) (o := 0) rfl (.pointer (some ⟨g, 0, none⟩))).setCell (x := w.heap.size) (o := 1) rfl (.int .i64 (l.length : Int))
  refine bodyPost_ret (v := .agg #[.pointer (some ⟨g, 0, none⟩), .int .i64 (l.length : Int)]) (results_cell1 (p := 2) (ty := 80) rfl _ _ w.heap.size 80 _ (0, 0) _ rfl hcell Try.underlying80 rfl (by kernel_rfl)) rfl ?_
  refine ⟨g, rfl, HR.out.ex EE (by have := HG.out; omega) (fun k e _ => by subst e; exact ⟨_, _, _, HB2.out, by decide⟩), by have := HG.out; omega, HBB.out.trans (EE.below HBB.out.size (fun k e => by omega))⟩
def edA (n : Nat) (l : List Int) (m : Int) : Int := (n : Int) - max ((l.length : Int) - m) 0
set_option maxRecDepth 100000 in
set_option maxHeartbeats 4000000 in
theorem ends_any (w : World) (g n : Nat) (f : Bool) (l : List Int) (h : RD w g true f l) (m : Int) (hn : n ≤ 140737488355328) (hl : l.length ≤ 140737488355328) (hm : 0 ≤ m ∧ m ≤ 140737488355328) :
    Calls Try.prog 64 #[.agg #[.pointer (some ⟨g, 0, none⟩), .int .i64 (n : Int)], .int .i64 m] w fun e w' => e = .returned (.tuple #[.int .i64 (edA n l m), .bool (decide ((l.length : Int) = m))]) ∧ Below w.heap.size w w' := by
  obtain ⟨W1, HW1⟩ : ∃ W : World, Hid (w.alloc (.cells #[.pointer (some ⟨g, 0, none⟩), .int .i64 (n : Int)] 80) = W) := ⟨_, hid rfl⟩
  have B1 : Hid (Below w.heap.size w W1) := by rw [← HW1.out]; exact hid ((Below.refl _ w).alloc (Nat.le_refl _) _)
  have hbx : W1.heap[w.heap.size]? = some (.cells #[.pointer (some ⟨g, 0, none⟩), .int .i64 (n : Int)] 80 (0, 0)) := by rw [← HW1.out]; exact heap_alloc_new w _
  have c0 : W1.cell? ⟨w.heap.size, 0, none⟩ = some (.pointer (some ⟨g, 0, none⟩)) := by simp [World.cell?, hbx]
  have c1 : W1.cell? ⟨w.heap.size, 1, none⟩ = some (.int .i64 (n : Int)) := by simp [World.cell?, hbx]
  have C1 := hid (left_any W1 g true f l (h.grow B1.out))
  have HE : Hid (edA n l m = (n : Int) - max ((l.length : Int) - m) 0) := hid rfl
  obtain ⟨ed, HED⟩ : ∃ x, Hid (edA n l m = x) := ⟨_, hid rfl⟩
  rw [HED.out] at HE ⊢
  generalize l.length = L at hl C1 HE ⊢
  have h1 : IntKind.i64.wrap ((L : Int) - m) = (L : Int) - m := by rw [IntKind.wrap_i64]; omega
  obtain ⟨M, HM⟩ : ∃ x, Hid (max ((L : Int) - m) 0 = x) := ⟨_, hid rfl⟩
  have h2 : IntKind.i64.wrap ((n : Int) - M) = (n : Int) - M := by rw [IntKind.wrap_i64, ← HM.out]; omega
  rw [HM.out] at HE
  clear h hbx
  go_enter Try.func64, Try.ntmps64
  go_wp2_with (first | rw [HW1.out] | fail)
  refine C1.out.mono ?_
  rintro e w2 ⟨rfl, hw2⟩
  subst hw2
  go_wp2_with fail
  all_goals go_ret2
  all_goals refine ⟨?_, B1.out⟩
  · have e1 : M = 0 := by rw [← HM.out]; omega
    rw [HE.out, e1]
    have e2 : ((L : Int) == m) = decide ((L : Int) = m) := rfl
    simp [e2]
  · have e1 : M = (L : Int) - m := by rw [← HM.out]; omega
    rw [HE.out, e1]
    rfl
end Go.Proofs.Ytgjadpidoaianaa
