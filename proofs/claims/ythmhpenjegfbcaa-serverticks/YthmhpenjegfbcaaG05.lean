/- Of the road to serverTicksUpto_holds: SvNum, SvRMay, SvHave, Slices, SvFetch, SvDeeds. -/
import Derived.Test.YthmhpenjegfbcaaG04
import Derived.Test.YthmhpenjegfbcaaG00
import Derived.Deep.MidRow
import Derived.Deep.RegionHeld
import Derived.OrdersHeld
set_option linter.unusedVariables false
set_option linter.unusedSimpArgs false
namespace Go.Proofs.Ythmhpenjegfbcaa
open Go Go.RowKit
structure Wnt (fid : Nat) (fr : Array Value) (J : World → Prop) (p : En → Bool) : Prop where
  ask : ∀ w x, J w → HEn w x → Calls Try.prog fid (#[.pointer (some ⟨x.hb, 0, none⟩)] ++ fr) w fun e w' => e = .returned (.bool (p x)) ∧ Below w.heap.size w w'
  below : ∀ w w', J w → Below w.heap.size w w' → J w'
  ent : ∀ args w, (callFunc fid args).run Try.prog w = .ok (.enter fid args) w
theorem any_wnt : Wnt 66 #[] (fun _ => True) (fun _ => true) := by
  refine ⟨fun w x _ _ => ?_, fun _ _ _ _ => trivial, fun args w => by go_simp⟩
  go_enter Try.func66, Try.ntmps66
  go_wp2
  go_ret
  exact ⟨rfl, Below.refl _ _⟩
theorem yieldsIf_look {P : Program} {ops : Array Oper} {S : World → Prop} {op : Oper} {a : Act} (hw : Region.wanted op (yielded ops a.tmps) = true) (t : TypeId) (x y : Operand) (two : Bool) (ho : op.op = .lookup t x y two) (vx vy : Value) (hx : a.eval x = vx) (hy : a.eval y = vy) (v : Value)
    (hr : ∀ w, S w → (Instr.lookup t vx vy two).run P w = .ok v w) : YieldsIf P ops S op v a :=
  .inl ⟨hw, fun w hS => by
    unfold execOp
    simp only [ho, Sem.run_bind, hx, hy, hr w hS, Result.andThen_ok]
    rfl⟩
def wantsB (Z : List (MapEntry × En)) (p : En → Bool) (s : Sp) : Bool := Z.any fun z => decide (z.2.k.sp = s) && p z.2
theorem wants_none {Z : List (MapEntry × En)} {p : En → Bool} {s : Sp} (h : ∀ z ∈ Z, z.2.k.sp ≠ s) : wantsB Z p s = false := by
  unfold wantsB
  rw [List.any_eq_false]
  intro z hz
  simp [h z hz]
theorem wants_some {Z : List (MapEntry × En)} {p : En → Bool} {s : Sp} (hn : (Z.map (·.2.k.sp)).Nodup) {z : MapEntry × En} (hz : z ∈ Z) (hs : z.2.k.sp = s) : wantsB Z p s = p z.2 := by
  obtain ⟨A, B, rfl⟩ := List.append_of_mem hz
  rw [List.map_append, List.map_cons, List.nodup_append] at hn
  obtain ⟨n1, n2, n3⟩ := hn
  unfold wantsB
  have hA : (A.any fun z => decide (z.2.k.sp = s) && p z.2) = false := by
    rw [List.any_eq_false]
    intro y hy
    have : y.2.k.sp ≠ s := fun e => n3 _ (List.mem_map.2 ⟨y, hy, rfl⟩) _ (List.mem_cons_self ..) (e.trans hs.symm)
    simp [this]
  have hB : (B.any fun z => decide (z.2.k.sp = s) && p z.2) = false := by
    rw [List.any_eq_false]
    intro y hy
    have : y.2.k.sp ≠ s := fun e => (List.nodup_cons.1 n2).1 (List.mem_map.2 ⟨y, hy, e.trans hs.symm⟩)
    simp [this]
  rw [List.any_append, List.any_cons, hA, hB, hs]
  simp
def numsL (Z : List (MapEntry × En)) (p : En → Bool) (ix : List Int) (k : Nat) : List Nat := (List.range k).filter fun n => wantsB Z p ⟨ix, (n : Int)⟩
def ivN (l : List Nat) : List Value := l.map fun (n : Nat) => Value.int .i64 (n : Int)
theorem numsL_succ (Z : List (MapEntry × En)) (p : En → Bool) (ix : List Int) (k : Nat) : numsL Z p ix (k + 1) = if wantsB Z p ⟨ix, (k : Int)⟩ = true then numsL Z p ix k ++ [k] else numsL Z p ix k := by
  unfold numsL
  rw [List.range_succ, List.filter_append]
  cases h : wantsB Z p ⟨ix, (k : Int)⟩ <;> simp [h]
theorem numsL_le (Z : List (MapEntry × En)) (p : En → Bool) (ix : List Int) (k : Nat) : (numsL Z p ix k).length ≤ k := by
  have := List.length_filter_le (fun n : Nat => wantsB Z p ⟨ix, (n : Int)⟩) (List.range k)
  simpa [numsL] using this
def ptR : Option (MapEntry × En) → Value
  | none => .pointer none
  | some z => .pointer (some ⟨z.2.hb, 0, none⟩)
def wnR (p : En → Bool) : Option (MapEntry × En) → Bool
  | none => false
  | some z => p z.2
theorem nodup_inj {α β : Type} {f : α → β} : ∀ {l : List α}, (l.map f).Nodup → ∀ {x y : α}, x ∈ l → y ∈ l → f x = f y → x = y
  | [], _, _, _, hx, _, _ => by cases hx
  | a :: l, hn, x, y, hx, hy, e => by
    rw [List.map_cons, List.nodup_cons] at hn
    rcases List.mem_cons.1 hx with q1 | q1 <;> rcases List.mem_cons.1 hy with q2 | q2
    · rw [q1, q2]
    · exact absurd (List.mem_map.2 ⟨y, q2, by rw [← e, q1]⟩) hn.1
    · exact absurd (List.mem_map.2 ⟨x, q1, by rw [e, q2]⟩) hn.1
    · exact nodup_inj hn.2 q1 q2 e
set_option maxRecDepth 100000 in
set_option maxHeartbeats 8000000 in
theorem numbers_any {fid : Nat} {fr : Array Value} {J : World → Prop} {p : En → Bool} (O : Wnt fid fr J p) {w : World} (hJ : J w) {g b c : Nat} {room tick : Int} {Z : List (MapEntry × En)} {S : Nat → Prop} (h : HZ w g b c room tick Z S) (ix : List Int) (h16 : ix.length = 16) (h256 : ∀ x ∈ ix, 0 ≤ x ∧ x < 256) :
    Calls Try.prog 65 #[.pointer (some ⟨g, 0, none⟩), .agg (cellsB ix), .func (.func fid) #[] fr] w fun e w' => ∃ v, e = .returned v ∧ w'.ownsRow w.heap.size 3 1 v (numsL Z p ix 255).length (ivN (numsL Z p ix 255)) ∧ Below w.heap.size w w' := by
  have hgl := h.lt g h.sg
  obtain ⟨ia, HIA⟩ : ∃ m, Hid (cellsB ix = m) := ⟨_, hid rfl⟩
  have HIA' : Hid ((ix.map (Value.int .u8)).toArray = ia) := hid HIA.out
  rw [HIA.out]
  obtain ⟨W0, HW0⟩ : ∃ W : World, Hid (w.alloc (.cells ia 27) = W) := ⟨_, hid rfl⟩
  have B0 : Hid (Below w.heap.size w W0) := by rw [← HW0.out]; exact hid ((Below.refl _ w).alloc (Nat.le_refl _) _)
  have S0 : Hid (W0.heap.size = w.heap.size + 1) := hid (by rw [← HW0.out]; simp)
  have RI : Hid (W0.rangeAt w.heap.size 0 (ix.map (Value.int .u8))) := hid (range_of (by rw [HIA'.out, ← HW0.out]; exact heap_alloc_new w _))
  have SI : Hid ((Try.prog.info? 27).map (·.size) = some (ix.map (Value.int .u8)).length) := hid (by rw [List.length_map, h16]; kernel_rfl)
  have H0 := hid (h.below B0.out)
  have J0 := hid (O.below w W0 hJ B0.out)
  have HO := hid O
  have HIX := hid (And.intro h16 h256)
  clear h hJ h256
  go_enter Try.func65, Try.ntmps65
  go_wp2
  rw [HW0.out]
  go_loopw [7, 11] (fun u7 u11 wr => ∃ k : Nat, k ≤ 255 ∧ u11 = .int .i64 k ∧ wr.ownsRow W0.heap.size 3 1 u7 (numsL Z p ix k).length (ivN (numsL Z p ix k)) ∧ Below W0.heap.size W0 wr) (fun _ u11 _ => 255 - (intOf u11).toNat)
  case atStart => exact ⟨0, Nat.zero_le _, rfl, (by rw [show numsL Z p ix 0 = [] from rfl]; exact World.ownsRow_nil _ _ _ _), Below.refl _ _⟩
  case round =>
    obtain ⟨k, hk, rfl, hrow, hB⟩ := hrel
    have HRow := hid hrow
    have HBr := hid hB
    obtain ⟨pu, cu, hu7⟩ := own_slc hrow
    subst hu7
    clear hrow hB
    by_cases hlt : k < 255
    · have hlt' : (k : Int) < 255 := by omega
      have sok : (⟨ix, (k : Int)⟩ : Sp).ok := ⟨HIX.out.1, HIX.out.2, by show (-9223372036854775808 : Int) ≤ (k : Int); omega, by show (k : Int) ≤ 9223372036854775807; omega⟩
      obtain ⟨s, HSs⟩ : ∃ s : Sp, Hid ((⟨ix, (k : Int)⟩ : Sp) = s) := ⟨_, hid rfl⟩
      rw [HSs.out] at sok
      have HZr := hid (H0.out.below HBr.out)
      obtain ⟨ms, Hms⟩ : ∃ m, Hid (spA s = m) := ⟨_, hid rfl⟩
      have hbs : Hid (∀ W, (Instr.build 63 #[(0, .agg ia), (1, .int .i64 (k : Int))]).run Try.prog W = .ok (.agg ms) W) := hid (fun W => by
        have := run_build_spot W sok
        rw [Hms.out, ← HSs.out] at this
        rw [show ixA (⟨ix, (k : Int)⟩ : Sp) = ia from HIA.out] at this
        exact this)
      -- what is found
      have LK : ∃ r : Option (MapEntry × En), (∀ z, r = some z → z ∈ Z) ∧ wantsB Z p s = wnR p r ∧ ∀ W, Below wr.heap.size wr W → (Instr.lookup 64 (.map (some b)) (.agg ms) true).run Try.prog W = .ok (.tuple #[ptR r, .bool r.isSome]) W := by
        by_cases hex : ∃ z ∈ Z, z.2.k.sp = s
        · obtain ⟨z, hz, hzs⟩ := hex
          refine ⟨some z, (fun y hy => by cases hy; exact hz), wants_some HZr.out.one hz hzs, fun W hW => ?_⟩
          have hZW := HZr.out.below hW
          rcases run_lookS hZW.mp hZW.spk sok with ⟨q1, q2⟩ | ⟨e, q0, q1, q2, -⟩
          · exact absurd (by rw [(hZW.key z hz).1, hzs]) (q1 z.1 (by simp; exact ⟨_, hz⟩))
          · rw [List.toList_toArray] at q0
            obtain ⟨y, hy, rfl⟩ := List.mem_map.1 q0
            have e1 : y.2.k.sp = s := spV_inj (hZW.each y hy).ok sok ((hZW.key y hy).1.symm.trans q1)
            have e2 : y = z := nodup_inj hZW.one hy hz (e1.trans hzs.symm)
            rw [e2, (hZW.key z hz).2] at q2
            unfold spV at q2
            rw [Hms.out] at q2
            exact q2
        · have hno : ∀ z ∈ Z, z.2.k.sp ≠ s := fun z hz e => hex ⟨z, hz, e⟩
          refine ⟨none, (fun y hy => by cases hy), wants_none hno, fun W hW => ?_⟩
          have hZW := HZr.out.below hW
          rcases run_lookS hZW.mp hZW.spk sok with ⟨q1, q2⟩ | ⟨e, q0, q1, q2, -⟩
          · unfold spV at q2
            rw [Hms.out] at q2
            exact q2
          · rw [List.toList_toArray] at q0
            obtain ⟨y, hy, rfl⟩ := List.mem_map.1 q0
            exact absurd (spV_inj (hZW.each y hy).ok sok ((hZW.key y hy).1.symm.trans q1)) (hno y hy)
      obtain ⟨r, hrZ, hrp, hrl⟩ := LK
      have HRZ := hid hrZ
      have HRP := hid hrp
      have KD : Hid (∀ W, Below wr.heap.size wr W → W.cell? ⟨g, 4, none⟩ = some (.map (some b)) ∧ (Instr.lookup 64 (.map (some b)) (.agg ms) true).run Try.prog W = .ok (.tuple #[ptR r, .bool r.isSome]) W) := hid (fun W hW => ⟨(HZr.out.below hW).top.c.2.2.2.2, hrl W hW⟩)
      have RI2 : Hid (∀ W, Below wr.heap.size wr W → W.rangeAt w.heap.size 0 (ix.map (Value.int .u8))) := hid (fun W hW => range_below0 (range_below0 RI.out HBr.out (by have := S0.out; omega)) hW (by have := S0.out; have := HBr.out.size; omega))
      have bd : Below wr.heap.size wr wr.drew := (Below.refl _ wr).drew
      have hs1 := HBr.out.size
      clear hrZ hrp hrl
      cases r with
      | none =>
        simp only [Option.isSome_none, ptR] at KD
        go_wp2_with fail
        refine wp_region_held_drew (S := Below wr.heap.size wr) (by kernel_rfl) bd (fun hHeld => ?_)
        have HS := hid hHeld
        clear hHeld
        change wpAnyH _ _ _ _ _ _ _ _ (World.drew _)
        refine wpAnyH_take (i := 0) (v := ?_) rfl (by kernel_rfl) (by kernel_rfl) (by kernel_rfl) (fun _ _ _ h => h) (Or.inl ⟨by rfl, ?q0⟩) HS.out ?_
        case q0 => intro w hSw; obtain ⟨q1, q2⟩ := KD.out _ hSw; go_simp; rfl
        simp only [Act.put, List.getElem_toArray, List.getElem_cons_zero, List.getElem_cons_succ, List.setIfInBounds_toArray, List.set_cons_zero, List.set_cons_succ]
        refine wpAnyH_take (i := 1) (v := ?_) rfl (by kernel_rfl) (by kernel_rfl) (by kernel_rfl) (fun _ _ _ h => h) (Or.inl ⟨by rfl, ?q1⟩) HS.out ?_
        case q1 => intro w hSw; obtain ⟨q1, q2⟩ := KD.out _ hSw; go_simp; rfl
        simp only [Act.put, List.getElem_toArray, List.getElem_cons_zero, List.getElem_cons_succ, List.setIfInBounds_toArray, List.set_cons_zero, List.set_cons_succ]
        refine wpAnyH_take (i := 2) (v := ?_) rfl (by kernel_rfl) (by kernel_rfl) (by kernel_rfl) (fun _ _ _ h => h) (Or.inl ⟨by rfl, ?q2⟩) HS.out ?_
        case q2 => intro w hSw; obtain ⟨q1, q2⟩ := KD.out _ hSw; go_simp; rfl
        simp only [Act.put, List.getElem_toArray, List.getElem_cons_zero, List.getElem_cons_succ, List.setIfInBounds_toArray, List.set_cons_zero, List.set_cons_succ]
        refine wpAnyH_take (i := 3) (v := ?_) rfl (by kernel_rfl) (by kernel_rfl) (by kernel_rfl) (fun _ _ _ h => h) (Or.inl ⟨by rfl, ?q3⟩) HS.out ?_
        case q3 => intro w hSw; obtain ⟨q1, q2⟩ := KD.out _ hSw; go_simp; rfl
        simp only [Act.put, List.getElem_toArray, List.getElem_cons_zero, List.getElem_cons_succ, List.setIfInBounds_toArray, List.set_cons_zero, List.set_cons_succ]
        refine wpAnyH_take (i := 4) rfl (by kernel_rfl) (by kernel_rfl) (by kernel_rfl) (fun _ _ _ h => h) (yieldsIf_load_mid (by rfl) 27 _ rfl w.heap.size 0 rfl (ix.map (Value.int .u8)) _ RI2.out Try.underlying27 rfl SI.out) HS.out ?_
        simp only [Act.put, List.getElem_toArray, List.getElem_cons_zero, List.getElem_cons_succ, List.setIfInBounds_toArray, List.set_cons_zero, List.set_cons_succ]
        rw [HIA'.out]
        refine wpAnyH_take (i := 5) (v := ?_) rfl (by kernel_rfl) (by kernel_rfl) (by kernel_rfl) (fun _ _ _ h => h) (Or.inl ⟨by rfl, ?q5⟩) HS.out ?_
        case q5 => intro w hSw; obtain ⟨q1, q2⟩ := KD.out _ hSw; go_simp; rfl
        simp only [Act.put, List.getElem_toArray, List.getElem_cons_zero, List.getElem_cons_succ, List.setIfInBounds_toArray, List.set_cons_zero, List.set_cons_succ]
        refine wpAnyH_take (i := 6) rfl (by kernel_rfl) (by kernel_rfl) (by kernel_rfl) (fun _ _ _ h => h) (yieldsIf_buildS (by rfl) 63 _ rfl #[(0, .agg ia), (1, .int .i64 (k : Int))] (by go_simp) _ hbs.out) HS.out ?_
        simp only [Act.put, List.getElem_toArray, List.getElem_cons_zero, List.getElem_cons_succ, List.setIfInBounds_toArray, List.set_cons_zero, List.set_cons_succ]
        refine wpAnyH_take (i := 7) rfl (by kernel_rfl) (by kernel_rfl) (by kernel_rfl) (fun _ _ _ h => h) (yieldsIf_look (by rfl) 64 _ _ true rfl (.map (some b)) (.agg ms) rfl rfl _ (fun W hW => (KD.out W hW).2)) HS.out ?_
        simp only [Act.put, List.getElem_toArray, List.getElem_cons_zero, List.getElem_cons_succ, List.setIfInBounds_toArray, List.set_cons_zero, List.set_cons_succ]
        refine wpAnyH_take (i := 8) (v := ?_) rfl (by kernel_rfl) (by kernel_rfl) (by kernel_rfl) (fun _ _ _ h => h) (Or.inl ⟨by rfl, ?q8⟩) HS.out ?_
        case q8 => intro w hSw; obtain ⟨q1, q2⟩ := KD.out _ hSw; go_simp; rfl
        simp only [Act.put, List.getElem_toArray, List.getElem_cons_zero, List.getElem_cons_succ, List.setIfInBounds_toArray, List.set_cons_zero, List.set_cons_succ]
        refine wpAnyH_take (i := 9) (v := ?_) rfl (by kernel_rfl) (by kernel_rfl) (by kernel_rfl) (fun _ _ _ h => h) (Or.inl ⟨by rfl, ?q9⟩) HS.out ?_
        case q9 => intro w hSw; obtain ⟨q1, q2⟩ := KD.out _ hSw; go_simp; rfl
        simp only [Act.put, List.getElem_toArray, List.getElem_cons_zero, List.getElem_cons_succ, List.setIfInBounds_toArray, List.set_cons_zero, List.set_cons_succ]
        refine wpAnyH_take (i := 10) (v := ?_) rfl (by kernel_rfl) (by kernel_rfl) (by kernel_rfl) (fun _ _ _ h => h) (Or.inl ⟨by rfl, ?q10⟩) HS.out ?_
        case q10 => intro w hSw; obtain ⟨q1, q2⟩ := KD.out _ hSw; go_simp; rfl
        simp only [Act.put, List.getElem_toArray, List.getElem_cons_zero, List.getElem_cons_succ, List.setIfInBounds_toArray, List.set_cons_zero, List.set_cons_succ]
        refine wpAnyH_take (i := 11) (v := ?_) rfl (by kernel_rfl) (by kernel_rfl) (by kernel_rfl) (fun _ _ _ h => h) (Or.inl ⟨by rfl, ?q11⟩) HS.out ?_
        case q11 => intro w hSw; obtain ⟨q1, q2⟩ := KD.out _ hSw; go_simp; rfl
        simp only [Act.put, List.getElem_toArray, List.getElem_cons_zero, List.getElem_cons_succ, List.setIfInBounds_toArray, List.set_cons_zero, List.set_cons_succ]
        refine wpAnyH_take (i := 12) (v := ?_) rfl (by kernel_rfl) (by kernel_rfl) (by kernel_rfl) (fun _ _ _ h => h) (Or.inl ⟨by rfl, ?q12⟩) HS.out ?_
        case q12 => intro w hSw; obtain ⟨q1, q2⟩ := KD.out _ hSw; go_simp; rfl
        simp only [Act.put, List.getElem_toArray, List.getElem_cons_zero, List.getElem_cons_succ, List.setIfInBounds_toArray, List.set_cons_zero, List.set_cons_succ]
        refine wpAnyH_done (by kernel_rfl) ?_ _
        go_wp2
        have hw : wantsB Z p ⟨ix, (k : Int)⟩ = false := by rw [HSs.out]; exact HRP.out
        refine ⟨⟨k + 1, by omega, by go_num, ?_, HBr.out.drew⟩, by simp [intOf]; omega⟩
        rw [numsL_succ, hw, if_neg (by simp)]
        exact HRow.out
      | some z =>
        simp only [Option.isSome_some, ptR] at KD
        have hz := HRZ.out z rfl
        have hp : Hid (wantsB Z p ⟨ix, (k : Int)⟩ = p z.2) := hid (by rw [HSs.out]; exact HRP.out)
        have bd2 := hid bd
        have CA := hid (O.ask wr.drew z.2 (O.below _ _ (O.below _ _ J0.out HBr.out) bd2.out) ((HZr.out.below bd2.out).each z hz))
        obtain ⟨d, HD⟩ : ∃ d, Hid (p z.2 = d) := ⟨_, hid rfl⟩
        rw [HD.out] at CA
        go_wp2_with fail
        refine wp_region_held_drew (S := Below wr.heap.size wr) (by kernel_rfl) bd (fun hHeld => ?_)
        have HS := hid hHeld
        clear hHeld
        change wpAnyH _ _ _ _ _ _ _ _ (World.drew _)
        refine wpAnyH_take (i := 0) (v := ?_) rfl (by kernel_rfl) (by kernel_rfl) (by kernel_rfl) (fun _ _ _ h => h) (Or.inl ⟨by rfl, ?q0⟩) HS.out ?_
        case q0 => intro w hSw; obtain ⟨q1, q2⟩ := KD.out _ hSw; go_simp; rfl
        simp only [Act.put, List.getElem_toArray, List.getElem_cons_zero, List.getElem_cons_succ, List.setIfInBounds_toArray, List.set_cons_zero, List.set_cons_succ]
        refine wpAnyH_take (i := 1) (v := ?_) rfl (by kernel_rfl) (by kernel_rfl) (by kernel_rfl) (fun _ _ _ h => h) (Or.inl ⟨by rfl, ?q1⟩) HS.out ?_
        case q1 => intro w hSw; obtain ⟨q1, q2⟩ := KD.out _ hSw; go_simp; rfl
        simp only [Act.put, List.getElem_toArray, List.getElem_cons_zero, List.getElem_cons_succ, List.setIfInBounds_toArray, List.set_cons_zero, List.set_cons_succ]
        refine wpAnyH_take (i := 2) (v := ?_) rfl (by kernel_rfl) (by kernel_rfl) (by kernel_rfl) (fun _ _ _ h => h) (Or.inl ⟨by rfl, ?q2⟩) HS.out ?_
        case q2 => intro w hSw; obtain ⟨q1, q2⟩ := KD.out _ hSw; go_simp; rfl
        simp only [Act.put, List.getElem_toArray, List.getElem_cons_zero, List.getElem_cons_succ, List.setIfInBounds_toArray, List.set_cons_zero, List.set_cons_succ]
        refine wpAnyH_take (i := 3) (v := ?_) rfl (by kernel_rfl) (by kernel_rfl) (by kernel_rfl) (fun _ _ _ h => h) (Or.inl ⟨by rfl, ?q3⟩) HS.out ?_
        case q3 => intro w hSw; obtain ⟨q1, q2⟩ := KD.out _ hSw; go_simp; rfl
        simp only [Act.put, List.getElem_toArray, List.getElem_cons_zero, List.getElem_cons_succ, List.setIfInBounds_toArray, List.set_cons_zero, List.set_cons_succ]
        refine wpAnyH_take (i := 4) rfl (by kernel_rfl) (by kernel_rfl) (by kernel_rfl) (fun _ _ _ h => h) (yieldsIf_load_mid (by rfl) 27 _ rfl w.heap.size 0 rfl (ix.map (Value.int .u8)) _ RI2.out Try.underlying27 rfl SI.out) HS.out ?_
        simp only [Act.put, List.getElem_toArray, List.getElem_cons_zero, List.getElem_cons_succ, List.setIfInBounds_toArray, List.set_cons_zero, List.set_cons_succ]
        rw [HIA'.out]
        refine wpAnyH_take (i := 5) (v := ?_) rfl (by kernel_rfl) (by kernel_rfl) (by kernel_rfl) (fun _ _ _ h => h) (Or.inl ⟨by rfl, ?q5⟩) HS.out ?_
        case q5 => intro w hSw; obtain ⟨q1, q2⟩ := KD.out _ hSw; go_simp; rfl
        simp only [Act.put, List.getElem_toArray, List.getElem_cons_zero, List.getElem_cons_succ, List.setIfInBounds_toArray, List.set_cons_zero, List.set_cons_succ]
        refine wpAnyH_take (i := 6) rfl (by kernel_rfl) (by kernel_rfl) (by kernel_rfl) (fun _ _ _ h => h) (yieldsIf_buildS (by rfl) 63 _ rfl #[(0, .agg ia), (1, .int .i64 (k : Int))] (by go_simp) _ hbs.out) HS.out ?_
        simp only [Act.put, List.getElem_toArray, List.getElem_cons_zero, List.getElem_cons_succ, List.setIfInBounds_toArray, List.set_cons_zero, List.set_cons_succ]
        refine wpAnyH_take (i := 7) rfl (by kernel_rfl) (by kernel_rfl) (by kernel_rfl) (fun _ _ _ h => h) (yieldsIf_look (by rfl) 64 _ _ true rfl (.map (some b)) (.agg ms) rfl rfl _ (fun W hW => (KD.out W hW).2)) HS.out ?_
        simp only [Act.put, List.getElem_toArray, List.getElem_cons_zero, List.getElem_cons_succ, List.setIfInBounds_toArray, List.set_cons_zero, List.set_cons_succ]
        refine wpAnyH_take (i := 8) (v := ?_) rfl (by kernel_rfl) (by kernel_rfl) (by kernel_rfl) (fun _ _ _ h => h) (Or.inl ⟨by rfl, ?q8⟩) HS.out ?_
        case q8 => intro w hSw; obtain ⟨q1, q2⟩ := KD.out _ hSw; go_simp; rfl
        simp only [Act.put, List.getElem_toArray, List.getElem_cons_zero, List.getElem_cons_succ, List.setIfInBounds_toArray, List.set_cons_zero, List.set_cons_succ]
        refine wpAnyH_take (i := 9) (v := ?_) rfl (by kernel_rfl) (by kernel_rfl) (by kernel_rfl) (fun _ _ _ h => h) (Or.inl ⟨by rfl, ?q9⟩) HS.out ?_
        case q9 => intro w hSw; obtain ⟨q1, q2⟩ := KD.out _ hSw; go_simp; rfl
        simp only [Act.put, List.getElem_toArray, List.getElem_cons_zero, List.getElem_cons_succ, List.setIfInBounds_toArray, List.set_cons_zero, List.set_cons_succ]
        refine wpAnyH_take (i := 10) (v := ?_) rfl (by kernel_rfl) (by kernel_rfl) (by kernel_rfl) (fun _ _ _ h => h) (Or.inl ⟨by rfl, ?q10⟩) HS.out ?_
        case q10 => intro w hSw; obtain ⟨q1, q2⟩ := KD.out _ hSw; go_simp; rfl
        simp only [Act.put, List.getElem_toArray, List.getElem_cons_zero, List.getElem_cons_succ, List.setIfInBounds_toArray, List.set_cons_zero, List.set_cons_succ]
        refine wpAnyH_take (i := 11) (v := ?_) rfl (by kernel_rfl) (by kernel_rfl) (by kernel_rfl) (fun _ _ _ h => h) (Or.inl ⟨by rfl, ?q11⟩) HS.out ?_
        case q11 => intro w hSw; obtain ⟨q1, q2⟩ := KD.out _ hSw; go_simp; rfl
        simp only [Act.put, List.getElem_toArray, List.getElem_cons_zero, List.getElem_cons_succ, List.setIfInBounds_toArray, List.set_cons_zero, List.set_cons_succ]
        refine wpAnyH_take (i := 12) (v := ?_) rfl (by kernel_rfl) (by kernel_rfl) (by kernel_rfl) (fun _ _ _ h => h) (Or.inl ⟨by rfl, ?q12⟩) HS.out ?_
        case q12 => intro w hSw; obtain ⟨q1, q2⟩ := KD.out _ hSw; go_simp; rfl
        simp only [Act.put, List.getElem_toArray, List.getElem_cons_zero, List.getElem_cons_succ, List.setIfInBounds_toArray, List.set_cons_zero, List.set_cons_succ]
        refine wpAnyH_done (by kernel_rfl) ?_ _
        go_wp2_with fail
        rw [O.ent, Oper.upon_enter]
        refine CA.out.mono ?_
        rintro e w3 ⟨rfl, hb3⟩
        have B3 := hid (bd2.out.trans hb3)
        have O3 : Hid (w3.ownsRow W0.heap.size 3 1 (.slice pu (numsL Z p ix k).length cu) (numsL Z p ix k).length (ivN (numsL Z p ix k))) := hid (ownsRow_of HRow.out fun j hj => by
          obtain ⟨-, cur, q⟩ := ownsRow_block HRow.out hj
          exact B3.out.block j (Array.getElem?_eq_some_iff.1 q).1)
        have s3 := B3.out.size
        clear hb3
        cases d with
        | false =>
          go_wp2
          refine ⟨⟨k + 1, by omega, by go_num, ?_, HBr.out.trans (B3.out.mono HBr.out.size)⟩, by simp [intOf]; omega⟩
          rw [numsL_succ, hp.out, HD.out, if_neg (by simp)]
          exact O3.out
        | true =>
          have hnl := numsL_le Z p ix k
          go_wp2_with (refine wpList_append_int rfl _ _ rfl W0.heap.size _ (numsL Z p ix k).length (ivN (numsL Z p ix k)) rfl (O3.out.alloc _) _ _ (k : Int) rfl (by rw [cell_of_row _ w3.heap.size 0 _ _ _ (heap_alloc_new w3 _)]; rfl) (by omega) (by simp; omega) ?_; intro v' w5 ho5 hg5 hown5)
          refine ⟨⟨k + 1, by omega, by go_num, ?_, ?_⟩, by simp [intOf]; omega⟩
          · rw [numsL_succ, hp.out, HD.out, if_pos rfl]
            simp only [List.length_append, List.length_singleton, ivN, List.map_append, List.map_cons, List.map_nil]
            exact ho5
          · refine (HBr.out.trans (B3.out.mono HBr.out.size)).trans ?_
            have e1 : Below W0.heap.size w3 (w3.alloc (.cells #[.int .i64 (k : Int)] 3)) := (Below.refl _ w3).alloc (by omega) _
            exact e1.grown hg5 (by simp; omega) (fun j hj => (ownsRow_block HRow.out hj).1)
    · have hk' : k = 255 := by omega
      subst hk'
      go_wp2
      go_ret
      refine ⟨_, rfl, own_mono HRow.out B0.out.size, B0.out.trans (HBr.out.mono B0.out.size)⟩
def bareB (r : Rq) (n : Nat) (b1 b2 b3 b4 : Bool) : Bool := decide ((b1 = false → r.nb = 0) ∧ (b2 = false → r.pl = 0 ∧ r.ln = 0) ∧ (b3 = false → r.who = 0 ∧ r.til = 0) ∧ (b4 = false → n = 0) ∧ 0 ≤ r.nb ∧ r.nb < 255 ∧ 0 ≤ r.til ∧ r.til ≤ 1099511627776)
theorem range_belowS {w w' : World} {B b o : Nat} {cs : List Value} (h : w.rangeAt b o cs) (hB : Below B w w') (hb : b < B) : w'.rangeAt b o cs := fun j v hv => (hB.cell (p := ⟨b, o + j, none⟩) hb).trans (h j v hv)
theorem range_new (w : World) (cs : List Value) (T : TypeId) : (w.alloc (.cells cs.toArray T)).rangeAt w.heap.size 0 cs := fun j v hv => by
  have h := heap_alloc_new w (.cells cs.toArray T)
  rw [cell_of_row _ _ _ _ _ _ h]
  simpa using hv
theorem size_req : (Try.prog.info? 33).map (·.size) = some 23 := by kernel_rfl
theorem size_rq {r : Rq} (h : r.ok) (v : Value) : (Try.prog.info? 33).map (·.size) = some (rqL r v).length := by
  rw [show (rqL r v).length = 23 by simp [rqL, h.1]]; exact size_req
theorem rq_und : ∃ fs, Try.prog.underlying 33 = some (.struct fs) := ⟨_, Try.underlying33⟩
theorem rq_ix {w : World} {g : Nat} {r : Rq} {v : Value} (h : w.rangeAt g 0 (rqL r v)) : w.rangeAt g 1 (r.ix.map (Value.int .u8)) := fun j u hj => by
  have hl := (List.getElem?_eq_some_iff.1 hj).1
  have := h (j + 1) u (by unfold rqL; rw [List.getElem?_cons_succ, List.getElem?_append_left hl]; exact hj)
  rw [Nat.zero_add, Nat.add_comm] at this
  exact this
set_option maxRecDepth 100000 in
set_option maxHeartbeats 8000000 in
theorem have_any {w : World} {g b c : Nat} {room tick : Int} {Z : List (MapEntry × En)} {S : Nat → Prop} (h : HZ w g b c room tick Z S) (r : Rq) (hr : r.ok) (v : Value) :
    Calls Try.prog 46 #[.pointer (some ⟨g, 0, none⟩), .agg (rqA r v)] w fun e w' => ∃ vn, e = .returned (.agg #[.int .u8 1, vn, .slice none 0 0]) ∧ w'.ownsRow w.heap.size 3 1 vn (numsL Z (fun _ => true) r.ix 255).length (ivN (numsL Z (fun _ => true) r.ix 255)) ∧ Below w.heap.size w w' := by
  obtain ⟨m, HM⟩ : ∃ m, Hid (rqA r v = m) := ⟨_, hid rfl⟩
  rw [HM.out]
  obtain ⟨W1, HW1⟩ : ∃ W : World, Hid (w.alloc (.cells m 33) = W) := ⟨_, hid rfl⟩
  obtain ⟨W2, HW2⟩ : ∃ W : World, Hid (W1.alloc (.cells #[.int .u8 0, .slice none 0 0, .slice none 0 0] 46) = W) := ⟨_, hid rfl⟩
  have Z1 : Hid (W1.heap.size = w.heap.size + 1) := hid (by rw [← HW1.out]; simp)
  have Z2 : Hid (W2.heap.size = w.heap.size + 2) := hid (by rw [← HW2.out]; simp [Z1.out])
  have B1 : Hid (Below w.heap.size w W1) := by rw [← HW1.out]; exact hid ((Below.refl _ w).alloc (Nat.le_refl _) _)
  have B2 : Hid (Below W1.heap.size W1 W2) := by rw [← HW2.out]; exact hid ((Below.refl _ W1).alloc (Nat.le_refl _) _)
  have BB : Hid (Below w.heap.size w W2) := hid (B1.out.trans (B2.out.mono B1.out.size))
  have r1 : W2.rangeAt w.heap.size 0 (rqL r v) := range_of ((B2.out.block _ (by have := Z1.out; omega)).trans (by rw [show (rqL r v).toArray = m from HM.out, ← HW1.out]; exact heap_alloc_new w _))
  have RX := hid (rq_ix r1)
  have SI : Hid ((Try.prog.info? 27).map (·.size) = some (r.ix.map (Value.int .u8)).length) := hid (by rw [List.length_map, hr.1]; kernel_rfl)
  obtain ⟨ia, HIA⟩ : ∃ m, Hid (cellsB r.ix = m) := ⟨_, hid rfl⟩
  have HIA' : Hid ((r.ix.map (Value.int .u8)).toArray = ia) := hid HIA.out
  have CN := hid (numbers_any any_wnt trivial (h.below BB.out) r.ix hr.1 hr.2)
  rw [HIA.out] at CN
  have hrep : Hid (W2.heap[w.heap.size + 1]? = some (.cells #[.int .u8 0, .slice none 0 0, .slice none 0 0] 46 (0, 0))) := hid (by rw [← Z1.out, ← HW2.out]; exact heap_alloc_new W1 _)
  have Z1' := Z1.out
  clear r1 h hr
  go_enter Try.func46, Try.ntmps46
  refine wp_seq_k fun K0 h0 => ?_
  have H0 := hid h0
  clear h0
  go_wp2
  rw [HW1.out, HW2.out]
  refine H0.out _ _ ?_
  go_wp2_with (refine wpList_load_mid rfl 27 _ rfl w.heap.size 1 rfl (r.ix.map (Value.int .u8)) _ RX.out Try.underlying27 rfl SI.out ?_; rw [HIA'.out])
  refine CN.out.mono ?_
  rintro e w3 ⟨vn, rfl, ho, hb3⟩
  have O3 := hid ho
  have B3 := hid hb3
  obtain ⟨pn, cn, hvn⟩ := own_slc ho
  subst hvn
  clear ho hb3 CN
  have k5 := (B3.out.block (w.heap.size + 1) (by have := Z2.out; omega)).trans hrep.out
  have f0 := free_of k5 0
  have f1 := free_of k5 1
  have f2 := free_of k5 2
  have i0 : w3.cell? ⟨w.heap.size + 1, 0, none⟩ = some (.int .u8 0) := (cell_of_row _ _ _ _ _ _ k5).trans rfl
  have i1 : w3.cell? ⟨w.heap.size + 1, 1, none⟩ = some (.slice none 0 0) := (cell_of_row _ _ _ _ _ _ k5).trans rfl
  have i2 : w3.cell? ⟨w.heap.size + 1, 2, none⟩ = some (.slice none 0 0) := (cell_of_row _ _ _ _ _ _ k5).trans rfl
  have K5 := hid k5
  clear k5
  go_wp2
  have hcell := heap_setCell (heap_setCell (heap_setCell K5.out 0 (.int .u8 1)) 1 (.slice pn (numsL Z (fun _ => true) r.ix 255).length cn)) 2 (.slice none 0 0)
  refine bodyPost_ret (v := .agg #[.int .u8 1, .slice pn (numsL Z (fun _ => true) r.ix 255).length cn, .slice none 0 0]) (results_cellS (p := 4) (ty := 46) rfl _ _ (w.heap.size + 1) 46 _ (0, 0) _ rfl hcell Try.underlying46 rfl (by kernel_rfl)) rfl ?_
  have BX := BB.out.trans (B3.out.mono BB.out.size)
  refine ⟨_, rfl, ownsRow_of (own_mono O3.out BB.out.size) fun j hj => ?_, ((BX.setCell (Nat.le_succ _) _).setCell (Nat.le_succ _) _).setCell (Nat.le_succ _) _⟩
  have hj2 := (ownsRow_block O3.out hj).1
  have hne : j ≠ w.heap.size + 1 := by have := Z2.out; omega
  rw [heap_setCell_ne hne, heap_setCell_ne hne, heap_setCell_ne hne]
end Go.Proofs.Ythmhpenjegfbcaa
namespace Go.Proofs.Ythmhpenjegfbcaa
open Go.RowKit
theorem grown_set (w : World) (g o : Nat) (u : Value) : w.grownBy (w.setCell ⟨g, o, none⟩ u) (some g) :=
  ⟨rfl, rfl, rfl, by simp, fun k _ hk => heap_setCell_other w ⟨g, o, none⟩ k u (fun e => hk (by simp [e]))⟩
theorem grown_trans {a b c : World} {r : Option Nat} (h : a.grownBy b r) (k : b.grownBy c r) : a.grownBy c r :=
  ⟨k.os.trans h.os, k.tape.trans h.tape, k.output.trans h.output, Nat.le_trans h.size k.size, fun i hi hr => (k.block i (Nat.lt_of_lt_of_le hi h.size) hr).trans (h.block i hi hr)⟩
theorem grown_below {a b : World} {r : Option Nat} (h : Below a.heap.size a b) : a.grownBy b r :=
  ⟨h.os, h.tape, h.output, h.size, fun i hi _ => h.block i hi⟩
theorem HB.sliced {w : World} {p : Option Addr} {c : Nat} {l : List Int} (h : HB w (.slice p l.length c) l) (lo hi m : Nat) (h1 : lo ≤ hi) (h2 : hi ≤ l.length) (h3 : hi ≤ m) (h4 : m ≤ c) : HB w (.slice (if m = lo then p else p.map (·.add lo)) (hi - lo) (m - lo)) ((l.take hi).drop lo) := by
  obtain ⟨⟨p', c', e, hc, hm, hpc, hcell⟩, hby⟩ := h
  simp only [Value.slice.injEq, true_and] at e
  obtain ⟨rfl, rfl⟩ := e
  have hlen : ((l.take hi).drop lo).length = hi - lo := by simp; omega
  refine ⟨⟨_, m - lo, by rw [hlen], by omega, by omega, fun e => ?_, fun hne => ?_⟩, fun x hx => hby x (List.mem_of_mem_take (List.mem_of_mem_drop hx))⟩
  · have : p = none := by
      split at e
      · exact e
      · cases p <;> simp_all
    have := hpc this
    omega
  have hlt : lo < hi := by
    apply Classical.byContradiction
    intro hn
    exact hne (List.length_eq_zero_iff.1 (by omega))
  obtain ⟨b, off, rfl, hk⟩ := hcell (by intro e; subst e; simp at h2; omega)
  rw [if_neg (by omega)]
  refine ⟨b, off + lo, by simp [Go.WideShapes.add_plain], fun j hj => ?_⟩
  rw [hlen] at hj
  have := hk (lo + j) (by omega)
  rw [show off + lo + j = off + (lo + j) by omega, this]
  have e1 : ((l.take hi).drop lo).getD j 0 = l.getD (lo + j) 0 := by
    simp only [List.getD, List.getElem?_drop, List.getElem?_take]
    rw [if_pos (by omega)]
  rw [e1]
theorem HB.pre {w : World} {p : Option Addr} {c : Nat} {l : List Int} (h : HB w (.slice p l.length c) l) (n : Nat) (hn : n ≤ l.length) : HB w (.slice p n n) (l.take n) := by
  obtain ⟨p', c', e, hc, _⟩ := h.open
  simp only [Value.slice.injEq, true_and] at e
  obtain ⟨rfl, rfl⟩ := e
  have := h.sliced 0 n n (Nat.zero_le _) hn (Nat.le_refl _) (by omega)
  have e : (if n = 0 then p else p.map (·.add 0)) = p := by
    split
    · rfl
    · cases p <;> simp [Addr.add]
  simpa [e] using this
theorem HB.suf {w : World} {p : Option Addr} {c : Nat} {l : List Int} (h : HB w (.slice p l.length c) l) (n : Nat) (hn : n ≤ l.length) : HB w (.slice (if c = n then p else p.map (·.add n)) (l.length - n) (c - n)) (l.drop n) := by
  obtain ⟨p', c', e, hc, _⟩ := h.open
  simp only [Value.slice.injEq, true_and] at e
  obtain ⟨rfl, rfl⟩ := e
  have := h.sliced n l.length c hn (Nat.le_refl _) hc (Nat.le_refl _)
  rwa [List.take_of_length_le (Nat.le_refl _)] at this
theorem HB.slice_form {w : World} {v : Value} {l : List Int} (h : HB w v l) : ∃ p c, v = .slice p l.length c := by
  obtain ⟨p, c, e, _⟩ := h.open
  exact ⟨p, c, e⟩
end Go.Proofs.Ythmhpenjegfbcaa
namespace Go.Proofs.Ythmhpenjegfbcaa
open Go Go.RowKit
theorem elmS : Try.prog.elem 31 = 5 := by kernel_rfl
theorem slice_lhS (W : World) (p : Option Addr) (n c lo hi : Nat) (h1 : lo ≤ hi) (h2 : hi ≤ c) : (Instr.slice 31 (.slice p n c) (some (.int .i64 (lo : Int))) (some (.int .i64 (hi : Int))) none).run Try.prog W = .ok (.slice (if c = lo then p else p.map (·.add lo)) (hi - lo) (c - lo)) W := by
  have h := run_slice_lh (P := Try.prog) W 31 p n c (by rw [elmS]; exact Try.underlying31) .i64 .i64 (lo : Int) (hi : Int) (by omega) (by omega) (by omega)
  rw [h, elmS, size_u8, Result.andThen_ok, Int.toNat_natCast, Int.toNat_natCast]
  unfold sliced
  rw [Nat.mul_one]
theorem yieldsIf_sl {P : Program} {ops : Array Oper} {S : World → Prop} {op : Oper} {a : Act} (hw : Region.wanted op (yielded ops a.tmps) = true) (t : TypeId) (x y z : Operand) (ht : P.underlying t = some (.slice (P.elem t))) (ho : op.op = .slice t x (some y) (some z) none) (vx vy vz : Value) (hx : a.eval x = vx) (hy : a.eval y = vy) (hz : a.eval z = vz) (v : Value)
    (hr : ∀ w, S w → (Instr.slice t vx (some vy) (some vz) none).run P w = .ok v w) : YieldsIf P ops S op v a :=
  .inl ⟨hw, fun w hS => by
    unfold execOp
    simp only [ho, Sem.run_bind, Option.map_some, Option.map_none, hx, hy, hz, run_sliceAt_slice w t _ _ _ _ ht, hr w hS, Result.andThen_ok]
    rfl⟩
theorem HZ.look {w : World} {g b c : Nat} {room tick : Int} {Z : List (MapEntry × En)} {S : Nat → Prop} (h : HZ w g b c room tick Z S) {s : Sp} (sok : s.ok) : ∃ r : Option (MapEntry × En), (∀ z, r = some z → z ∈ Z ∧ z.2.k.sp = s) ∧ (r = none → ∀ z ∈ Z, z.2.k.sp ≠ s) ∧ ∀ W, HZ W g b c room tick Z S → (Instr.lookup 64 (.map (some b)) (.agg (spA s)) true).run Try.prog W = .ok (.tuple #[ptR r, .bool r.isSome]) W := by
  by_cases hex : ∃ z ∈ Z, z.2.k.sp = s
  · obtain ⟨z, hz, hzs⟩ := hex
    refine ⟨some z, (fun y hy => by cases hy; exact ⟨hz, hzs⟩), (fun q => by cases q), fun W hZW => ?_⟩
    rcases run_lookS hZW.mp hZW.spk sok with ⟨q1, q2⟩ | ⟨e, q0, q1, q2, -⟩
    · exact absurd (by rw [(hZW.key z hz).1, hzs]) (q1 z.1 (by simp; exact ⟨_, hz⟩))
    · rw [List.toList_toArray] at q0
      obtain ⟨y, hy, rfl⟩ := List.mem_map.1 q0
      have e1 : y.2.k.sp = s := spV_inj (hZW.each y hy).ok sok ((hZW.key y hy).1.symm.trans q1)
      have e2 : y = z := nodup_inj hZW.one hy hz (e1.trans hzs.symm)
      rw [e2, (hZW.key z hz).2] at q2
      exact q2
  · have hno : ∀ z ∈ Z, z.2.k.sp ≠ s := fun z hz e => hex ⟨z, hz, e⟩
    refine ⟨none, (fun y hy => by cases hy), (fun _ => hno), fun W hZW => ?_⟩
    rcases run_lookS hZW.mp hZW.spk sok with ⟨q1, q2⟩ | ⟨e, q0, q1, q2, -⟩
    · exact q2
    · rw [List.toList_toArray] at q0
      obtain ⟨y, hy, rfl⟩ := List.mem_map.1 q0
      exact absurd (spV_inj (hZW.each y hy).ok sok ((hZW.key y hy).1.symm.trans q1)) (hno y hy)
def OwB (w : World) (B : Nat) (v : Value) (L : List Int) : Prop := w.ownsRow B 5 1 v L.length (L.map (Value.int .u8)) ∧ ∀ x ∈ L, 0 ≤ x ∧ x < 256
def FtQ (w : World) (Z : List (MapEntry × En)) (r : Rq) (e : Ending) (w' : World) : Prop :=
  (e = .returned (.agg #[.int .u8 6, .slice none 0 0, .slice none 0 0]) ∧ (∀ z ∈ Z, z.2.k.sp = ⟨r.ix, r.nb⟩ → (z.2.k.bs.length : Int) < r.pl + r.ln)) ∨
  ∃ z ∈ Z, ∃ v, z.2.k.sp = ⟨r.ix, r.nb⟩ ∧ r.pl + r.ln ≤ (z.2.k.bs.length : Int) ∧ e = .returned (.agg #[.int .u8 5, .slice none 0 0, v]) ∧ OwB w' w.heap.size v ((z.2.k.bs.take (r.pl + r.ln).toNat).drop r.pl.toNat)
set_option maxRecDepth 100000 in
set_option maxHeartbeats 8000000 in
theorem fetch_any {w : World} {g b c : Nat} {room tick : Int} {Z : List (MapEntry × En)} {S : Nat → Prop} (h : HZ w g b c room tick Z S) (r : Rq) (hr : r.ok) (hnb : 0 ≤ r.nb ∧ r.nb < 255) (hpl : 0 ≤ r.pl ∧ r.pl ≤ 33554432) (hln : 1 ≤ r.ln ∧ r.ln ≤ 131072) (v : Value) :
    Calls Try.prog 48 #[.pointer (some ⟨g, 0, none⟩), .agg (rqA r v)] w fun e w' => FtQ w Z r e w' ∧ Below w.heap.size w w' := by
  obtain ⟨m, HM⟩ : ∃ m, Hid (rqA r v = m) := ⟨_, hid rfl⟩
  rw [HM.out]
  obtain ⟨W1, HW1⟩ : ∃ W : World, Hid (w.alloc (.cells m 33) = W) := ⟨_, hid rfl⟩
  obtain ⟨W2, HW2⟩ : ∃ W : World, Hid (W1.alloc (.cells #[.int .u8 0, .slice none 0 0, .slice none 0 0] 46) = W) := ⟨_, hid rfl⟩
  have Z1 : Hid (W1.heap.size = w.heap.size + 1) := hid (by rw [← HW1.out]; simp)
  have Z2 : Hid (W2.heap.size = w.heap.size + 2) := hid (by rw [← HW2.out]; simp [Z1.out])
  have B1 : Hid (Below w.heap.size w W1) := by rw [← HW1.out]; exact hid ((Below.refl _ w).alloc (Nat.le_refl _) _)
  have B2 : Hid (Below W1.heap.size W1 W2) := by rw [← HW2.out]; exact hid ((Below.refl _ W1).alloc (Nat.le_refl _) _)
  have BB : Hid (Below w.heap.size w W2) := hid (B1.out.trans (B2.out.mono B1.out.size))
  have hbx : W2.heap[w.heap.size]? = some (.cells m 33 (0, 0)) := (B2.out.block _ (by have := Z1.out; omega)).trans (by rw [← HW1.out]; exact heap_alloc_new w _)
  have hrep : Hid (W2.heap[w.heap.size + 1]? = some (.cells #[.int .u8 0, .slice none 0 0, .slice none 0 0] 46 (0, 0))) := hid (by rw [← Z1.out, ← HW2.out]; exact heap_alloc_new W1 _)
  have SI : Hid ((Try.prog.info? 27).map (·.size) = some (r.ix.map (Value.int .u8)).length) := hid (by rw [List.length_map, hr.1]; kernel_rfl)
  obtain ⟨ia, HIA⟩ : ∃ m, Hid (cellsB r.ix = m) := ⟨_, hid rfl⟩
  have HIA' : Hid ((r.ix.map (Value.int .u8)).toArray = ia) := hid HIA.out
  have H2 := hid (h.below BB.out)
  have sok : (⟨r.ix, r.nb⟩ : Sp).ok := ⟨hr.1, hr.2, by show (-9223372036854775808 : Int) ≤ r.nb; omega, by show r.nb ≤ 9223372036854775807; omega⟩
  obtain ⟨rz, hz1, hz2, hz3⟩ := H2.out.look sok
  have hbs : Hid (∀ W, (Instr.build 63 #[(0, .agg ia), (1, .int .i64 r.nb)]).run Try.prog W = .ok (.agg (spA ⟨r.ix, r.nb⟩)) W) := hid (fun W => by
    have := run_build_spot W sok
    rw [show ixA (⟨r.ix, r.nb⟩ : Sp) = ia from HIA.out] at this
    exact this)
  obtain ⟨ms, Hms⟩ : ∃ m, Hid (spA (⟨r.ix, r.nb⟩ : Sp) = m) := ⟨_, hid rfl⟩
  rw [Hms.out] at hbs hz3
  have EX : Hid (∀ W, Ex (fun k => k = w.heap.size + 1) W2 W → HZ W g b c room tick Z S ∧ W.heap[w.heap.size]? = some (.cells m 33 (0, 0))) := hid (fun W hW => ⟨H2.out.ex hW (fun k hk e => by have := h.lt k hk; omega), (hW.block _ (by have := Z2.out; omega) (by omega)).trans hbx⟩)
  have KD : Hid (∀ W, Ex (fun k => k = w.heap.size + 1) W2 W → W.cell? ⟨g, 4, none⟩ = some (.map (some b)) ∧ W.cell? ⟨w.heap.size, 17, none⟩ = some (.int .i64 r.nb) ∧ W.cell? ⟨w.heap.size, 18, none⟩ = some (.int .i64 r.pl) ∧ W.cell? ⟨w.heap.size, 19, none⟩ = some (.int .i64 r.ln)) := hid (fun W hW => by
    obtain ⟨q1, q2⟩ := EX.out W hW
    refine ⟨q1.top.c.2.2.2.2, ?_, ?_, ?_⟩ <;> rw [cell_of_row _ _ _ _ _ _ q2, ← HM.out]
    · exact rqA_17 hr v
    · exact rqA_18 hr v
    · exact rqA_19 hr v)
  have RX : Hid (∀ W, Ex (fun k => k = w.heap.size + 1) W2 W → W.rangeAt w.heap.size 1 (r.ix.map (Value.int .u8))) := hid (fun W hW => rq_ix (v := v) (range_of (by rw [show (rqL r v).toArray = m from HM.out]; exact (EX.out W hW).2)))
  have LK : Hid (∀ W, Ex (fun k => k = w.heap.size + 1) W2 W → (Instr.lookup 64 (.map (some b)) (.agg ms) true).run Try.prog W = .ok (.tuple #[ptR rz, .bool rz.isSome]) W) := hid (fun W hW => hz3 W (EX.out W hW).1)
  have HZA := hid hz1
  have HZB := hid hz2
  have BD : Hid (∀ W, Ex (fun k => k = w.heap.size + 1) W2 W → Below w.heap.size w W) := hid (fun W hW => BB.out.trans (hW.below BB.out.size (fun k hk => by omega)))
  have Z1' := Z1.out
  have hsum : Hid (0 ≤ r.pl + r.ln ∧ r.pl + r.ln ≤ 33685504) := hid (by omega)
  have HH := hid h
  clear h hr hz1 hz2 hz3 hbx sok
  go_enter Try.func48, Try.ntmps48
  refine wp_seq_k fun K0 h0 => ?_
  have H0 := hid h0
  clear h0
  go_wp2
  rw [HW1.out, HW2.out]
  refine H0.out _ _ ?_
  cases rz with
  | none =>
    simp only [Option.isSome_none, ptR] at LK
    go_wp2_with fail
    refine wp_region_held_drew (S := Ex (fun k => k = w.heap.size + 1) W2) (by kernel_rfl) (by repeat' first | exact Ex.refl _ _ | apply Ex.drew | apply Ex.drewN) (fun hHeld => ?_)
    have HS := hid hHeld
    clear hHeld
    change wpAnyH _ _ _ _ _ _ _ _ (World.drew _)
    refine wpAnyH_take (i := 0) (v := ?_) rfl (by kernel_rfl) (by kernel_rfl) (by kernel_rfl) (fun _ _ _ h => h) (Or.inl ⟨by rfl, ?q0⟩) HS.out ?_
    case q0 => intro w hSw; obtain ⟨q1, q2, q3, q4⟩ := KD.out _ hSw; go_simp; rfl
    simp only [Act.put, List.getElem_toArray, List.getElem_cons_zero, List.getElem_cons_succ, List.setIfInBounds_toArray, List.set_cons_zero, List.set_cons_succ]
    refine wpAnyH_take (i := 1) (v := ?_) rfl (by kernel_rfl) (by kernel_rfl) (by kernel_rfl) (fun _ _ _ h => h) (Or.inl ⟨by rfl, ?q1⟩) HS.out ?_
    case q1 => intro w hSw; obtain ⟨q1, q2, q3, q4⟩ := KD.out _ hSw; go_simp; rfl
    simp only [Act.put, List.getElem_toArray, List.getElem_cons_zero, List.getElem_cons_succ, List.setIfInBounds_toArray, List.set_cons_zero, List.set_cons_succ]
    refine wpAnyH_take (i := 2) (v := ?_) rfl (by kernel_rfl) (by kernel_rfl) (by kernel_rfl) (fun _ _ _ h => h) (Or.inl ⟨by rfl, ?q2⟩) HS.out ?_
    case q2 => intro w hSw; obtain ⟨q1, q2, q3, q4⟩ := KD.out _ hSw; go_simp; rfl
    simp only [Act.put, List.getElem_toArray, List.getElem_cons_zero, List.getElem_cons_succ, List.setIfInBounds_toArray, List.set_cons_zero, List.set_cons_succ]
    refine wpAnyH_take (i := 3) (v := ?_) rfl (by kernel_rfl) (by kernel_rfl) (by kernel_rfl) (fun _ _ _ h => h) (Or.inl ⟨by rfl, ?q3⟩) HS.out ?_
    case q3 => intro w hSw; obtain ⟨q1, q2, q3, q4⟩ := KD.out _ hSw; go_simp; rfl
    simp only [Act.put, List.getElem_toArray, List.getElem_cons_zero, List.getElem_cons_succ, List.setIfInBounds_toArray, List.set_cons_zero, List.set_cons_succ]
    refine wpAnyH_take (i := 4) (v := ?_) rfl (by kernel_rfl) (by kernel_rfl) (by kernel_rfl) (fun _ _ _ h => h) (Or.inl ⟨by rfl, ?q4⟩) HS.out ?_
    case q4 => intro w hSw; obtain ⟨q1, q2, q3, q4⟩ := KD.out _ hSw; go_simp; rfl
    simp only [Act.put, List.getElem_toArray, List.getElem_cons_zero, List.getElem_cons_succ, List.setIfInBounds_toArray, List.set_cons_zero, List.set_cons_succ]
    refine wpAnyH_take (i := 5) rfl (by kernel_rfl) (by kernel_rfl) (by kernel_rfl) (fun _ _ _ h => h) (yieldsIf_load_mid (by rfl) 27 _ rfl w.heap.size 1 rfl (r.ix.map (Value.int .u8)) _ RX.out Try.underlying27 rfl SI.out) HS.out ?_
    simp only [Act.put, List.getElem_toArray, List.getElem_cons_zero, List.getElem_cons_succ, List.setIfInBounds_toArray, List.set_cons_zero, List.set_cons_succ]
    rw [HIA'.out]
    refine wpAnyH_take (i := 6) (v := ?_) rfl (by kernel_rfl) (by kernel_rfl) (by kernel_rfl) (fun _ _ _ h => h) (Or.inl ⟨by rfl, ?q6⟩) HS.out ?_
    case q6 => intro w hSw; obtain ⟨q1, q2, q3, q4⟩ := KD.out _ hSw; go_simp; rfl
    simp only [Act.put, List.getElem_toArray, List.getElem_cons_zero, List.getElem_cons_succ, List.setIfInBounds_toArray, List.set_cons_zero, List.set_cons_succ]
    refine wpAnyH_take (i := 7) (v := ?_) rfl (by kernel_rfl) (by kernel_rfl) (by kernel_rfl) (fun _ _ _ h => h) (Or.inl ⟨by rfl, ?q7⟩) HS.out ?_
    case q7 => intro w hSw; obtain ⟨q1, q2, q3, q4⟩ := KD.out _ hSw; go_simp; rfl
    simp only [Act.put, List.getElem_toArray, List.getElem_cons_zero, List.getElem_cons_succ, List.setIfInBounds_toArray, List.set_cons_zero, List.set_cons_succ]
    refine wpAnyH_take (i := 8) rfl (by kernel_rfl) (by kernel_rfl) (by kernel_rfl) (fun _ _ _ h => h) (yieldsIf_buildS (by rfl) 63 _ rfl #[(0, .agg ia), (1, .int .i64 r.nb)] (by go_simp) _ hbs.out) HS.out ?_
    simp only [Act.put, List.getElem_toArray, List.getElem_cons_zero, List.getElem_cons_succ, List.setIfInBounds_toArray, List.set_cons_zero, List.set_cons_succ]
    refine wpAnyH_take (i := 9) rfl (by kernel_rfl) (by kernel_rfl) (by kernel_rfl) (fun _ _ _ h => h) (yieldsIf_look (by rfl) 64 _ _ true rfl (.map (some b)) (.agg ms) rfl rfl _ (fun W hW => LK.out W hW)) HS.out ?_
    simp only [Act.put, List.getElem_toArray, List.getElem_cons_zero, List.getElem_cons_succ, List.setIfInBounds_toArray, List.set_cons_zero, List.set_cons_succ]
    refine wpAnyH_take (i := 10) (v := ?_) rfl (by kernel_rfl) (by kernel_rfl) (by kernel_rfl) (fun _ _ _ h => h) (Or.inl ⟨by rfl, ?q10⟩) HS.out ?_
    case q10 => intro w hSw; obtain ⟨q1, q2, q3, q4⟩ := KD.out _ hSw; go_simp; rfl
    simp only [Act.put, List.getElem_toArray, List.getElem_cons_zero, List.getElem_cons_succ, List.setIfInBounds_toArray, List.set_cons_zero, List.set_cons_succ]
    refine wpAnyH_take (i := 11) (v := ?_) rfl (by kernel_rfl) (by kernel_rfl) (by kernel_rfl) (fun _ _ _ h => h) (Or.inl ⟨by rfl, ?q11⟩) HS.out ?_
    case q11 => intro w hSw; obtain ⟨q1, q2, q3, q4⟩ := KD.out _ hSw; go_simp; rfl
    simp only [Act.put, List.getElem_toArray, List.getElem_cons_zero, List.getElem_cons_succ, List.setIfInBounds_toArray, List.set_cons_zero, List.set_cons_succ]
    refine wpAnyH_take (i := 12) (v := ?_) rfl (by kernel_rfl) (by kernel_rfl) (by kernel_rfl) (fun _ _ _ h => h) (Or.inl ⟨by rfl, ?q12⟩) HS.out ?_
    case q12 => intro w hSw; obtain ⟨q1, q2, q3, q4⟩ := KD.out _ hSw; go_simp; rfl
    simp only [Act.put, List.getElem_toArray, List.getElem_cons_zero, List.getElem_cons_succ, List.setIfInBounds_toArray, List.set_cons_zero, List.set_cons_succ]
    refine wpAnyH_take (i := 13) (v := ?_) rfl (by kernel_rfl) (by kernel_rfl) (by kernel_rfl) (fun _ _ _ h => h) (Or.inl ⟨by rfl, ?q13⟩) HS.out ?_
    case q13 => intro w hSw; obtain ⟨q1, q2, q3, q4⟩ := KD.out _ hSw; go_simp; rfl
    simp only [Act.put, List.getElem_toArray, List.getElem_cons_zero, List.getElem_cons_succ, List.setIfInBounds_toArray, List.set_cons_zero, List.set_cons_succ]
    refine wpAnyH_take (i := 14) (v := ?_) rfl (by kernel_rfl) (by kernel_rfl) (by kernel_rfl) (fun _ _ _ h => h) (Or.inl ⟨by rfl, ?q14⟩) HS.out ?_
    case q14 => intro w hSw; obtain ⟨q1, q2, q3, q4⟩ := KD.out _ hSw; go_simp; rfl
    simp only [Act.put, List.getElem_toArray, List.getElem_cons_zero, List.getElem_cons_succ, List.setIfInBounds_toArray, List.set_cons_zero, List.set_cons_succ]
    refine wpAnyH_done (by kernel_rfl) ?_ _
    go_wp2_with fail
    refine wp_region_held_drew (S := Ex (fun k => k = w.heap.size + 1) W2) (by kernel_rfl) (by repeat' first | exact Ex.refl _ _ | apply Ex.drew | apply Ex.drewN) (fun hHeld => ?_)
    have HS := hid hHeld
    clear hHeld
    change wpAnyH _ _ _ _ _ _ _ _ (World.drew _)
    refine wpAnyH_take (i := 0) (v := ?_) rfl (by kernel_rfl) (by kernel_rfl) (by kernel_rfl) (fun _ _ _ h => h) (Or.inl ⟨by rfl, ?q0⟩) HS.out ?_
    case q0 => intro w hSw; obtain ⟨q1, q2, q3, q4⟩ := KD.out _ hSw; go_simp; rfl
    simp only [Act.put, List.getElem_toArray, List.getElem_cons_zero, List.getElem_cons_succ, List.setIfInBounds_toArray, List.set_cons_zero, List.set_cons_succ]
    refine wpAnyH_take (i := 1) (v := ?_) rfl (by kernel_rfl) (by kernel_rfl) (by kernel_rfl) (fun _ _ _ h => h) (Or.inl ⟨by rfl, ?q1⟩) HS.out ?_
    case q1 => intro w hSw; obtain ⟨q1, q2, q3, q4⟩ := KD.out _ hSw; go_simp; rfl
    simp only [Act.put, List.getElem_toArray, List.getElem_cons_zero, List.getElem_cons_succ, List.setIfInBounds_toArray, List.set_cons_zero, List.set_cons_succ]
    refine wpAnyH_take (i := 2) (v := ?_) rfl (by kernel_rfl) (by kernel_rfl) (by kernel_rfl) (fun _ _ _ h => h) (Or.inl ⟨by rfl, ?q2⟩) HS.out ?_
    case q2 => intro w hSw; obtain ⟨q1, q2, q3, q4⟩ := KD.out _ hSw; go_simp; rfl
    simp only [Act.put, List.getElem_toArray, List.getElem_cons_zero, List.getElem_cons_succ, List.setIfInBounds_toArray, List.set_cons_zero, List.set_cons_succ]
    refine wpAnyH_take (i := 3) (v := undef) rfl (by kernel_rfl) (by kernel_rfl) (by kernel_rfl) (fun _ _ _ h => h) (Or.inr ⟨by rfl, rfl⟩) HS.out ?_
    simp only [Act.put, List.getElem_toArray, List.getElem_cons_zero, List.getElem_cons_succ, List.setIfInBounds_toArray, List.set_cons_zero, List.set_cons_succ]
    refine wpAnyH_take (i := 4) (v := undef) rfl (by kernel_rfl) (by kernel_rfl) (by kernel_rfl) (fun _ _ _ h => h) (Or.inr ⟨by rfl, rfl⟩) HS.out ?_
    simp only [Act.put, List.getElem_toArray, List.getElem_cons_zero, List.getElem_cons_succ, List.setIfInBounds_toArray, List.set_cons_zero, List.set_cons_succ]
    refine wpAnyH_take (i := 5) (v := undef) rfl (by kernel_rfl) (by kernel_rfl) (by kernel_rfl) (fun _ _ _ h => h) (Or.inr ⟨by rfl, rfl⟩) HS.out ?_
    simp only [Act.put, List.getElem_toArray, List.getElem_cons_zero, List.getElem_cons_succ, List.setIfInBounds_toArray, List.set_cons_zero, List.set_cons_succ]
    refine wpAnyH_take (i := 6) (v := undef) rfl (by kernel_rfl) (by kernel_rfl) (by kernel_rfl) (fun _ _ _ h => h) (Or.inr ⟨by rfl, rfl⟩) HS.out ?_
    simp only [Act.put, List.getElem_toArray, List.getElem_cons_zero, List.getElem_cons_succ, List.setIfInBounds_toArray, List.set_cons_zero, List.set_cons_succ]
    refine wpAnyH_take (i := 7) (v := undef) rfl (by kernel_rfl) (by kernel_rfl) (by kernel_rfl) (fun _ _ _ h => h) (Or.inr ⟨by rfl, rfl⟩) HS.out ?_
    simp only [Act.put, List.getElem_toArray, List.getElem_cons_zero, List.getElem_cons_succ, List.setIfInBounds_toArray, List.set_cons_zero, List.set_cons_succ]
    refine wpAnyH_take (i := 8) (v := undef) rfl (by kernel_rfl) (by kernel_rfl) (by kernel_rfl) (fun _ _ _ h => h) (Or.inr ⟨by rfl, rfl⟩) HS.out ?_
    simp only [Act.put, List.getElem_toArray, List.getElem_cons_zero, List.getElem_cons_succ, List.setIfInBounds_toArray, List.set_cons_zero, List.set_cons_succ]
    refine wpAnyH_take (i := 9) (v := undef) rfl (by kernel_rfl) (by kernel_rfl) (by kernel_rfl) (fun _ _ _ h => h) (Or.inr ⟨by rfl, rfl⟩) HS.out ?_
    simp only [Act.put, List.getElem_toArray, List.getElem_cons_zero, List.getElem_cons_succ, List.setIfInBounds_toArray, List.set_cons_zero, List.set_cons_succ]
    refine wpAnyH_take (i := 10) (v := undef) rfl (by kernel_rfl) (by kernel_rfl) (by kernel_rfl) (fun _ _ _ h => h) (Or.inr ⟨by rfl, rfl⟩) HS.out ?_
    simp only [Act.put, List.getElem_toArray, List.getElem_cons_zero, List.getElem_cons_succ, List.setIfInBounds_toArray, List.set_cons_zero, List.set_cons_succ]
    refine wpAnyH_take (i := 11) (v := undef) rfl (by kernel_rfl) (by kernel_rfl) (by kernel_rfl) (fun _ _ _ h => h) (Or.inr ⟨by rfl, rfl⟩) HS.out ?_
    simp only [Act.put, List.getElem_toArray, List.getElem_cons_zero, List.getElem_cons_succ, List.setIfInBounds_toArray, List.set_cons_zero, List.set_cons_succ]
    refine wpAnyH_take (i := 12) (v := undef) rfl (by kernel_rfl) (by kernel_rfl) (by kernel_rfl) (fun _ _ _ h => h) (Or.inr ⟨by rfl, rfl⟩) HS.out ?_
    simp only [Act.put, List.getElem_toArray, List.getElem_cons_zero, List.getElem_cons_succ, List.setIfInBounds_toArray, List.set_cons_zero, List.set_cons_succ]
    refine wpAnyH_take (i := 13) (v := undef) rfl (by kernel_rfl) (by kernel_rfl) (by kernel_rfl) (fun _ _ _ h => h) (Or.inr ⟨by rfl, rfl⟩) HS.out ?_
    simp only [Act.put, List.getElem_toArray, List.getElem_cons_zero, List.getElem_cons_succ, List.setIfInBounds_toArray, List.set_cons_zero, List.set_cons_succ]
    refine wpAnyH_take (i := 14) (v := ?_) rfl (by kernel_rfl) (by kernel_rfl) (by kernel_rfl) (fun _ _ _ h => h) (Or.inl ⟨by rfl, ?q14⟩) HS.out ?_
    case q14 => intro w hSw; obtain ⟨q1, q2, q3, q4⟩ := KD.out _ hSw; go_simp; rfl
    simp only [Act.put, List.getElem_toArray, List.getElem_cons_zero, List.getElem_cons_succ, List.setIfInBounds_toArray, List.set_cons_zero, List.set_cons_succ]
    refine wpAnyH_done (by kernel_rfl) ?_ _
    have e2 : Ex (fun k => k = w.heap.size + 1) W2 W2 := Ex.refl _ _
    have k5 := hrep.out
    have f0 := free_of k5 0
    have f1 := free_of k5 1
    have f2 := free_of k5 2
    have i0 : W2.cell? ⟨w.heap.size + 1, 0, none⟩ = some (.int .u8 0) := (cell_of_row _ _ _ _ _ _ k5).trans rfl
    have i1 : W2.cell? ⟨w.heap.size + 1, 1, none⟩ = some (.slice none 0 0) := (cell_of_row _ _ _ _ _ _ k5).trans rfl
    have i2 : W2.cell? ⟨w.heap.size + 1, 2, none⟩ = some (.slice none 0 0) := (cell_of_row _ _ _ _ _ _ k5).trans rfl
    clear k5
    go_wp2
    have hcell := heap_setCell (heap_setCell (heap_setCell (show (W2.drewN 2).heap[w.heap.size + 1]? = _ from hrep.out) 0 (.int .u8 6)) 1 (.slice none 0 0)) 2 (.slice none 0 0)
    refine bodyPost_ret (v := .agg #[.int .u8 6, .slice none 0 0, .slice none 0 0]) (results_cellS (p := 4) (ty := 46) rfl _ _ (w.heap.size + 1) 46 _ (0, 0) _ rfl hcell Try.underlying46 rfl (by kernel_rfl)) rfl ?_
    refine ⟨.inl ⟨rfl, fun z hz e => absurd e (HZB.out (by first | rfl | trivial) z hz)⟩, ((BD.out _ ((Ex.refl _ W2).drewN 2)).setCell (Nat.le_succ _) _ |>.setCell (Nat.le_succ _) _).setCell (Nat.le_succ _) _⟩
  | some z =>
    simp only [Option.isSome_some, ptR] at LK
    obtain ⟨hzm, hzs⟩ := HZA.out z rfl
    have HEz := hid ((EX.out W2 (Ex.refl _ _)).1.each z hzm)
    obtain ⟨pb, cb, hbv⟩ := HEz.out.by'.slc
    have KE : Hid (∀ W, Ex (fun k => k = w.heap.size + 1) W2 W → W.cell? ⟨z.2.hb, 0, none⟩ = some (.slice pb z.2.k.bs.length cb)) := hid (fun W hW => by rw [← hbv]; exact (cell_of_row _ _ _ _ _ _ ((EX.out W hW).1.each z hzm).hd).trans rfl)
    obtain ⟨n, Hn⟩ : ∃ n, Hid (z.2.k.bs.length = n) := ⟨_, hid rfl⟩
    rw [Hn.out] at KE
    have HS2 := hsum.out
    have HWR : Hid (IntKind.i64.wrap (r.pl + r.ln) = r.pl + r.ln) := hid (by rw [IntKind.wrap_i64]; omega)
    by_cases hlen : (n : Int) < r.pl + r.ln
    · have hd1 : decide ((n : Int) < r.pl + r.ln) = true := by simpa using hlen
      have HLEN := hid hlen
      go_wp2_with fail
      refine wp_region_held_drew (S := Ex (fun k => k = w.heap.size + 1) W2) (by kernel_rfl) (by repeat' first | exact Ex.refl _ _ | apply Ex.drew | apply Ex.drewN) (fun hHeld => ?_)
      have HS := hid hHeld
      clear hHeld
      change wpAnyH _ _ _ _ _ _ _ _ (World.drew _)
      refine wpAnyH_take (i := 0) (v := ?_) rfl (by kernel_rfl) (by kernel_rfl) (by kernel_rfl) (fun _ _ _ h => h) (Or.inl ⟨by rfl, ?q0⟩) HS.out ?_
      case q0 => intro w hSw; obtain ⟨q1, q2, q3, q4⟩ := KD.out _ hSw; go_simp; rfl
      simp only [Act.put, List.getElem_toArray, List.getElem_cons_zero, List.getElem_cons_succ, List.setIfInBounds_toArray, List.set_cons_zero, List.set_cons_succ]
      refine wpAnyH_take (i := 1) (v := ?_) rfl (by kernel_rfl) (by kernel_rfl) (by kernel_rfl) (fun _ _ _ h => h) (Or.inl ⟨by rfl, ?q1⟩) HS.out ?_
      case q1 => intro w hSw; obtain ⟨q1, q2, q3, q4⟩ := KD.out _ hSw; go_simp; rfl
      simp only [Act.put, List.getElem_toArray, List.getElem_cons_zero, List.getElem_cons_succ, List.setIfInBounds_toArray, List.set_cons_zero, List.set_cons_succ]
      refine wpAnyH_take (i := 2) (v := ?_) rfl (by kernel_rfl) (by kernel_rfl) (by kernel_rfl) (fun _ _ _ h => h) (Or.inl ⟨by rfl, ?q2⟩) HS.out ?_
      case q2 => intro w hSw; obtain ⟨q1, q2, q3, q4⟩ := KD.out _ hSw; go_simp; rfl
      simp only [Act.put, List.getElem_toArray, List.getElem_cons_zero, List.getElem_cons_succ, List.setIfInBounds_toArray, List.set_cons_zero, List.set_cons_succ]
      refine wpAnyH_take (i := 3) (v := ?_) rfl (by kernel_rfl) (by kernel_rfl) (by kernel_rfl) (fun _ _ _ h => h) (Or.inl ⟨by rfl, ?q3⟩) HS.out ?_
      case q3 => intro w hSw; obtain ⟨q1, q2, q3, q4⟩ := KD.out _ hSw; go_simp; rfl
      simp only [Act.put, List.getElem_toArray, List.getElem_cons_zero, List.getElem_cons_succ, List.setIfInBounds_toArray, List.set_cons_zero, List.set_cons_succ]
      refine wpAnyH_take (i := 4) (v := ?_) rfl (by kernel_rfl) (by kernel_rfl) (by kernel_rfl) (fun _ _ _ h => h) (Or.inl ⟨by rfl, ?q4⟩) HS.out ?_
      case q4 => intro w hSw; obtain ⟨q1, q2, q3, q4⟩ := KD.out _ hSw; go_simp; rfl
      simp only [Act.put, List.getElem_toArray, List.getElem_cons_zero, List.getElem_cons_succ, List.setIfInBounds_toArray, List.set_cons_zero, List.set_cons_succ]
      refine wpAnyH_take (i := 5) rfl (by kernel_rfl) (by kernel_rfl) (by kernel_rfl) (fun _ _ _ h => h) (yieldsIf_load_mid (by rfl) 27 _ rfl w.heap.size 1 rfl (r.ix.map (Value.int .u8)) _ RX.out Try.underlying27 rfl SI.out) HS.out ?_
      simp only [Act.put, List.getElem_toArray, List.getElem_cons_zero, List.getElem_cons_succ, List.setIfInBounds_toArray, List.set_cons_zero, List.set_cons_succ]
      rw [HIA'.out]
      refine wpAnyH_take (i := 6) (v := ?_) rfl (by kernel_rfl) (by kernel_rfl) (by kernel_rfl) (fun _ _ _ h => h) (Or.inl ⟨by rfl, ?q6⟩) HS.out ?_
      case q6 => intro w hSw; obtain ⟨q1, q2, q3, q4⟩ := KD.out _ hSw; go_simp; rfl
      simp only [Act.put, List.getElem_toArray, List.getElem_cons_zero, List.getElem_cons_succ, List.setIfInBounds_toArray, List.set_cons_zero, List.set_cons_succ]
      refine wpAnyH_take (i := 7) (v := ?_) rfl (by kernel_rfl) (by kernel_rfl) (by kernel_rfl) (fun _ _ _ h => h) (Or.inl ⟨by rfl, ?q7⟩) HS.out ?_
      case q7 => intro w hSw; obtain ⟨q1, q2, q3, q4⟩ := KD.out _ hSw; go_simp; rfl
      simp only [Act.put, List.getElem_toArray, List.getElem_cons_zero, List.getElem_cons_succ, List.setIfInBounds_toArray, List.set_cons_zero, List.set_cons_succ]
      refine wpAnyH_take (i := 8) rfl (by kernel_rfl) (by kernel_rfl) (by kernel_rfl) (fun _ _ _ h => h) (yieldsIf_buildS (by rfl) 63 _ rfl #[(0, .agg ia), (1, .int .i64 r.nb)] (by go_simp) _ hbs.out) HS.out ?_
      simp only [Act.put, List.getElem_toArray, List.getElem_cons_zero, List.getElem_cons_succ, List.setIfInBounds_toArray, List.set_cons_zero, List.set_cons_succ]
      refine wpAnyH_take (i := 9) rfl (by kernel_rfl) (by kernel_rfl) (by kernel_rfl) (fun _ _ _ h => h) (yieldsIf_look (by rfl) 64 _ _ true rfl (.map (some b)) (.agg ms) rfl rfl _ (fun W hW => LK.out W hW)) HS.out ?_
      simp only [Act.put, List.getElem_toArray, List.getElem_cons_zero, List.getElem_cons_succ, List.setIfInBounds_toArray, List.set_cons_zero, List.set_cons_succ]
      refine wpAnyH_take (i := 10) (v := ?_) rfl (by kernel_rfl) (by kernel_rfl) (by kernel_rfl) (fun _ _ _ h => h) (Or.inl ⟨by rfl, ?q10⟩) HS.out ?_
      case q10 => intro w hSw; obtain ⟨q1, q2, q3, q4⟩ := KD.out _ hSw; go_simp; rfl
      simp only [Act.put, List.getElem_toArray, List.getElem_cons_zero, List.getElem_cons_succ, List.setIfInBounds_toArray, List.set_cons_zero, List.set_cons_succ]
      refine wpAnyH_take (i := 11) (v := ?_) rfl (by kernel_rfl) (by kernel_rfl) (by kernel_rfl) (fun _ _ _ h => h) (Or.inl ⟨by rfl, ?q11⟩) HS.out ?_
      case q11 => intro w hSw; obtain ⟨q1, q2, q3, q4⟩ := KD.out _ hSw; go_simp; rfl
      simp only [Act.put, List.getElem_toArray, List.getElem_cons_zero, List.getElem_cons_succ, List.setIfInBounds_toArray, List.set_cons_zero, List.set_cons_succ]
      refine wpAnyH_take (i := 12) (v := ?_) rfl (by kernel_rfl) (by kernel_rfl) (by kernel_rfl) (fun _ _ _ h => h) (Or.inl ⟨by rfl, ?q12⟩) HS.out ?_
      case q12 => intro w hSw; obtain ⟨q1, q2, q3, q4⟩ := KD.out _ hSw; go_simp; rfl
      simp only [Act.put, List.getElem_toArray, List.getElem_cons_zero, List.getElem_cons_succ, List.setIfInBounds_toArray, List.set_cons_zero, List.set_cons_succ]
      refine wpAnyH_take (i := 13) (v := ?_) rfl (by kernel_rfl) (by kernel_rfl) (by kernel_rfl) (fun _ _ _ h => h) (Or.inl ⟨by rfl, ?q13⟩) HS.out ?_
      case q13 => intro w hSw; obtain ⟨q1, q2, q3, q4⟩ := KD.out _ hSw; go_simp; rfl
      simp only [Act.put, List.getElem_toArray, List.getElem_cons_zero, List.getElem_cons_succ, List.setIfInBounds_toArray, List.set_cons_zero, List.set_cons_succ]
      refine wpAnyH_take (i := 14) (v := ?_) rfl (by kernel_rfl) (by kernel_rfl) (by kernel_rfl) (fun _ _ _ h => h) (Or.inl ⟨by rfl, ?q14⟩) HS.out ?_
      case q14 => intro w hSw; obtain ⟨q1, q2, q3, q4⟩ := KD.out _ hSw; go_simp; rfl
      simp only [Act.put, List.getElem_toArray, List.getElem_cons_zero, List.getElem_cons_succ, List.setIfInBounds_toArray, List.set_cons_zero, List.set_cons_succ]
      refine wpAnyH_done (by kernel_rfl) ?_ _
      go_wp2_with fail
      refine wp_region_held_drew (S := Ex (fun k => k = w.heap.size + 1) W2) (by kernel_rfl) (by repeat' first | exact Ex.refl _ _ | apply Ex.drew | apply Ex.drewN) (fun hHeld => ?_)
      have HS := hid hHeld
      clear hHeld
      change wpAnyH _ _ _ _ _ _ _ _ (World.drew _)
      refine wpAnyH_take (i := 0) (v := ?_) rfl (by kernel_rfl) (by kernel_rfl) (by kernel_rfl) (fun _ _ _ h => h) (Or.inl ⟨by rfl, ?q0⟩) HS.out ?_
      case q0 => intro w hSw; obtain ⟨q1, q2, q3, q4⟩ := KD.out _ hSw; have q5 := KE.out _ hSw; go_simp; rfl
      simp only [Act.put, List.getElem_toArray, List.getElem_cons_zero, List.getElem_cons_succ, List.setIfInBounds_toArray, List.set_cons_zero, List.set_cons_succ]
      refine wpAnyH_take (i := 1) (v := ?_) rfl (by kernel_rfl) (by kernel_rfl) (by kernel_rfl) (fun _ _ _ h => h) (Or.inl ⟨by rfl, ?q1⟩) HS.out ?_
      case q1 => intro w hSw; obtain ⟨q1, q2, q3, q4⟩ := KD.out _ hSw; have q5 := KE.out _ hSw; go_simp; rfl
      simp only [Act.put, List.getElem_toArray, List.getElem_cons_zero, List.getElem_cons_succ, List.setIfInBounds_toArray, List.set_cons_zero, List.set_cons_succ]
      refine wpAnyH_take (i := 2) (v := ?_) rfl (by kernel_rfl) (by kernel_rfl) (by kernel_rfl) (fun _ _ _ h => h) (Or.inl ⟨by rfl, ?q2⟩) HS.out ?_
      case q2 => intro w hSw; obtain ⟨q1, q2, q3, q4⟩ := KD.out _ hSw; have q5 := KE.out _ hSw; go_simp; rfl
      simp only [Act.put, List.getElem_toArray, List.getElem_cons_zero, List.getElem_cons_succ, List.setIfInBounds_toArray, List.set_cons_zero, List.set_cons_succ]
      refine wpAnyH_take (i := 3) (v := ?_) rfl (by kernel_rfl) (by kernel_rfl) (by kernel_rfl) (fun _ _ _ h => h) (Or.inl ⟨by rfl, ?q3⟩) HS.out ?_
      case q3 => intro w hSw; obtain ⟨q1, q2, q3, q4⟩ := KD.out _ hSw; have q5 := KE.out _ hSw; go_simp; rfl
      simp only [Act.put, List.getElem_toArray, List.getElem_cons_zero, List.getElem_cons_succ, List.setIfInBounds_toArray, List.set_cons_zero, List.set_cons_succ]
      refine wpAnyH_take (i := 4) (v := ?_) rfl (by kernel_rfl) (by kernel_rfl) (by kernel_rfl) (fun _ _ _ h => h) (Or.inl ⟨by rfl, ?q4⟩) HS.out ?_
      case q4 => intro w hSw; obtain ⟨q1, q2, q3, q4⟩ := KD.out _ hSw; have q5 := KE.out _ hSw; go_simp; rfl
      simp only [Act.put, List.getElem_toArray, List.getElem_cons_zero, List.getElem_cons_succ, List.setIfInBounds_toArray, List.set_cons_zero, List.set_cons_succ]
      refine wpAnyH_take (i := 5) (v := ?_) rfl (by kernel_rfl) (by kernel_rfl) (by kernel_rfl) (fun _ _ _ h => h) (Or.inl ⟨by rfl, ?q5⟩) HS.out ?_
      case q5 => intro w hSw; obtain ⟨q1, q2, q3, q4⟩ := KD.out _ hSw; have q5 := KE.out _ hSw; go_simp; rfl
      simp only [Act.put, List.getElem_toArray, List.getElem_cons_zero, List.getElem_cons_succ, List.setIfInBounds_toArray, List.set_cons_zero, List.set_cons_succ]
      refine wpAnyH_take (i := 6) (v := ?_) rfl (by kernel_rfl) (by kernel_rfl) (by kernel_rfl) (fun _ _ _ h => h) (Or.inl ⟨by rfl, ?q6⟩) HS.out ?_
      case q6 => intro w hSw; obtain ⟨q1, q2, q3, q4⟩ := KD.out _ hSw; have q5 := KE.out _ hSw; go_simp; rfl
      simp only [Act.put, List.getElem_toArray, List.getElem_cons_zero, List.getElem_cons_succ, List.setIfInBounds_toArray, List.set_cons_zero, List.set_cons_succ]
      refine wpAnyH_take (i := 7) (v := ?_) rfl (by kernel_rfl) (by kernel_rfl) (by kernel_rfl) (fun _ _ _ h => h) (Or.inl ⟨by rfl, ?q7⟩) HS.out ?_
      case q7 => intro w hSw; obtain ⟨q1, q2, q3, q4⟩ := KD.out _ hSw; have q5 := KE.out _ hSw; go_simp; rfl
      simp only [Act.put, List.getElem_toArray, List.getElem_cons_zero, List.getElem_cons_succ, List.setIfInBounds_toArray, List.set_cons_zero, List.set_cons_succ]
      refine wpAnyH_take (i := 8) (v := ?_) rfl (by kernel_rfl) (by kernel_rfl) (by kernel_rfl) (fun _ _ _ h => h) (Or.inl ⟨by rfl, ?q8⟩) HS.out ?_
      case q8 => intro w hSw; obtain ⟨q1, q2, q3, q4⟩ := KD.out _ hSw; have q5 := KE.out _ hSw; go_simp; rfl
      simp only [Act.put, List.getElem_toArray, List.getElem_cons_zero, List.getElem_cons_succ, List.setIfInBounds_toArray, List.set_cons_zero, List.set_cons_succ]
      refine wpAnyH_take (i := 9) (v := ?_) rfl (by kernel_rfl) (by kernel_rfl) (by kernel_rfl) (fun _ _ _ h => h) (Or.inl ⟨by rfl, ?q9⟩) HS.out ?_
      case q9 => intro w hSw; obtain ⟨q1, q2, q3, q4⟩ := KD.out _ hSw; have q5 := KE.out _ hSw; go_simp; rfl
      simp only [Act.put, List.getElem_toArray, List.getElem_cons_zero, List.getElem_cons_succ, List.setIfInBounds_toArray, List.set_cons_zero, List.set_cons_succ]
      refine wpAnyH_take (i := 10) (v := ?_) rfl (by kernel_rfl) (by kernel_rfl) (by kernel_rfl) (fun _ _ _ h => h) (Or.inl ⟨by rfl, ?q10⟩) HS.out ?_
      case q10 => intro w hSw; obtain ⟨q1, q2, q3, q4⟩ := KD.out _ hSw; have q5 := KE.out _ hSw; go_simp; rfl
      simp only [Act.put, List.getElem_toArray, List.getElem_cons_zero, List.getElem_cons_succ, List.setIfInBounds_toArray, List.set_cons_zero, List.set_cons_succ]
      refine wpAnyH_take (i := 11) (v := ?_) rfl (by kernel_rfl) (by kernel_rfl) (by kernel_rfl) (fun _ _ _ h => h) (Or.inl ⟨by rfl, ?q11⟩) HS.out ?_
      case q11 => intro w hSw; obtain ⟨q1, q2, q3, q4⟩ := KD.out _ hSw; have q5 := KE.out _ hSw; go_simp; rfl
      simp only [Act.put, List.getElem_toArray, List.getElem_cons_zero, List.getElem_cons_succ, List.setIfInBounds_toArray, List.set_cons_zero, List.set_cons_succ]
      refine wpAnyH_take (i := 12) (v := ?_) rfl (by kernel_rfl) (by kernel_rfl) (by kernel_rfl) (fun _ _ _ h => h) (Or.inl ⟨by rfl, ?q12⟩) HS.out ?_
      case q12 => intro w hSw; obtain ⟨q1, q2, q3, q4⟩ := KD.out _ hSw; have q5 := KE.out _ hSw; go_simp; rfl
      simp only [Act.put, List.getElem_toArray, List.getElem_cons_zero, List.getElem_cons_succ, List.setIfInBounds_toArray, List.set_cons_zero, List.set_cons_succ]
      rw [HWR.out]
      refine wpAnyH_take (i := 13) (v := ?_) rfl (by kernel_rfl) (by kernel_rfl) (by kernel_rfl) (fun _ _ _ h => h) (Or.inl ⟨by rfl, ?q13⟩) HS.out ?_
      case q13 => intro w hSw; obtain ⟨q1, q2, q3, q4⟩ := KD.out _ hSw; have q5 := KE.out _ hSw; go_simp; rfl
      simp only [Act.put, List.getElem_toArray, List.getElem_cons_zero, List.getElem_cons_succ, List.setIfInBounds_toArray, List.set_cons_zero, List.set_cons_succ]
      refine wpAnyH_take (i := 14) (v := ?_) rfl (by kernel_rfl) (by kernel_rfl) (by kernel_rfl) (fun _ _ _ h => h) (Or.inl ⟨by rfl, ?q14⟩) HS.out ?_
      case q14 => intro w hSw; obtain ⟨q1, q2, q3, q4⟩ := KD.out _ hSw; have q5 := KE.out _ hSw; go_simp; rfl
      simp only [Act.put, List.getElem_toArray, List.getElem_cons_zero, List.getElem_cons_succ, List.setIfInBounds_toArray, List.set_cons_zero, List.set_cons_succ]
      refine wpAnyH_done (by kernel_rfl) ?_ _
      have e2 : Ex (fun k => k = w.heap.size + 1) W2 W2 := Ex.refl _ _
      have k5 := hrep.out
      have f0 := free_of k5 0
      have f1 := free_of k5 1
      have f2 := free_of k5 2
      have i0 : W2.cell? ⟨w.heap.size + 1, 0, none⟩ = some (.int .u8 0) := (cell_of_row _ _ _ _ _ _ k5).trans rfl
      have i1 : W2.cell? ⟨w.heap.size + 1, 1, none⟩ = some (.slice none 0 0) := (cell_of_row _ _ _ _ _ _ k5).trans rfl
      have i2 : W2.cell? ⟨w.heap.size + 1, 2, none⟩ = some (.slice none 0 0) := (cell_of_row _ _ _ _ _ _ k5).trans rfl
      clear k5
      go_wp2
      have hcell := heap_setCell (heap_setCell (heap_setCell (show (W2.drewN 2).heap[w.heap.size + 1]? = _ from hrep.out) 0 (.int .u8 6)) 1 (.slice none 0 0)) 2 (.slice none 0 0)
      refine bodyPost_ret (v := .agg #[.int .u8 6, .slice none 0 0, .slice none 0 0]) (results_cellS (p := 4) (ty := 46) rfl _ _ (w.heap.size + 1) 46 _ (0, 0) _ rfl hcell Try.underlying46 rfl (by kernel_rfl)) rfl ?_
      refine ⟨.inl ⟨rfl, fun y hy e => by rw [nodup_inj HH.out.one hy hzm (e.trans hzs.symm), Hn.out]; exact HLEN.out⟩, ((BD.out _ ((Ex.refl _ W2).drewN 2)).setCell (Nat.le_succ _) _ |>.setCell (Nat.le_succ _) _).setCell (Nat.le_succ _) _⟩
    · have hd1 : decide ((n : Int) < r.pl + r.ln) = false := by simpa using hlen
      have HLEN := hid hlen
      have hcap := HEz.out.by'.hb
      rw [hbv] at hcap
      obtain ⟨lo, Hlo⟩ : ∃ x : Nat, Hid (r.pl.toNat = x) := ⟨_, hid rfl⟩
      obtain ⟨hi, Hhi⟩ : ∃ x : Nat, Hid ((r.pl + r.ln).toNat = x) := ⟨_, hid rfl⟩
      have l1 : (lo : Int) = r.pl := by rw [← Hlo.out]; omega
      have l2 : (hi : Int) = r.pl + r.ln := by rw [← Hhi.out]; omega
      have l3 : n ≤ cb := by obtain ⟨p', c', e, q1, q2⟩ := hcap.open; simp at e; have := Hn.out; omega
      have hsl : Hid (∀ W, Ex (fun k => k = w.heap.size + 1) W2 W → (Instr.slice 31 (.slice pb n cb) (some (.int .i64 r.pl)) (some (.int .i64 (r.pl + r.ln))) none).run Try.prog W = .ok (.slice (if cb = lo then pb else pb.map (·.add lo)) (hi - lo) (cb - lo)) W) := hid (fun W _ => by
        have := slice_lhS W pb n cb lo hi (by omega) (by omega)
        rw [l1, l2] at this
        exact this)
      obtain ⟨L, HL⟩ : ∃ L, Hid ((z.2.k.bs.take hi).drop lo = L) := ⟨_, hid rfl⟩
      have hLl : L.length = hi - lo := by rw [← HL.out]; simp; have := Hn.out; omega
      have CB : Hid (∀ W, Ex (fun k => k = w.heap.size + 1) W2 W → Calls Try.prog 25 #[.slice (if cb = lo then pb else pb.map (·.add lo)) (hi - lo) (cb - lo)] W fun e w' => ∃ v1, e = .returned v1 ∧ w'.ownsRow W.heap.size 5 1 v1 L.length (L.map (Value.int .u8)) ∧ Below W.heap.size W w') := hid (fun W hW => by
        have q := ((EX.out W hW).1.each z hzm).by'.hb
        rw [hbv] at q
        have q2 := q.sliced lo hi cb (by omega) (by have := Hn.out; omega) (by omega) (Nat.le_refl _)
        rw [HL.out] at q2
        exact clone_any W _ L q2 (by omega))
      have HLB : Hid (∀ x ∈ L, 0 ≤ x ∧ x < 256) := hid (fun x hx => by
        rw [← HL.out] at hx
        exact HEz.out.by'.2 x (List.mem_of_mem_take (List.mem_of_mem_drop hx)))
      obtain ⟨P3, HP3⟩ : ∃ x, Hid ((if cb = lo then pb else pb.map (·.add lo)) = x) := ⟨_, hid rfl⟩
      obtain ⟨N3, HN3⟩ : ∃ x, Hid (hi - lo = x) := ⟨_, hid rfl⟩
      obtain ⟨C3, HC3⟩ : ∃ x, Hid (cb - lo = x) := ⟨_, hid rfl⟩
      rw [HP3.out, HN3.out, HC3.out] at hsl CB
      have HL12 := hid (And.intro l1 l2)
      clear hcap hLl l1 l2
      go_wp2_with fail
      refine wp_region_held_drew (S := Ex (fun k => k = w.heap.size + 1) W2) (by kernel_rfl) (by repeat' first | exact Ex.refl _ _ | apply Ex.drew | apply Ex.drewN) (fun hHeld => ?_)
      have HS := hid hHeld
      clear hHeld
      change wpAnyH _ _ _ _ _ _ _ _ (World.drew _)
      refine wpAnyH_take (i := 0) (v := ?_) rfl (by kernel_rfl) (by kernel_rfl) (by kernel_rfl) (fun _ _ _ h => h) (Or.inl ⟨by rfl, ?q0⟩) HS.out ?_
      case q0 => intro w hSw; obtain ⟨q1, q2, q3, q4⟩ := KD.out _ hSw; go_simp; rfl
      simp only [Act.put, List.getElem_toArray, List.getElem_cons_zero, List.getElem_cons_succ, List.setIfInBounds_toArray, List.set_cons_zero, List.set_cons_succ]
      refine wpAnyH_take (i := 1) (v := ?_) rfl (by kernel_rfl) (by kernel_rfl) (by kernel_rfl) (fun _ _ _ h => h) (Or.inl ⟨by rfl, ?q1⟩) HS.out ?_
      case q1 => intro w hSw; obtain ⟨q1, q2, q3, q4⟩ := KD.out _ hSw; go_simp; rfl
      simp only [Act.put, List.getElem_toArray, List.getElem_cons_zero, List.getElem_cons_succ, List.setIfInBounds_toArray, List.set_cons_zero, List.set_cons_succ]
      refine wpAnyH_take (i := 2) (v := ?_) rfl (by kernel_rfl) (by kernel_rfl) (by kernel_rfl) (fun _ _ _ h => h) (Or.inl ⟨by rfl, ?q2⟩) HS.out ?_
      case q2 => intro w hSw; obtain ⟨q1, q2, q3, q4⟩ := KD.out _ hSw; go_simp; rfl
      simp only [Act.put, List.getElem_toArray, List.getElem_cons_zero, List.getElem_cons_succ, List.setIfInBounds_toArray, List.set_cons_zero, List.set_cons_succ]
      refine wpAnyH_take (i := 3) (v := ?_) rfl (by kernel_rfl) (by kernel_rfl) (by kernel_rfl) (fun _ _ _ h => h) (Or.inl ⟨by rfl, ?q3⟩) HS.out ?_
      case q3 => intro w hSw; obtain ⟨q1, q2, q3, q4⟩ := KD.out _ hSw; go_simp; rfl
      simp only [Act.put, List.getElem_toArray, List.getElem_cons_zero, List.getElem_cons_succ, List.setIfInBounds_toArray, List.set_cons_zero, List.set_cons_succ]
      refine wpAnyH_take (i := 4) (v := ?_) rfl (by kernel_rfl) (by kernel_rfl) (by kernel_rfl) (fun _ _ _ h => h) (Or.inl ⟨by rfl, ?q4⟩) HS.out ?_
      case q4 => intro w hSw; obtain ⟨q1, q2, q3, q4⟩ := KD.out _ hSw; go_simp; rfl
      simp only [Act.put, List.getElem_toArray, List.getElem_cons_zero, List.getElem_cons_succ, List.setIfInBounds_toArray, List.set_cons_zero, List.set_cons_succ]
      refine wpAnyH_take (i := 5) rfl (by kernel_rfl) (by kernel_rfl) (by kernel_rfl) (fun _ _ _ h => h) (yieldsIf_load_mid (by rfl) 27 _ rfl w.heap.size 1 rfl (r.ix.map (Value.int .u8)) _ RX.out Try.underlying27 rfl SI.out) HS.out ?_
      simp only [Act.put, List.getElem_toArray, List.getElem_cons_zero, List.getElem_cons_succ, List.setIfInBounds_toArray, List.set_cons_zero, List.set_cons_succ]
      rw [HIA'.out]
      refine wpAnyH_take (i := 6) (v := ?_) rfl (by kernel_rfl) (by kernel_rfl) (by kernel_rfl) (fun _ _ _ h => h) (Or.inl ⟨by rfl, ?q6⟩) HS.out ?_
      case q6 => intro w hSw; obtain ⟨q1, q2, q3, q4⟩ := KD.out _ hSw; go_simp; rfl
      simp only [Act.put, List.getElem_toArray, List.getElem_cons_zero, List.getElem_cons_succ, List.setIfInBounds_toArray, List.set_cons_zero, List.set_cons_succ]
      refine wpAnyH_take (i := 7) (v := ?_) rfl (by kernel_rfl) (by kernel_rfl) (by kernel_rfl) (fun _ _ _ h => h) (Or.inl ⟨by rfl, ?q7⟩) HS.out ?_
      case q7 => intro w hSw; obtain ⟨q1, q2, q3, q4⟩ := KD.out _ hSw; go_simp; rfl
      simp only [Act.put, List.getElem_toArray, List.getElem_cons_zero, List.getElem_cons_succ, List.setIfInBounds_toArray, List.set_cons_zero, List.set_cons_succ]
      refine wpAnyH_take (i := 8) rfl (by kernel_rfl) (by kernel_rfl) (by kernel_rfl) (fun _ _ _ h => h) (yieldsIf_buildS (by rfl) 63 _ rfl #[(0, .agg ia), (1, .int .i64 r.nb)] (by go_simp) _ hbs.out) HS.out ?_
      simp only [Act.put, List.getElem_toArray, List.getElem_cons_zero, List.getElem_cons_succ, List.setIfInBounds_toArray, List.set_cons_zero, List.set_cons_succ]
      refine wpAnyH_take (i := 9) rfl (by kernel_rfl) (by kernel_rfl) (by kernel_rfl) (fun _ _ _ h => h) (yieldsIf_look (by rfl) 64 _ _ true rfl (.map (some b)) (.agg ms) rfl rfl _ (fun W hW => LK.out W hW)) HS.out ?_
      simp only [Act.put, List.getElem_toArray, List.getElem_cons_zero, List.getElem_cons_succ, List.setIfInBounds_toArray, List.set_cons_zero, List.set_cons_succ]
      refine wpAnyH_take (i := 10) (v := ?_) rfl (by kernel_rfl) (by kernel_rfl) (by kernel_rfl) (fun _ _ _ h => h) (Or.inl ⟨by rfl, ?q10⟩) HS.out ?_
      case q10 => intro w hSw; obtain ⟨q1, q2, q3, q4⟩ := KD.out _ hSw; go_simp; rfl
      simp only [Act.put, List.getElem_toArray, List.getElem_cons_zero, List.getElem_cons_succ, List.setIfInBounds_toArray, List.set_cons_zero, List.set_cons_succ]
      refine wpAnyH_take (i := 11) (v := ?_) rfl (by kernel_rfl) (by kernel_rfl) (by kernel_rfl) (fun _ _ _ h => h) (Or.inl ⟨by rfl, ?q11⟩) HS.out ?_
      case q11 => intro w hSw; obtain ⟨q1, q2, q3, q4⟩ := KD.out _ hSw; go_simp; rfl
      simp only [Act.put, List.getElem_toArray, List.getElem_cons_zero, List.getElem_cons_succ, List.setIfInBounds_toArray, List.set_cons_zero, List.set_cons_succ]
      refine wpAnyH_take (i := 12) (v := ?_) rfl (by kernel_rfl) (by kernel_rfl) (by kernel_rfl) (fun _ _ _ h => h) (Or.inl ⟨by rfl, ?q12⟩) HS.out ?_
      case q12 => intro w hSw; obtain ⟨q1, q2, q3, q4⟩ := KD.out _ hSw; go_simp; rfl
      simp only [Act.put, List.getElem_toArray, List.getElem_cons_zero, List.getElem_cons_succ, List.setIfInBounds_toArray, List.set_cons_zero, List.set_cons_succ]
      refine wpAnyH_take (i := 13) (v := ?_) rfl (by kernel_rfl) (by kernel_rfl) (by kernel_rfl) (fun _ _ _ h => h) (Or.inl ⟨by rfl, ?q13⟩) HS.out ?_
      case q13 => intro w hSw; obtain ⟨q1, q2, q3, q4⟩ := KD.out _ hSw; go_simp; rfl
      simp only [Act.put, List.getElem_toArray, List.getElem_cons_zero, List.getElem_cons_succ, List.setIfInBounds_toArray, List.set_cons_zero, List.set_cons_succ]
      refine wpAnyH_take (i := 14) (v := ?_) rfl (by kernel_rfl) (by kernel_rfl) (by kernel_rfl) (fun _ _ _ h => h) (Or.inl ⟨by rfl, ?q14⟩) HS.out ?_
      case q14 => intro w hSw; obtain ⟨q1, q2, q3, q4⟩ := KD.out _ hSw; go_simp; rfl
      simp only [Act.put, List.getElem_toArray, List.getElem_cons_zero, List.getElem_cons_succ, List.setIfInBounds_toArray, List.set_cons_zero, List.set_cons_succ]
      refine wpAnyH_done (by kernel_rfl) ?_ _
      go_wp2_with fail
      refine wp_region_held_drew (S := Ex (fun k => k = w.heap.size + 1) W2) (by kernel_rfl) (by repeat' first | exact Ex.refl _ _ | apply Ex.drew | apply Ex.drewN) (fun hHeld => ?_)
      have HS := hid hHeld
      clear hHeld
      change wpAnyH _ _ _ _ _ _ _ _ (World.drew _)
      refine wpAnyH_take (i := 0) (v := ?_) rfl (by kernel_rfl) (by kernel_rfl) (by kernel_rfl) (fun _ _ _ h => h) (Or.inl ⟨by rfl, ?q0⟩) HS.out ?_
      case q0 => intro w hSw; obtain ⟨q1, q2, q3, q4⟩ := KD.out _ hSw; have q5 := KE.out _ hSw; go_simp; rfl
      simp only [Act.put, List.getElem_toArray, List.getElem_cons_zero, List.getElem_cons_succ, List.setIfInBounds_toArray, List.set_cons_zero, List.set_cons_succ]
      refine wpAnyH_take (i := 1) (v := ?_) rfl (by kernel_rfl) (by kernel_rfl) (by kernel_rfl) (fun _ _ _ h => h) (Or.inl ⟨by rfl, ?q1⟩) HS.out ?_
      case q1 => intro w hSw; obtain ⟨q1, q2, q3, q4⟩ := KD.out _ hSw; have q5 := KE.out _ hSw; go_simp; rfl
      simp only [Act.put, List.getElem_toArray, List.getElem_cons_zero, List.getElem_cons_succ, List.setIfInBounds_toArray, List.set_cons_zero, List.set_cons_succ]
      refine wpAnyH_take (i := 2) (v := ?_) rfl (by kernel_rfl) (by kernel_rfl) (by kernel_rfl) (fun _ _ _ h => h) (Or.inl ⟨by rfl, ?q2⟩) HS.out ?_
      case q2 => intro w hSw; obtain ⟨q1, q2, q3, q4⟩ := KD.out _ hSw; have q5 := KE.out _ hSw; go_simp; rfl
      simp only [Act.put, List.getElem_toArray, List.getElem_cons_zero, List.getElem_cons_succ, List.setIfInBounds_toArray, List.set_cons_zero, List.set_cons_succ]
      refine wpAnyH_take (i := 3) (v := ?_) rfl (by kernel_rfl) (by kernel_rfl) (by kernel_rfl) (fun _ _ _ h => h) (Or.inl ⟨by rfl, ?q3⟩) HS.out ?_
      case q3 => intro w hSw; obtain ⟨q1, q2, q3, q4⟩ := KD.out _ hSw; have q5 := KE.out _ hSw; go_simp; rfl
      simp only [Act.put, List.getElem_toArray, List.getElem_cons_zero, List.getElem_cons_succ, List.setIfInBounds_toArray, List.set_cons_zero, List.set_cons_succ]
      refine wpAnyH_take (i := 4) (v := ?_) rfl (by kernel_rfl) (by kernel_rfl) (by kernel_rfl) (fun _ _ _ h => h) (Or.inl ⟨by rfl, ?q4⟩) HS.out ?_
      case q4 => intro w hSw; obtain ⟨q1, q2, q3, q4⟩ := KD.out _ hSw; have q5 := KE.out _ hSw; go_simp; rfl
      simp only [Act.put, List.getElem_toArray, List.getElem_cons_zero, List.getElem_cons_succ, List.setIfInBounds_toArray, List.set_cons_zero, List.set_cons_succ]
      refine wpAnyH_take (i := 5) (v := ?_) rfl (by kernel_rfl) (by kernel_rfl) (by kernel_rfl) (fun _ _ _ h => h) (Or.inl ⟨by rfl, ?q5⟩) HS.out ?_
      case q5 => intro w hSw; obtain ⟨q1, q2, q3, q4⟩ := KD.out _ hSw; have q5 := KE.out _ hSw; go_simp; rfl
      simp only [Act.put, List.getElem_toArray, List.getElem_cons_zero, List.getElem_cons_succ, List.setIfInBounds_toArray, List.set_cons_zero, List.set_cons_succ]
      refine wpAnyH_take (i := 6) (v := ?_) rfl (by kernel_rfl) (by kernel_rfl) (by kernel_rfl) (fun _ _ _ h => h) (Or.inl ⟨by rfl, ?q6⟩) HS.out ?_
      case q6 => intro w hSw; obtain ⟨q1, q2, q3, q4⟩ := KD.out _ hSw; have q5 := KE.out _ hSw; go_simp; rfl
      simp only [Act.put, List.getElem_toArray, List.getElem_cons_zero, List.getElem_cons_succ, List.setIfInBounds_toArray, List.set_cons_zero, List.set_cons_succ]
      refine wpAnyH_take (i := 7) (v := ?_) rfl (by kernel_rfl) (by kernel_rfl) (by kernel_rfl) (fun _ _ _ h => h) (Or.inl ⟨by rfl, ?q7⟩) HS.out ?_
      case q7 => intro w hSw; obtain ⟨q1, q2, q3, q4⟩ := KD.out _ hSw; have q5 := KE.out _ hSw; go_simp; rfl
      simp only [Act.put, List.getElem_toArray, List.getElem_cons_zero, List.getElem_cons_succ, List.setIfInBounds_toArray, List.set_cons_zero, List.set_cons_succ]
      refine wpAnyH_take (i := 8) (v := ?_) rfl (by kernel_rfl) (by kernel_rfl) (by kernel_rfl) (fun _ _ _ h => h) (Or.inl ⟨by rfl, ?q8⟩) HS.out ?_
      case q8 => intro w hSw; obtain ⟨q1, q2, q3, q4⟩ := KD.out _ hSw; have q5 := KE.out _ hSw; go_simp; rfl
      simp only [Act.put, List.getElem_toArray, List.getElem_cons_zero, List.getElem_cons_succ, List.setIfInBounds_toArray, List.set_cons_zero, List.set_cons_succ]
      refine wpAnyH_take (i := 9) (v := ?_) rfl (by kernel_rfl) (by kernel_rfl) (by kernel_rfl) (fun _ _ _ h => h) (Or.inl ⟨by rfl, ?q9⟩) HS.out ?_
      case q9 => intro w hSw; obtain ⟨q1, q2, q3, q4⟩ := KD.out _ hSw; have q5 := KE.out _ hSw; go_simp; rfl
      simp only [Act.put, List.getElem_toArray, List.getElem_cons_zero, List.getElem_cons_succ, List.setIfInBounds_toArray, List.set_cons_zero, List.set_cons_succ]
      refine wpAnyH_take (i := 10) (v := ?_) rfl (by kernel_rfl) (by kernel_rfl) (by kernel_rfl) (fun _ _ _ h => h) (Or.inl ⟨by rfl, ?q10⟩) HS.out ?_
      case q10 => intro w hSw; obtain ⟨q1, q2, q3, q4⟩ := KD.out _ hSw; have q5 := KE.out _ hSw; go_simp; rfl
      simp only [Act.put, List.getElem_toArray, List.getElem_cons_zero, List.getElem_cons_succ, List.setIfInBounds_toArray, List.set_cons_zero, List.set_cons_succ]
      refine wpAnyH_take (i := 11) (v := ?_) rfl (by kernel_rfl) (by kernel_rfl) (by kernel_rfl) (fun _ _ _ h => h) (Or.inl ⟨by rfl, ?q11⟩) HS.out ?_
      case q11 => intro w hSw; obtain ⟨q1, q2, q3, q4⟩ := KD.out _ hSw; have q5 := KE.out _ hSw; go_simp; rfl
      simp only [Act.put, List.getElem_toArray, List.getElem_cons_zero, List.getElem_cons_succ, List.setIfInBounds_toArray, List.set_cons_zero, List.set_cons_succ]
      refine wpAnyH_take (i := 12) (v := ?_) rfl (by kernel_rfl) (by kernel_rfl) (by kernel_rfl) (fun _ _ _ h => h) (Or.inl ⟨by rfl, ?q12⟩) HS.out ?_
      case q12 => intro w hSw; obtain ⟨q1, q2, q3, q4⟩ := KD.out _ hSw; have q5 := KE.out _ hSw; go_simp; rfl
      simp only [Act.put, List.getElem_toArray, List.getElem_cons_zero, List.getElem_cons_succ, List.setIfInBounds_toArray, List.set_cons_zero, List.set_cons_succ]
      rw [HWR.out]
      refine wpAnyH_take (i := 13) (v := ?_) rfl (by kernel_rfl) (by kernel_rfl) (by kernel_rfl) (fun _ _ _ h => h) (Or.inl ⟨by rfl, ?q13⟩) HS.out ?_
      case q13 => intro w hSw; obtain ⟨q1, q2, q3, q4⟩ := KD.out _ hSw; have q5 := KE.out _ hSw; go_simp; rfl
      simp only [Act.put, List.getElem_toArray, List.getElem_cons_zero, List.getElem_cons_succ, List.setIfInBounds_toArray, List.set_cons_zero, List.set_cons_succ]
      refine wpAnyH_take (i := 14) (v := ?_) rfl (by kernel_rfl) (by kernel_rfl) (by kernel_rfl) (fun _ _ _ h => h) (Or.inl ⟨by rfl, ?q14⟩) HS.out ?_
      case q14 => intro w hSw; obtain ⟨q1, q2, q3, q4⟩ := KD.out _ hSw; have q5 := KE.out _ hSw; go_simp; rfl
      simp only [Act.put, List.getElem_toArray, List.getElem_cons_zero, List.getElem_cons_succ, List.setIfInBounds_toArray, List.set_cons_zero, List.set_cons_succ]
      refine wpAnyH_done (by kernel_rfl) ?_ _
      go_wp2_with fail
      refine wp_region_held_drew (S := Ex (fun k => k = w.heap.size + 1) W2) (by kernel_rfl) (by repeat' first | exact Ex.refl _ _ | apply Ex.drew | apply Ex.drewN) (fun hHeld => ?_)
      have HS := hid hHeld
      clear hHeld
      change wpAnyH _ _ _ _ _ _ _ _ (World.drew _)
      refine wpAnyH_take (i := 0) (v := ?_) rfl (by kernel_rfl) (by kernel_rfl) (by kernel_rfl) (fun _ _ _ h => h) (Or.inl ⟨by rfl, ?q0⟩) HS.out ?_
      case q0 => intro w hSw; obtain ⟨q1, q2, q3, q4⟩ := KD.out _ hSw; have q5 := KE.out _ hSw; go_simp; rfl
      simp only [Act.put, List.getElem_toArray, List.getElem_cons_zero, List.getElem_cons_succ, List.setIfInBounds_toArray, List.set_cons_zero, List.set_cons_succ]
      refine wpAnyH_take (i := 1) (v := ?_) rfl (by kernel_rfl) (by kernel_rfl) (by kernel_rfl) (fun _ _ _ h => h) (Or.inl ⟨by rfl, ?q1⟩) HS.out ?_
      case q1 => intro w hSw; obtain ⟨q1, q2, q3, q4⟩ := KD.out _ hSw; have q5 := KE.out _ hSw; go_simp; rfl
      simp only [Act.put, List.getElem_toArray, List.getElem_cons_zero, List.getElem_cons_succ, List.setIfInBounds_toArray, List.set_cons_zero, List.set_cons_succ]
      refine wpAnyH_take (i := 2) (v := ?_) rfl (by kernel_rfl) (by kernel_rfl) (by kernel_rfl) (fun _ _ _ h => h) (Or.inl ⟨by rfl, ?q2⟩) HS.out ?_
      case q2 => intro w hSw; obtain ⟨q1, q2, q3, q4⟩ := KD.out _ hSw; have q5 := KE.out _ hSw; go_simp; rfl
      simp only [Act.put, List.getElem_toArray, List.getElem_cons_zero, List.getElem_cons_succ, List.setIfInBounds_toArray, List.set_cons_zero, List.set_cons_succ]
      refine wpAnyH_take (i := 3) (v := ?_) rfl (by kernel_rfl) (by kernel_rfl) (by kernel_rfl) (fun _ _ _ h => h) (Or.inl ⟨by rfl, ?q3⟩) HS.out ?_
      case q3 => intro w hSw; obtain ⟨q1, q2, q3, q4⟩ := KD.out _ hSw; have q5 := KE.out _ hSw; go_simp; rfl
      simp only [Act.put, List.getElem_toArray, List.getElem_cons_zero, List.getElem_cons_succ, List.setIfInBounds_toArray, List.set_cons_zero, List.set_cons_succ]
      refine wpAnyH_take (i := 4) (v := ?_) rfl (by kernel_rfl) (by kernel_rfl) (by kernel_rfl) (fun _ _ _ h => h) (Or.inl ⟨by rfl, ?q4⟩) HS.out ?_
      case q4 => intro w hSw; obtain ⟨q1, q2, q3, q4⟩ := KD.out _ hSw; have q5 := KE.out _ hSw; go_simp; rfl
      simp only [Act.put, List.getElem_toArray, List.getElem_cons_zero, List.getElem_cons_succ, List.setIfInBounds_toArray, List.set_cons_zero, List.set_cons_succ]
      refine wpAnyH_take (i := 5) (v := ?_) rfl (by kernel_rfl) (by kernel_rfl) (by kernel_rfl) (fun _ _ _ h => h) (Or.inl ⟨by rfl, ?q5⟩) HS.out ?_
      case q5 => intro w hSw; obtain ⟨q1, q2, q3, q4⟩ := KD.out _ hSw; have q5 := KE.out _ hSw; go_simp; rfl
      simp only [Act.put, List.getElem_toArray, List.getElem_cons_zero, List.getElem_cons_succ, List.setIfInBounds_toArray, List.set_cons_zero, List.set_cons_succ]
      refine wpAnyH_take (i := 6) (v := ?_) rfl (by kernel_rfl) (by kernel_rfl) (by kernel_rfl) (fun _ _ _ h => h) (Or.inl ⟨by rfl, ?q6⟩) HS.out ?_
      case q6 => intro w hSw; obtain ⟨q1, q2, q3, q4⟩ := KD.out _ hSw; have q5 := KE.out _ hSw; go_simp; rfl
      simp only [Act.put, List.getElem_toArray, List.getElem_cons_zero, List.getElem_cons_succ, List.setIfInBounds_toArray, List.set_cons_zero, List.set_cons_succ]
      refine wpAnyH_take (i := 7) (v := ?_) rfl (by kernel_rfl) (by kernel_rfl) (by kernel_rfl) (fun _ _ _ h => h) (Or.inl ⟨by rfl, ?q7⟩) HS.out ?_
      case q7 => intro w hSw; obtain ⟨q1, q2, q3, q4⟩ := KD.out _ hSw; have q5 := KE.out _ hSw; go_simp; rfl
      simp only [Act.put, List.getElem_toArray, List.getElem_cons_zero, List.getElem_cons_succ, List.setIfInBounds_toArray, List.set_cons_zero, List.set_cons_succ]
      refine wpAnyH_take (i := 8) (v := ?_) rfl (by kernel_rfl) (by kernel_rfl) (by kernel_rfl) (fun _ _ _ h => h) (Or.inl ⟨by rfl, ?q8⟩) HS.out ?_
      case q8 => intro w hSw; obtain ⟨q1, q2, q3, q4⟩ := KD.out _ hSw; have q5 := KE.out _ hSw; go_simp; rfl
      simp only [Act.put, List.getElem_toArray, List.getElem_cons_zero, List.getElem_cons_succ, List.setIfInBounds_toArray, List.set_cons_zero, List.set_cons_succ]
      refine wpAnyH_take (i := 9) (v := ?_) rfl (by kernel_rfl) (by kernel_rfl) (by kernel_rfl) (fun _ _ _ h => h) (Or.inl ⟨by rfl, ?q9⟩) HS.out ?_
      case q9 => intro w hSw; obtain ⟨q1, q2, q3, q4⟩ := KD.out _ hSw; have q5 := KE.out _ hSw; go_simp; rfl
      simp only [Act.put, List.getElem_toArray, List.getElem_cons_zero, List.getElem_cons_succ, List.setIfInBounds_toArray, List.set_cons_zero, List.set_cons_succ]
      refine wpAnyH_take (i := 10) (v := ?_) rfl (by kernel_rfl) (by kernel_rfl) (by kernel_rfl) (fun _ _ _ h => h) (Or.inl ⟨by rfl, ?q10⟩) HS.out ?_
      case q10 => intro w hSw; obtain ⟨q1, q2, q3, q4⟩ := KD.out _ hSw; have q5 := KE.out _ hSw; go_simp; rfl
      simp only [Act.put, List.getElem_toArray, List.getElem_cons_zero, List.getElem_cons_succ, List.setIfInBounds_toArray, List.set_cons_zero, List.set_cons_succ]
      rw [HWR.out]
      refine wpAnyH_take (i := 11) rfl (by kernel_rfl) (by kernel_rfl) (by kernel_rfl) (fun _ _ _ h => h) (yieldsIf_sl (by rfl) 31 _ _ _ (by rw [elmS]; exact Try.underlying31) rfl (.slice pb n cb) (.int .i64 r.pl) (.int .i64 (r.pl + r.ln)) rfl rfl rfl _ hsl.out) HS.out ?_
      simp only [Act.put, List.getElem_toArray, List.getElem_cons_zero, List.getElem_cons_succ, List.setIfInBounds_toArray, List.set_cons_zero, List.set_cons_succ]
      refine wpAnyH_ready (rs := [12]) (by kernel_rfl) (by simp) ?_
      refine AllReadyH.cons rfl (fun K hK => ?_) AllReadyH.nil
      replace hK := hid hK
      go_simp
      refine (CB.out _ HS.out).mono ?_
      rintro e w4 ⟨v1, rfl, ho4, hb4⟩
      have E4 := hid (HS.out.trans (S' := fun _ => False) (Ex.of_below hb4) (fun _ q => q.elim))
      have O4 : Hid (w4.ownsRow W2.heap.size 5 1 v1 L.length (L.map (Value.int .u8))) := hid ho4
      have k5 : w4.heap[w.heap.size + 1]? = some (.cells #[.int .u8 0, .slice none 0 0, .slice none 0 0] 46 (0, 0)) := (hb4.block (w.heap.size + 1) (by show w.heap.size + 1 < W2.heap.size; have := Z2.out; omega)).trans hrep.out
      obtain ⟨p1, c1, hv1⟩ := own_slc ho4
      subst hv1
      have f0 := free_of k5 0
      have f1 := free_of k5 1
      have f2 := free_of k5 2
      have i0 : w4.cell? ⟨w.heap.size + 1, 0, none⟩ = some (.int .u8 0) := (cell_of_row _ _ _ _ _ _ k5).trans rfl
      have i1 : w4.cell? ⟨w.heap.size + 1, 1, none⟩ = some (.slice none 0 0) := (cell_of_row _ _ _ _ _ _ k5).trans rfl
      have i2 : w4.cell? ⟨w.heap.size + 1, 2, none⟩ = some (.slice none 0 0) := (cell_of_row _ _ _ _ _ _ k5).trans rfl
      have K5 := hid k5
      clear k5 ho4 hb4
      refine hK.out _ _ E4.out (fun _ => ?_)
      clear hK K HS
      have HS := E4
      refine wpAnyH_take (i := 13) (v := ?_) rfl (by kernel_rfl) (by kernel_rfl) (by kernel_rfl) (fun _ _ _ h => h) (Or.inl ⟨by rfl, ?q13⟩) HS.out ?_
      case q13 => intro w hSw; obtain ⟨q1, q2, q3, q4⟩ := KD.out _ hSw; have q5 := KE.out _ hSw; go_simp; rfl
      simp only [Act.put, List.getElem_toArray, List.getElem_cons_zero, List.getElem_cons_succ, List.setIfInBounds_toArray, List.set_cons_zero, List.set_cons_succ]
      refine wpAnyH_ready (rs := [14]) (by kernel_rfl) (by simp) ?_
      refine AllReadyH.cons rfl (fun K hK => ?_) AllReadyH.nil
      replace hK := hid hK
      go_simp
      refine hK.out _ _ (((E4.out.setCell (x := w.heap.size + 1) rfl _).setCell (x := w.heap.size + 1) rfl _).setCell (x := w.heap.size + 1) rfl _) (fun _ => ?_)
      clear hK K
      refine wpAnyH_done (by kernel_rfl) ?_ _
      go_wp2
      have hcell := heap_setCell (heap_setCell (heap_setCell K5.out 0 (.int .u8 5)) 1 (.slice none 0 0)) 2 (.slice p1 L.length c1)
      refine bodyPost_ret (v := .agg #[.int .u8 5, .slice none 0 0, .slice p1 L.length c1]) (results_cellS (p := 4) (ty := 46) rfl _ _ (w.heap.size + 1) 46 _ (0, 0) _ rfl hcell Try.underlying46 rfl (by kernel_rfl)) rfl ?_
      refine ⟨.inr ⟨z, hzm, _, hzs, (by rw [Hn.out]; have := HLEN.out; omega), rfl, ?_⟩, BD.out _ (((E4.out.setCell (x := w.heap.size + 1) rfl _).setCell (x := w.heap.size + 1) rfl _).setCell (x := w.heap.size + 1) rfl _)⟩
      rw [Hhi.out, Hlo.out, HL.out]
      refine ⟨own_mono (ownsRow_of O4.out fun j hj => ?_) BB.out.size, HLB.out⟩
      have hj2 := (ownsRow_block O4.out hj).1
      have hne : j ≠ w.heap.size + 1 := by have := Z2.out; omega
      rw [heap_setCell_ne hne, heap_setCell_ne hne, heap_setCell_ne hne]
end Go.Proofs.Ythmhpenjegfbcaa
namespace Go.Proofs.Ythmhpenjegfbcaa
open Go Go.RowKit Go.MapKept
theorem run_putK {w : World} {b c : Nat} {es : Array MapEntry} (hb : w.heap[b]? = some (.map es c)) {k : Int} (hf : Instr.findNow (.int .u8) (.int .u8 k) es.toList 0 = some none) (v : Value) :
    (Instr.mapUpdate 81 (.map (some b)) (.int .u8 k) v).run Try.prog w = .ok () { w with heap := w.heap.setIfInBounds b (.map (es.push ⟨.int .u8 k, v, c⟩) (c + 1)) } := by
  have hc : (Instr.checkKey false 10000 25 (.int .u8 k)).run Try.prog w = .ok () w := MapKept.run_checkKey (k := .int .u8 k) Try.underlying25 rfl _ 9999
  simp [Instr.mapUpdate, run_underlying Try.underlying81, MapKept.run_getObj_map hb, hc, MapKept.run_findKey Try.underlying25 hf, MapKept.run_setObj_map _ hb, Result.andThen]
theorem run_lookK {w : World} {b c : Nat} {es : Array MapEntry} (hb : w.heap[b]? = some (.map es c)) {k : Int} {j : Nat} {v : Value} (hf : Instr.findNow (.int .u8) (.int .u8 k) es.toList 0 = some (some (j, v))) :
    (Instr.lookup 81 (.map (some b)) (.int .u8 k) false).run Try.prog w = .ok v w := by
  have hc : (Instr.checkKey es.isEmpty 10000 25 (.int .u8 k)).run Try.prog w = .ok () w := MapKept.run_checkKey (k := .int .u8 k) Try.underlying25 rfl _ 9999
  simp [Instr.lookup, run_underlying Try.underlying81, MapKept.run_getObj_map hb, hc, MapKept.run_findKey Try.underlying25 hf, Result.andThen]
def deedsL (g : Nat) : List MapEntry := [⟨.int .u8 1, (.func (.func 46) #[.pointer (some ⟨g, 0, none⟩)] #[]), 0⟩, ⟨.int .u8 2, (.func (.func 47) #[.pointer (some ⟨g, 0, none⟩)] #[]), 1⟩, ⟨.int .u8 3, (.func (.func 48) #[.pointer (some ⟨g, 0, none⟩)] #[]), 2⟩, ⟨.int .u8 4, (.func (.func 49) #[.pointer (some ⟨g, 0, none⟩)] #[]), 3⟩, ⟨.int .u8 5, (.func (.func 50) #[.pointer (some ⟨g, 0, none⟩)] #[]), 4⟩]
theorem deed_1 (g : Nat) : Instr.findNow (.int .u8) (.int .u8 1) (deedsL g).toArray.toList 0 = some (some (0, (.func (.func 46) #[.pointer (some ⟨g, 0, none⟩)] #[]))) := by rfl
theorem deed_2 (g : Nat) : Instr.findNow (.int .u8) (.int .u8 2) (deedsL g).toArray.toList 0 = some (some (1, (.func (.func 47) #[.pointer (some ⟨g, 0, none⟩)] #[]))) := by rfl
theorem deed_3 (g : Nat) : Instr.findNow (.int .u8) (.int .u8 3) (deedsL g).toArray.toList 0 = some (some (2, (.func (.func 48) #[.pointer (some ⟨g, 0, none⟩)] #[]))) := by rfl
theorem deed_4 (g : Nat) : Instr.findNow (.int .u8) (.int .u8 4) (deedsL g).toArray.toList 0 = some (some (3, (.func (.func 49) #[.pointer (some ⟨g, 0, none⟩)] #[]))) := by rfl
theorem deed_5 (g : Nat) : Instr.findNow (.int .u8) (.int .u8 5) (deedsL g).toArray.toList 0 = some (some (4, (.func (.func 50) #[.pointer (some ⟨g, 0, none⟩)] #[]))) := by rfl
set_option maxRecDepth 100000 in
set_option maxHeartbeats 8000000 in
theorem deeds_any (w : World) (g : Nat) :
    Calls Try.prog 31 #[.pointer (some ⟨g, 0, none⟩)] w fun e w' => e = .returned (.map (some w.heap.size)) ∧ w'.heap[w.heap.size]? = some (.map (deedsL g).toArray 5) ∧ Below w.heap.size w w' := by
  have hmm := @run_makeMap Try.prog
  obtain ⟨W0, HW0⟩ : ∃ W : World, Hid (w.alloc (.map #[] 0) = W) := ⟨_, hid rfl⟩
  have M0 : Hid (W0.heap[w.heap.size]? = some (.map ((deedsL g).take 0).toArray 0)) := hid (by rw [← HW0.out]; exact heap_alloc_new w _)
  have B0 : Hid (Below w.heap.size w W0) := by rw [← HW0.out]; exact hid ((Below.refl _ w).alloc (Nat.le_refl _) _)
  have p1 : (Instr.mapUpdate 81 (.map (some w.heap.size)) (.int .u8 1) (.func (.func 46) #[.pointer (some ⟨g, 0, none⟩)] #[])).run Try.prog W0 = .ok () { W0 with heap := W0.heap.setIfInBounds w.heap.size (.map (((deedsL g).take 0).toArray.push ⟨.int .u8 1, (.func (.func 46) #[.pointer (some ⟨g, 0, none⟩)] #[]), 0⟩) 1) } := run_putK M0.out (by rfl) _
  obtain ⟨W1, HW1⟩ : ∃ W : World, Hid (({ W0 with heap := W0.heap.setIfInBounds w.heap.size (.map (((deedsL g).take 0).toArray.push ⟨.int .u8 1, (.func (.func 46) #[.pointer (some ⟨g, 0, none⟩)] #[]), 0⟩) 1) } : World) = W) := ⟨_, hid rfl⟩
  rw [HW1.out] at p1
  have M1 : Hid (W1.heap[w.heap.size]? = some (.map ((deedsL g).take 1).toArray 1)) := hid (by rw [← HW1.out]; rw [Array.getElem?_setIfInBounds_self_of_lt (Array.getElem?_eq_some_iff.1 M0.out).1]; rfl)
  have B1 : Hid (Below w.heap.size W0 W1) := hid ⟨by rw [← HW1.out], by rw [← HW1.out], by rw [← HW1.out], by rw [← HW1.out]; simp, fun k hk => by rw [← HW1.out]; simp [show w.heap.size ≠ k by omega]⟩
  have p2 : (Instr.mapUpdate 81 (.map (some w.heap.size)) (.int .u8 2) (.func (.func 47) #[.pointer (some ⟨g, 0, none⟩)] #[])).run Try.prog W1 = .ok () { W1 with heap := W1.heap.setIfInBounds w.heap.size (.map (((deedsL g).take 1).toArray.push ⟨.int .u8 2, (.func (.func 47) #[.pointer (some ⟨g, 0, none⟩)] #[]), 1⟩) 2) } := run_putK M1.out (by rfl) _
  obtain ⟨W2, HW2⟩ : ∃ W : World, Hid (({ W1 with heap := W1.heap.setIfInBounds w.heap.size (.map (((deedsL g).take 1).toArray.push ⟨.int .u8 2, (.func (.func 47) #[.pointer (some ⟨g, 0, none⟩)] #[]), 1⟩) 2) } : World) = W) := ⟨_, hid rfl⟩
  rw [HW2.out] at p2
  have M2 : Hid (W2.heap[w.heap.size]? = some (.map ((deedsL g).take 2).toArray 2)) := hid (by rw [← HW2.out]; rw [Array.getElem?_setIfInBounds_self_of_lt (Array.getElem?_eq_some_iff.1 M1.out).1]; rfl)
  have B2 : Hid (Below w.heap.size W1 W2) := hid ⟨by rw [← HW2.out], by rw [← HW2.out], by rw [← HW2.out], by rw [← HW2.out]; simp, fun k hk => by rw [← HW2.out]; simp [show w.heap.size ≠ k by omega]⟩
  have p3 : (Instr.mapUpdate 81 (.map (some w.heap.size)) (.int .u8 3) (.func (.func 48) #[.pointer (some ⟨g, 0, none⟩)] #[])).run Try.prog W2 = .ok () { W2 with heap := W2.heap.setIfInBounds w.heap.size (.map (((deedsL g).take 2).toArray.push ⟨.int .u8 3, (.func (.func 48) #[.pointer (some ⟨g, 0, none⟩)] #[]), 2⟩) 3) } := run_putK M2.out (by rfl) _
  obtain ⟨W3, HW3⟩ : ∃ W : World, Hid (({ W2 with heap := W2.heap.setIfInBounds w.heap.size (.map (((deedsL g).take 2).toArray.push ⟨.int .u8 3, (.func (.func 48) #[.pointer (some ⟨g, 0, none⟩)] #[]), 2⟩) 3) } : World) = W) := ⟨_, hid rfl⟩
  rw [HW3.out] at p3
  have M3 : Hid (W3.heap[w.heap.size]? = some (.map ((deedsL g).take 3).toArray 3)) := hid (by rw [← HW3.out]; rw [Array.getElem?_setIfInBounds_self_of_lt (Array.getElem?_eq_some_iff.1 M2.out).1]; rfl)
  have B3 : Hid (Below w.heap.size W2 W3) := hid ⟨by rw [← HW3.out], by rw [← HW3.out], by rw [← HW3.out], by rw [← HW3.out]; simp, fun k hk => by rw [← HW3.out]; simp [show w.heap.size ≠ k by omega]⟩
  have p4 : (Instr.mapUpdate 81 (.map (some w.heap.size)) (.int .u8 4) (.func (.func 49) #[.pointer (some ⟨g, 0, none⟩)] #[])).run Try.prog W3 = .ok () { W3 with heap := W3.heap.setIfInBounds w.heap.size (.map (((deedsL g).take 3).toArray.push ⟨.int .u8 4, (.func (.func 49) #[.pointer (some ⟨g, 0, none⟩)] #[]), 3⟩) 4) } := run_putK M3.out (by rfl) _
  obtain ⟨W4, HW4⟩ : ∃ W : World, Hid (({ W3 with heap := W3.heap.setIfInBounds w.heap.size (.map (((deedsL g).take 3).toArray.push ⟨.int .u8 4, (.func (.func 49) #[.pointer (some ⟨g, 0, none⟩)] #[]), 3⟩) 4) } : World) = W) := ⟨_, hid rfl⟩
  rw [HW4.out] at p4
  have M4 : Hid (W4.heap[w.heap.size]? = some (.map ((deedsL g).take 4).toArray 4)) := hid (by rw [← HW4.out]; rw [Array.getElem?_setIfInBounds_self_of_lt (Array.getElem?_eq_some_iff.1 M3.out).1]; rfl)
  have B4 : Hid (Below w.heap.size W3 W4) := hid ⟨by rw [← HW4.out], by rw [← HW4.out], by rw [← HW4.out], by rw [← HW4.out]; simp, fun k hk => by rw [← HW4.out]; simp [show w.heap.size ≠ k by omega]⟩
  have p5 : (Instr.mapUpdate 81 (.map (some w.heap.size)) (.int .u8 5) (.func (.func 50) #[.pointer (some ⟨g, 0, none⟩)] #[])).run Try.prog W4 = .ok () { W4 with heap := W4.heap.setIfInBounds w.heap.size (.map (((deedsL g).take 4).toArray.push ⟨.int .u8 5, (.func (.func 50) #[.pointer (some ⟨g, 0, none⟩)] #[]), 4⟩) 5) } := run_putK M4.out (by rfl) _
  obtain ⟨W5, HW5⟩ : ∃ W : World, Hid (({ W4 with heap := W4.heap.setIfInBounds w.heap.size (.map (((deedsL g).take 4).toArray.push ⟨.int .u8 5, (.func (.func 50) #[.pointer (some ⟨g, 0, none⟩)] #[]), 4⟩) 5) } : World) = W) := ⟨_, hid rfl⟩
  rw [HW5.out] at p5
  have M5 : Hid (W5.heap[w.heap.size]? = some (.map ((deedsL g).take 5).toArray 5)) := hid (by rw [← HW5.out]; rw [Array.getElem?_setIfInBounds_self_of_lt (Array.getElem?_eq_some_iff.1 M4.out).1]; rfl)
  have B5 : Hid (Below w.heap.size W4 W5) := hid ⟨by rw [← HW5.out], by rw [← HW5.out], by rw [← HW5.out], by rw [← HW5.out]; simp, fun k hk => by rw [← HW5.out]; simp [show w.heap.size ≠ k by omega]⟩
  go_enter Try.func31, Try.ntmps31
  go_wp2_with (rw [HW0.out])
  go_ret
  exact ⟨rfl, M5.out, B0.out.trans (B1.out.trans (B2.out.trans (B3.out.trans (B4.out.trans B5.out))))⟩
end Go.Proofs.Ythmhpenjegfbcaa
