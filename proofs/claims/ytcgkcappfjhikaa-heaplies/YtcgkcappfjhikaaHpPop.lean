/- Pop, Peek, Drop of a heap; New. -/
import Derived.Test.YtcgkcappfjhikaaHpPush
import Derived.Carry
set_option linter.unusedVariables false
set_option linter.unusedSimpArgs false
namespace Go.Proofs.Ytcgkcappfjhikaa
open Go Go.RowKit
section
variable {J : World → Prop} {U : Nat → Prop} {Dm : Int → Prop} {fid : Nat} {fr : Array Value} {Ls : Int → Int → Bool → Prop} {ord : Prop} {key : Int → Int}
variable {w : World} {g : Nat} {sf F : Value} {mp : Option Nat} {L : List (Rw Int)} {nx : Nat} {lo : Int} {v : Value} {S : Nat → Prop}
/-- What a thing taken out leaves. -/
def GoQ (ord : Prop) (key : Int → Int) (J : World → Prop) (U : Nat → Prop) (Dm : Int → Prop) (fid : Nat) (fr : Array Value) (w : World) (g : Nat) (sf : Value) (mp : Option Nat) (L : List (Rw Int)) (nx : Nat) (S : Nat → Prop) (r : Rw Int) (w' : World) : Prop :=
  ∃ L' v', Lv J U Dm fid fr w' g sf mp L' nx (-1) v' (fun k => S k ∧ k ≠ r.b) ∧ Ex (SU S U) w w' ∧ L.Perm (r :: L') ∧ (ord → hp key L → hp key L')
set_option maxRecDepth 100000 in
set_option maxHeartbeats 4000000 in
theorem pop_some (O : Orc fid fr J U Dm Ls) (hO : Ord ord key Ls) (h : Lv J U Dm fid fr w g (ptr g) mp L nx (-1) v S) (hl : 0 < L.length) :
    Calls Try.prog 22 #[ptr g] w fun e w' => e = .returned (.tuple #[.int .i64 (rat L 0).x, .bool true]) ∧ GoQ ord key J U Dm fid fr w g (ptr g) mp L nx S (rat L 0) w' := by
  have CR := hid (ready_ok O h)
  have HL := hid hl
  clear h
  go_enter Try.func22, Try.ntmps22
  go_wp2_with fail
  refine CR.out.mono ?_
  rintro e w1 ⟨rfl, h1, he1⟩
  have HE1 := hid he1
  have c2 := h1.hp.cg.2.2.1
  obtain ⟨pp, cc, hv⟩ := own_slc h1.hp.row
  have CT := hid (take_any O hO 0 h1 hl)
  clear h1 he1 CR
  subst hv
  obtain ⟨n, hn⟩ : ∃ n, Hid (L.length = n) := ⟨_, rfl⟩
  rw [hn.out] at c2 hl
  have hne : (n == 0) = false := by simp; omega
  have hne' : ¬ (n : Int) = 0 := by omega
  go_wp2_with fail
  refine CT.out.mono ?_
  rintro e w2 ⟨rfl, L', v', i, hL', hr, hE', hP', hq'⟩
  have c1 := hr.c.2.1
  have HL' := hid hL'
  have HE' := hid hE'
  have HP' := hid hP'
  have HQ' := hid hq'
  clear CT hL' hE' hP' hq' hr c2
  go_wp2_with fail
  go_ret2
  exact ⟨rfl, L', v', HL'.out, (HE1.out.mono (fun k hk => .inl hk)).trans HE'.out (fun _ q => .inl q), HP'.out, HQ'.out⟩
set_option maxRecDepth 100000 in
set_option maxHeartbeats 4000000 in
theorem pop_none (O : Orc fid fr J U Dm Ls) (h : Lv J U Dm fid fr w g (ptr g) mp [] nx (-1) v S) :
    Calls Try.prog 22 #[ptr g] w fun e w' => e = .returned (.tuple #[.int .i64 0, .bool false]) ∧ Lv J U Dm fid fr w' g (ptr g) mp [] nx (-1) v S ∧ Ex S w w' := by
  have CR := hid (ready_ok O h)
  clear h
  go_enter Try.func22, Try.ntmps22
  go_wp2_with fail
  refine CR.out.mono ?_
  rintro e w1 ⟨rfl, h1, he1⟩
  have H1 := hid h1
  have HE1 := hid he1
  have c2 := h1.hp.cg.2.2.1
  obtain ⟨pp, cc, hv⟩ := own_slc h1.hp.row
  clear h1 he1 CR
  subst hv
  simp only [List.length_nil] at c2
  go_wp2_with fail
  go_ret2
  exact ⟨rfl, H1.out, HE1.out⟩
set_option maxRecDepth 100000 in
set_option maxHeartbeats 4000000 in
theorem peek_some (O : Orc fid fr J U Dm Ls) (h : Lv J U Dm fid fr w g (ptr g) mp L nx (-1) v S) (hl : 0 < L.length) :
    Calls Try.prog 33 #[ptr g] w fun e w' => e = .returned (.tuple #[.int .i64 (rat L 0).x, .bool true]) ∧ Lv J U Dm fid fr w' g (ptr g) mp L nx (-1) v S ∧ Ex S w w' := by
  have CR := hid (ready_ok O h)
  have HL := hid hl
  clear h
  go_enter Try.func33, Try.ntmps33
  go_wp2_with fail
  refine CR.out.mono ?_
  rintro e w1 ⟨rfl, h1, he1⟩
  have H1 := hid h1
  have HE1 := hid he1
  have c2 := h1.hp.cg.2.2.1
  obtain ⟨b, cap, cur, hv, hb, -, -, -, -, hcu⟩ := h1.hp.slc hl
  have r0 : w1.cell? ⟨b, 0, none⟩ = some (ptr (rat L 0).b) := by rw [cell_of_row _ _ _ _ _ _ hb]; exact hcu 0 hl
  have r1 := (h1.hp.each 0 _ (rat_some hl)).c.2.1
  clear h1 he1 CR hb hcu
  subst hv
  obtain ⟨n, hn⟩ : ∃ n, Hid (L.length = n) := ⟨_, rfl⟩
  rw [hn.out] at c2 hl
  have hne : (n == 0) = false := by simp; omega
  have hne' : ¬ (n : Int) = 0 := by omega
  have hlt' : (0 : Int) < (n : Int) := by omega
  go_wp2_with fail
  go_ret2
  exact ⟨rfl, H1.out, HE1.out⟩
set_option maxRecDepth 100000 in
set_option maxHeartbeats 4000000 in
theorem peek_none (O : Orc fid fr J U Dm Ls) (h : Lv J U Dm fid fr w g (ptr g) mp [] nx (-1) v S) :
    Calls Try.prog 33 #[ptr g] w fun e w' => e = .returned (.tuple #[.int .i64 0, .bool false]) ∧ Lv J U Dm fid fr w' g (ptr g) mp [] nx (-1) v S ∧ Ex S w w' := by
  have CR := hid (ready_ok O h)
  clear h
  go_enter Try.func33, Try.ntmps33
  go_wp2_with fail
  refine CR.out.mono ?_
  rintro e w1 ⟨rfl, h1, he1⟩
  have H1 := hid h1
  have HE1 := hid he1
  have c2 := h1.hp.cg.2.2.1
  obtain ⟨pp, cc, hv⟩ := own_slc h1.hp.row
  clear h1 he1 CR
  subst hv
  simp only [List.length_nil] at c2
  go_wp2_with fail
  go_ret2
  exact ⟨rfl, H1.out, HE1.out⟩
set_option maxRecDepth 100000 in
set_option maxHeartbeats 4000000 in
theorem drop_in (O : Orc fid fr J U Dm Ls) (hO : Ord ord key Ls) (h : Lv J U Dm fid fr w g (ptr g) mp L nx (-1) v S) {m : Nat} (hmp : mp = some m) (a : Int) :
    Calls Try.prog 31 #[ptr g, .int .i64 a] w fun e w' =>
      ((∀ r ∈ L, (r.t : Int) ≠ a) ∧ e = .returned (.tuple #[.int .i64 0, .int .i64 171]) ∧ Lv J U Dm fid fr w' g (ptr g) mp L nx (-1) v S ∧ Ex S w w') ∨
      (∃ r ∈ L, (r.t : Int) = a ∧ e = .returned (.tuple #[.int .i64 r.x, .int .i64 0]) ∧ GoQ ord key J U Dm fid fr w g (ptr g) mp L nx S r w') := by
  have CR := hid (ready_ok O h)
  clear h
  subst hmp
  go_enter Try.func31, Try.ntmps31
  go_wp2_with fail
  refine CR.out.mono ?_
  rintro e w1 ⟨rfl, h1, he1⟩
  have H1 := hid h1
  have HE1 := hid he1
  have c3 := h1.hp.cg.2.2.2.1
  rcases run_look_ok (h1.hp.held m rfl).1 a with ⟨hn, hlk⟩ | ⟨r, hr, hra, hlk⟩
  · have HN := hid hn
    clear h1 he1 CR hn
    go_wp2_with fail
    go_ret2
    exact .inl ⟨HN.out, rfl, H1.out, HE1.out⟩
  · obtain ⟨i, hi⟩ := List.mem_iff_getElem?.1 hr
    have hil := (List.getElem?_eq_some_iff.1 hi).1
    have r2 := (h1.hp.each i r hi).c.2.2
    have CT := hid (take_any O hO i h1 hil)
    rw [rat_eq hi] at CT
    have HR := hid hr
    have HRA := hid hra
    clear h1 he1 CR hr hra hi
    go_wp2_with fail
    refine CT.out.mono ?_
    rintro e w2 ⟨rfl, L', v', i', hL', hr', hE', hP', hq'⟩
    have c1 := hr'.c.2.1
    have HL' := hid hL'
    have HE' := hid hE'
    have HP' := hid hP'
    have HQ' := hid hq'
    clear CT hL' hE' hP' hq' hr' c3 hlk r2
    go_wp2_with fail
    go_ret2
    exact .inr ⟨r, HR.out, HRA.out, rfl, L', v', HL'.out, (HE1.out.mono (fun k hk => .inl hk)).trans HE'.out (fun _ q => .inl q), HP'.out, HQ'.out⟩
theorem eq_fn (n : Nat) (fr : Array Value) (w : World) : (binOp .eql 28 (.func (.func n) #[] fr) .nilFunc).run Try.prog w = .ok (.bool false) w := by
  have h : ∀ d : Nat, (Op.equalIn (d + 1) 28 (.func (.func n) #[] fr) .nilFunc).run Try.prog w = .ok false w := fun d => by simp [Op.equalIn, run_underlying Try.underlying28]
  simp only [binOp]
  simp [Op.equal, Op.maxDepth, h 9999]
theorem eq_fn0 (w : World) : (binOp .eql 28 .nilFunc .nilFunc).run Try.prog w = .ok (.bool true) w := by
  have h : ∀ d : Nat, (Op.equalIn (d + 1) 28 .nilFunc .nilFunc).run Try.prog w = .ok true w := fun d => by simp [Op.equalIn, run_underlying Try.underlying28]
  simp only [binOp]
  simp [Op.equal, Op.maxDepth, h 9999]
/-- A heap that was made. -/
def nhW (w : World) (F : Value) : World := (w.alloc (.map #[] 0)).alloc (.cells #[.pointer (some ⟨w.heap.size + 1, 0, none⟩), F, .slice none 0 0, .map (some w.heap.size), .int .i64 0, .int .i64 (-1)] 75)
set_option maxRecDepth 100000 in
set_option maxHeartbeats 4000000 in
theorem new_ok (w : World) (fid : Nat) (fr : Array Value) :
    Calls Try.prog 10 #[.func (.func fid) #[] fr] w fun e w' => e = .returned (.tuple #[ptr (w.heap.size + 1), .int .i64 0]) ∧ w' = nhW w (.func (.func fid) #[] fr) := by
  have he := eq_fn
  have hmm := run_makeMap (P := Try.prog) 73 w
  go_enter Try.func10, Try.ntmps10
  go_wp2
  go_ret2
  exact ⟨rfl, rfl⟩
set_option maxRecDepth 100000 in
set_option maxHeartbeats 4000000 in
theorem new_nil (w : World) : Calls Try.prog 10 #[.nilFunc] w fun e w' => e = .returned (.tuple #[.pointer none, .int .i64 170]) ∧ w' = w := by
  have he := eq_fn0
  go_enter Try.func10, Try.ntmps10
  go_wp2
  go_ret2
  exact ⟨rfl, rfl⟩
theorem nh_size (w : World) (F : Value) : (nhW w F).heap.size = w.heap.size + 2 := by
  show ((w.heap.push _).push _).size = _
  rw [Array.size_push, Array.size_push]
theorem nh_old (w : World) (F : Value) {k : Nat} (hk : k < w.heap.size) : (nhW w F).heap[k]? = w.heap[k]? := by
  show ((w.heap.push _).push _)[k]? = _
  rw [Array.getElem?_push, if_neg (by rw [Array.size_push]; omega), Array.getElem?_push, if_neg (by omega)]
theorem nh_ex (S : Nat → Prop) (w : World) (F : Value) : Ex S w (nhW w F) := ⟨rfl, rfl, rfl, by rw [nh_size]; omega, fun k hk _ => nh_old w F hk⟩
theorem nh_hp (w : World) (F : Value) : HHp (nhW w F) (w.heap.size + 1) (ptr (w.heap.size + 1)) F (some w.heap.size) [] 0 (-1) (.slice none 0 0) (fun k => w.heap.size ≤ k ∧ k < (nhW w F).heap.size) where
  top := by
    show ((w.heap.push _).push _)[w.heap.size + 1]? = _
    rw [Array.getElem?_push, if_pos (by rw [Array.size_push])]
    rfl
  row := ⟨rfl, .inl ⟨rfl, rfl⟩⟩
  each := fun i r h => by simp at h
  held := fun m hm => by
    cases hm
    refine ⟨⟨#[], 0, ?_, ⟨(fun e he => by cases he), by simp, (fun r h => by cases h)⟩, fun e he => by cases he⟩, Nat.le_refl _, by rw [nh_size]; omega⟩
    show ((w.heap.push _).push _)[w.heap.size]? = _
    rw [Array.getElem?_push, if_neg (by rw [Array.size_push]; omega), Array.getElem?_push, if_pos rfl]
  tk := fun r h => by cases h
  one := by simp
  sg := ⟨by omega, by rw [nh_size]; omega⟩
  sr := fun b hb => by cases hb
  se := fun r h => by cases h
  lt := fun k h => h.2
  few := by omega
  len := by simp
theorem nh_lv (O : Orc fid fr J U Dm Ls) (w : World) (hj : J w) : Lv J U Dm fid fr (nhW w (.func (.func fid) #[] fr)) (w.heap.size + 1) (ptr (w.heap.size + 1)) (some w.heap.size) [] 0 (-1) (.slice none 0 0) (fun k => w.heap.size ≤ k ∧ k < (nhW w (.func (.func fid) #[] fr)).heap.size) :=
  ⟨nh_hp w _, O.stay _ _ hj (fun k hk => nh_old w _ (O.lt _ hj k hk)), fun k hk q => by have := O.lt _ hj k q; omega, fun r h => by cases h⟩
theorem hp_nil : hp key ([] : List (Rw Int)) := fun i _ h => by simp at h
end
end Go.Proofs.Ytcgkcappfjhikaa
