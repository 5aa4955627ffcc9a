/- wire: the reader of a reply, and its fields, each by its method. -/
import Derived.Test.YtmegeogfpkdodaaWrSrc
import Derived.Test.YtmegeogfpkdodaaIntsA
set_option linter.unusedVariables false
set_option linter.unusedSimpArgs false
namespace Go.Proofs.Ytmegeogfpkdodaa
open Go Go.RowKit

def rkB (t : Int) : Bool := decide (1 ≤ t ∧ t ≤ 7)
set_option maxRecDepth 100000 in
set_option maxHeartbeats 4000000 in
theorem isReply_any (w : World) (t : Int) : Calls Try.prog 67 #[.int .u8 t] w fun e w' => e = .returned (.bool (rkB t)) ∧ w' = w := by
  go_enter Try.func67, Try.ntmps67
  go_wp2
  all_goals go_ret
  all_goals (refine ⟨?_, rfl⟩; simp [rkB]; try omega)
/-- May the number stand behind the others? -/
def folB (ns : List Int) (x : Int) : Bool := nbB x && (decide (ns.length = 0) || decide (ns.getD (ns.length - 1) 0 < x))
set_option maxRecDepth 100000 in
set_option maxHeartbeats 4000000 in
theorem follows_any (w : World) (v : Value) (ns : List Int) (h : I.HB w v ns) (x : Int) : Calls Try.prog 86 #[v, .int .i64 x] w fun e w' => e = .returned (.bool (folB ns x)) ∧ w' = w := by
  have C := hid (isNumber_any w x)
  have hF : Hid (folB ns x = (nbB x && (decide (ns.length = 0) || decide (ns.getD (ns.length - 1) 0 < x)))) := hid rfl
  obtain ⟨fb, HF⟩ : ∃ b, Hid (folB ns x = b) := ⟨_, hid rfl⟩
  rw [HF.out] at hF ⊢
  clear HF
  obtain ⟨nb, HN⟩ : ∃ b, Hid (nbB x = b) := ⟨_, hid rfl⟩
  rw [HN.out] at C hF
  by_cases h0 : 0 < ns.length
  · obtain ⟨b, off, c, rfl, h1, h2, hh⟩ := h.ne h0
    have hl := hh (ns.length - 1) (by omega)
    have hle : ns.length ≤ 9223372036854775807 := by unfold maxLen at h2; omega
    have hlI : 0 < (ns.length : Int) := by omega
    have hne : ((ns.length : Int) == 0) = false := beq_eq_false_iff_ne.2 (by omega)
    have hw : IntKind.i64.wrap ((ns.length : Int) - 1) = ((ns.length - 1 : Nat) : Int) := by rw [IntKind.wrap_i64]; omega
    have hlt2 : ns.length - 1 < ns.length := by omega
    rw [show (decide (ns.length = 0)) = false from decide_eq_false (by omega)] at hF
    generalize ns.getD (ns.length - 1) 0 = y at hl hF
    clear hh h
    cases nb <;> (
      go_enter Try.func86, Try.ntmps86
      go_wp2_with fail
      refine C.out.mono ?_
      rintro e w' ⟨rfl, hw'⟩
      subst hw'
      go_wp2_with fail
      go_ret
      exact ⟨by rw [hF.out]; simp, rfl⟩)
  · obtain ⟨p, c, rfl, h1, h2⟩ := h.open
    have h00 : ns.length = 0 := by omega
    rw [h00] at hF ⊢
    clear h
    cases nb <;> (
      go_enter Try.func86, Try.ntmps86
      go_wp2_with fail
      refine C.out.mono ?_
      rintro e w' ⟨rfl, hw'⟩
      subst hw'
      go_wp2_with fail
      go_ret
      exact ⟨by rw [hF.out]; simp, rfl⟩)
/-- What the reader of a reply has come to. -/
structure PS where
  f : Bool
  l : List Int
  k : Int
  ns : List Int
  many : Int
  sz : Int
def prL (g n : Nat) (k : Int) (vn vb : Value) (many sz : Int) : List Value := [.pointer (some ⟨g, 0, none⟩), .int .i64 (n : Int), .int .u8 k, vn, vb, .int .i64 many, .int .i64 sz]
abbrev TP : TypeId := 90
theorem TP_ok : TOk TP := ⟨by decide, by decide⟩
def OkP (s : PS) : Prop := (0 ≤ s.many ∧ s.many < 256) ∧ (0 ≤ s.sz ∧ s.sz < 4294967296) ∧ ∀ x ∈ s.ns, 0 ≤ x ∧ x < 256
/-- The numbers lie in a row of their own, from block B on. -/
def PR (B : Nat) (w : World) (R g n : Nat) (s : PS) : Prop := ∃ vn, BR w R g TP (prL g n s.k vn (.slice none 0 0) s.many s.sz) s.f s.l ∧ w.ownsRow B 3 1 vn s.ns.length (s.ns.map (Value.int .i64)) ∧ OkP s ∧ R < B ∧ g < B ∧ (s.ns = [] → vn = .slice none 0 0)
def SB (R g B : Nat) : Nat → Prop := fun k => k = R ∨ k = g ∨ B ≤ k
theorem own_ex {w w' : World} {B : Nat} {e : TypeId} {v : Value} {n : Nat} {xs : List Value} {S : Nat → Prop} (h : w.ownsRow B e 1 v n xs) (hE : Ex S w w') (hS : ∀ k, B ≤ k → k < w.heap.size → ¬ S k) : w'.ownsRow B e 1 v n xs := by
  refine ⟨h.1, h.2.elim .inl fun ⟨gg, cap, cur, z1, z2, z3, z4⟩ => .inr ⟨gg, cap, cur, z1, z2, ?_, z4⟩⟩
  have hlt := (Array.getElem?_eq_some_iff.1 z3).1
  rw [hE.block gg hlt (hS gg z2 hlt)]
  exact z3
theorem own_slice {w : World} {B : Nat} {e : TypeId} {v : Value} {n : Nat} {xs : List Value} (h : w.ownsRow B e 1 v n xs) : ∃ p c, v = .slice p n c := by
  rcases h.2 with ⟨e1, e2⟩ | ⟨gg, cap, cur, e1, _⟩
  · exact ⟨none, 0, by rw [e1, e2]⟩
  · exact ⟨_, _, e1⟩
/-- kind -/
def kindP (s : PS) : PS × Bool := ({ s with f := s.f || !okTake s.l 1, l := leftAt s.l 1, k := ((smallNo 1 (taken s.l 1) : Nat) : Int) }, rkB ((smallNo 1 (taken s.l 1) : Nat) : Int))
set_option maxRecDepth 100000 in
set_option maxHeartbeats 4000000 in
theorem kindP_any (B : Nat) (w : World) (R g n : Nat) (s : PS) (h : PR B w R g n s) :
    Calls Try.prog 68 #[.pointer (some ⟨R, 0, none⟩)] w fun e w' => e = .returned (.bool (kindP s).2) ∧ PR B w' R g n (kindP s).1 ∧ Ex (RG R g) w w' := by
  obtain ⟨f, l, k, ns, many, sz⟩ := s
  obtain ⟨vn, hB, hown, hok, hRB, hgB, hnil⟩ := h
  simp only at hB hown hnil
  have hx := valL_le 1 (taken l 1) (taken_byt hB.rd.byt 1)
  simp only [kindP]
  have c0 : w.cell? ⟨R, 0, none⟩ = some (.pointer (some ⟨g, 0, none⟩)) := hB.cell rfl
  have C1 := hid (byte_any w g f l hB.rd)
  generalize hX : smallNo 1 (taken l 1) = x at hx C1 ⊢
  clear hX
  obtain ⟨y, HY⟩ : ∃ y : Int, Hid ((x : Int) = y) := ⟨_, hid rfl⟩
  have QE : Hid ((prL g n k vn (.slice none 0 0) many sz).set 2 (Value.int .u8 y) = prL g n y vn (.slice none 0 0) many sz) := hid rfl
  have HB := hid hB
  have HO := hid hok
  have HW := hid hown
  have HRB := hid (And.intro hRB hgB)
  have HNL := hid hnil
  clear hB hok hown hRB hgB hnil
  go_enter Try.func68, Try.ntmps68
  go_wp2_with fail
  refine C1.out.mono ?_
  rintro e w1 ⟨rfl, hr, hg⟩
  have B1 := HB.out.still TP_ok hg hr
  have c1 : w1.cell? ⟨R, 2, none⟩ = some ((prL g n k vn (.slice none 0 0) many sz)[2]'(by simp [prL])) := B1.cell (List.getElem?_eq_getElem _)
  generalize (prL g n k vn (.slice none 0 0) many sz)[2]'_ = u1 at c1
  have f1 := B1.free 2
  have hwr : (x : Int) = y := HY.out
  obtain ⟨P1, P2⟩ := HB.out.put TP_ok hg hr 2 (Value.int .u8 y)
  rw [QE.out] at P1
  have HP1 := hid P1
  have HP2 := hid P2
  have HOW : Hid ((w1.setCell ⟨R, 2, none⟩ (Value.int .u8 y)).ownsRow B 3 1 vn ns.length (ns.map (Value.int .i64))) := hid (own_ex HW.out P2 (fun k hk _ => by have := HRB.out; rintro (e | e) <;> omega))
  clear P1 P2 B1 hr hg C1 HB QE
  rw [hwr]
  clear hwr
  have C2 := hid (isReply_any (w1.setCell ⟨R, 2, none⟩ (Value.int .u8 y)) y)
  go_wp2_with (first | rw [hwr] | fail)
  refine C2.out.mono ?_
  rintro e w2 ⟨rfl, hw2⟩
  have hw3 := hw2.symm
  subst hw3
  clear hw2 C2
  go_wp2_with fail
  go_ret
  rw [HY.out]
  have h0y : 0 ≤ y := by have := HY.out; omega
  refine ⟨rfl, ⟨vn, HP1.out, HOW.out, ?_, HRB.out.1, HRB.out.2, HNL.out⟩, HP2.out⟩
  exact HO.out
/-- numbers -/
def numbersP (s : PS) : PS × Bool := ({ s with f := s.f || !okTake s.l 1, l := leftAt s.l 1, many := ((smallNo 1 (taken s.l 1) : Nat) : Int) }, true)
set_option maxRecDepth 100000 in
set_option maxHeartbeats 4000000 in
theorem numbersP_any (B : Nat) (w : World) (R g n : Nat) (s : PS) (h : PR B w R g n s) :
    Calls Try.prog 87 #[.pointer (some ⟨R, 0, none⟩)] w fun e w' => e = .returned (.bool (numbersP s).2) ∧ PR B w' R g n (numbersP s).1 ∧ Ex (RG R g) w w' := by
  obtain ⟨f, l, k, ns, many, sz⟩ := s
  obtain ⟨vn, hB, hown, hok, hRB, hgB, hnil⟩ := h
  simp only at hB hown hnil
  have hx := valL_le 1 (taken l 1) (taken_byt hB.rd.byt 1)
  simp only [numbersP]
  have c0 : w.cell? ⟨R, 0, none⟩ = some (.pointer (some ⟨g, 0, none⟩)) := hB.cell rfl
  have C1 := hid (byte_any w g f l hB.rd)
  generalize hX : smallNo 1 (taken l 1) = x at hx C1 ⊢
  clear hX
  obtain ⟨y, HY⟩ : ∃ y : Int, Hid ((x : Int) = y) := ⟨_, hid rfl⟩
  have QE : Hid ((prL g n k vn (.slice none 0 0) many sz).set 5 (Value.int .i64 y) = prL g n k vn (.slice none 0 0) y sz) := hid rfl
  have HB := hid hB
  have HO := hid hok
  have HW := hid hown
  have HRB := hid (And.intro hRB hgB)
  have HNL := hid hnil
  clear hB hok hown hRB hgB hnil
  go_enter Try.func87, Try.ntmps87
  go_wp2_with fail
  refine C1.out.mono ?_
  rintro e w1 ⟨rfl, hr, hg⟩
  have B1 := HB.out.still TP_ok hg hr
  have c1 : w1.cell? ⟨R, 5, none⟩ = some ((prL g n k vn (.slice none 0 0) many sz)[5]'(by simp [prL])) := B1.cell (List.getElem?_eq_getElem _)
  generalize (prL g n k vn (.slice none 0 0) many sz)[5]'_ = u1 at c1
  have f1 := B1.free 5
  have hwr : IntKind.i64.wrap (x : Int) = y := by rw [← HY.out]; rw [IntKind.wrap_i64]; have := hx; simp at this; omega
  obtain ⟨P1, P2⟩ := HB.out.put TP_ok hg hr 5 (Value.int .i64 y)
  rw [QE.out] at P1
  have HP1 := hid P1
  have HP2 := hid P2
  have HOW : Hid ((w1.setCell ⟨R, 5, none⟩ (Value.int .i64 y)).ownsRow B 3 1 vn ns.length (ns.map (Value.int .i64))) := hid (own_ex HW.out P2 (fun k hk _ => by have := HRB.out; rintro (e | e) <;> omega))
  clear P1 P2 B1 hr hg C1 HB QE
  go_wp2_with fail
  go_ret
  rw [HY.out]
  have h0y : 0 ≤ y := by have := HY.out; omega
  refine ⟨rfl, ⟨vn, HP1.out, HOW.out, ?_, HRB.out.1, HRB.out.2, HNL.out⟩, HP2.out⟩
  exact ⟨⟨h0y, by have := HY.out; simp at hx; show y < _; omega⟩, HO.out.2⟩
/-- bytes -/
def bytesP (s : PS) : PS × Bool := ({ s with f := s.f || !okTake s.l 4, l := leftAt s.l 4, sz := ((smallNo 4 (taken s.l 4) : Nat) : Int) }, flB ((smallNo 4 (taken s.l 4) : Nat) : Int))
set_option maxRecDepth 100000 in
set_option maxHeartbeats 4000000 in
theorem bytesP_any (B : Nat) (w : World) (R g n : Nat) (s : PS) (h : PR B w R g n s) :
    Calls Try.prog 88 #[.pointer (some ⟨R, 0, none⟩)] w fun e w' => e = .returned (.bool (bytesP s).2) ∧ PR B w' R g n (bytesP s).1 ∧ Ex (RG R g) w w' := by
  obtain ⟨f, l, k, ns, many, sz⟩ := s
  obtain ⟨vn, hB, hown, hok, hRB, hgB, hnil⟩ := h
  simp only at hB hown hnil
  have hx := valL_le 4 (taken l 4) (taken_byt hB.rd.byt 4)
  simp only [bytesP]
  have c0 : w.cell? ⟨R, 0, none⟩ = some (.pointer (some ⟨g, 0, none⟩)) := hB.cell rfl
  have C1 := hid (word_any w g f l hB.rd)
  generalize hX : smallNo 4 (taken l 4) = x at hx C1 ⊢
  clear hX
  obtain ⟨y, HY⟩ : ∃ y : Int, Hid ((x : Int) = y) := ⟨_, hid rfl⟩
  have QE : Hid ((prL g n k vn (.slice none 0 0) many sz).set 6 (Value.int .i64 y) = prL g n k vn (.slice none 0 0) many y) := hid rfl
  have HB := hid hB
  have HO := hid hok
  have HW := hid hown
  have HRB := hid (And.intro hRB hgB)
  have HNL := hid hnil
  clear hB hok hown hRB hgB hnil
  go_enter Try.func88, Try.ntmps88
  go_wp2_with fail
  refine C1.out.mono ?_
  rintro e w1 ⟨rfl, hr, hg⟩
  have B1 := HB.out.still TP_ok hg hr
  have c1 : w1.cell? ⟨R, 6, none⟩ = some ((prL g n k vn (.slice none 0 0) many sz)[6]'(by simp [prL])) := B1.cell (List.getElem?_eq_getElem _)
  generalize (prL g n k vn (.slice none 0 0) many sz)[6]'_ = u1 at c1
  have f1 := B1.free 6
  have hwr : IntKind.i64.wrap (x : Int) = y := by rw [← HY.out]; rw [IntKind.wrap_i64]; have := hx; simp at this; omega
  obtain ⟨P1, P2⟩ := HB.out.put TP_ok hg hr 6 (Value.int .i64 y)
  rw [QE.out] at P1
  have HP1 := hid P1
  have HP2 := hid P2
  have HOW : Hid ((w1.setCell ⟨R, 6, none⟩ (Value.int .i64 y)).ownsRow B 3 1 vn ns.length (ns.map (Value.int .i64))) := hid (own_ex HW.out P2 (fun k hk _ => by have := HRB.out; rintro (e | e) <;> omega))
  clear P1 P2 B1 hr hg C1 HB QE
  have C2 := hid (isFetchLen_any (w1.setCell ⟨R, 6, none⟩ (Value.int .i64 y)) y)
  go_wp2_with (first | rw [hwr] | fail)
  refine C2.out.mono ?_
  rintro e w2 ⟨rfl, hw2⟩
  have hw3 := hw2.symm
  subst hw3
  clear hw2 C2
  go_wp2_with fail
  go_ret
  rw [HY.out]
  have h0y : 0 ≤ y := by have := HY.out; omega
  refine ⟨rfl, ⟨vn, HP1.out, HOW.out, ?_, HRB.out.1, HRB.out.2, HNL.out⟩, HP2.out⟩
  exact ⟨HO.out.1, ⟨h0y, by have := HY.out; simp at hx; show y < _; omega⟩, HO.out.2.2⟩
/-- A number more. -/
def numberP (s : PS) : PS × Bool := ({ s with f := s.f || !okTake s.l 1, l := leftAt s.l 1, ns := s.ns ++ [((smallNo 1 (taken s.l 1) : Nat) : Int)] }, folB s.ns ((smallNo 1 (taken s.l 1) : Nat) : Int))
set_option maxRecDepth 100000 in
set_option maxHeartbeats 4000000 in
theorem numberP_any (B : Nat) (w : World) (R g n : Nat) (s : PS) (h : PR B w R g n s) (hm : s.ns.length ≤ 1000) (hBw : B ≤ w.heap.size + 1) :
    Calls Try.prog 72 #[.pointer (some ⟨R, 0, none⟩)] w fun e w' => e = .returned (.bool (numberP s).2) ∧ PR B w' R g n (numberP s).1 ∧ Ex (SB R g B) w w' := by
  obtain ⟨f, l, k, ns, many, sz⟩ := s
  obtain ⟨vn, hB, hown, hok, hRB, hgB, hnil⟩ := h
  simp only at hB hown hm
  have hx := valL_le 1 (taken l 1) (taken_byt hB.rd.byt 1)
  simp only [numberP]
  have c0 : w.cell? ⟨R, 0, none⟩ = some (.pointer (some ⟨g, 0, none⟩)) := hB.cell rfl
  have C1 := hid (byte_any w g f l hB.rd)
  generalize hX : smallNo 1 (taken l 1) = x at hx C1 ⊢
  clear hX
  obtain ⟨y, HY⟩ : ∃ y : Int, Hid ((x : Int) = y) := ⟨_, hid rfl⟩
  have hyb : Hid (0 ≤ y ∧ y < 256) := hid (by have := HY.out; simp at hx; omega)
  have HB := hid hB
  have HO := hid hok
  have HW := hid hown
  have HRB := hid (And.intro hRB hgB)
  have HOn : Hid (∀ x ∈ ns, -9223372036854775808 ≤ x ∧ x < 9223372036854775808) := hid (fun x hx => by have := hok.2.2 x hx; omega)
  obtain ⟨pn, cn, hvn⟩ := own_slice hown
  clear hB hok hown hRB hgB hnil
  go_enter Try.func72, Try.ntmps72
  go_wp2_with fail
  refine C1.out.mono ?_
  rintro e w1 ⟨rfl, hr, hg⟩
  have b1 := HB.out.still TP_ok hg hr
  have hE1 : Ex (RG R g) w w1 := Ex.grown hg (fun k e => .inr (by simpa using e.symm))
  have o1 : w1.ownsRow B 3 1 vn ns.length (ns.map (Value.int .i64)) := own_ex HW.out hE1 (fun k hk _ => by have := HRB.out; rintro (e | e) <;> omega)
  have CF := hid (follows_any w1 vn ns (I.HB.of_own o1 HOn.out) y)
  have c3 : w1.cell? ⟨R, 3, none⟩ = some vn := b1.cell rfl
  have hwr : IntKind.i64.wrap (x : Int) = y := by rw [← HY.out]; rw [IntKind.wrap_i64]; have := hx; simp at this; omega
  have c0' : w1.cell? ⟨R, 0, none⟩ = some (.pointer (some ⟨g, 0, none⟩)) := b1.cell rfl
  obtain ⟨fb, HFB⟩ : ∃ b, Hid (folB ns y = b) := ⟨_, hid rfl⟩
  rw [HFB.out] at CF
  obtain ⟨W2, HW2⟩ : ∃ W : World, Hid (w1.alloc (.cells #[.int .i64 y] 3) = W) := ⟨_, hid rfl⟩
  have B2 : Hid (Below w1.heap.size w1 W2) := by rw [← HW2.out]; exact hid ((Below.refl _ w1).alloc (Nat.le_refl _) _)
  have O2 : Hid (W2.ownsRow B 3 1 vn ns.length (ns.map (Value.int .i64))) := hid (own_ex o1 (Ex.of_below (S := fun _ => False) B2.out) (fun _ _ _ e => e))
  have L2 : Hid (W2.cell? ⟨w1.heap.size, 0, none⟩ = some (.int .i64 y)) := hid (by
    have : W2.heap[w1.heap.size]? = some (.cells #[.int .i64 y] 3 (0, 0)) := by rw [← HW2.out]; exact heap_alloc_new w1 _
    simp [World.cell?, this])
  have b2 := b1.below B2.out
  have c3' : W2.cell? ⟨R, 3, none⟩ = some vn := b2.cell rfl
  have HB2 := hid b2
  have HE1 := hid hE1
  have HS1 : Hid (B ≤ W2.heap.size) := hid (by rw [show W2.heap.size = w1.heap.size + 1 by rw [← HW2.out]; simp]; have := hE1.size; omega)
  subst hvn
  clear hr hg b1 b2 hE1 o1 C1 HB
  go_wp2_with (first | rw [hwr] | fail)
  refine CF.out.mono ?_
  rintro e w1' ⟨rfl, hw1'⟩
  subst hw1'
  go_wp2_with (first | rw [HW2.out] | (at_builtin; refine I.wpList_append_byte rfl _ _ rfl B _ _ _ rfl O2.out _ _ _ rfl L2.out (by omega) HS1.out ?_) | fail)
  intro v3 w3 ho3 hg3 _
  have hown2 : ∀ k, (Value.slice pn ns.length cn).ownBlock = some k → B ≤ k ∧ ∃ cur, W2.heap[k]? = some (.cells cur 3 (0, 0)) := fun k e => by
    rcases O2.out.2 with ⟨e1, e2⟩ | ⟨gg, cap, cur, e1, e2, e3, _⟩
    · rw [e1] at e; cases e
    · rw [e1] at e
      simp only [Value.ownBlock, Option.some.injEq] at e
      subst e
      exact ⟨e2, cur, e3⟩
  have hE3 : Ex (fun k => (Value.slice pn ns.length cn).ownBlock = some k) W2 w3 := Ex.grown hg3 (fun k e => e)
  have b3 : BR w3 R g TP (prL g n k (.slice pn ns.length cn) (.slice none 0 0) many sz) (f || !okTake l 1) (leftAt l 1) := ⟨(hE3.block R (Array.getElem?_eq_some_iff.1 HB2.out.blk).1 (fun e => by have := (hown2 R e).1; have := HRB.out; omega)).trans HB2.out.blk, HB2.out.rd.ex hE3 (fun e => by have := (hown2 g e).1; have := HRB.out; omega) (fun k e _ => by obtain ⟨_, cur, hc⟩ := hown2 k e; exact ⟨_, _, _, hc, by decide⟩)⟩
  have c4 : w3.cell? ⟨R, 3, none⟩ = some (.slice pn ns.length cn) := b3.cell rfl
  have f4 := b3.free 3
  obtain ⟨p3, c3s, hv3⟩ := own_slice ho3
  obtain ⟨P1, P2⟩ := b3.put (f' := f || !okTake l 1) (l' := leftAt l 1) TP_ok (w1 := w3) ⟨rfl, rfl, rfl, Nat.le_refl _, fun _ _ _ => rfl⟩ b3.rd 3 v3
  have HP1 := hid P1
  have QE : Hid ((prL g n k (.slice pn ns.length cn) (.slice none 0 0) many sz).set 3 v3 = prL g n k v3 (.slice none 0 0) many sz) := hid rfl
  rw [QE.out] at HP1
  have E5 : Hid (Ex (SB R g B) w (w3.setCell ⟨R, 3, none⟩ v3)) := hid (((HE1.out.mono (S' := SB R g B) (fun k e => e.elim .inl (fun e => .inr (.inl e)))).trans (Ex.of_below (S := SB R g B) B2.out) (fun _ e => .inl e)).trans ((hE3.mono (S' := SB R g B) (fun k e => .inr (.inr (hown2 k e).1))).trans (P2.mono (S' := SB R g B) (fun k e => e.elim .inl (fun e => .inr (.inl e)))) (fun _ e => .inl e)) (fun _ e => .inl e))
  have HOW : Hid ((w3.setCell ⟨R, 3, none⟩ v3).ownsRow B 3 1 v3 (ns ++ [y]).length ((ns ++ [y]).map (Value.int .i64))) := hid (own_ex (by rw [List.length_append, List.map_append]; exact ho3) P2 (fun k hk _ => by have := HRB.out; rintro (e | e) <;> omega))
  clear P1 P2 QE b3 hE3 hown2 hg3 ho3 CF
  subst hv3
  go_wp2_with fail
  go_ret
  rw [HY.out, HFB.out]
  refine ⟨rfl, ⟨_, HP1.out, HOW.out, ⟨HO.out.1, HO.out.2.1, fun z hz => ?_⟩, HRB.out.1, HRB.out.2, fun e => absurd e (by simp)⟩, E5.out⟩
  rcases List.mem_append.1 hz with hz | hz
  · exact HO.out.2.2 z hz
  · obtain rfl : z = y := by simpa using hz
    exact hyb.out
end Go.Proofs.Ytmegeogfpkdodaa
