/- base.Unescape, walked. -/
import Derived.Test.YtmfamecadomipaaDoorBsEsc
import Derived.Test.YtmfamecadomipaaDoorBsIdx2
import Derived.OwnWalk
import Derived.Test.YtmfamecadomipaaDoorBsShelf
import Derived.ScopeJumps
import Derived.WalkMore
set_option linter.unusedSimpArgs false
set_option linter.unusedVariables false
namespace Go.Proofs.YtmfamecadomipaaDoor
open Go Go.RowKit

theorem hexidx_any (w : World) (c : Int) (hc : 0 ≤ c ∧ c < 256) : Calls Tryd.prog 26 #[.string ⟨#[48, 49, 50, 51, 52, 53, 54, 55, 56, 57, 97, 98, 99, 100, 101, 102]⟩, .int .u8 c] w fun e w' => e = .returned (.int .i64 (hx c)) ∧ w' = w := by
  obtain ⟨n, rfl⟩ := Int.eq_ofNat_of_zero_le hc.1
  have := Tryd.strings_IndexByte ⟨#[48, 49, 50, 51, 52, 53, 54, 55, 56, 57, 97, 98, 99, 100, 101, 102]⟩ n w
  have e := index_hx n (by omega)
  rw [show (ByteArray.mk #[48, 49, 50, 51, 52, 53, 54, 55, 56, 57, 97, 98, 99, 100, 101, 102]).data.toList = [48, 49, 50, 51, 52, 53, 54, 55, 56, 57, 97, 98, 99, 100, 101, 102] from rfl, e] at this
  exact this
/-- What holds at the jump. -/
def UnJ (w : World) (l : List Int) (a : Act) (w' : World) : Prop := ∃ (At : Int), a.tmps.size = 77 ∧ a.tmps.getD 7 undef = .int .i64 At ∧ a.defers = [] ∧ unA l = ([], At, 103) ∧ Below w.heap.size w w'
theorem list_cons {α : Type} {n : Nat} {l : List α} (h : l.length = n + 1) : ∃ x r, l = x :: r ∧ r.length = n := by
  cases l with
  | nil => simp at h
  | cons x r => exact ⟨x, r, rfl, by simpa using h⟩
theorem arr77 {a : Array Value} (h : a.size = 77) : ∃ x0 x1 x2 x3 x4 x5 x6 x7 x8 x9 x10 x11 x12 x13 x14 x15 x16 x17 x18 x19 x20 x21 x22 x23 x24 x25 x26 x27 x28 x29 x30 x31 x32 x33 x34 x35 x36 x37 x38 x39 x40 x41 x42 x43 x44 x45 x46 x47 x48 x49 x50 x51 x52 x53 x54 x55 x56 x57 x58 x59 x60 x61 x62 x63 x64 x65 x66 x67 x68 x69 x70 x71 x72 x73 x74 x75 x76, a = #[x0, x1, x2, x3, x4, x5, x6, x7, x8, x9, x10, x11, x12, x13, x14, x15, x16, x17, x18, x19, x20, x21, x22, x23, x24, x25, x26, x27, x28, x29, x30, x31, x32, x33, x34, x35, x36, x37, x38, x39, x40, x41, x42, x43, x44, x45, x46, x47, x48, x49, x50, x51, x52, x53, x54, x55, x56, x57, x58, x59, x60, x61, x62, x63, x64, x65, x66, x67, x68, x69, x70, x71, x72, x73, x74, x75, x76] := by
  obtain ⟨l⟩ := a
  have h0 : l.length = 77 := h
  obtain ⟨x0, l0, rfl, h1⟩ := list_cons (n := 76) (l := l) h0
  obtain ⟨x1, l1, rfl, h2⟩ := list_cons (n := 75) (l := l0) h1
  obtain ⟨x2, l2, rfl, h3⟩ := list_cons (n := 74) (l := l1) h2
  obtain ⟨x3, l3, rfl, h4⟩ := list_cons (n := 73) (l := l2) h3
  obtain ⟨x4, l4, rfl, h5⟩ := list_cons (n := 72) (l := l3) h4
  obtain ⟨x5, l5, rfl, h6⟩ := list_cons (n := 71) (l := l4) h5
  obtain ⟨x6, l6, rfl, h7⟩ := list_cons (n := 70) (l := l5) h6
  obtain ⟨x7, l7, rfl, h8⟩ := list_cons (n := 69) (l := l6) h7
  obtain ⟨x8, l8, rfl, h9⟩ := list_cons (n := 68) (l := l7) h8
  obtain ⟨x9, l9, rfl, h10⟩ := list_cons (n := 67) (l := l8) h9
  obtain ⟨x10, l10, rfl, h11⟩ := list_cons (n := 66) (l := l9) h10
  obtain ⟨x11, l11, rfl, h12⟩ := list_cons (n := 65) (l := l10) h11
  obtain ⟨x12, l12, rfl, h13⟩ := list_cons (n := 64) (l := l11) h12
  obtain ⟨x13, l13, rfl, h14⟩ := list_cons (n := 63) (l := l12) h13
  obtain ⟨x14, l14, rfl, h15⟩ := list_cons (n := 62) (l := l13) h14
  obtain ⟨x15, l15, rfl, h16⟩ := list_cons (n := 61) (l := l14) h15
  obtain ⟨x16, l16, rfl, h17⟩ := list_cons (n := 60) (l := l15) h16
  obtain ⟨x17, l17, rfl, h18⟩ := list_cons (n := 59) (l := l16) h17
  obtain ⟨x18, l18, rfl, h19⟩ := list_cons (n := 58) (l := l17) h18
  obtain ⟨x19, l19, rfl, h20⟩ := list_cons (n := 57) (l := l18) h19
  obtain ⟨x20, l20, rfl, h21⟩ := list_cons (n := 56) (l := l19) h20
  obtain ⟨x21, l21, rfl, h22⟩ := list_cons (n := 55) (l := l20) h21
  obtain ⟨x22, l22, rfl, h23⟩ := list_cons (n := 54) (l := l21) h22
  obtain ⟨x23, l23, rfl, h24⟩ := list_cons (n := 53) (l := l22) h23
  obtain ⟨x24, l24, rfl, h25⟩ := list_cons (n := 52) (l := l23) h24
  obtain ⟨x25, l25, rfl, h26⟩ := list_cons (n := 51) (l := l24) h25
  obtain ⟨x26, l26, rfl, h27⟩ := list_cons (n := 50) (l := l25) h26
  obtain ⟨x27, l27, rfl, h28⟩ := list_cons (n := 49) (l := l26) h27
  obtain ⟨x28, l28, rfl, h29⟩ := list_cons (n := 48) (l := l27) h28
  obtain ⟨x29, l29, rfl, h30⟩ := list_cons (n := 47) (l := l28) h29
  obtain ⟨x30, l30, rfl, h31⟩ := list_cons (n := 46) (l := l29) h30
  obtain ⟨x31, l31, rfl, h32⟩ := list_cons (n := 45) (l := l30) h31
  obtain ⟨x32, l32, rfl, h33⟩ := list_cons (n := 44) (l := l31) h32
  obtain ⟨x33, l33, rfl, h34⟩ := list_cons (n := 43) (l := l32) h33
  obtain ⟨x34, l34, rfl, h35⟩ := list_cons (n := 42) (l := l33) h34
  obtain ⟨x35, l35, rfl, h36⟩ := list_cons (n := 41) (l := l34) h35
  obtain ⟨x36, l36, rfl, h37⟩ := list_cons (n := 40) (l := l35) h36
  obtain ⟨x37, l37, rfl, h38⟩ := list_cons (n := 39) (l := l36) h37
  obtain ⟨x38, l38, rfl, h39⟩ := list_cons (n := 38) (l := l37) h38
  obtain ⟨x39, l39, rfl, h40⟩ := list_cons (n := 37) (l := l38) h39
  obtain ⟨x40, l40, rfl, h41⟩ := list_cons (n := 36) (l := l39) h40
  obtain ⟨x41, l41, rfl, h42⟩ := list_cons (n := 35) (l := l40) h41
  obtain ⟨x42, l42, rfl, h43⟩ := list_cons (n := 34) (l := l41) h42
  obtain ⟨x43, l43, rfl, h44⟩ := list_cons (n := 33) (l := l42) h43
  obtain ⟨x44, l44, rfl, h45⟩ := list_cons (n := 32) (l := l43) h44
  obtain ⟨x45, l45, rfl, h46⟩ := list_cons (n := 31) (l := l44) h45
  obtain ⟨x46, l46, rfl, h47⟩ := list_cons (n := 30) (l := l45) h46
  obtain ⟨x47, l47, rfl, h48⟩ := list_cons (n := 29) (l := l46) h47
  obtain ⟨x48, l48, rfl, h49⟩ := list_cons (n := 28) (l := l47) h48
  obtain ⟨x49, l49, rfl, h50⟩ := list_cons (n := 27) (l := l48) h49
  obtain ⟨x50, l50, rfl, h51⟩ := list_cons (n := 26) (l := l49) h50
  obtain ⟨x51, l51, rfl, h52⟩ := list_cons (n := 25) (l := l50) h51
  obtain ⟨x52, l52, rfl, h53⟩ := list_cons (n := 24) (l := l51) h52
  obtain ⟨x53, l53, rfl, h54⟩ := list_cons (n := 23) (l := l52) h53
  obtain ⟨x54, l54, rfl, h55⟩ := list_cons (n := 22) (l := l53) h54
  obtain ⟨x55, l55, rfl, h56⟩ := list_cons (n := 21) (l := l54) h55
  obtain ⟨x56, l56, rfl, h57⟩ := list_cons (n := 20) (l := l55) h56
  obtain ⟨x57, l57, rfl, h58⟩ := list_cons (n := 19) (l := l56) h57
  obtain ⟨x58, l58, rfl, h59⟩ := list_cons (n := 18) (l := l57) h58
  obtain ⟨x59, l59, rfl, h60⟩ := list_cons (n := 17) (l := l58) h59
  obtain ⟨x60, l60, rfl, h61⟩ := list_cons (n := 16) (l := l59) h60
  obtain ⟨x61, l61, rfl, h62⟩ := list_cons (n := 15) (l := l60) h61
  obtain ⟨x62, l62, rfl, h63⟩ := list_cons (n := 14) (l := l61) h62
  obtain ⟨x63, l63, rfl, h64⟩ := list_cons (n := 13) (l := l62) h63
  obtain ⟨x64, l64, rfl, h65⟩ := list_cons (n := 12) (l := l63) h64
  obtain ⟨x65, l65, rfl, h66⟩ := list_cons (n := 11) (l := l64) h65
  obtain ⟨x66, l66, rfl, h67⟩ := list_cons (n := 10) (l := l65) h66
  obtain ⟨x67, l67, rfl, h68⟩ := list_cons (n := 9) (l := l66) h67
  obtain ⟨x68, l68, rfl, h69⟩ := list_cons (n := 8) (l := l67) h68
  obtain ⟨x69, l69, rfl, h70⟩ := list_cons (n := 7) (l := l68) h69
  obtain ⟨x70, l70, rfl, h71⟩ := list_cons (n := 6) (l := l69) h70
  obtain ⟨x71, l71, rfl, h72⟩ := list_cons (n := 5) (l := l70) h71
  obtain ⟨x72, l72, rfl, h73⟩ := list_cons (n := 4) (l := l71) h72
  obtain ⟨x73, l73, rfl, h74⟩ := list_cons (n := 3) (l := l72) h73
  obtain ⟨x74, l74, rfl, h75⟩ := list_cons (n := 2) (l := l73) h74
  obtain ⟨x75, l75, rfl, h76⟩ := list_cons (n := 1) (l := l74) h75
  obtain ⟨x76, l76, rfl, h77⟩ := list_cons (n := 0) (l := l75) h76
  obtain rfl := List.length_eq_zero_iff.1 h77
  exact ⟨x0, x1, x2, x3, x4, x5, x6, x7, x8, x9, x10, x11, x12, x13, x14, x15, x16, x17, x18, x19, x20, x21, x22, x23, x24, x25, x26, x27, x28, x29, x30, x31, x32, x33, x34, x35, x36, x37, x38, x39, x40, x41, x42, x43, x44, x45, x46, x47, x48, x49, x50, x51, x52, x53, x54, x55, x56, x57, x58, x59, x60, x61, x62, x63, x64, x65, x66, x67, x68, x69, x70, x71, x72, x73, x74, x75, x76, rfl⟩
theorem or4 (x y : Int) (hx : 0 ≤ x ∧ x < 16) (hy : 0 ≤ y ∧ y < 16) : bits .or .u8 (x * 16) y = x * 16 + y := by
  obtain ⟨X, rfl⟩ := Int.eq_ofNat_of_zero_le hx.1
  obtain ⟨Y, rfl⟩ := Int.eq_ofNat_of_zero_le hy.1
  rw [u8_or _ _ (by omega) (by omega) (by omega) (by omega)]
  have e1 : ((X : Int) * 16).toNat = 2 ^ 4 * X := by omega
  have e2 : ((Y : Int)).toNat = Y := by omega
  rw [e1, e2, ← Nat.two_pow_add_eq_or_of_lt (by omega)]
  omega

set_option maxRecDepth 100000 in
set_option maxHeartbeats 16000000 in
theorem unescape_any (w : World) (s : ByteArray) (hs : s.size ≤ 140737488351232) :
    Calls Tryd.prog 17 #[.string s] w fun e w' => ∃ v', e = .returned (.tuple #[v', .int .i64 (unA (sB s)).2.1, .int .i64 (unA (sB s)).2.2]) ∧ w'.ownsRow w.heap.size 5 1 v' (unA (sB s)).1.length ((unA (sB s)).1.map (Value.int .u8)) ∧ Below w.heap.size w w' := by
  obtain ⟨i0, hi, hz0, hz1, hz2⟩ := info_parts info_u8
  have hby := sB_byt s
  have hq37 := eq_const s [37]
  have hq0 := eq_const s []
  have HI0 : Hid (∀ W i, i < s.size → (Instr.index 9 (.string s) (.int .i64 (i : Int))).run Tryd.prog W = .ok (.int .u8 ((sB s).getD i 0)) W) := hid fun W i h => idx_str W s i h
  have HI1 : Hid (∀ W i, i + 1 < s.size → (Instr.index 9 (.string s) (.int .i64 ((i : Int) + 1))).run Tryd.prog W = .ok (.int .u8 ((sB s).getD (i + 1) 0)) W) := hid fun W i h => idx_str1 W s i h
  have HI2 : Hid (∀ W i, i + 2 < s.size → (Instr.index 9 (.string s) (.int .i64 ((i : Int) + 1 + 1))).run Tryd.prog W = .ok (.int .u8 ((sB s).getD (i + 2) 0)) W) := hid fun W i h => by
    have := idx_str2 W s i h
    rwa [show (i : Int) + 2 = (i : Int) + 1 + 1 by omega] at this
  have hll : (sB s).length = s.size := sB_length s
  obtain ⟨l, Hl⟩ : ∃ l, Hid (sB s = l) := ⟨_, rfl⟩
  rw [Hl.out] at hby hll HI0 HI1 HI2 hq37 hq0
  rw [Hl.out]
  have HBY := hid hby
  have HLL := hid hll
  clear hby hll
  go_enter Tryd.func17, Tryd.ntmps17
  go_wp2
  refine wp_scope_jumps 0 (UnJ w l) (fun _ _ => 0) rfl ?_ ?_
  · by_cases h0 : l = []
    · have E : Hid (unA l = ([], 0, 103)) := by unfold unA; rw [if_pos h0]; exact rfl
      have hqe : s.toList = [] := by
        have : (s.toList == []) = true := by rw [hq0, h0]; rfl
        simpa using this
      clear hq37 hq0 h0
      go_wp2
      simp only [Exit.jump]
      go_ret3
      refine ⟨.slice none 0 0, by rw [E.out]; rfl, ?_, Below.refl _ _⟩
      rw [E.out]
      exact World.ownsRow_nil _ _ _ _
    have hqe : s.toList.isEmpty = false := by
      have : (s.toList == []) = false := by rw [hq0]; exact decide_eq_false h0
      cases hsl : s.toList with
      | nil => rw [hsl] at this; simp at this
      | cons a b => rfl
    by_cases h37 : l = [37]
    · have E : Hid (unA l = ([], 0, 0)) := by unfold unA; rw [if_neg (by rw [h37]; simp), if_pos h37]; exact rfl
      have hq : (s.toList == [37]) = true := by rw [hq37, h37]; rfl
      clear hq37 hq0 h37 h0
      go_wp2
      simp only [Exit.jump]
      go_ret3
      refine ⟨.slice none 0 0, by rw [E.out]; rfl, ?_, Below.refl _ _⟩
      rw [E.out]
      exact World.ownsRow_nil _ _ _ _
    have hq : (s.toList == [37]) = false := by rw [hq37]; exact decide_eq_false h37
    have UI := hid (UnI.start h0 h37)
    clear hq37 hq0 h37 h0
    obtain ⟨z, HZ⟩ : ∃ z, Hid (tab256 (fun _ => 0) = z) := ⟨_, rfl⟩
    have hz := zero_i256
    rw [HZ.out] at hz
    have HZ0 := hid hz
    clear hz
    have C := hid (kinds_any w)
    obtain ⟨m, Hm⟩ : ∃ m, Hid (tab256 kd = m) := ⟨_, rfl⟩
    rw [Hm.out] at C
    have hms : m.size = 256 := by rw [← Hm.out]; exact tab256_size _
    have HIm : Hid ((Tryd.prog.info? 55).map (·.size) = some m.size) := by rw [hms]; exact size_i256
    have H1m : Hid (m.all (·.oneCell') = true) := by rw [← Hm.out]; exact tab256_one _
    have HZM : Hid (z.size = m.size) := by rw [hms, ← HZ.out]; exact tab256_size _
    have HTK : Hid (∀ (W : World) (tb x : Nat), x < 256 → W.heap[tb]? = some (.cells m 55 (0, 0)) → W.cell? ⟨tb, x, none⟩ = some (.int .i64 (kd x))) := by
      refine hid fun W tb x hxl hT => ?_
      rw [cell_of_row W tb x _ _ _ hT, ← Hm.out]
      exact tab256_get kd x hxl
    clear hms
    go_wp2_with fail
    refine C.out.mono ?_
    rintro e w1 ⟨rfl, hB1⟩
    have B1 := hid hB1
    clear hB1 C
    obtain ⟨tb, Htb⟩ : ∃ tb, tb = w1.heap.size := ⟨_, rfl⟩
    have H0q : Hid ((w1.alloc (.cells z 55)).heap[tb]? = some (.cells z 55 (0, 0))) := by rw [Htb]; exact heap_alloc_new w1 _
    obtain ⟨w2, hw2⟩ : ∃ w2, Hid ((w1.alloc (.cells z 55)).setRow tb m = w2) := ⟨_, rfl⟩
    have HT2 : Hid (w2.heap[tb]? = some (.cells m 55 (0, 0))) := by rw [← hw2.out]; exact setRow_heap _ _ _ _ _ _ H0q.out
    have htb : w.heap.size ≤ tb := by rw [Htb]; exact B1.out.size
    have B2 : Hid (Below w.heap.size w w2) := by rw [← hw2.out]; exact below_setRow (B1.out.alloc B1.out.size _) htb m
    have hs2 : w2.heap.size = tb + 1 := by rw [← hw2.out, Htb]; simp [World.setRow]
    obtain ⟨w3, hmk, hown, hgr⟩ := run_make_own (P := Tryd.prog) w2 (tb + 1) 28 5 i0 (.int .u8 0) 1 Tryd.underlying28 hi hz0 hz1 .i64 .i64 s.size (by rw [hz2]; omega) (by unfold maxLen; omega) (by omega)
    have hmk2 : (Instr.makeSlice 28 (.int .i64 0) (.int .i64 (s.size : Int))).run Tryd.prog w2 = .ok (.slice (some ⟨w2.heap.size, 0, none⟩) 0 s.size) w3 := hmk
    clear hmk
    rw [hs2] at hmk2 hown
    have B3 : Hid (Below w.heap.size w w3) := B2.out.grown hgr (by omega) (fun k e => by cases e)
    have HT3 : Hid (w3.heap[tb]? = some (.cells m 55 (0, 0))) := (hgr.block tb (by omega) (by simp)).trans HT2.out
    have HO3 := hid hown
    have hs3 : tb + 1 ≤ w3.heap.size := by have := hgr.size; omega
    clear hown hgr B1
    subst Htb
    go_wp2_with (first | (refine wpList_alloc_agg HZ0.out rfl rfl ?_) | (refine wpList_store_row rfl 55 _ _ rfl _ m rfl rfl 55 _ H0q.out HIm.out HZM.out H1m.out ?_) | fail)
    rw [hw2.out]
    go_wp2
    rw [hmk2]
    go_wp2
    obtain ⟨tb, Htb⟩ : ∃ tb, w1.heap.size = tb := ⟨_, rfl⟩
    rw [Htb] at htb HT3 HO3 hs2 hs3
    rw [Htb]
    clear hmk2 HT2 B2 H0q hw2 HZM H1m HIm HZ0
    go_loopw [6, 7] (fun o i wr => ∃ I : Nat, ∃ A : List Int, I ≤ s.size + 2 ∧ A.length ≤ I ∧ i = .int .i64 (I : Int) ∧ Hid (UnI l I A) ∧ Hid (wr.ownsRow (tb + 1) 5 1 o A.length (A.map (Value.int .u8))) ∧ Hid (wr.heap[tb]? = some (.cells m 55 (0, 0))) ∧ Hid (Below w.heap.size w wr)) (fun _ i _ => s.size + 3 - (intOf i).toNat)
    case atStart => exact ⟨0, [], Nat.zero_le _, Nat.le_refl _, rfl, UI, HO3, HT3, B3⟩
    case round =>
      clear UI HO3 HT3 B3
      obtain ⟨I, A, hI, hAI, rfl, UI, HO, HT, B⟩ := hrel
      by_cases hlt : I < s.size
      · have hIl : I < l.length := by rw [HLL.out]; exact hlt
        have hsz := B.out.size
        have htbw : tb < wr.heap.size := (Array.getElem?_eq_some_iff.1 HT.out).1
        have q0 := fun W => HI0.out W I hlt
        obtain ⟨hc0, hc1⟩ := getD_byt HBY.out I
        obtain ⟨c, Hc⟩ : ∃ c : Nat, Hid (l.getD I 0 = (c : Int)) := ⟨(l.getD I 0).toNat, hid (by omega)⟩
        simp only [Hc.out] at q0
        rw [Hc.out] at hc0 hc1
        have qk := HTK.out wr tb c (by omega) HT.out
        have STEP := hid (UI.out.step hIl)
        have BAD := hid (UI.out.bad hIl)
        obtain ⟨pO, cO, eO⟩ := own_slc HO.out
        subst eO
        have APP : Hid (∀ (y : Int) v' w4, w4.ownsRow (tb + 1) 5 1 v' (A.length + 1) (A.map (Value.int .u8) ++ [.int .u8 y]) → (wr.alloc (.cells #[.int .u8 y] 5)).grownBy w4 (Value.ownBlock (.slice pO A.length cO)) →
            w4.ownsRow (tb + 1) 5 1 v' (A ++ [y]).length ((A ++ [y]).map (Value.int .u8)) ∧ w4.heap[tb]? = some (.cells m 55 (0, 0)) ∧ Below w.heap.size w w4) := by
          refine hid fun y v' w4 h1 h2 => ⟨by rw [List.map_append, List.length_append]; exact h1, ?_, ?_⟩
          · exact (h2.block tb (by simp; omega) (fun e => by have := (HO.out.lt tb e.symm).1; omega)).trans ((heap_alloc_old _ _ htbw).trans HT.out)
          · exact (B.out.alloc B.out.size _).grown h2 (by simp; omega) (fun k e => by have := (HO.out.lt k e).1; omega)
        clear hIl
        by_cases hpl : plN c
        · have hk : kd c = 1 := by unfold kd; rw [if_pos hpl]
          rw [hk] at qk
          have HK : Hid (unOk l I) := Or.inl (by rw [Hc.out, Int.toNat_natCast]; exact hpl)
          have HN : Hid (unN l I = 1) := by unfold unN; rw [Hc.out, Int.toNat_natCast, if_pos hpl]; exact rfl
          have HBv : Hid (unB l I = (c : Int)) := by unfold unB; rw [Hc.out, Int.toNat_natCast, if_pos hpl]; exact rfl
          have UI2 := hid (STEP.out HK.out)
          rw [HN.out, HBv.out] at UI2
          clear hk hpl
          go_wp2_with (at_builtin; refine wpList_append_byte rfl _ _ rfl (tb + 1) _ A.length _ rfl (HO.out.alloc _) ⟨wr.heap.size, 0, none⟩ 1 (c : Int) rfl (by simp) ?q1 ?q2 ?_)
          case q1 => omega
          case q2 => simp; omega
          intro v' w4 hown4 hgr4 hor4
          clear hor4
          have FN := hid (APP.out c v' w4 hown4 hgr4)
          clear hown4 hgr4
          go_wp2
          exact ⟨⟨I + 1, A ++ [(c : Int)], by omega, by simp; omega, by go_num, UI2, FN.out.1, FN.out.2.1, FN.out.2.2⟩, by simp [intOf]; omega⟩
        · by_cases h37 : c = 37
          · subst h37
            have hk : kd 37 = 2 := by decide
            rw [hk] at qk
            have HPL := hid hpl
            clear hpl hk
            have HNOK : Hid (unOk l I ↔ (I + 2 < s.size ∧ 0 ≤ hx (l.getD (I + 1) 0) ∧ 0 ≤ hx (l.getD (I + 2) 0) ∧ ¬ plN (16 * hx (l.getD (I + 1) 0) + hx (l.getD (I + 2) 0)).toNat)) := by
              refine hid ⟨fun h => ?_, fun h => Or.inr ⟨Hc.out, by rw [HLL.out]; exact h.1, h.2.1, h.2.2.1, h.2.2.2⟩⟩
              rcases h with h | ⟨_, h0, h1, h2, h3⟩
              · rw [Hc.out] at h; exact absurd h HPL.out
              · exact ⟨by rw [← HLL.out]; exact h0, h1, h2, h3⟩
            have HN : Hid (unN l I = 3) := by unfold unN; rw [Hc.out, Int.toNat_natCast, if_neg HPL.out]; exact rfl
            have HBv : Hid (unB l I = 16 * hx (l.getD (I + 1) 0) + hx (l.getD (I + 2) 0)) := by unfold unB; rw [Hc.out, Int.toNat_natCast, if_neg HPL.out]; exact rfl
            have CD1 : Hid (∀ W, Calls Tryd.prog 26 #[.string ⟨#[48, 49, 50, 51, 52, 53, 54, 55, 56, 57, 97, 98, 99, 100, 101, 102]⟩, .int .u8 (l.getD (I + 1) 0)] W fun e w' => e = .returned (.int .i64 (hx (l.getD (I + 1) 0))) ∧ w' = W) := hid fun W => hexidx_any W _ (getD_byt HBY.out _)
            have CD2 : Hid (∀ W, Calls Tryd.prog 26 #[.string ⟨#[48, 49, 50, 51, 52, 53, 54, 55, 56, 57, 97, 98, 99, 100, 101, 102]⟩, .int .u8 (l.getD (I + 2) 0)] W fun e w' => e = .returned (.int .i64 (hx (l.getD (I + 2) 0))) ∧ w' = W) := hid fun W => hexidx_any W _ (getD_byt HBY.out _)
            have Q1 : Hid (I + 1 < s.size → ∀ W, (Instr.index 9 (.string s) (.int .i64 ((I : Int) + 1))).run Tryd.prog W = .ok (.int .u8 (l.getD (I + 1) 0)) W) := hid fun h W => HI1.out W I h
            have Q2 : Hid (I + 2 < s.size → ∀ W, (Instr.index 9 (.string s) (.int .i64 ((I : Int) + 1 + 1))).run Tryd.prog W = .ok (.int .u8 (l.getD (I + 2) 0)) W) := hid fun h W => HI2.out W I h
            have hd1 := hx_lt (l.getD (I + 1) 0)
            have hd2 := hx_lt (l.getD (I + 2) 0)
            obtain ⟨d1, Hd1⟩ : ∃ d, Hid (hx (l.getD (I + 1) 0) = d) := ⟨_, rfl⟩
            obtain ⟨d2, Hd2⟩ : ∃ d, Hid (hx (l.getD (I + 2) 0) = d) := ⟨_, rfl⟩
            rw [Hd1.out] at hd1 HNOK HBv CD1
            rw [Hd2.out] at hd2 HNOK HBv CD2
            obtain ⟨c1, Hc1⟩ : ∃ c, Hid (l.getD (I + 1) 0 = c) := ⟨_, rfl⟩
            obtain ⟨c2, Hc2⟩ : ∃ c, Hid (l.getD (I + 2) 0 = c) := ⟨_, rfl⟩
            rw [Hc1.out] at CD1 Q1
            rw [Hc2.out] at CD2 Q2
            go_wp2
            obtain ⟨wq, hwq⟩ : ∃ wq, wq = wr := ⟨_, rfl⟩
            subst hwq
            go_loopw [8, 40] (fun cc k wr => ∃ K : Nat, K ≤ 2 ∧ k = .int .i64 (K : Int) ∧ wr = wq ∧ ((K = 0 ∧ cc = .int .u8 0) ∨ (K = 1 ∧ I + 1 < s.size ∧ 0 ≤ d1 ∧ cc = .int .u8 d1) ∨ (K = 2 ∧ I + 2 < s.size ∧ 0 ≤ d1 ∧ 0 ≤ d2 ∧ cc = .int .u8 (d1 * 16 + d2)))) (fun _ k _ => 2 - (intOf k).toNat)
            case atStart => exact ⟨0, by omega, rfl, rfl, Or.inl ⟨rfl, rfl⟩⟩
            case round =>
              obtain ⟨K, hK, rfl, rfl, hcs⟩ := hrel
              rcases hcs with ⟨rfl, rfl⟩ | ⟨rfl, hi1, hp1, rfl⟩ | ⟨rfl, hi2, hp1, hp2, rfl⟩
              · by_cases hin : I + 1 < s.size
                · have q1 := Q1.out hin
                  by_cases hn : d1 < 0
                  · have E := hid (BAD.out fun h => by have := HNOK.out.1 h; omega)
                    go_wp2_with fail
                    refine (CD1.out wr).mono ?_
                    rintro e w' ⟨rfl, hw⟩
                    have hw' := hw.symm
                    subst hw'
                    clear hw
                    go_wp2
                    refine wp_goto ?_
                    exact ⟨rfl, (I : Int), rfl, rfl, rfl, E.out, B.out⟩
                  · have hor0 : bits .or .u8 0 d1 = d1 := by
                      have := or4 0 d1 (by omega) (by omega)
                      simpa using this
                    have hp : 0 ≤ d1 := by omega
                    go_wp2_with fail
                    refine (CD1.out wr).mono ?_
                    rintro e w' ⟨rfl, hw⟩
                    have hw' := hw.symm
                    subst hw'
                    clear hw
                    go_wp2
                    exact ⟨⟨1, by omega, by go_num, trivial, Or.inr (Or.inl ⟨rfl, hin, hp, rfl⟩)⟩, by simp [intOf]⟩
                · have E := hid (BAD.out fun h => by have := HNOK.out.1 h; omega)
                  have hlt2 : (s.size : Int) - (I : Int) < 2 := by omega
                  go_wp2
                  refine wp_goto ?_
                  exact ⟨rfl, (I : Int), rfl, rfl, rfl, E.out, B.out⟩
              · by_cases hin : I + 2 < s.size
                · have q2 := Q2.out hin
                  by_cases hn : d2 < 0
                  · have E := hid (BAD.out fun h => by have := HNOK.out.1 h; omega)
                    go_wp2_with fail
                    refine (CD2.out wr).mono ?_
                    rintro e w' ⟨rfl, hw⟩
                    have hw' := hw.symm
                    subst hw'
                    clear hw
                    go_wp2
                    refine wp_goto ?_
                    exact ⟨rfl, (I : Int), rfl, rfl, rfl, E.out, B.out⟩
                  · have hor1 := or4 d1 d2 (by omega) (by omega)
                    have hp : 0 ≤ d2 := by omega
                    go_wp2_with fail
                    refine (CD2.out wr).mono ?_
                    rintro e w' ⟨rfl, hw⟩
                    have hw' := hw.symm
                    subst hw'
                    clear hw
                    go_wp2
                    exact ⟨⟨2, by omega, by go_num, trivial, Or.inr (Or.inr ⟨rfl, hin, hp1, hp, rfl⟩)⟩, by simp [intOf]⟩
                · have E := hid (BAD.out fun h => by have := HNOK.out.1 h; omega)
                  have hlt2 : (s.size : Int) - (I : Int) < 3 := by omega
                  go_wp2
                  refine wp_goto ?_
                  exact ⟨rfl, (I : Int), rfl, rfl, rfl, E.out, B.out⟩
              · obtain ⟨y, Hy⟩ : ∃ y : Nat, Hid (d1 * 16 + d2 = (y : Int)) := ⟨(d1 * 16 + d2).toNat, hid (by omega)⟩
                have hyl : y < 256 := by have := Hy.out; omega
                have HNY : Hid (unOk l I ↔ ¬ plN y) := by
                  rw [HNOK.out, show 16 * d1 + d2 = d1 * 16 + d2 by omega, Hy.out, Int.toNat_natCast]
                  exact hid ⟨fun h => h.2.2.2, fun h => ⟨hi2, hp1, hp2, h⟩⟩
                rw [show 16 * d1 + d2 = d1 * 16 + d2 by omega, Hy.out] at HBv
                rw [Hy.out]
                have qy := HTK.out wr tb y hyl HT.out
                by_cases hpy : plN y
                · have E := hid (BAD.out fun h => HNY.out.1 h hpy)
                  have hk : kd y = 1 := by unfold kd; rw [if_pos hpy]
                  rw [hk] at qy
                  clear hk hpy
                  go_wp2
                  refine wp_goto ?_
                  exact ⟨rfl, (I : Int), rfl, rfl, rfl, E.out, B.out⟩
                · have UI2 := hid (STEP.out (HNY.out.2 hpy))
                  rw [HN.out, HBv.out] at UI2
                  have hk : (kd y == 1) = false := by
                    unfold kd
                    rw [if_neg hpy]
                    split <;> decide
                  obtain ⟨ky, Hky⟩ : ∃ k, Hid (kd y = k) := ⟨_, rfl⟩
                  rw [Hky.out] at qy hk
                  clear hpy
                  go_wp2_with (at_builtin; refine wpList_append_byte rfl _ _ rfl (tb + 1) _ A.length _ rfl (HO.out.alloc _) ⟨wr.heap.size, 0, none⟩ 1 (y : Int) rfl (by simp) ?q1 ?q2 ?_)
                  case q1 => omega
                  case q2 => simp; omega
                  intro v' w4 hown4 hgr4 hor4
                  clear hor4
                  have FN := hid (APP.out y v' w4 hown4 hgr4)
                  clear hown4 hgr4
                  go_wp2
                  exact ⟨⟨I + 3, A ++ [(y : Int)], by omega, by simp; omega, by go_num, UI2, FN.out.1, FN.out.2.1, FN.out.2.2⟩, by simp [intOf]; omega⟩
          · have E := hid (BAD.out fun h => by
              rcases h with h | ⟨h, _⟩
              · rw [Hc.out, Int.toNat_natCast] at h; exact hpl h
              · rw [Hc.out] at h; omega)
            have hk : kd c = 0 := by unfold kd; rw [if_neg hpl, if_neg h37]
            rw [hk] at qk
            clear hk hpl h37
            go_wp2
            refine wp_goto ?_
            exact ⟨rfl, (I : Int), rfl, rfl, rfl, E.out, B.out⟩
      · have E := hid (UI.out.done (by rw [HLL.out]; exact hlt))
        obtain ⟨pO, cO, eO⟩ := own_slc HO.out
        subst eO
        go_wp2
        try simp only [Exit.jump]
        go_ret3
        refine ⟨_, by rw [E.out]; rfl, ?_, B.out⟩
        rw [E.out]
        exact own_mono HO.out (by omega)
  · rintro a' w' ⟨At, hsz, h7, hd, hE, hB⟩
    obtain ⟨tm, df⟩ := a'
    simp only at hsz h7 hd
    subst hd
    obtain ⟨x0, x1, x2, x3, x4, x5, x6, x7, x8, x9, x10, x11, x12, x13, x14, x15, x16, x17, x18, x19, x20, x21, x22, x23, x24, x25, x26, x27, x28, x29, x30, x31, x32, x33, x34, x35, x36, x37, x38, x39, x40, x41, x42, x43, x44, x45, x46, x47, x48, x49, x50, x51, x52, x53, x54, x55, x56, x57, x58, x59, x60, x61, x62, x63, x64, x65, x66, x67, x68, x69, x70, x71, x72, x73, x74, x75, x76, rfl⟩ := arr77 hsz
    have h7' : x7 = .int .i64 At := h7
    subst h7'
    have E := hid hE
    have B := hid hB
    clear hE hB hsz h7
    go_wp2
    simp only [Exit.jump]
    go_ret3
    refine ⟨.slice none 0 0, by rw [E.out]; rfl, ?_, B.out⟩
    rw [E.out]
    exact World.ownsRow_nil _ _ _ _
end Go.Proofs.YtmfamecadomipaaDoor
