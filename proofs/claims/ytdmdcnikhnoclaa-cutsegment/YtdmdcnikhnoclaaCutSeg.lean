/- cut.piece, cut.Segment and the document's Segment, walked. -/
import Derived.Test.YtdmdcnikhnoclaaCutSz
import Derived.Test.YtdmdcnikhnoclaaClone
import Derived.Test.YtdmdcnikhnoclaaSlices
import Derived.Test.YtdmdcnikhnoclaaJoin
import Derived.Test.YtdmdcnikhnoclaaOwns
set_option linter.unusedVariables false
set_option linter.unusedSimpArgs false
namespace Go.Proofs.Ytdmdcnikhnoclaa
open Go Go.RowKit

theorem take_drop_len {l : List Int} {i n : Nat} (h : i + n ≤ l.length) : ((l.take (i + n)).drop i).length = n := by simp; omega
set_option maxRecDepth 100000 in
set_option maxHeartbeats 2000000 in
theorem piece_any (w : World) (v : Value) (l : List Int) (i n : Nat) (h : HB w v l) (hn1 : 1 ≤ n) (hle : i + n ≤ l.length) (hbig : l.length ≤ 140737488355328) :
    Calls Try.prog 50 #[v, .int .i64 i, .int .i64 n] w fun e w' => ∃ v', e = .returned v' ∧ w'.ownsRow w.heap.size 5 1 v' n (((l.take (i + n)).drop i).map (Value.int .u8)) ∧ Below w.heap.size w w' := by
  obtain ⟨p, c, rfl, hlc, hcm⟩ := h.open
  unfold maxLen at hcm
  have hs := h.sliced i (i + n) (i + n) (by omega) hle (Nat.le_refl _) (by omega)
  have C := hid (clone_any w _ _ hs (by rw [take_drop_len hle]; omega))
  have L := hid (take_drop_len hle)
  have sz := size_u8
  clear h hs
  obtain ⟨N, HN⟩ : ∃ N, Hid (i + n = N) := ⟨_, rfl⟩
  have hN : (i : Int) + (n : Int) = (N : Int) := by have := HN.out; omega
  have hN2 : N ≤ c := by have := HN.out; omega
  have hN3 : i < N := by have := HN.out; omega
  have hNi : ¬ N = i := by omega
  have hN4 : N ≤ 140737488355328 := by have := HN.out; omega
  rw [HN.out, if_neg hNi] at C
  rw [HN.out] at L
  rw [HN.out]
  go_enter Try.func50, Try.ntmps50
  go_wp2_with fail
  refine C.out.mono ?_
  rintro e w' ⟨v', rfl, ho, hB⟩
  rw [L.out] at ho
  have HO := hid ho
  have HBl := hid hB
  clear ho hB C
  go_wp2
  go_ret
  exact ⟨_, rfl, HO.out, HBl.out⟩
/-- The error of a segment, and its bytes. -/
def sgE (t : Bool) (n : Nat) (d e j : Int) : Int := if t = true then (if (n : Int) = d then szE t e j else 91) else 92
def sgL (t : Bool) (l : List Int) (c d e f j : Int) : List Int := if sgE t l.length d e j = 0 then (l.take ((j * c).toNat + (szV t e j c f).toNat)).drop (j * c).toNat else []
theorem sgL_byt {t : Bool} {l : List Int} {c d e f j : Int} (h : ∀ x ∈ l, 0 ≤ x ∧ x < 256) : ∀ x ∈ sgL t l c d e f j, 0 ≤ x ∧ x < 256 := by
  unfold sgL
  split
  · exact fun x hx => h x (List.mem_of_mem_take (List.mem_of_mem_drop hx))
  · simp
theorem sgL_le (t : Bool) (l : List Int) (c d e f j : Int) : (sgL t l c d e f j).length ≤ l.length := by
  unfold sgL
  split
  · simp; omega
  · simp
/-- Where there is a segment, its place and its size are within the bytes. -/
theorem seg_fit {a b c d e f g h j : Int} {n : Nat} (hf : Ft a b c d e f g h) (hn : (n : Int) = d) (hj : 0 ≤ j ∧ j < e) :
    ∃ i m : Nat, j * c = (i : Int) ∧ szV true e j c f = (m : Int) ∧ 1 ≤ m ∧ i + m ≤ n ∧ n ≤ 16777216 := by
  obtain ⟨he, hff, _, _, s1, s2⟩ := hf.segs
  obtain ⟨⟨h1, h2, h3, h4, h5, h6, h7, h8, h9⟩, _⟩ := hf
  have us := up_split d c
  have tp := tlI_pos (x := d) h4
  have tl := tlI_le (x := d) h4
  have j0 : 0 ≤ j * c := Int.mul_nonneg hj.1 (by omega)
  have z1 : szV true e j c f = if j = e - 1 then f else c := by unfold szV; rw [if_pos rfl, if_pos hj]
  rw [← he] at us
  by_cases hl : j = e - 1
  · rw [if_pos hl] at z1
    rw [← hff] at us tp tl
    rw [← hl] at us
    refine ⟨(j * c).toNat, f.toNat, by omega, by omega, by omega, by omega, by omega⟩
  · rw [if_neg hl] at z1
    have hm : (j + 1) * c ≤ (e - 1) * c := Int.mul_le_mul_of_nonneg_right (by omega) (by omega)
    rw [Int.add_mul] at hm
    refine ⟨(j * c).toNat, c.toNat, by omega, by omega, by omega, by omega, by omega⟩
theorem shV8 (a b c d e f g h : Int) : shV [a, b, c, d, e, f, g, h] = .agg #[.int .i64 a, .int .i64 b, .int .i64 c, .int .i64 d, .int .i64 e, .int .i64 f, .int .i64 g, .int .i64 h] := rfl
theorem below_in {w w1 w2 : World} {o : Obj} (h : Below (w.alloc o).heap.size (w.alloc o) w1) : Below w.heap.size w w1 := (below_alloc w o).trans (h.mono (by simp))
set_option maxRecDepth 100000 in
set_option maxHeartbeats 4000000 in
theorem segment_any (w : World) (a b c d e f g h j : Int) (v : Value) (l : List Int) (hv : HB w v l) :
    Calls Try.prog 27 #[shV [a, b, c, d, e, f, g, h], v, .int .i64 j] w fun r w' => ∃ v', r = .returned (.tuple #[v', .int .i64 (sgE (ftB a b c d e f g h) l.length d e j)]) ∧ w'.ownsRow w.heap.size 5 1 v' (sgL (ftB a b c d e f g h) l c d e f j).length ((sgL (ftB a b c d e f g h) l c d e f j).map (Value.int .u8)) ∧ Below w.heap.size w w' := by
  have HV := hid hv
  obtain ⟨p, cc, rfl, hlc, hcm⟩ := hv.open
  unfold maxLen at hcm
  clear hv
  have CF : ∀ w, Hid (Calls Try.prog 19 #[.agg #[.int .i64 a, .int .i64 b, .int .i64 c, .int .i64 d, .int .i64 e, .int .i64 f, .int .i64 g, .int .i64 h]] w fun r w' => r = .returned (.bool (ftB a b c d e f g h)) ∧ Below w.heap.size w w') := fun w => fits_any w a b c d e f g h
  have CS : ∀ w, Hid (Calls Try.prog 21 #[.agg #[.int .i64 a, .int .i64 b, .int .i64 c, .int .i64 d, .int .i64 e, .int .i64 f, .int .i64 g, .int .i64 h], .int .i64 j] w fun r w' => r = .returned (.tuple #[.int .i64 (szV (ftB a b c d e f g h) e j c f), .int .i64 (szE (ftB a b c d e f g h) e j)]) ∧ Below w.heap.size w w') := fun w => segsize_any w a b c d e f g h j
  rw [shV8]
  go_enter Try.func27, Try.ntmps27
  go_wp2_with fail
  obtain ⟨W0, HW0⟩ : ∃ W0, Hid (w.alloc (.cells #[.int .i64 a, .int .i64 b, .int .i64 c, .int .i64 d, .int .i64 e, .int .i64 f, .int .i64 g, .int .i64 h] 27) = W0) := ⟨_, rfl⟩
  rw [HW0.out]
  have hS0 : W0.heap.size = w.heap.size + 1 := by rw [← HW0.out]; simp
  have HS0 := hid hS0
  have B0 : Hid (Below w.heap.size w W0) := by rw [← HW0.out]; exact below_alloc _ _
  have K0 : Hid (∀ i v, #[Value.int .i64 a, .int .i64 b, .int .i64 c, .int .i64 d, .int .i64 e, .int .i64 f, .int .i64 g, .int .i64 h][i]? = some v → W0.cell? ⟨w.heap.size, i, none⟩ = some v) := fun i v hi => by rw [← HW0.out, cell_of_row _ _ _ _ _ _ (heap_alloc_new w _)]; exact hi
  clear hS0
  refine (CF W0).out.mono ?_
  rintro e1 w1 ⟨rfl, hB1⟩
  have B1 := hid hB1
  have hS1 := hid hB1.size
  clear hB1
  have K1 : Hid (∀ i v, #[Value.int .i64 a, .int .i64 b, .int .i64 c, .int .i64 d, .int .i64 e, .int .i64 f, .int .i64 g, .int .i64 h][i]? = some v → w1.cell? ⟨w.heap.size, i, none⟩ = some v) := fun i v hi => (B1.out.cell (by have := HS0.out; show w.heap.size < _; omega)).trans (K0.out i v hi)
  have B01 : Hid (Below w.heap.size w w1) := B0.out.trans (B1.out.mono (by have := HS0.out; omega))
  by_cases hf : Ft a b c d e f g h
  case neg =>
    have hb : ftB a b c d e f g h = false := decide_eq_false hf
    have E1 : Hid (sgE false l.length d e j = 92) := if_neg (by decide)
    have E2 : Hid (sgL false l c d e f j = []) := if_neg (by rw [E1.out]; decide)
    have HBB := hid hb
    rw [hb]
    clear hb hf
    go_wp2
    go_ret2
    rw [HBB.out, E1.out, E2.out]
    exact ⟨_, rfl, World.ownsRow_nil _ _ _ _, B01.out⟩
  case pos =>
    have HF := hid hf
    have hb : ftB a b c d e f g h = true := decide_eq_true hf
    have HBB := hid hb
    rw [hb] at CS
    rw [hb]
    clear hb hf
    have c3 := K1.out 3 _ rfl
    by_cases hd : (l.length : Int) = d
    case neg =>
      have E1 : Hid (sgE true l.length d e j = 91) := by show _ = _; unfold sgE; rw [if_pos rfl, if_neg hd]
      have E2 : Hid (sgL true l c d e f j = []) := if_neg (by rw [E1.out]; decide)
      go_wp2
      go_ret2
      rw [HBB.out, E1.out, E2.out]
      exact ⟨_, rfl, World.ownsRow_nil _ _ _ _, B01.out⟩
    case pos =>
      have HD := hid hd
      have c0 := K1.out 0 _ rfl
      have c1 := K1.out 1 _ rfl
      have c2 := K1.out 2 _ rfl
      have c4 := K1.out 4 _ rfl
      have c5 := K1.out 5 _ rfl
      have c6 := K1.out 6 _ rfl
      have c7 := K1.out 7 _ rfl
      go_wp2_with fail
      refine (CS w1).out.mono ?_
      rintro e2 w2 ⟨rfl, hB2⟩
      have B2 := hid hB2
      have K2 : Hid (w2.cell? ⟨w.heap.size, 2, none⟩ = some (.int .i64 c)) := (B2.out.cell (by have := HS0.out; have := hS1.out; show w.heap.size < _; omega)).trans (K1.out 2 _ rfl)
      have B02 : Hid (Below w.heap.size w w2) := B01.out.trans (B2.out.mono (by have := HS0.out; have := hS1.out; omega))
      clear hB2 c0 c1 c2 c3 c4 c5 c6 c7
      by_cases hj : 0 ≤ j ∧ j < e
      case neg =>
        have E0 : szE true e j = 90 := by unfold szE; rw [if_pos rfl, if_neg hj]
        have E1 : Hid (sgE true l.length d e j = 90) := by show _ = _; unfold sgE; rw [if_pos rfl, if_pos HD.out, E0]
        have E2 : Hid (sgL true l c d e f j = []) := if_neg (by rw [E1.out]; decide)
        rw [E0]
        clear E0 hj
        go_wp2
        go_ret2
        rw [HBB.out, E1.out, E2.out]
        exact ⟨_, rfl, World.ownsRow_nil _ _ _ _, B02.out⟩
      case pos =>
        have E0 : szE true e j = 0 := by unfold szE; rw [if_pos rfl, if_pos hj]
        have E1 : Hid (sgE true l.length d e j = 0) := by show _ = _; unfold sgE; rw [if_pos rfl, if_pos HD.out, E0]
        obtain ⟨i, m, q1, q2, q3, q4, q5⟩ := seg_fit HF.out HD.out hj
        have E2 : Hid (sgL true l c d e f j = (l.take (i + m)).drop i) := by
          show _ = _
          unfold sgL
          rw [if_pos E1.out, q1, q2, Int.toNat_natCast, Int.toNat_natCast]
        rw [E0, q2]
        have CP := hid (piece_any w2 (.slice p l.length cc) l i m (HV.out.below B02.out) q3 q4 (by omega))
        have L := hid (take_drop_len q4)
        have hw : IntKind.i64.wrap (i : Int) = (i : Int) := wrap64 (by omega) (by omega)
        have k2 := K2.out
        clear E0 hj
        go_wp2_with fail
        refine CP.out.mono ?_
        rintro e3 w3 ⟨v3, rfl, ho3, hB3⟩
        have O3 := hid ho3
        have B3 := hid hB3
        clear ho3 hB3
        go_wp2
        go_ret2
        rw [HBB.out]
        refine ⟨v3, by rw [E1.out]; rfl, ?_, B02.out.trans (B3.out.mono B02.out.size)⟩
        rw [E2.out, L.out]
        exact own_mono O3.out B02.out.size
set_option maxRecDepth 100000 in
set_option maxHeartbeats 4000000 in
theorem rsegment_any (w : World) (a b c d e f g h j : Int) (v : Value) (l : List Int) (hv : HB w v l) :
    Calls Try.prog 28 #[shV [a, b, c, d, e, f, g, h], v, .int .i64 j] w fun r w' => ∃ v', r = .returned (.tuple #[v', .int .i64 (sgE (ftB a b c d e f g h) l.length d e j)]) ∧ w'.ownsRow w.heap.size 5 1 v' (sgL (ftB a b c d e f g h) l c d e f j).length ((sgL (ftB a b c d e f g h) l c d e f j).map (Value.int .u8)) ∧ Below w.heap.size w w' := by
  have HV := hid hv
  obtain ⟨p, cc, rfl, hlc, hcm⟩ := hv.open
  unfold maxLen at hcm
  clear hv
  have CF : ∀ w, Hid (Calls Try.prog 20 #[.agg #[.int .i64 a, .int .i64 b, .int .i64 c, .int .i64 d, .int .i64 e, .int .i64 f, .int .i64 g, .int .i64 h]] w fun r w' => r = .returned (.bool (ftB a b c d e f g h)) ∧ Below w.heap.size w w') := fun w => rfits_any w a b c d e f g h
  have CS : ∀ w, Hid (Calls Try.prog 24 #[.agg #[.int .i64 a, .int .i64 b, .int .i64 c, .int .i64 d, .int .i64 e, .int .i64 f, .int .i64 g, .int .i64 h], .int .i64 j] w fun r w' => r = .returned (.tuple #[.int .i64 (szV (ftB a b c d e f g h) e j c f), .int .i64 (szE (ftB a b c d e f g h) e j)]) ∧ Below w.heap.size w w') := fun w => rsegsize_any w a b c d e f g h j
  rw [shV8]
  go_enter Try.func28, Try.ntmps28
  go_wp2_with fail
  obtain ⟨W0, HW0⟩ : ∃ W0, Hid (w.alloc (.cells #[.int .i64 a, .int .i64 b, .int .i64 c, .int .i64 d, .int .i64 e, .int .i64 f, .int .i64 g, .int .i64 h] 27) = W0) := ⟨_, rfl⟩
  rw [HW0.out]
  have hS0 : W0.heap.size = w.heap.size + 1 := by rw [← HW0.out]; simp
  have HS0 := hid hS0
  have B0 : Hid (Below w.heap.size w W0) := by rw [← HW0.out]; exact below_alloc _ _
  have K0 : Hid (∀ i v, #[Value.int .i64 a, .int .i64 b, .int .i64 c, .int .i64 d, .int .i64 e, .int .i64 f, .int .i64 g, .int .i64 h][i]? = some v → W0.cell? ⟨w.heap.size, i, none⟩ = some v) := fun i v hi => by rw [← HW0.out, cell_of_row _ _ _ _ _ _ (heap_alloc_new w _)]; exact hi
  clear hS0
  refine (CF W0).out.mono ?_
  rintro e1 w1 ⟨rfl, hB1⟩
  have B1 := hid hB1
  have hS1 := hid hB1.size
  clear hB1
  have K1 : Hid (∀ i v, #[Value.int .i64 a, .int .i64 b, .int .i64 c, .int .i64 d, .int .i64 e, .int .i64 f, .int .i64 g, .int .i64 h][i]? = some v → w1.cell? ⟨w.heap.size, i, none⟩ = some v) := fun i v hi => (B1.out.cell (by have := HS0.out; show w.heap.size < _; omega)).trans (K0.out i v hi)
  have B01 : Hid (Below w.heap.size w w1) := B0.out.trans (B1.out.mono (by have := HS0.out; omega))
  by_cases hf : Ft a b c d e f g h
  case neg =>
    have hb : ftB a b c d e f g h = false := decide_eq_false hf
    have E1 : Hid (sgE false l.length d e j = 92) := if_neg (by decide)
    have E2 : Hid (sgL false l c d e f j = []) := if_neg (by rw [E1.out]; decide)
    have HBB := hid hb
    rw [hb]
    clear hb hf
    go_wp2
    go_ret2
    rw [HBB.out, E1.out, E2.out]
    exact ⟨_, rfl, World.ownsRow_nil _ _ _ _, B01.out⟩
  case pos =>
    have HF := hid hf
    have hb : ftB a b c d e f g h = true := decide_eq_true hf
    have HBB := hid hb
    rw [hb] at CS
    rw [hb]
    clear hb hf
    have c3 := K1.out 3 _ rfl
    by_cases hd : (l.length : Int) = d
    case neg =>
      have E1 : Hid (sgE true l.length d e j = 91) := by show _ = _; unfold sgE; rw [if_pos rfl, if_neg hd]
      have E2 : Hid (sgL true l c d e f j = []) := if_neg (by rw [E1.out]; decide)
      go_wp2
      go_ret2
      rw [HBB.out, E1.out, E2.out]
      exact ⟨_, rfl, World.ownsRow_nil _ _ _ _, B01.out⟩
    case pos =>
      have HD := hid hd
      have c0 := K1.out 0 _ rfl
      have c1 := K1.out 1 _ rfl
      have c2 := K1.out 2 _ rfl
      have c4 := K1.out 4 _ rfl
      have c5 := K1.out 5 _ rfl
      have c6 := K1.out 6 _ rfl
      have c7 := K1.out 7 _ rfl
      go_wp2_with fail
      refine (CS w1).out.mono ?_
      rintro e2 w2 ⟨rfl, hB2⟩
      have B2 := hid hB2
      have K2 : Hid (w2.cell? ⟨w.heap.size, 2, none⟩ = some (.int .i64 c)) := (B2.out.cell (by have := HS0.out; have := hS1.out; show w.heap.size < _; omega)).trans (K1.out 2 _ rfl)
      have B02 : Hid (Below w.heap.size w w2) := B01.out.trans (B2.out.mono (by have := HS0.out; have := hS1.out; omega))
      clear hB2 c0 c1 c2 c3 c4 c5 c6 c7
      by_cases hj : 0 ≤ j ∧ j < e
      case neg =>
        have E0 : szE true e j = 90 := by unfold szE; rw [if_pos rfl, if_neg hj]
        have E1 : Hid (sgE true l.length d e j = 90) := by show _ = _; unfold sgE; rw [if_pos rfl, if_pos HD.out, E0]
        have E2 : Hid (sgL true l c d e f j = []) := if_neg (by rw [E1.out]; decide)
        rw [E0]
        clear E0 hj
        go_wp2
        go_ret2
        rw [HBB.out, E1.out, E2.out]
        exact ⟨_, rfl, World.ownsRow_nil _ _ _ _, B02.out⟩
      case pos =>
        have E0 : szE true e j = 0 := by unfold szE; rw [if_pos rfl, if_pos hj]
        have E1 : Hid (sgE true l.length d e j = 0) := by show _ = _; unfold sgE; rw [if_pos rfl, if_pos HD.out, E0]
        obtain ⟨i, m, q1, q2, q3, q4, q5⟩ := seg_fit HF.out HD.out hj
        have E2 : Hid (sgL true l c d e f j = (l.take (i + m)).drop i) := by
          show _ = _
          unfold sgL
          rw [if_pos E1.out, q1, q2, Int.toNat_natCast, Int.toNat_natCast]
        rw [E0, q2]
        have L := hid (take_drop_len q4)
        have hw : IntKind.i64.wrap (i : Int) = (i : Int) := wrap64 (by omega) (by omega)
        have k2 := K2.out
        have hs := (HV.out.below B02.out).sliced i (i + m) cc (by omega) q4 (by omega) (Nat.le_refl _)
        obtain ⟨N, HN⟩ : ∃ N, Hid (i + m = N) := ⟨_, rfl⟩
        have hN : (i : Int) + (m : Int) = (N : Int) := by have := HN.out; omega
        have hN2 : N ≤ cc := by have := HN.out; omega
        have hN3 : i < N := by have := HN.out; omega
        have hN4 : N ≤ 16777216 := by have := HN.out; omega
        have hNi : ¬ cc = i := by omega
        have hci : i ≤ cc := by omega
        rw [HN.out, if_neg hNi] at hs
        rw [HN.out] at L E2
        have HS := hid hs
        have sz := size_u8
        have HL4 := hid q4
        have HL5 := hid q5
        clear E0 hj hs q4 q5 q3
        go_wp2_with (at_builtin; refine wpList_append_HB rfl _ _ rfl w2.heap.size _ 0 [] rfl (World.ownsRow_nil _ _ _ _) _ _ rfl HS.out ?q1 ?q2 ?_)
        case q1 => rw [L.out]; have := HL4.out; have := HL5.out; omega
        case q2 => exact Nat.le_refl _
        intro v3 w3 hown hgr
        have O3 : Hid (w3.ownsRow w2.heap.size 5 1 v3 m (((l.take N).drop i).map (Value.int .u8))) := by
          show World.ownsRow _ _ _ _ _ _ _
          rw [show min N l.length - i = m by have := HL4.out; have := HN.out; omega] at hown
          simpa [List.map_drop, List.map_take] using hown
        have B3 := hid ((Below.refl _ w2).grown hgr (Nat.le_refl _) (fun k e => by cases e))
        clear hown hgr
        go_wp2
        go_ret2
        rw [HBB.out]
        refine ⟨v3, by rw [E1.out]; rfl, ?_, B02.out.trans (B3.out.mono B02.out.size)⟩
        rw [E2.out, L.out]
        exact own_mono O3.out B02.out.size
end Go.Proofs.Ytdmdcnikhnoclaa
