/- cut.piece, cut.Segment and the document's Segment, walked. -/
import Derived.Test.YtdmdcnikhnoclabCutSz
import Derived.Test.YtdmdcnikhnoclabClone
import Derived.Test.YtdmdcnikhnoclabSlices
import Derived.Test.YtdmdcnikhnoclabJoin
import Derived.Test.YtdmdcnikhnoclabOwns
set_option linter.unusedVariables false
set_option linter.unusedSimpArgs false
namespace Go.Proofs.Ytdmdcnikhnoclab
open Go Go.RowKit

theorem take_drop_len {l : List Int} {i n : Nat} (h : i + n ≤ l.length) : ((l.take (i + n)).drop i).length = n := by simp; omega
set_option maxRecDepth 100000 in
set_option maxHeartbeats 2000000 in
theorem piece_any (w : World) (v : Value) (l : List Int) (i n : Nat) (h : HB w v l) (hn1 : 1 ≤ n) (hle : i + n ≤ l.length) (hbig : l.length ≤ 140737488355328) :
    Calls Try.prog 43 #[v, .int .i64 i, .int .i64 n] w fun e w' => ∃ v', e = .returned v' ∧ w'.ownsRow w.heap.size 5 1 v' n (((l.take (i + n)).drop i).map (Value.int .u8)) ∧ Below w.heap.size w w' := by
  obtain ⟨p, c, rfl, hlc, hcm⟩ := h.open
  unfold maxLen at hcm
  have hs := h.sliced i (i + n) (i + n) (by omega) hle (Nat.le_refl _) (by omega)
  have C := hid (clone_any w _ _ hs (by rw [take_drop_len hle]; omega))
  have L := hid (take_drop_len hle)
  have sz := size_u8
  clear h hs
  obtain ⟨N, HN⟩ : ∃ N, Hid (i + n = N) := ⟨_, rfl⟩
  have hN : (i : Int) + (n : Int) = (N : Int) := by have := HN.out; omega
  have hN2 : N ≤ c := by have := HN.out; omega
  have hN3 : i < N := by have := HN.out; omega
  have hNi : ¬ N = i := by omega
  have hN4 : N ≤ 140737488355328 := by have := HN.out; omega
  rw [HN.out, if_neg hNi] at C
  rw [HN.out] at L
  rw [HN.out]
  go_enter Try.func43, Try.ntmps43
  go_wp2_with fail
  refine C.out.mono ?_
  rintro e w' ⟨v', rfl, ho, hB⟩
  rw [L.out] at ho
  have HO := hid ho
  have HBl := hid hB
  clear ho hB C
  go_wp2
  go_ret
  exact ⟨_, rfl, HO.out, HBl.out⟩
/-- The error of a segment, and its bytes. -/
def sgE (t : Bool) (n : Nat) (d e j : Int) : Int := if t = true then (if (n : Int) = d then szE t e j else 91) else 92
def sgL (t : Bool) (l : List Int) (c d e f j : Int) : List Int := if sgE t l.length d e j = 0 then (l.take ((j * c).toNat + (szV t e j c f).toNat)).drop (j * c).toNat else []
theorem sgL_byt {t : Bool} {l : List Int} {c d e f j : Int} (h : ∀ x ∈ l, 0 ≤ x ∧ x < 256) : ∀ x ∈ sgL t l c d e f j, 0 ≤ x ∧ x < 256 := by
  unfold sgL
  split
  · exact fun x hx => h x (List.mem_of_mem_take (List.mem_of_mem_drop hx))
  · simp
theorem sgL_le (t : Bool) (l : List Int) (c d e f j : Int) : (sgL t l c d e f j).length ≤ l.length := by
  unfold sgL
  split
  · simp; omega
  · simp
/-- Where there is a segment, its place and its size are within the bytes. -/
theorem seg_fit {a b c d e f g h j : Int} {n : Nat} (hf : Ft a b c d e f g h) (hn : (n : Int) = d) (hj : 0 ≤ j ∧ j < e) :
    ∃ i m : Nat, j * c = (i : Int) ∧ szV true e j c f = (m : Int) ∧ 1 ≤ m ∧ i + m ≤ n ∧ n ≤ 16777216 := by
  obtain ⟨he, hff, _, _, s1, s2⟩ := hf.segs
  obtain ⟨⟨h1, h2, h3, h4, h5, h6, h7, h8, h9⟩, _⟩ := hf
  have us := up_split d c
  have tp := tlI_pos (x := d) h4
  have tl := tlI_le (x := d) h4
  have j0 : 0 ≤ j * c := Int.mul_nonneg hj.1 (by omega)
  have z1 : szV true e j c f = if j = e - 1 then f else c := by unfold szV; rw [if_pos rfl, if_pos hj]
  rw [← he] at us
  by_cases hl : j = e - 1
  · rw [if_pos hl] at z1
    rw [← hff] at us tp tl
    rw [← hl] at us
    refine ⟨(j * c).toNat, f.toNat, by omega, by omega, by omega, by omega, by omega⟩
  · rw [if_neg hl] at z1
    have hm : (j + 1) * c ≤ (e - 1) * c := Int.mul_le_mul_of_nonneg_right (by omega) (by omega)
    rw [Int.add_mul] at hm
    refine ⟨(j * c).toNat, c.toNat, by omega, by omega, by omega, by omega, by omega⟩
theorem shV8 (a b c d e f g h : Int) : shV [a, b, c, d, e, f, g, h] = .agg #[.int .i64 a, .int .i64 b, .int .i64 c, .int .i64 d, .int .i64 e, .int .i64 f, .int .i64 g, .int .i64 h] := rfl
theorem below_in {w w1 w2 : World} {o : Obj} (h : Below (w.alloc o).heap.size (w.alloc o) w1) : Below w.heap.size w w1 := (below_alloc w o).trans (h.mono (by simp))
end Go.Proofs.Ytdmdcnikhnoclab
