/- CutAgain and CutSizes, by the evaluator. -/
import Derived.Test.YtdmdcnikhnoclaaCutSz
set_option linter.unusedVariables false
set_option linter.unusedSimpArgs false
namespace Go.Proofs.Ytdmdcnikhnoclaa
open Go Go.RowKit Ev

def aw_t : Nat × List AV × AV := (16, [], bX true)
theorem aw_ok (ρ : Env) : EntOk ρ aw_t := ent [] (.bool true) (fun _ => rfl) (fun _ => rfl) fun w => awake_any w
def la_t (l : List Ex) (e : Int) (b c : Bool) : List (Nat × List AV × AV) := [(17, [B64 0, B64 1, B64 2, B64 3], .tup [rw64 l, e64 (.lit e)]), (18, [B64 0, B64 1, B64 2, B64 3], .tup [rw64 l, e64 (.lit e)]), (19, [shX 4], bX b), (20, [shX 4], bX b), (19, [.tv (rw64 l)], bX c), aw_t]
noncomputable def la_ev (t : List (Nat × List AV × AV)) : Option AV := (evCallF Try.prog (tabLore [] []) (tabCon t) 100 4 [B64 0, B64 1, B64 2, B64 3, shX 4] []).map (·.1)
theorem la_ev1 : la_ev (la_t (vs64 12 8) 0 true true) = some (bX true) := by kernel_rfl
theorem la_ev2 : la_ev (la_t (vs64 12 8) 0 false true) = some (bX true) := by kernel_rfl
theorem la_ev3 : la_ev (la_t zs64 92 true false) = some (bX true) := by kernel_rfl
theorem la_ev4 : la_ev (la_t zs64 92 false false) = some (bX true) := by kernel_rfl
theorem ftB0 : ftB 0 0 0 0 0 0 0 0 = false := decide_eq_false fun h => by have := h.1.1; omega
theorem lagain_walk (w : World) (k n g z : Int) (a b c d e f q h : Int) : Calls Try.prog 4 #[.int .i64 k, .int .i64 n, .int .i64 g, .int .i64 z, shV [a, b, c, d, e, f, q, h]] w fun e w' => e = .returned (.bool true) ∧ Below w.heap.size w w' := by
  let ρ := envI [k, n, g, z, a, b, c, d, e, f, q, h, k, n, g, z, upI z g, tlI z g, g / k, upI (tlI z g) k] (.tuple #[])
  have hx : [B64 0, B64 1, B64 2, B64 3, shX 4].map (AV.inst ρ []) = [Value.int .i64 k, .int .i64 n, .int .i64 g, .int .i64 z, shV [a, b, c, d, e, f, q, h]].map some := by
    simp only [List.map_cons, List.map_nil, shX, AV.inst]; rw [row_den]; rfl
  have row4 : ∀ ms, [shX 4].map (AV.inst ρ ms) = [shV [a, b, c, d, e, f, q, h]].map some := fun ms => by simp only [List.map_cons, List.map_nil, shX, AV.inst]; rw [row_den]; rfl
  have tab : ∀ l er bb cc, l.map (Ex.den ρ) = agT k n g z → er = agE k n g z → ftB a b c d e f q h = bb → (∀ w, Calls Try.prog 19 #[shV (agT k n g z)] w fun r w' => r = .returned (.bool cc) ∧ Below w.heap.size w w') → ∀ x ∈ la_t l er bb cc, EntOk ρ x := by
    intro l er bb cc hl he hb hc
    refine allc ?_ (allc ?_ (allc ?_ (allc ?_ (allc ?_ (all1 (aw_ok ρ))))))
    · exact ent [.int .i64 k, .int .i64 n, .int .i64 g, .int .i64 z] (.tuple #[shV (agT k n g z), .int .i64 (agE k n g z)]) (fun _ => rfl) (fun ms => by rw [tup2, hl, he]; rfl) fun w => again_any w k n g z
    · exact ent [.int .i64 k, .int .i64 n, .int .i64 g, .int .i64 z] (.tuple #[shV (agT k n g z), .int .i64 (agE k n g z)]) (fun _ => rfl) (fun ms => by rw [tup2, hl, he]; rfl) fun w => ragain_any w k n g z
    · exact ent [shV [a, b, c, d, e, f, q, h]] (.bool bb) row4 (fun _ => rfl) fun w => by rw [← hb]; exact fits_any w a b c d e f q h
    · exact ent [shV [a, b, c, d, e, f, q, h]] (.bool bb) row4 (fun _ => rfl) fun w => by rw [← hb]; exact rfits_any w a b c d e f q h
    · exact ent [shV (agT k n g z)] (.bool cc) (fun ms => by simp only [List.map_cons, List.map_nil, AV.inst]; rw [row_den, hl]) (fun _ => rfl) hc
  have fin : ∀ t, (∀ x ∈ t, EntOk ρ x) → la_ev t = some (bX true) → Calls Try.prog 4 #[.int .i64 k, .int .i64 n, .int .i64 g, .int .i64 z, shV [a, b, c, d, e, f, q, h]] w fun e w' => e = .returned (.bool true) ∧ Below w.heap.size w w' := fun t ht hv => ev_row (ρ := ρ) alln alln ht hv [.int .i64 k, .int .i64 n, .int .i64 g, .int .i64 z, shV [a, b, c, d, e, f, q, h]] _ hx (fun _ => rfl) w
  by_cases hok : OkS k n g z
  · have t1 : agT k n g z = shR k n g z := if_pos hok
    have t2 : agE k n g z = 0 := if_pos hok
    have hf : ∀ w, Calls Try.prog 19 #[shV (agT k n g z)] w fun r w' => r = .returned (.bool true) ∧ Below w.heap.size w w' := fun w => by
      have := fits_any w k n g z (upI z g) (tlI z g) (g / k) (upI (tlI z g) k)
      rw [show ftB k n g z (upI z g) (tlI z g) (g / k) (upI (tlI z g) k) = true from decide_eq_true ⟨hok, rfl⟩] at this
      rw [t1]; exact this
    cases hb : ftB a b c d e f q h
    · exact fin _ (tab _ _ _ _ (by rw [t1]; rfl) t2.symm hb hf) la_ev2
    · exact fin _ (tab _ _ _ _ (by rw [t1]; rfl) t2.symm hb hf) la_ev1
  · have t1 : agT k n g z = sh0 := if_neg hok
    have t2 : agE k n g z = 92 := if_neg hok
    have hf : ∀ w, Calls Try.prog 19 #[shV (agT k n g z)] w fun r w' => r = .returned (.bool false) ∧ Below w.heap.size w w' := fun w => by
      have := fits_any w 0 0 0 0 0 0 0 0
      rw [ftB0] at this
      rw [t1]; exact this
    cases hb : ftB a b c d e f q h
    · exact fin _ (tab _ _ _ _ (by rw [t1]; rfl) t2.symm hb hf) la_ev4
    · exact fin _ (tab _ _ _ _ (by rw [t1]; rfl) t2.symm hb hf) la_ev3
def ls_t : List (Nat × List AV × AV) := [(21, [shX 0, B64 8], .tup [e64 (.var 11), e64 (.var 12)]), (24, [shX 0, B64 8], .tup [e64 (.var 11), e64 (.var 12)]), (22, [shX 0, B64 8], .tup [e64 (.var 13), e64 (.var 12)]), (25, [shX 0, B64 8], .tup [e64 (.var 13), e64 (.var 12)]), (23, [shX 0, B64 9, B64 10], .tup [e64 (.var 14), e64 (.var 15), e64 (.var 16)]), (26, [shX 0, B64 9, B64 10], .tup [e64 (.var 14), e64 (.var 15), e64 (.var 16)]), aw_t]
theorem ls_ev : (evCallF Try.prog (tabLore [] []) (tabCon ls_t) 100 5 [shX 0, B64 8, B64 9, B64 10] []).map (·.1) = some (bX true) := by kernel_rfl
theorem lsizes_walk (w : World) (a b c d e f g h j p n : Int) (hp : -9223372036854775808 ≤ p ∧ p ≤ 9223372036854775807) : Calls Try.prog 5 #[shV [a, b, c, d, e, f, g, h], .int .i64 j, .int .i64 p, .int .i64 n] w fun e w' => e = .returned (.bool true) ∧ Below w.heap.size w w' := by
  let t := ftB a b c d e f g h
  let ρ := envI [a, b, c, d, e, f, g, h, j, p, n, szV t e j c f, szE t e j, szV t e j g h, cvA t c d p n, cvZ t c d p n, cvE t d p n] (.tuple #[])
  have r0 : ∀ ms, (shX 0).inst ρ ms = some (shV [a, b, c, d, e, f, g, h]) := fun ms => by simp only [shX, AV.inst]; rw [row_den]; rfl
  refine ev_row (ρ := ρ) alln alln (allc ?_ (allc ?_ (allc ?_ (allc ?_ (allc ?_ (allc ?_ (all1 (aw_ok ρ)))))))) ls_ev [shV [a, b, c, d, e, f, g, h], .int .i64 j, .int .i64 p, .int .i64 n] _ (by simp only [List.map_cons, List.map_nil, r0]; rfl) (fun _ => rfl) w
  · exact ent [shV [a, b, c, d, e, f, g, h], .int .i64 j] _ (fun ms => by simp only [List.map_cons, List.map_nil, r0]; rfl) (fun _ => rfl) fun w => segsize_any w a b c d e f g h j
  · exact ent [shV [a, b, c, d, e, f, g, h], .int .i64 j] _ (fun ms => by simp only [List.map_cons, List.map_nil, r0]; rfl) (fun _ => rfl) fun w => rsegsize_any w a b c d e f g h j
  · exact ent [shV [a, b, c, d, e, f, g, h], .int .i64 j] _ (fun ms => by simp only [List.map_cons, List.map_nil, r0]; rfl) (fun _ => rfl) fun w => blocksize_any w a b c d e f g h j
  · exact ent [shV [a, b, c, d, e, f, g, h], .int .i64 j] _ (fun ms => by simp only [List.map_cons, List.map_nil, r0]; rfl) (fun _ => rfl) fun w => rblocksize_any w a b c d e f g h j
  · exact ent [shV [a, b, c, d, e, f, g, h], .int .i64 p, .int .i64 n] _ (fun ms => by simp only [List.map_cons, List.map_nil, r0]; rfl) (fun _ => rfl) fun w => cover_any w a b c d e f g h p n hp.2
  · exact ent [shV [a, b, c, d, e, f, g, h], .int .i64 p, .int .i64 n] _ (fun ms => by simp only [List.map_cons, List.map_nil, r0]; rfl) (fun _ => rfl) fun w => rcover_any w a b c d e f g h p n hp.2
end Go.Proofs.Ytdmdcnikhnoclaa
