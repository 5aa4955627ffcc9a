/- AesStates, walked by the evaluator: every row of bytes goes by a name. -/
import Derived.Test.YtehdglalfejpjaaAesRefFun
set_option linter.unusedVariables false
namespace Go.Proofs.Ytehdglalfejpjaa
open Go Go.RowKit Ev

def R (p : Nat) : AV := V (176 + 16 * p) 16
theorem ap_ent {f : Nat → Nat} (hf : ∀ i, f i < 256) {g fuel p q : Nat} {s : List Nat} {st : St} (h : evCall Try.prog noLore conC fuel g [.tv (.agg (vars 0 16))] [] = some (.tv (.agg (bytesE st.out)), [])) (hst : st.env [] = at8)
    (hs : named f (176 + 16 * p) 16 = s) (hl : s.length = 16) (hb : Byt s) (ht : named f (176 + 16 * q) 16 = st.ap [] s) : EntOk (envB f) (g, [R p], R q) :=
  ent1 hf fun w => by
    rw [hs, ht]
    have := fun1 h st.out_ok.1 w s hl hb
    rw [show st.ap [] s = st.out.map (nden (at8 s)) by unfold St.ap; rw [hst]]
    exact this
theorem apR_ent {f : Nat → Nat} (hf : ∀ i, f i < 256) {g fuel p q : Nat} {s : List Nat} {out : List Ex} (h : evCall Try.prog noLore conR fuel g [.tv (.agg (vars 0 16))] [] = some (.tv (.agg (bytesE out)), [])) (hok : out.all okB = true)
    (hs : named f (176 + 16 * p) 16 = s) (hl : s.length = 16) (hb : Byt s) (ht : named f (176 + 16 * q) 16 = out.map (nden (at8 s))) : EntOk (envB f) (g, [R p], R q) :=
  ent1 hf fun w => by
    rw [hs, ht]
    exact funR h hok w s hl hb
theorem rmix_ok : rmixE.all okB = true := by decide +kernel
theorem runmix_ok : runmixE.all okB = true := by decide +kernel
def statesTab : List (Nat × List AV × AV) := [
  (17, [R 1], R 2),
  (18, [R 1], R 2),
  (19, [R 0], R 3),
  (20, [R 0], R 3),
  (21, [R 0], R 4),
  (22, [R 0], R 4),
  (23, [R 0], R 5),
  (24, [R 0], R 5),
  (25, [R 0], R 6),
  (26, [R 0], R 6),
  (27, [R 0], R 7),
  (28, [R 0], R 7),
  (29, [R 0], R 8),
  (30, [R 0], R 8),
  (31, [R 0], R 9),
  (32, [R 0], R 9)]
theorem states_ev : evCall Try.prog noLore (tabCon statesTab) 100 4 [R 0, R 1] [] = some (.tv (.sc (.bool true)), []) := by kernel_rfl
theorem states_walk (w : World) (s b : List Nat) (hsl : s.length = 16) (hs : Byt s) (hbl : b.length = 16) (hb : Byt b) :
    Calls Try.prog 4 #[.agg (cells8 s), .agg (cells8 b)] w fun e w' => e = .returned (.bool true) ∧ Below w.heap.size w w' := by
  have hn : Byt ([] : List Nat) := fun y hy => by simp at hy
  have ok := fun (st : St) => st.ap_ok (ks := []) hn hs
  have okb := St.ap_ok (ks := []) hn hb .spread
  obtain ⟨f, hf⟩ : ∃ f, f = rowsEnv [] [s, b, St.spread.ap [] b, St.gather.ap [] s, St.sub.ap [] s, St.unsub.ap [] s, St.shift.ap [] s, St.unshift.ap [] s, St.mix.ap [] s, St.unmix.ap [] s] := ⟨_, rfl⟩
  have hlt : ∀ i, f i < 256 := by
    rw [hf]
    refine rowsEnv_lt hn fun r hr => ?_
    simp only [List.mem_cons, List.not_mem_nil, or_false] at hr
    rcases hr with rfl | rfl | rfl | rfl | rfl | rfl | rfl | rfl | rfl | rfl
    · exact hs
    · exact hb
    · exact okb.2
    · exact (ok .gather).2
    · exact (ok .sub).2
    · exact (ok .unsub).2
    · exact (ok .shift).2
    · exact (ok .unshift).2
    · exact (ok .mix).2
    · exact (ok .unmix).2
  have n0 : named f (176 + 16 * 0) 16 = s := by rw [hf]; exact named_row 0 rfl hsl
  have n1 : named f (176 + 16 * 1) 16 = b := by rw [hf]; exact named_row 1 rfl hbl
  have n2 : named f (176 + 16 * 2) 16 = St.spread.ap [] b := by rw [hf]; exact named_row 2 rfl okb.1
  have n3 : named f (176 + 16 * 3) 16 = St.gather.ap [] s := by rw [hf]; exact named_row 3 rfl (ok .gather).1
  have n4 : named f (176 + 16 * 4) 16 = St.sub.ap [] s := by rw [hf]; exact named_row 4 rfl (ok .sub).1
  have n5 : named f (176 + 16 * 5) 16 = St.unsub.ap [] s := by rw [hf]; exact named_row 5 rfl (ok .unsub).1
  have n6 : named f (176 + 16 * 6) 16 = St.shift.ap [] s := by rw [hf]; exact named_row 6 rfl (ok .shift).1
  have n7 : named f (176 + 16 * 7) 16 = St.unshift.ap [] s := by rw [hf]; exact named_row 7 rfl (ok .unshift).1
  have n8 : named f (176 + 16 * 8) 16 = St.mix.ap [] s := by rw [hf]; exact named_row 8 rfl (ok .mix).1
  have n9 : named f (176 + 16 * 9) 16 = St.unmix.ap [] s := by rw [hf]; exact named_row 9 rfl (ok .unmix).1
  clear hf
  refine ret_true (calls_of_ev (noLore_ok (envB f)) (tabCon_ok ?_) mixedOrders 100 states_ev (args := #[.agg (cells8 s), .agg (cells8 b)]) w ?_)
  · intro e he
    simp only [statesTab, List.mem_cons, List.not_mem_nil, or_false] at he
    rcases he with rfl | rfl | rfl | rfl | rfl | rfl | rfl | rfl | rfl | rfl | rfl | rfl | rfl | rfl | rfl | rfl
    · exact ap_ent hlt (st := .spread) spread_ev rfl n1 hbl hb n2
    · exact apR_ent hlt rspread_ev (St.out_ok .spread).1 n1 hbl hb n2
    · exact ap_ent hlt (st := .gather) gather_ev rfl n0 hsl hs n3
    · exact apR_ent hlt rgather_ev (St.out_ok .gather).1 n0 hsl hs n3
    · exact ap_ent hlt (st := .sub) subAll_ev rfl n0 hsl hs n4
    · exact apR_ent hlt rsubAll_ev (St.out_ok .sub).1 n0 hsl hs n4
    · exact ap_ent hlt (st := .unsub) unsubAll_ev rfl n0 hsl hs n5
    · exact apR_ent hlt runsubAll_ev (St.out_ok .unsub).1 n0 hsl hs n5
    · exact ap_ent hlt (st := .shift) shift_ev rfl n0 hsl hs n6
    · exact apR_ent hlt rshift_ev (St.out_ok .shift).1 n0 hsl hs n6
    · exact ap_ent hlt (st := .unshift) unshift_ev rfl n0 hsl hs n7
    · exact apR_ent hlt runshift_ev (St.out_ok .unshift).1 n0 hsl hs n7
    · exact ap_ent hlt (st := .mix) mix_ev rfl n0 hsl hs n8
    · exact apR_ent hlt rmix_ev (rmix_ok) n0 hsl hs (n8.trans (rmix_mix hs).symm)
    · exact ap_ent hlt (st := .unmix) unmix_ev rfl n0 hsl hs n9
    · exact apR_ent hlt runmix_ev (runmix_ok) n0 hsl hs (n9.trans (runmix_unmix hs).symm)
  · simp only [List.map_cons, List.map_nil, R, V_inst hlt, n0, n1]
end Go.Proofs.Ytehdglalfejpjaa
