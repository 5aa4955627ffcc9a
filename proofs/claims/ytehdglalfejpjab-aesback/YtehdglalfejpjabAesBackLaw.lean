/- AesBack, walked by the evaluator: every row of bytes goes by a name. -/
import Derived.Test.YtehdglalfejpjabAesNilWalk
import Derived.Test.YtehdglalfejpjabAesAlg
import Derived.Test.YtehdglalfejpjabEvRows
set_option linter.unusedVariables false
namespace Go.Proofs.Ytehdglalfejpjab
open Go Go.RowKit Ev

def R (p : Nat) : AV := V (176 + 16 * p) 16
def backTab : List (Nat × List AV × AV) := [
  (10, [], .tv (.sc (.bool true))),
  (14, [B8 0], B8 1),
  (13, [B8 1], B8 0),
  (13, [B8 0], B8 2),
  (14, [B8 2], B8 0),
  (16, [R 0], R 1),
  (15, [R 1], R 0),
  (15, [R 0], R 2),
  (16, [R 2], R 0),
  (18, [R 0], R 3),
  (17, [R 3], R 0),
  (17, [R 0], R 4),
  (18, [R 4], R 0),
  (20, [R 0], R 5),
  (19, [R 5], R 0),
  (19, [R 0], R 6),
  (20, [R 6], R 0),
  (22, [R 7], R 8),
  (21, [R 8], R 7),
  (21, [R 0], R 9),
  (22, [R 9], R 0)]
def backCmp : List (BinOp × Ex × Ex × Bool) := [(.eql, .var 1, .var 0, false), (.eql, .var 1, .bit .xor .u8 (.lit 255) (.var 0), false)]
theorem backLaw_ev : evCall Try.prog (tabLore backCmp []) (tabCon backTab) 100 5 [R 0, R 7, B8 0] [] = some (.tv (.sc (.bool true)), []) := by kernel_rfl
theorem sub_ne (x : Nat) (h : x < 256) : sub x ≠ x ∧ sub x ≠ 255 ^^^ x := by
  have h1 : (List.range 256).all (fun a => blend (invLit.getD a 0) != a && blend (invLit.getD a 0) != 255 ^^^ a) = true := by decide +kernel
  have := byte_all h1 x h
  unfold sub inv
  rw [invT_lit]
  simpa using this
theorem ap_ent {f : Nat → Nat} (hf : ∀ i, f i < 256) {g fuel p q : Nat} {s : List Nat} {st : St} (h : evCall Try.prog noLore conC fuel g [.tv (.agg (vars 0 16))] [] = some (.tv (.agg (bytesE st.out)), [])) (hst : st.env [] = at8)
    (hs : named f (176 + 16 * p) 16 = s) (hl : s.length = 16) (hb : Byt s) (ht : named f (176 + 16 * q) 16 = st.ap [] s) : EntOk (envB f) (g, [R p], R q) :=
  ent1 hf fun w => by
    rw [hs, ht]
    have := fun1 h st.out_ok.1 w s hl hb
    rw [show st.ap [] s = st.out.map (nden (at8 s)) by unfold St.ap; rw [hst]]
    exact this
theorem back_walk (w : World) (s b : List Nat) (x : Nat) (hsl : s.length = 16) (hs : Byt s) (hbl : b.length = 16) (hb : Byt b) (hx : x < 256) :
    Calls Try.prog 5 #[.agg (cells8 s), .agg (cells8 b), .int .u8 (x : Int)] w fun e w' => e = .returned (.bool true) ∧ Below w.heap.size w w' := by
  have hn : Byt ([] : List Nat) := fun y hy => by simp at hy
  have ok := fun (st : St) => st.ap_ok (ks := []) hn hs
  have okb := St.ap_ok (ks := []) hn hb .spread
  obtain ⟨u, hu⟩ : ∃ u, u = sub x := ⟨_, rfl⟩
  obtain ⟨v, hv⟩ : ∃ v, v = unsub x := ⟨_, rfl⟩
  have lu : u < 256 := by rw [hu]; exact sub_lt x
  have lv : v < 256 := by rw [hv]; exact unsub_lt x
  obtain ⟨f, hf⟩ : ∃ f, f = rowsEnv [x, u, v] [s, St.sub.ap [] s, St.unsub.ap [] s, St.shift.ap [] s, St.unshift.ap [] s, St.mix.ap [] s, St.unmix.ap [] s, b, St.spread.ap [] b, St.gather.ap [] s] := ⟨_, rfl⟩
  have hlt : ∀ i, f i < 256 := by
    rw [hf]
    refine rowsEnv_lt (fun y hy => ?_) fun r hr => ?_
    · simp only [List.mem_cons, List.not_mem_nil, or_false] at hy
      rcases hy with rfl | rfl | rfl
      · exact hx
      · exact lu
      · exact lv
    · simp only [List.mem_cons, List.not_mem_nil, or_false] at hr
      rcases hr with rfl | rfl | rfl | rfl | rfl | rfl | rfl | rfl | rfl | rfl
      · exact hs
      · exact (ok .sub).2
      · exact (ok .unsub).2
      · exact (ok .shift).2
      · exact (ok .unshift).2
      · exact (ok .mix).2
      · exact (ok .unmix).2
      · exact hb
      · exact okb.2
      · exact (ok .gather).2
  have f0 : f 0 = x := by rw [hf, named_low (by decide)]; rfl
  have f1 : f 1 = u := by rw [hf, named_low (by decide)]; rfl
  have f2 : f 2 = v := by rw [hf, named_low (by decide)]; rfl
  have n0 : named f (176 + 16 * 0) 16 = s := by rw [hf]; exact named_row 0 rfl hsl
  have n1 : named f (176 + 16 * 1) 16 = St.sub.ap [] s := by rw [hf]; exact named_row 1 rfl (ok .sub).1
  have n2 : named f (176 + 16 * 2) 16 = St.unsub.ap [] s := by rw [hf]; exact named_row 2 rfl (ok .unsub).1
  have n3 : named f (176 + 16 * 3) 16 = St.shift.ap [] s := by rw [hf]; exact named_row 3 rfl (ok .shift).1
  have n4 : named f (176 + 16 * 4) 16 = St.unshift.ap [] s := by rw [hf]; exact named_row 4 rfl (ok .unshift).1
  have n5 : named f (176 + 16 * 5) 16 = St.mix.ap [] s := by rw [hf]; exact named_row 5 rfl (ok .mix).1
  have n6 : named f (176 + 16 * 6) 16 = St.unmix.ap [] s := by rw [hf]; exact named_row 6 rfl (ok .unmix).1
  have n7 : named f (176 + 16 * 7) 16 = b := by rw [hf]; exact named_row 7 rfl hbl
  have n8 : named f (176 + 16 * 8) 16 = St.spread.ap [] b := by rw [hf]; exact named_row 8 rfl okb.1
  have n9 : named f (176 + 16 * 9) 16 = St.gather.ap [] s := by rw [hf]; exact named_row 9 rfl (ok .gather).1
  clear hf
  refine ret_true (calls_of_ev (tabLore_ok (ρ := envB f) ?_ ?_) (tabCon_ok ?_) mixedOrders 100 backLaw_ev (args := #[.agg (cells8 s), .agg (cells8 b), .int .u8 (x : Int)]) w ?_)
  · intro e he
    obtain ⟨q1, q2⟩ := sub_ne x hx
    rw [← hu] at q1 q2
    simp only [backCmp, List.mem_cons, List.not_mem_nil, or_false] at he
    rcases he with rfl | rfl
    · simp only [CmpOk, cmpOf, Ex.den, envB, f0, f1, Option.some.injEq, beq_eq_false_iff_ne, ne_eq]
      omega
    · have e1 := (nden_ok hlt (.bit .xor .u8 (.lit 255) (.var 0)) rfl).1
      have e2 : nden f (.bit .xor .u8 (.lit 255) (.var 0)) = 255 ^^^ x := by show 255 ^^^ f 0 = _; rw [f0]
      rw [e2] at e1
      simp only [CmpOk, cmpOf, Option.some.injEq, beq_eq_false_iff_ne, ne_eq, e1]
      simp only [Ex.den, envB, f1]
      omega
  · intro e he; simp at he
  · intro e he
    simp only [backTab, List.mem_cons, List.not_mem_nil, or_false] at he
    rcases he with rfl | rfl | rfl | rfl | rfl | rfl | rfl | rfl | rfl | rfl | rfl | rfl | rfl | rfl | rfl | rfl | rfl | rfl | rfl | rfl | rfl
    · exact ent0 fun w => awake_any w
    · exact entB1 hlt fun w => by rw [f0, f1, hu]; exact sub_any w x hx
    · exact entB1 hlt fun w => by
        rw [f0, f1]
        have := unsub_any w u lu
        rw [show unsub u = x by rw [hu]; exact unsub_sub x hx] at this
        exact this
    · exact entB1 hlt fun w => by rw [f0, f2, hv]; exact unsub_any w x hx
    · exact entB1 hlt fun w => by
        rw [f0, f2]
        have := sub_any w v lv
        rw [show sub v = x by rw [hv]; exact sub_unsub x hx] at this
        exact this
    · exact ap_ent hlt (st := .sub) subAll_ev rfl n0 hsl hs n1
    · exact ap_ent hlt (st := .unsub) unsubAll_ev rfl n1 (ok .sub).1 (ok .sub).2 (n0.trans (unsub_sub_ap hsl hs).symm)
    · exact ap_ent hlt (st := .unsub) unsubAll_ev rfl n0 hsl hs n2
    · exact ap_ent hlt (st := .sub) subAll_ev rfl n2 (ok .unsub).1 (ok .unsub).2 (n0.trans (sub_unsub_ap hsl hs).symm)
    · exact ap_ent hlt (st := .shift) shift_ev rfl n0 hsl hs n3
    · exact ap_ent hlt (st := .unshift) unshift_ev rfl n3 (ok .shift).1 (ok .shift).2 (n0.trans (unshift_shift hsl).symm)
    · exact ap_ent hlt (st := .unshift) unshift_ev rfl n0 hsl hs n4
    · exact ap_ent hlt (st := .shift) shift_ev rfl n4 (ok .unshift).1 (ok .unshift).2 (n0.trans (shift_unshift hsl).symm)
    · exact ap_ent hlt (st := .mix) mix_ev rfl n0 hsl hs n5
    · exact ap_ent hlt (st := .unmix) unmix_ev rfl n5 (ok .mix).1 (ok .mix).2 (n0.trans (unmix_mix hsl hs hn).symm)
    · exact ap_ent hlt (st := .unmix) unmix_ev rfl n0 hsl hs n6
    · exact ap_ent hlt (st := .mix) mix_ev rfl n6 (ok .unmix).1 (ok .unmix).2 (n0.trans (mix_unmix hsl hs hn).symm)
    · exact ap_ent hlt (st := .spread) spread_ev rfl n7 hbl hb n8
    · exact ap_ent hlt (st := .gather) gather_ev rfl n8 okb.1 okb.2 (n7.trans (gather_spread hbl).symm)
    · exact ap_ent hlt (st := .gather) gather_ev rfl n0 hsl hs n9
    · exact ap_ent hlt (st := .spread) spread_ev rfl n9 (ok .gather).1 (ok .gather).2 (n0.trans (spread_gather hsl).symm)
  · have e3 : (B8 0).inst (envB f) [] = some (.int .u8 (x : Int)) := by
      simp only [B8, AV.inst, TV.inst, SV.inst, Ex.den, envB, f0]
    simp only [List.map_cons, List.map_nil, R, V_inst hlt, n0, n7, e3]
end Go.Proofs.Ytehdglalfejpjab
