/- AesLinear, walked by the evaluator: every row of bytes goes by a name. -/
import Derived.Test.YtehdglalfejpjabAesLinR0
import Derived.Test.YtehdglalfejpjabAesLinR1
import Derived.Test.YtehdglalfejpjabAesLinR2
import Derived.Test.YtehdglalfejpjabAesLinR3
set_option linter.unusedVariables false
set_option linter.unusedSimpArgs false
namespace Go.Proofs.Ytehdglalfejpjab
open Go Go.RowKit Ev

theorem lin_ev (row col : Nat) (hr : row < 4) (hc : col < 4) : evCall Try.prog (linLore row col) (tabCon (linTab row col)) 100 7 [R 0, R 1, B8 0] [] = some (.tv (.sc (.bool true)), []) := by
  have h1 : row = 0 ∨ row = 1 ∨ row = 2 ∨ row = 3 := by omega
  have h2 : col = 0 ∨ col = 1 ∨ col = 2 ∨ col = 3 := by omega
  rcases h1 with rfl | rfl | rfl | rfl <;> rcases h2 with rfl | rfl | rfl | rfl
  · exact lin_ev_0_0
  · exact lin_ev_0_1
  · exact lin_ev_0_2
  · exact lin_ev_0_3
  · exact lin_ev_1_0
  · exact lin_ev_1_1
  · exact lin_ev_1_2
  · exact lin_ev_1_3
  · exact lin_ev_2_0
  · exact lin_ev_2_1
  · exact lin_ev_2_2
  · exact lin_ev_2_3
  · exact lin_ev_3_0
  · exact lin_ev_3_1
  · exact lin_ev_3_2
  · exact lin_ev_3_3

def turnL (s : List Nat) (p : Nat) : List Nat := (List.range 16).map fun j => if j = 4 * (p % 4) + p / 4 % 4 then at8 s j ^^^ (p ||| 1) else at8 s j
theorem turnL_get (s : List Nat) (p j : Nat) (hj : j < 16) : at8 (turnL s p) j = if j = 4 * (p % 4) + p / 4 % 4 then at8 s j ^^^ (p ||| 1) else at8 s j := by
  show (turnL s p).getD j 0 = _
  simp only [turnL, List.getD, List.getElem?_map, List.getElem?_range hj, Option.map_some, Option.getD_some]
theorem turn_diff (s : List Nat) (p j : Nat) (hj : j < 16) : at8 s j ^^^ at8 (turnL s p) j = if j = 4 * (p % 4) + p / 4 % 4 then p ||| 1 else 0 := by
  rw [turnL_get s p j hj]
  split
  · exact xor_left_self _ _
  · exact Nat.xor_self _
theorem turnL_byt {s : List Nat} (hs : Byt s) {p : Nat} (hp : p < 256) : Byt (turnL s p) := fun x hx => by
  obtain ⟨j, _, rfl⟩ := List.mem_map.1 hx
  split
  · exact xor8 (byt_at hs _) (or8 hp (by decide))
  · exact byt_at hs _
theorem nz (x : Nat) (h : x < 256) (h0 : x ≠ 0) : dbl x ≠ 0 ∧ dbl x ^^^ x ≠ 0 := by
  have e : (List.range 256).all (fun x => x == 0 || (dbl x != 0 && dbl x ^^^ x != 0)) = true := by decide +kernel
  have := byte_all e x h
  simp only [Bool.or_eq_true, beq_iff_eq, h0, false_or, Bool.and_eq_true, bne_iff_ne, ne_eq] at this
  exact this
theorem diff_get {s : List Nat} (hs : Byt s) (hsl : s.length = 16) {p : Nat} (hp : p < 256) (r c : Nat) (hr : r < 4) (hc : c < 4) :
    (c ≠ p / 4 % 4 → at8 (bothL (St.mix.ap [] s) (St.mix.ap [] (turnL s p))) (4 * r + c) = 0) ∧ (c = p / 4 % 4 → at8 (bothL (St.mix.ap [] s) (St.mix.ap [] (turnL s p))) (4 * r + c) ≠ 0) := by
  have hn : Byt ([] : List Nat) := fun y hy => by simp at hy
  have hx : p ||| 1 ≠ 0 := fun e => by
    have := Nat.right_le_or (n := p) (m := 1)
    omega
  have hx2 := or8 hp (show 1 < 256 by decide)
  rw [bothL_get (St.ap_ok hn hs .mix).1 _ (by omega), mix_both hs (turnL_byt hs hp) hsl r c hr hc, turn_diff s p _ (by omega), turn_diff s p _ (by omega), turn_diff s p c (by omega), turn_diff s p (4 + c) (by omega), turn_diff s p (8 + c) (by omega), turn_diff s p (12 + c) (by omega)]
  obtain ⟨x, hxx⟩ : ∃ x, x = p ||| 1 := ⟨_, rfl⟩
  rw [← hxx] at hx hx2 ⊢
  have hrow : p % 4 < 4 := Nat.mod_lt _ (by decide)
  have hcol : p / 4 % 4 < 4 := Nat.mod_lt _ (by decide)
  generalize p % 4 = row at *
  generalize p / 4 % 4 = col at *
  obtain ⟨z1, z2⟩ := nz x hx2 hx
  constructor
  · intro hne
    rw [if_neg (by omega), if_neg (by omega), if_neg (by omega), if_neg (by omega), if_neg (by omega), if_neg (by omega)]
    rfl
  · intro he
    subst he
    have hsum : ((if c = 4 * row + c then x else 0) ^^^ (if 4 + c = 4 * row + c then x else 0) ^^^ (if 8 + c = 4 * row + c then x else 0) ^^^ (if 12 + c = 4 * row + c then x else 0)) = x := by
      have : row = 0 ∨ row = 1 ∨ row = 2 ∨ row = 3 := by omega
      rcases this with rfl | rfl | rfl | rfl
      · rw [if_pos (by omega), if_neg (by omega), if_neg (by omega), if_neg (by omega)]; simp
      · rw [if_neg (by omega), if_pos (by omega), if_neg (by omega), if_neg (by omega)]; simp
      · rw [if_neg (by omega), if_neg (by omega), if_pos (by omega), if_neg (by omega)]; simp
      · rw [if_neg (by omega), if_neg (by omega), if_neg (by omega), if_pos (by omega)]; simp
    rw [hsum]
    unfold mixB
    by_cases h1 : r = row
    · rw [if_pos (by omega), if_neg (by omega), Nat.xor_zero, Nat.xor_assoc, Nat.xor_self, Nat.xor_zero]
      exact z1
    · by_cases h2 : (r + 1) % 4 = row
      · rw [if_neg (by omega), if_pos (by omega), Nat.zero_xor, Nat.xor_zero]
        exact z2
      · rw [if_neg (by omega), if_neg (by omega)]
        show dbl (0 ^^^ 0) ^^^ 0 ^^^ x ≠ 0
        rw [show dbl (0 ^^^ 0) ^^^ 0 ^^^ x = x from by rw [show dbl (0 ^^^ 0) ^^^ 0 = 0 from rfl, Nat.zero_xor]]
        exact hx
theorem ap_ent {f : Nat → Nat} (hf : ∀ i, f i < 256) {g fuel p q : Nat} {s : List Nat} {st : St} (h : evCall Try.prog noLore conC fuel g [.tv (.agg (vars 0 16))] [] = some (.tv (.agg (bytesE st.out)), [])) (hst : st.env [] = at8)
    (hs : named f (176 + 16 * p) 16 = s) (hl : s.length = 16) (hb : Byt s) (ht : named f (176 + 16 * q) 16 = st.ap [] s) : EntOk (envB f) (g, [R p], R q) :=
  ent1 hf fun w => by
    rw [hs, ht]
    have := fun1 h st.out_ok.1 w s hl hb
    rw [show st.ap [] s = st.out.map (nden (at8 s)) by unfold St.ap; rw [hst]]
    exact this
theorem lin_walk (w : World) (s t : List Nat) (p : Nat) (hsl : s.length = 16) (hs : Byt s) (htl : t.length = 16) (ht : Byt t) (hp : p < 256) :
    Calls Try.prog 7 #[.agg (cells8 s), .agg (cells8 t), .int .u8 (p : Int)] w fun e w' => e = .returned (.bool true) ∧ Below w.heap.size w w' := by
  have hn : Byt ([] : List Nat) := fun y hy => by simp at hy
  have hu := bothL_byt hs ht
  have hul := bothL_length s t
  have hT := turnL_byt hs hp
  have hTl : (turnL s p).length = 16 := by simp [turnL]
  have oks := fun (st : St) => st.ap_ok (ks := []) hn hs
  have okt := fun (st : St) => st.ap_ok (ks := []) hn ht
  have oku := fun (st : St) => st.ap_ok (ks := []) hn hu
  have okT := St.ap_ok (ks := []) hn hT .mix
  have okD := bothL_byt (oks .mix).2 okT.2
  have hq : p / 4 < 256 := by omega
  obtain ⟨q, hqq⟩ : ∃ q, q = p / 4 := ⟨_, rfl⟩
  obtain ⟨f, hf⟩ : ∃ f, f = rowsEnv [p, q] [s, t, bothL s t, St.mix.ap [] s, St.mix.ap [] t, St.mix.ap [] (bothL s t), St.shift.ap [] s, St.shift.ap [] t, St.shift.ap [] (bothL s t), bothL (St.mix.ap [] s) (St.mix.ap [] (turnL s p)), St.mix.ap [] (turnL s p)] := ⟨_, rfl⟩
  have hlt : ∀ i, f i < 256 := by
    rw [hf]
    refine rowsEnv_lt (fun y hy => ?_) fun r hr => ?_
    · simp only [List.mem_cons, List.not_mem_nil, or_false] at hy
      rcases hy with rfl | rfl
      · exact hp
      · rw [hqq]; exact hq
    · simp only [List.mem_cons, List.not_mem_nil, or_false] at hr
      rcases hr with rfl | rfl | rfl | rfl | rfl | rfl | rfl | rfl | rfl | rfl | rfl
      · exact hs
      · exact ht
      · exact hu
      · exact (oks .mix).2
      · exact (okt .mix).2
      · exact (oku .mix).2
      · exact (oks .shift).2
      · exact (okt .shift).2
      · exact (oku .shift).2
      · exact okD
      · exact okT.2
  have f0 : f 0 = p := by rw [hf, named_low (by decide)]; rfl
  have f1 : f 1 = q := by rw [hf, named_low (by decide)]; rfl
  have n0 : named f (176 + 16 * 0) 16 = s := by rw [hf]; exact named_row 0 rfl hsl
  have n1 : named f (176 + 16 * 1) 16 = t := by rw [hf]; exact named_row 1 rfl htl
  have n2 : named f (176 + 16 * 2) 16 = bothL s t := by rw [hf]; exact named_row 2 rfl hul
  have n3 : named f (176 + 16 * 3) 16 = St.mix.ap [] s := by rw [hf]; exact named_row 3 rfl (oks .mix).1
  have n4 : named f (176 + 16 * 4) 16 = St.mix.ap [] t := by rw [hf]; exact named_row 4 rfl (okt .mix).1
  have n5 : named f (176 + 16 * 5) 16 = St.mix.ap [] (bothL s t) := by rw [hf]; exact named_row 5 rfl (oku .mix).1
  have n6 : named f (176 + 16 * 6) 16 = St.shift.ap [] s := by rw [hf]; exact named_row 6 rfl (oks .shift).1
  have n7 : named f (176 + 16 * 7) 16 = St.shift.ap [] t := by rw [hf]; exact named_row 7 rfl (okt .shift).1
  have n8 : named f (176 + 16 * 8) 16 = St.shift.ap [] (bothL s t) := by rw [hf]; exact named_row 8 rfl (oku .shift).1
  have n9 : named f (176 + 16 * 9) 16 = bothL (St.mix.ap [] s) (St.mix.ap [] (turnL s p)) := by rw [hf]; exact named_row 9 rfl (bothL_length _ _)
  have n10 : named f (176 + 16 * 10) 16 = St.mix.ap [] (turnL s p) := by rw [hf]; exact named_row 10 rfl okT.1
  clear hf
  have at_row : ∀ (k : Nat) (l : List Nat), named f (176 + 16 * k) 16 = l → ∀ j, j < 16 → f (176 + 16 * k + j) = at8 l j := fun k l h j hj => by
    rw [← h]
    simp [at8, named, List.getD, hj]
  have hev := lin_ev (p % 4) (p / 4 % 4) (Nat.mod_lt _ (by decide)) (Nat.mod_lt _ (by decide))
  have hturn : (turnE (p % 4) (p / 4 % 4)).map (nden f) = turnL s p := by
    unfold turnE turnL
    rw [List.map_map]
    refine List.map_congr_left fun j hj => ?_
    have hj2 := List.mem_range.1 hj
    have e := at_row 0 s n0 j hj2
    simp only [Nat.mul_zero, Nat.add_zero] at e
    simp only [Function.comp]
    split
    · show f (176 + j) ^^^ (f 0 ||| 1) = _
      rw [e, f0]
    · exact e
  have hdiff : (diffE (p / 4 % 4)).map (nden f) = bothL (St.mix.ap [] s) (St.mix.ap [] (turnL s p)) := by
    refine ext16 (by simp [diffE]) (bothL_length _ _) fun r c hr hc => ?_
    have h : 4 * r + c < 16 := by omega
    have e0 : at8 ((diffE (p / 4 % 4)).map (nden f)) (4 * r + c) = nden f (if (4 * r + c) % 4 = p / 4 % 4 then .var (176 + 16 * 9 + (4 * r + c)) else .lit 0) := by
      show ((diffE (p / 4 % 4)).map (nden f)).getD (4 * r + c) 0 = _
      simp only [diffE, List.getD, List.getElem?_map, List.getElem?_range h, Option.map_some, Option.getD_some]
    rw [e0, show (4 * r + c) % 4 = c by omega]
    obtain ⟨d1, d2⟩ := diff_get hs hsl hp r c hr hc
    split
    · exact at_row 9 _ n9 _ h
    · rename_i hne
      rw [d1 hne]
      rfl
  have hLore : LoreOk (envB f) (linLore (p % 4) (p / 4 % 4)) := by
    refine ⟨(tabLore_ok (ρ := envB f) (c := linFact (p / 4 % 4)) (t := []) (fun e he => ?_) (fun e he => by simp at he)).fact, fun e => ?_, fun _ _ _ h => by simp [linLore] at h⟩
    · obtain ⟨r, hr, rfl⟩ := List.mem_map.1 he
      have hr2 := List.mem_range.1 hr
      have hcol : p / 4 % 4 < 4 := Nat.mod_lt _ (by decide)
      have d2 := (diff_get hs hsl hp r (p / 4 % 4) hr2 hcol).2 rfl
      have e := at_row 9 _ n9 (4 * r + p / 4 % 4) (by omega)
      rw [← e] at d2
      simp only [CmpOk, cmpOf, Ex.den, envB, Option.some.injEq, bne_iff_ne, ne_eq]
      omega
    · show (linNm (p % 4) (p / 4 % 4) e).den (envB f) = e.den (envB f)
      unfold linNm
      split
      · rename_i i
        split
        · rename_i h0
          subst h0
          simp only [Ex.den, envB, ariOf, f0]
          rw [show ((p : Nat) : Int).tmod 4 = ((p % 4 : Nat) : Int) from (Int.ofNat_tmod p 4).symm]
        · split
          · rename_i h1
            subst h1
            simp only [Ex.den, envB, ariOf, f1, hqq]
            rw [show ((p / 4 : Nat) : Int).tmod 4 = ((p / 4 % 4 : Nat) : Int) from (Int.ofNat_tmod (p / 4) 4).symm]
          · rfl
      · rename_i i
        split
        · rename_i h0
          subst h0
          simp only [Ex.den, envB, ariOf, f0, f1, hqq]
          rw [show ((p : Nat) : Int).tdiv 4 = ((p / 4 : Nat) : Int) from (Int.ofNat_tdiv p 4).symm, wrap8, Nat.mod_eq_of_lt hq]
        · rfl
      · rfl
  have VR : ∀ (k : Nat) (l : List Nat), named f (176 + 16 * k) 16 = l → ∀ ms, (R k).inst (envB f) ms = some (.agg (cells8 l)) := fun k l h ms => by
    rw [← h]
    exact V_inst hlt ms _ _
  refine ret_true (calls_of_ev hLore (tabCon_ok ?_) mixedOrders 100 hev (args := #[.agg (cells8 s), .agg (cells8 t), .int .u8 (p : Int)]) w ?_)
  · intro e he
    simp only [linTab, List.mem_cons, List.not_mem_nil, or_false] at he
    rcases he with rfl | rfl | rfl | rfl | rfl | rfl | rfl | rfl | rfl | rfl | rfl | rfl
    · exact ent0 fun w => awake_any w
    · exact ent2 hlt fun w => by rw [n0, n1, n2]; exact both_any w s t hsl htl hs ht
    · exact ent2 hlt fun w => by rw [n3, n4, n5, mix_bothL hs ht hsl]; exact both_any w _ _ (oks .mix).1 (okt .mix).1 (oks .mix).2 (okt .mix).2
    · exact ent2 hlt fun w => by rw [n6, n7, n8, shift_bothL hs ht hsl]; exact both_any w _ _ (oks .shift).1 (okt .shift).1 (oks .shift).2 (okt .shift).2
    · exact ap_ent hlt (st := .mix) mix_ev rfl n0 hsl hs n3
    · exact ap_ent hlt (st := .mix) mix_ev rfl n1 htl ht n4
    · exact ap_ent hlt (st := .mix) mix_ev rfl n2 hul hu n5
    · exact ap_ent hlt (st := .shift) shift_ev rfl n0 hsl hs n6
    · exact ap_ent hlt (st := .shift) shift_ev rfl n1 htl ht n7
    · exact ap_ent hlt (st := .shift) shift_ev rfl n2 hul hu n8
    · refine entX [.agg (cells8 (turnL s p))] (.agg (cells8 (St.mix.ap [] (turnL s p)))) (fun ms => ?_) (VR 10 _ n10) fun w => ?_
      · simp only [List.map_cons, List.map_nil, AV.inst]
        have hok : (turnE (p % 4) (p / 4 % 4)).all okB = true := by
          refine List.all_eq_true.2 fun e he => ?_
          obtain ⟨j, _, rfl⟩ := List.mem_map.1 he
          split <;> rfl
        rw [bytesE_inst hlt ms hok, hturn]
      · exact fun1 mix_ev (St.out_ok .mix).1 w _ hTl hT
    · refine entX [.agg (cells8 (St.mix.ap [] s)), .agg (cells8 (St.mix.ap [] (turnL s p)))] (.agg (cells8 (bothL (St.mix.ap [] s) (St.mix.ap [] (turnL s p))))) (fun ms => ?_) (fun ms => ?_) fun w => ?_
      · simp only [List.map_cons, List.map_nil, VR 3 _ n3, VR 10 _ n10]
      · have hok : (diffE (p / 4 % 4)).all okB = true := by
          refine List.all_eq_true.2 fun e he => ?_
          obtain ⟨j, _, rfl⟩ := List.mem_map.1 he
          split <;> rfl
        simp only [AV.inst]
        rw [bytesE_inst hlt ms hok, hdiff]
      · exact both_any w _ _ (oks .mix).1 okT.1 (oks .mix).2 okT.2
  · have e3 : (B8 0).inst (envB f) [] = some (.int .u8 (p : Int)) := by
      simp only [B8, AV.inst, TV.inst, SV.inst, Ex.den, envB, f0]
    simp only [List.map_cons, List.map_nil, VR 0 _ n0, VR 1 _ n1, e3]
end Go.Proofs.Ytehdglalfejpjab
