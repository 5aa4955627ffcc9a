/- BaseFieldsBack, walked. -/
import Derived.Test.YtcgecflebplgaaaBsFields
set_option linter.unusedSimpArgs false
set_option linter.unusedVariables false
namespace Go.Proofs.Ytcgecflebplgaaa
open Go Go.RowKit

theorem strV_get (G : List (List Int)) (j : Nat) (h : j < G.length) : (G.map strV)[j]? = some (.string (bS (G.getD j []))) := by
  simp [strV, List.getD, List.getElem?_eq_getElem h]
theorem fields_byt {l : List Int} (h : Byt8 l) : ∀ f ∈ fieldsL l, Byt8 f := by
  induction l with
  | nil => intro f hf; simp [fieldsL] at hf; subst hf; intro x hx; simp at hx
  | cons c r ih =>
    have ih := ih (fun x hx => h x (List.mem_cons_of_mem _ hx))
    unfold fieldsL
    split
    · intro f hf
      rcases List.mem_cons.1 hf with rfl | hf
      · intro x hx; simp at hx
      · exact ih f hf
    · intro f hf
      rcases List.mem_cons.1 hf with rfl | hf
      · intro x hx
        rcases List.mem_cons.1 hx with rfl | hx
        · exact h _ (List.mem_cons_self ..)
        · revert hx
          cases he : fieldsL r with
          | nil => simp
          | cons a b => intro hx; exact ih a (by simp [he]) x hx
      · exact ih f (List.mem_of_mem_tail hf)
theorem bS_app (a b : List Int) : bS a ++ bS b = bS (a ++ b) := by
  unfold bS
  rw [ByteArray.mk_append_mk, List.map_append]

set_option maxRecDepth 100000 in
set_option maxHeartbeats 4000000 in
theorem fieldsBack_walk (w : World) (s : ByteArray) (hs : s.size ≤ 8796093022000) :
    Calls Try.prog 8 #[.string s] w fun e w' => e = .returned (.bool true) ∧ Below w.heap.size w w' := by
  obtain ⟨l, HL⟩ : ∃ l, Hid (sB s = l) := ⟨_, rfl⟩
  have hll : l.length = s.size := by rw [← HL.out]; exact sB_length s
  have C := hid (fields_any w s hs)
  rw [HL.out] at C
  obtain ⟨G, HG⟩ : ∃ G, Hid (fieldsL l = G) := ⟨_, rfl⟩
  have hg0 : 0 < G.length := by rw [← HG.out]; exact fieldsL_pos l
  have hg1 : G.length ≤ s.size + 1 := by rw [← HG.out, ← hll]; exact fieldsL_len l
  have HJ : Hid (joinC G = l) := by rw [← HG.out]; exact join_fields l
  have HN : Hid (∀ f ∈ G, 58 ∉ f) := by rw [← HG.out]; exact fieldsL_no l
  have HY : Hid (∀ f ∈ G, Byt8 f) := by rw [← HG.out]; exact fields_byt (by rw [← HL.out]; exact sB_byt s)
  rw [HG.out] at C
  go_enter Try.func8, Try.ntmps8
  go_wp2_with fail
  refine C.out.mono ?_
  rintro e w1 ⟨v1, rfl, hown, hbel⟩
  obtain ⟨g, cap, rfl, _, hn, hm, hcl⟩ := ownsRow_cells hown hg0
  have HC : Hid (∀ j, j < G.length → w1.cell? ⟨g, j, none⟩ = some (.string (bS (G.getD j [])))) := fun j hj => by
    have := hcl j _ (strV_get G j hj)
    rwa [Nat.zero_add] at this
  have B1 := hid hbel
  unfold maxLen at hm
  clear hown hbel hcl C
  go_wp2
  go_loopw [4, 5] (fun t i wr => ∃ I : Nat, ∃ T : ByteArray, I ≤ G.length ∧ t = .string T ∧ Hid (sB T = joinC (G.take I)) ∧ i = .int .i64 (I : Int) ∧ wr = w1) (fun _ i _ => G.length - (intOf i).toNat)
  case atStart => exact ⟨0, _, Nat.zero_le _, rfl, rfl, rfl, rfl⟩
  case round =>
    obtain ⟨I, T, hI, rfl, HT0, rfl, rfl⟩ := hrel
    by_cases hlt : I < G.length
    · have q1 := HC.out I hlt
      obtain ⟨f, Hf⟩ : ∃ f, Hid (G.getD I [] = f) := ⟨_, rfl⟩
      have hmem : f ∈ G := by
        rw [← Hf.out]
        simp [List.getD, List.getElem?_eq_getElem hlt]
      have Hf58 := hid (HN.out f hmem)
      have Hfb := hid (HY.out f hmem)
      clear hmem
      have HT := hid (joinC_take G I hlt)
      have hle := joinC_take_le G (I + 1) (by omega)
      rw [HJ.out, hll] at hle
      rw [Hf.out] at q1 HT
      rw [HT.out, List.length_append] at hle
      rw [← HT0.out] at HT hle
      have hTs : (sB T).length = T.size := sB_length T
      obtain ⟨F, HF⟩ : ∃ F, Hid (bS f = F) := ⟨_, rfl⟩
      have hFs : F.size = f.length := by rw [← HF.out]; exact bS_size f
      have HFs : Hid (sB F = f) := by rw [← HF.out]; exact sB_bS Hfb.out
      rw [HF.out] at q1
      have HR : Hid (F.size ≤ s.size ∧ ∀ k, k < F.size → (Instr.index 9 (.string F) (.int .i64 (k : Int))).run Try.prog wr = .ok (.int .u8 (f.getD k 0)) wr ∧ f.getD k 0 ≠ 58) := by
        refine hid ⟨by rw [hFs]; omega, fun k hk => ⟨by rw [← HFs.out]; exact idx_str wr F k hk, ?_⟩⟩
        intro e
        apply Hf58.out
        rw [← e, getD_of_lt (by omega)]
        exact List.getElem_mem _
      by_cases h0 : 0 < I
      · rw [if_pos h0] at HT hle
        rw [List.length_append, hTs, ← hFs] at hle
        simp only [List.length_cons, List.length_nil] at hle
        have HT2 : Hid (sB (T ++ ⟨#[58]⟩ ++ F) = joinC (G.take (I + 1))) := by
          rw [HT.out, sB_app, sB_app, HFs.out]
          exact rfl
        have n1 : ¬ (9223372036854775807 < T.size + 1) := by omega
        have n2 : ¬ (9223372036854775807 < T.size + 1 + F.size) := by omega
        clear HT Hf58 Hfb hTs hFs
        go_wp2
        obtain ⟨w1, hw1⟩ : ∃ w1, w1 = wr := ⟨_, rfl⟩
        subst hw1
        go_loopw [6] (fun k wr => ∃ K : Nat, K ≤ F.size ∧ k = .int .i64 (K : Int) ∧ wr = w1) (fun k _ => F.size - (intOf k).toNat)
        case atStart => exact ⟨0, Nat.zero_le _, rfl, rfl⟩
        case round =>
          obtain ⟨K, hK, rfl, rfl⟩ := hrel
          by_cases hlk : K < F.size
          · obtain ⟨q2, hne⟩ := HR.out.2 K hlk
            obtain ⟨x, Hx⟩ : ∃ x, Hid (f.getD K 0 = x) := ⟨_, rfl⟩
            rw [Hx.out] at q2 hne
            have := HR.out.1
            go_wp2
            exact ⟨⟨K + 1, by omega, by go_num, trivial⟩, by simp [intOf]; omega⟩
          · go_wp2
            exact ⟨⟨I + 1, _, by omega, rfl, HT2, by go_num, trivial⟩, by simp [intOf]; omega⟩
      · have e : I = 0 := by omega
        subst e
        rw [if_neg h0] at HT hle
        have hT0 : T = ⟨#[]⟩ := by
          apply sB_inj
          rw [HT0.out]
          exact rfl
        subst hT0
        have HT2 : Hid (sB (⟨#[]⟩ ++ F) = joinC (G.take (0 + 1))) := by
          rw [HT.out, sB_app, HFs.out]
          exact rfl
        have n2 : ¬ (9223372036854775807 < F.size) := by simp at hle; omega
        clear HT Hf58 Hfb hTs hFs
        go_wp2
        obtain ⟨w1, hw1⟩ : ∃ w1, w1 = wr := ⟨_, rfl⟩
        subst hw1
        go_loopw [6] (fun k wr => ∃ K : Nat, K ≤ F.size ∧ k = .int .i64 (K : Int) ∧ wr = w1) (fun k _ => F.size - (intOf k).toNat)
        case atStart => exact ⟨0, Nat.zero_le _, rfl, rfl⟩
        case round =>
          obtain ⟨K, hK, rfl, rfl⟩ := hrel
          by_cases hlk : K < F.size
          · obtain ⟨q2, hne⟩ := HR.out.2 K hlk
            obtain ⟨x, Hx⟩ : ∃ x, Hid (f.getD K 0 = x) := ⟨_, rfl⟩
            rw [Hx.out] at q2 hne
            have := HR.out.1
            go_wp2
            exact ⟨⟨K + 1, by omega, by go_num, trivial⟩, by simp [intOf]; omega⟩
          · go_wp2
            exact ⟨⟨0 + 1, _, by omega, rfl, HT2, by go_num, trivial⟩, by simp [intOf]; omega⟩
    · have e : I = G.length := by omega
      have e2 : T = s := by
        apply sB_inj
        rw [HT0.out, e, List.take_of_length_le (Nat.le_refl _), HJ.out, ← HL.out]
      subst e2
      have heq : (T.toList == T.toList) = true := by simp
      go_wp2
      go_ret
      exact ⟨by simp, B1.out⟩
end Go.Proofs.Ytcgecflebplgaaa
