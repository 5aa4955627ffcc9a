/- AesWhole, walked by the evaluator: every row of bytes goes by a name. -/
import Derived.Test.YtehdglalfejpjabAesNilWalk
import Derived.Test.YtehdglalfejpjabAesAlg
import Derived.Test.YtehdglalfejpjabEvRows
set_option linter.unusedVariables false
namespace Go.Proofs.Ytehdglalfejpjab
open Go Go.RowKit Ev

theorem named_key {ks : List Nat} {l : List (List Nat)} {k : List Nat} (hl : k.length = 16) (hk : Byt k) (e : ks = schedL k) : named (rowsEnv ks l) 0 16 = k := by
  subst e
  refine List.ext_getElem (by rw [named_length, hl]) fun i h1 h2 => ?_
  have hi : i < 16 := by simpa [named_length] using h1
  simp only [named, List.getElem_map, List.getElem_range, rowsEnv, Nat.zero_add]
  rw [if_pos (by omega), ← (schedL_ok hl hk).2.2 i (by omega)]
  unfold schedF
  rw [show i / 16 = 0 by omega, show i % 16 = i by omega]
  simp [blk, at8, List.getD, List.getElem?_eq_getElem h2]
theorem zeros_at (n i : Nat) : at8 (zeros8 n) i = 0 := by
  simp only [at8, zeros8, List.getD, List.getElem?_replicate]
  split <;> rfl
/-- The keys of the rounds are never all noughts. -/
theorem sched_ne {k : List Nat} (hl : k.length = 16) (hk : Byt k) : schedL k ≠ zeros8 176 := by
  intro e
  have h0 : ∀ i, i < 176 → schedF k i = 0 := fun i hi => by rw [(schedL_ok hl hk).2.2 i hi, e]; exact zeros_at 176 i
  have h1 : schedF k 16 = sub (schedF k 13) ^^^ 1 ^^^ schedF k 0 := rfl
  rw [h0 16 (by decide), h0 13 (by decide), h0 0 (by decide)] at h1
  revert h1
  decide +kernel

def wholeTab : List (Nat × List AV × AV) := [
  (10, [], .tv (.sc (.bool true))),
  (41, [V 0 16], V 0 176),
  (26, [V 0 176, V 176 16, N64 10], V 208 16),
  (26, [V 0 176, V 192 16, N64 10], V 240 16),
  (26, [V 0 176, V 224 16, N64 10], V 176 16),
  (27, [V 0 176, V 208 16], V 176 16),
  (27, [V 0 176, V 176 16], V 224 16)]
def wholeFact (q : Bool) : List (List SV × List SV × Bool) := [(vars 0 176, lits (zeros8 176), false), (vars 240 16, vars 208 16, q), (vars 192 16, vars 176 16, q)]
theorem whole_ev : ([true, false].all fun q => decide (evCall Try.prog ⟨fun _ _ _ => none, id, tabFact (wholeFact q)⟩ (tabCon wholeTab) 100 6 [V 0 16, V 176 16, V 192 16] [] = some (.tv (.sc (.bool true)), []))) = true := by kernel_rfl
theorem whole_walk (w : World) (k b o : List Nat) (hkl : k.length = 16) (hk : Byt k) (hbl : b.length = 16) (hb : Byt b) (hol : o.length = 16) (ho : Byt o) :
    Calls Try.prog 6 #[.agg (cells8 k), .agg (cells8 b), .agg (cells8 o)] w fun e w' => e = .returned (.bool true) ∧ Below w.heap.size w w' := by
  obtain ⟨s1, s2, _⟩ := schedL_ok hkl hk
  obtain ⟨ks, hks⟩ : ∃ ks, ks = schedL k := ⟨_, rfl⟩
  have hne := sched_ne hkl hk
  rw [← hks] at s1 s2 hne
  obtain ⟨x, hx⟩ : ∃ x, x = forthL ks b 10 := ⟨_, rfl⟩
  obtain ⟨z, hz⟩ : ∃ z, z = backL ks b := ⟨_, rfl⟩
  obtain ⟨y, hy⟩ : ∃ y, y = forthL ks o 10 := ⟨_, rfl⟩
  have ox : x.length = 16 ∧ Byt x := by rw [hx]; exact runSt_ok s2 _ b hbl hb
  have oz : z.length = 16 ∧ Byt z := by rw [hz]; exact runSt_ok s2 _ b hbl hb
  have oy : y.length = 16 ∧ Byt y := by rw [hy]; exact runSt_ok s2 _ o hol ho
  obtain ⟨f, hf⟩ : ∃ f, f = rowsEnv ks [b, o, x, z, y] := ⟨_, rfl⟩
  have hlt : ∀ i, f i < 256 := by
    rw [hf]
    refine rowsEnv_lt s2 fun r hr => ?_
    simp only [List.mem_cons, List.not_mem_nil, or_false] at hr
    rcases hr with rfl | rfl | rfl | rfl | rfl
    · exact hb
    · exact ho
    · exact ox.2
    · exact oz.2
    · exact oy.2
  have nk : named f 0 16 = k := by rw [hf]; exact named_key hkl hk hks
  have nks : named f 0 176 = ks := by rw [hf]; exact named_keys s1
  have nb : named f 176 16 = b := by rw [hf]; exact named_row 0 rfl hbl
  have no : named f 192 16 = o := by rw [hf]; exact named_row 1 rfl hol
  have nx : named f 208 16 = x := by rw [hf]; exact named_row 2 rfl ox.1
  have nz : named f 224 16 = z := by rw [hf]; exact named_row 3 rfl oz.1
  have ny : named f 240 16 = y := by rw [hf]; exact named_row 4 rfl oy.1
  clear hf
  have hev := List.all_eq_true.1 whole_ev (decide (o = b)) (by cases decide (o = b) <;> simp)
  rw [decide_eq_true_eq] at hev
  refine ret_true (calls_of_ev (tabFact_ok (ρ := envB f) ?_) (tabCon_ok ?_) mixedOrders 100 hev (args := #[.agg (cells8 k), .agg (cells8 b), .agg (cells8 o)]) w ?_)
  · intro e he
    simp only [wholeFact, List.mem_cons, List.not_mem_nil, or_false] at he
    rcases he with rfl | rfl | rfl
    · refine ⟨ks, zeros8 176, by rw [s1, zeros8_length], fun ms => ?_, fun ms => lits_map _ _ ms, (decide_eq_false hne).symm⟩
      have := vars_map hlt 0 176 ms
      rw [nks] at this
      exact this
    · refine ⟨y, x, by omega, fun ms => ?_, fun ms => ?_, ?_⟩
      · have := vars_map hlt 240 16 ms
        rw [ny] at this
        exact this
      · have := vars_map hlt 208 16 ms
        rw [nx] at this
        exact this
      · rw [decide_eq_decide]
        constructor
        · intro e; rw [hy, hx, e]
        · intro e
          rw [← back_forth s2 hol ho, ← hy, e, hx, back_forth s2 hbl hb]
    · refine ⟨o, b, by omega, fun ms => ?_, fun ms => ?_, rfl⟩
      · have := vars_map hlt 192 16 ms
        rw [no] at this
        exact this
      · have := vars_map hlt 176 16 ms
        rw [nb] at this
        exact this
  · intro e he
    simp only [wholeTab, List.mem_cons, List.not_mem_nil, or_false] at he
    rcases he with rfl | rfl | rfl | rfl | rfl | rfl | rfl
    · exact ent0 fun w => awake_any w
    · exact ent1 hlt fun w => by rw [nk, nks, hks]; exact sched_any w k hk hkl
    · exact ent3 hlt fun w => by rw [nks, nb, nx, hx]; exact forth_any w ks b s2 s1 hb hbl 10 (by decide)
    · exact ent3 hlt fun w => by rw [nks, no, ny, hy]; exact forth_any w ks o s2 s1 ho hol 10 (by decide)
    · exact ent3 hlt fun w => by
        rw [nks, nz, nb]
        have := forth_any w ks z s2 s1 oz.2 oz.1 10 (by decide)
        rw [hz, forth_back s2 hbl hb, ← hz] at this
        exact this
    · exact ent2 hlt fun w => by
        rw [nks, nx, nb]
        have := back_any w ks x s2 s1 ox.2 ox.1
        rw [hx, back_forth s2 hbl hb, ← hx] at this
        exact this
    · exact ent2 hlt fun w => by rw [nks, nb, nz, hz]; exact back_any w ks b s2 s1 hb hbl
  · simp only [List.map_cons, List.map_nil, V_inst hlt, nk, nb, no]
end Go.Proofs.Ytehdglalfejpjab
