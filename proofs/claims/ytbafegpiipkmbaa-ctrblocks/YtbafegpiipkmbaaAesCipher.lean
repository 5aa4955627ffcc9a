/- A cipher's calls: New, Encrypt, Decrypt. -/
import Derived.Test.YtbafegpiipkmbaaAesNe
import Derived.Test.YtbafegpiipkmbaaEvFast
set_option linter.unusedVariables false
namespace Go.Proofs.Ytbafegpiipkmbaa
open Go Go.RowKit Ev

/-- The cipher at g has the keys ks. -/
def HCi (w : World) (g : Nat) (ks : List Nat) : Prop := g < w.heap.size ∧ ∀ j, j < 176 → w.cell? ⟨g, j, none⟩ = some (.int .u8 (at8 ks j : Int))
theorem HCi.below {w w' : World} {g : Nat} {ks : List Nat} (h : HCi w g ks) (hb : Below w.heap.size w w') : HCi w' g ks :=
  ⟨Nat.lt_of_lt_of_le h.1 hb.size, fun j hj => (hb.cell (World.block_lt_of_cell? w _ (h.2 j hj))).trans (h.2 j hj)⟩
def ciBlk : Blk := ⟨true, true, 0, vars 0 176⟩
theorem vars_get (n j : Nat) (h : j < n) : (vars 0 n)[j]? = some (.int .u8 (.var j)) := by simp [vars, h]
theorem vars_plain : (vars 0 176).all SV.plain = true := by decide +kernel
theorem one_get {α : Type} {x y : α} {i : Nat} (h : [x][i]? = some y) : i = 0 ∧ y = x := by
  cases i with
  | zero => simp only [List.getElem?_cons_zero, Option.some.injEq] at h; exact ⟨rfl, h.symm⟩
  | succ i => simp at h
theorem holds_ci {w : World} {g : Nat} {ks : List Nat} (h : HCi w g ks) {f : Nat → Nat} (hf : ∀ j, j < 176 → f j = at8 ks j) : Holds (envB f) [g] [ciBlk] w.heap.size w := by
  refine ⟨rfl, fun i hi => absurd hi (by simp [nGl]), ?_, ?_, ?_, Nat.le_refl _, ?_, ?_, ?_⟩
  · intro i j b k k' hi hj _ _ _ _
    rw [(one_get hi).1, (one_get hj).1]
  · intro i b k hi hk hr
    rw [(one_get hk).2] at hr
    cases hr
  · intro i b k hi hk _
    rw [(one_get hi).2]
    exact h.1
  · intro i k hk _
    rw [(one_get hk).2]
    exact vars_plain
  · intro i b k hi hk j s hs
    obtain ⟨rfl, rfl⟩ := one_get hi
    obtain ⟨_, rfl⟩ := one_get hk
    have hj : j < 176 := by
      have := (List.getElem?_eq_some_iff.1 hs).1
      simpa [ciBlk, vars] using this
    have e : s = .int .u8 (.var j) := by
      have := hs.symm.trans (vars_get 176 j hj)
      exact Option.some.inj this
    subst e
    refine ⟨.int .u8 (at8 ks j : Int), ?_, h.2 j hj, fun hr => by cases hr⟩
    simp only [SV.inst, Ex.den, envB]
    rw [hf j hj]
  · intro i b c k0 k hi hc
    obtain ⟨rfl, rfl⟩ := one_get hi
    simp at hc
def encTab : List (Nat × List AV × AV) := [(41, [V 0 176, V 176 16, N64 10], V 192 16)]
def ciFact : List (List SV × List SV × Bool) := [(vars 0 176, lits (zeros8 176), false)]
def ciLore : Lore := ⟨fun _ _ _ => none, id, tabFact ciFact⟩
theorem enc_ev : evCallF Try.prog ciLore (tabCon encTab) 100 31 [.tv (.sc (.ptr 0 0)), V 176 16] [ciBlk] = some (.tup [.agg (vars 192 16), .sc (.int .i64 (.lit 0))], [ciBlk]) := by kernel_rfl
theorem ci_env {ks b x : List Nat} (s1 : ks.length = 176) (s2 : Byt ks) (hbl : b.length = 16) (hb : Byt b) (hxl : x.length = 16) (hx : Byt x) :
    (∀ i, rowsEnv ks [b, x] i < 256) ∧ named (rowsEnv ks [b, x]) 0 176 = ks ∧ named (rowsEnv ks [b, x]) 176 16 = b ∧ named (rowsEnv ks [b, x]) 192 16 = x := by
  refine ⟨rowsEnv_lt s2 fun r hr => ?_, named_keys s1, named_row 0 rfl hbl, named_row 1 rfl hxl⟩
  simp only [List.mem_cons, List.not_mem_nil, or_false] at hr
  rcases hr with rfl | rfl
  · exact hb
  · exact hx
theorem ci_lore {ks b x : List Nat} (s1 : ks.length = 176) (hlt : ∀ i, rowsEnv ks [b, x] i < 256) (nks : named (rowsEnv ks [b, x]) 0 176 = ks) (hne : ks ≠ zeros8 176) : LoreOk (envB (rowsEnv ks [b, x])) ciLore := by
  refine tabFact_ok (ρ := envB (rowsEnv ks [b, x])) ?_
  intro e he
  simp only [ciFact, List.mem_cons, List.not_mem_nil, or_false] at he
  subst he
  refine ⟨ks, zeros8 176, by rw [s1, zeros8_length], fun ms => ?_, fun ms => lits_map _ _ ms, (decide_eq_false hne).symm⟩
  have := vars_map hlt 0 176 ms
  rw [nks] at this
  exact this
def forthLX (ks b : List Nat) : List Nat := forthL ks b 10
def backLX (ks b : List Nat) : List Nat := backL ks b
theorem enc_call (w : World) (ks b : List Nat) (hk : Byt ks) (hkl : ks.length = 176) (hb : Byt b) (hbl : b.length = 16) : Calls Try.prog 41 #[.agg (cells8 ks), .agg (cells8 b), .int .i64 10] w fun e w' => e = .returned (.agg (cells8 (forthLX ks b))) ∧ Below w.heap.size w w' := forth_any w ks b hk hkl hb hbl 10 (by decide)
theorem enc_any (w : World) (g : Nat) (k b x : List Nat) (hk : Byt k) (hkl : k.length = 16) (hb : Byt b) (hbl : b.length = 16) (h : HCi w g (schedL k)) (hxe : x = forthLX (schedL k) b) :
    Calls Try.prog 31 #[.pointer (some ⟨g, 0, none⟩), .agg (cells8 b)] w fun e w' => e = .returned (.tuple #[.agg (cells8 x), .int .i64 0]) ∧ Below w.heap.size w w' := by
  obtain ⟨s1, s2, _⟩ := schedL_ok hkl hk
  have hne := sched_ne hkl hk
  obtain ⟨ks, hks⟩ : ∃ ks, ks = schedL k := ⟨_, rfl⟩
  rw [← hks] at s1 s2 hne h hxe
  have ox : x.length = 16 ∧ Byt x := by rw [hxe]; exact runSt_ok s2 _ b hbl hb
  obtain ⟨hlt, nks, nb, nx⟩ := ci_env s1 s2 hbl hb ox.1 ox.2
  refine (calls_of_evHF (ci_lore s1 hlt nks hne) (tabCon_ok ?_) mixedOrders 100 enc_ev (args := #[.pointer (some ⟨g, 0, none⟩), .agg (cells8 b)]) w (ms := [g]) ?_ (holds_ci h fun j hj => by unfold rowsEnv; rw [if_pos hj])).mono ?_
  · intro e he
    simp only [encTab, List.mem_cons, List.not_mem_nil, or_false] at he
    subst he
    exact ent3 hlt fun w => by rw [nks, nb, nx, hxe]; exact enc_call w ks b s2 s1 hb hbl
  · have e1 : (AV.tv (.sc (.ptr 0 0))).inst (envB (rowsEnv ks [b, x])) [g] = some (.pointer (some ⟨g, 0, none⟩)) := rfl
    simp only [List.map_cons, List.map_nil, V_inst hlt, nb, e1]
  · rintro e w' ⟨ms, u, rfl, _, h1, h2, h3⟩
    have e1 : (TV.agg (vars 192 16)).inst (envB (rowsEnv ks [b, x])) ms = some (.agg (cells8 x)) := by
      have := V_inst hlt ms 192 16
      rw [nx] at this
      exact this
    have e2 : (TV.sc (.int .i64 (.lit 0))).inst (envB (rowsEnv ks [b, x])) ms = some (.int .i64 0) := rfl
    simp only [AV.inst, List.map_cons, List.map_nil, e1, e2, seqO, Option.map_some, Option.some.injEq] at h1
    rw [← h1]
    exact ⟨rfl, h3⟩
end Go.Proofs.Ytbafegpiipkmbaa
