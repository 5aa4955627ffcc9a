/- aes.Schedule: the keys of the rounds, by the evaluator; each byte of them goes by a name. -/
import Derived.Test.YtbafegpiipkmbaaAesChain
namespace Go.Proofs.Ytbafegpiipkmbaa
open Go Go.RowKit Ev

def pwr : Nat → Nat
  | 0 => 1
  | n + 1 => dbl (pwr n)
theorem pwr_lt : ∀ n, pwr n < 256
  | 0 => by decide
  | n + 1 => dbl_lt (pwr_lt n)
/-- The next round's key. -/
def nextKey (g : Nat → Nat) (p : Nat) : List Nat :=
  let a0 := sub (g 13) ^^^ p ^^^ g 0
  let a1 := sub (g 14) ^^^ g 1
  let a2 := sub (g 15) ^^^ g 2
  let a3 := sub (g 12) ^^^ g 3
  let b0 := a0 ^^^ g 4
  let b1 := a1 ^^^ g 5
  let b2 := a2 ^^^ g 6
  let b3 := a3 ^^^ g 7
  let c0 := b0 ^^^ g 8
  let c1 := b1 ^^^ g 9
  let c2 := b2 ^^^ g 10
  let c3 := b3 ^^^ g 11
  [a0, a1, a2, a3, b0, b1, b2, b3, c0, c1, c2, c3, c0 ^^^ g 12, c1 ^^^ g 13, c2 ^^^ g 14, c3 ^^^ g 15]
theorem nextKey_length (g : Nat → Nat) (p : Nat) : (nextKey g p).length = 16 := rfl
theorem nextKey_ge (g : Nat → Nat) (p j : Nat) (h : 4 ≤ j) (h2 : j < 16) : at8 (nextKey g p) j = at8 (nextKey g p) (j - 4) ^^^ g j := by
  have : j = 4 ∨ j = 5 ∨ j = 6 ∨ j = 7 ∨ j = 8 ∨ j = 9 ∨ j = 10 ∨ j = 11 ∨ j = 12 ∨ j = 13 ∨ j = 14 ∨ j = 15 := by omega
  rcases this with rfl | rfl | rfl | rfl | rfl | rfl | rfl | rfl | rfl | rfl | rfl | rfl <;> rfl
theorem nextKey_zero (g : Nat → Nat) (p : Nat) : at8 (nextKey g p) 0 = sub (g 13) ^^^ p ^^^ g 0 := rfl
theorem nextKey_lt4 (g : Nat → Nat) (p j : Nat) (h : 1 ≤ j) (h2 : j < 4) : at8 (nextKey g p) j = sub (g (12 + (j + 1) % 4)) ^^^ g j := by
  have : j = 1 ∨ j = 2 ∨ j = 3 := by omega
  rcases this with rfl | rfl | rfl <;> rfl
def blk (k : List Nat) : Nat → List Nat
  | 0 => k
  | n + 1 => nextKey (at8 (blk k n)) (pwr n)
def schedF (k : List Nat) : Nat → Nat := fun i => at8 (blk k (i / 16)) (i % 16)
def schedL (k : List Nat) : List Nat := (List.range 11).flatMap (blk k)
theorem blk_ok {k : List Nat} (hl : k.length = 16) (hk : Byt k) : ∀ n, (blk k n).length = 16 ∧ Byt (blk k n)
  | 0 => ⟨hl, hk⟩
  | n + 1 => by
    refine ⟨rfl, ?_⟩
    have hg := byt_at (blk_ok hl hk n).2
    have key : ∀ j, at8 (blk k (n + 1)) j < 256 := by
      intro j
      induction j using Nat.strongRecOn with
      | _ j ih =>
        by_cases h16 : j < 16
        · show at8 (nextKey (at8 (blk k n)) (pwr n)) j < 256
          by_cases h4 : 4 ≤ j
          · rw [nextKey_ge _ _ _ h4 h16]
            exact xor8 (ih (j - 4) (by omega)) (hg j)
          · by_cases h0 : j = 0
            · subst h0
              rw [nextKey_zero]
              exact xor8 (xor8 (sub_lt _) (pwr_lt n)) (hg 0)
            · rw [nextKey_lt4 _ _ _ (by omega) (by omega)]
              exact xor8 (sub_lt _) (hg j)
        · show (nextKey (at8 (blk k n)) (pwr n)).getD j 0 < 256
          rw [List.getD, List.getElem?_eq_none (by rw [nextKey_length]; omega)]
          decide
    intro x hx
    obtain ⟨j, hj, rfl⟩ := List.getElem_of_mem hx
    have := key j
    simpa [at8, List.getD, List.getElem?_eq_getElem hj] using this
theorem schedF_lt {k : List Nat} (hl : k.length = 16) (hk : Byt k) (i : Nat) : schedF k i < 256 := byt_at (blk_ok hl hk _).2 _
theorem flat_get {f : Nat → List Nat} (hf : ∀ n, (f n).length = 16) : ∀ (n i : Nat), i < 16 * n → ((List.range n).flatMap f).getD i 0 = (f (i / 16)).getD (i % 16) 0
  | 0, i, h => by omega
  | n + 1, i, h => by
    have hlen : ((List.range n).flatMap f).length = 16 * n := by
      clear h
      induction n with
      | zero => rfl
      | succ n ih => rw [List.range_succ, List.flatMap_append, List.length_append, ih]; simp [hf]; omega
    rw [List.range_succ, List.flatMap_append, List.getD, List.getElem?_append, hlen]
    by_cases h1 : i < 16 * n
    · rw [if_pos h1]
      exact flat_get hf n i h1
    · rw [if_neg h1, show i / 16 = n by omega, show i % 16 = i - 16 * n by omega]
      simp [List.getD]
theorem flat_length {f : Nat → List Nat} (hf : ∀ n, (f n).length = 16) (n : Nat) : ((List.range n).flatMap f).length = 16 * n := by
  induction n with
  | zero => rfl
  | succ n ih => rw [List.range_succ, List.flatMap_append, List.length_append, ih]; simp [hf]; omega
theorem schedL_ok {k : List Nat} (hl : k.length = 16) (hk : Byt k) : (schedL k).length = 176 ∧ Byt (schedL k) ∧ ∀ i, i < 176 → schedF k i = at8 (schedL k) i := by
  refine ⟨flat_length (fun n => (blk_ok hl hk n).1) 11, fun x hx => ?_, fun i hi => (flat_get (fun n => (blk_ok hl hk n).1) 11 i hi).symm⟩
  obtain ⟨n, _, hn⟩ := List.mem_flatMap.1 hx
  exact (blk_ok hl hk n).2 x hn

/-- By which name a byte of the keys goes. -/
def nmS : Ex → Ex
  | .bit .xor .u8 (.var p) (.var q) => if p = q + 12 ∧ 4 ≤ q % 16 then .var (q + 16) else .bit .xor .u8 (.var p) (.var q)
  | .bit .xor .u8 (.app 1 (.var x) (.lit 0)) (.var q) => if 1 ≤ q % 16 ∧ q % 16 < 4 ∧ x = q / 16 * 16 + (12 + (q % 16 + 1) % 4) then .var (q + 16) else .bit .xor .u8 (.app 1 (.var x) (.lit 0)) (.var q)
  | .bit .xor .u8 (.bit .xor .u8 (.app 1 (.var x) (.lit 0)) (.lit p)) (.var q) =>
    if q % 16 = 0 ∧ x = q + 13 ∧ p = ((pwr (q / 16) : Nat) : Int) then .var (q + 16) else .bit .xor .u8 (.bit .xor .u8 (.app 1 (.var x) (.lit 0)) (.lit p)) (.var q)
  | e => e
theorem nmS_ok {k : List Nat} (hl : k.length = 16) (hk : Byt k) (e : Ex) : (nmS e).den (envB (schedF k)) = e.den (envB (schedF k)) := by
  have hs := schedF_lt hl hk
  have step : ∀ q, schedF k (q + 16) = at8 (nextKey (at8 (blk k (q / 16))) (pwr (q / 16))) (q % 16) := fun q => by
    unfold schedF
    rw [show (q + 16) / 16 = q / 16 + 1 by omega, show (q + 16) % 16 = q % 16 by omega]
    rfl
  unfold nmS
  split
  · rename_i p q
    split
    · rename_i h
      obtain ⟨rfl, h4⟩ := h
      rw [(nden_ok hs _ (by rfl)).1, (nden_ok hs _ (by rfl)).1]
      congr 1
      show schedF k (q + 16) = schedF k (q + 12) ^^^ schedF k q
      rw [step, nextKey_ge _ _ _ h4 (Nat.mod_lt _ (by decide))]
      unfold schedF
      rw [show (q + 12) / 16 = q / 16 + 1 by omega, show (q + 12) % 16 = q % 16 - 4 by omega]
      rfl
    · rfl
  · rename_i x q
    split
    · rename_i h
      obtain ⟨h1, h2, rfl⟩ := h
      rw [(nden_ok hs _ (by rfl)).1, (nden_ok hs _ (by rfl)).1]
      congr 1
      show schedF k (q + 16) = sub (schedF k (q / 16 * 16 + (12 + (q % 16 + 1) % 4))) ^^^ schedF k q
      rw [step, nextKey_lt4 _ _ _ h1 h2]
      unfold schedF
      rw [show (q / 16 * 16 + (12 + (q % 16 + 1) % 4)) / 16 = q / 16 by omega, show (q / 16 * 16 + (12 + (q % 16 + 1) % 4)) % 16 = 12 + (q % 16 + 1) % 4 by omega]
    · rfl
  · rename_i x p q
    split
    · rename_i h
      obtain ⟨h1, rfl, rfl⟩ := h
      have hp := pwr_lt (q / 16)
      rw [(nden_ok hs _ (by rfl)).1, (nden_ok hs _ (by simp [okB]; omega)).1]
      congr 1
      show schedF k (q + 16) = sub (schedF k (q + 13)) ^^^ pwr (q / 16) ^^^ schedF k q
      rw [step, h1, nextKey_zero]
      unfold schedF
      rw [show (q + 13) / 16 = q / 16 by omega, show (q + 13) % 16 = 13 by omega, h1]
    · rfl
  · rfl
def loreS : Lore := ⟨fun _ _ _ => none, nmS, fun _ _ => none⟩
theorem loreS_ok {k : List Nat} (hl : k.length = 16) (hk : Byt k) : LoreOk (envB (schedF k)) loreS := ⟨fun _ _ _ _ h => by simp [loreS] at h, nmS_ok hl hk, fun _ _ _ h => by simp [loreS] at h⟩
theorem sched_ev : evCall Try.prog loreS conC 100 39 [.tv (.agg (vars 0 16))] [] = some (.tv (.agg (vars 0 176)), []) := by kernel_rfl
theorem sched_inst {k : List Nat} (hl : k.length = 16) (hk : Byt k) (ms : List Nat) : (TV.agg (vars 0 176)).inst (envB (schedF k)) ms = some (.agg (cells8 (schedL k))) :=
  vars_inst (schedF_lt hl hk) ms 0 176 _ (schedL_ok hl hk).1 fun i hi => by rw [Nat.zero_add]; exact (schedL_ok hl hk).2.2 i hi
theorem sched_any (w : World) (k : List Nat) (hk : Byt k) (hl : k.length = 16) : Calls Try.prog 39 #[.agg (cells8 k)] w fun e w' => e = .returned (.agg (cells8 (schedL k))) ∧ Below w.heap.size w w' := by
  refine (calls_of_ev (loreS_ok hl hk) (conC_ok (schedF_lt hl hk)) mixedOrders 100 sched_ev (args := #[.agg (cells8 k)]) w ?_).mono ?_
  · have e1 : (AV.tv (.agg (vars 0 16))).inst (envB (schedF k)) [] = some (.agg (cells8 k)) := by
      simp only [AV.inst]
      refine vars_inst (schedF_lt hl hk) [] 0 16 k hl fun i hi => ?_
      unfold schedF
      rw [show (0 + i) / 16 = 0 by omega, show (0 + i) % 16 = i by omega]
      rfl
    simp only [List.map_cons, List.map_nil, e1]
  · rintro e w' ⟨ms, u, rfl, h1, h2, h3⟩
    simp only [AV.inst, sched_inst hl hk, Option.some.injEq] at h1
    rw [← h1]
    exact ⟨rfl, h3⟩
end Go.Proofs.Ytbafegpiipkmbaa
