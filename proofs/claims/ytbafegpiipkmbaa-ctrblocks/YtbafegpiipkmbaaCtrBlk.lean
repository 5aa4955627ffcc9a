/- ctr.Counter and ctr.Blocks: what they answer. -/
import Derived.Test.YtbafegpiipkmbaaAesCipher
import Derived.Test.YtbafegpiipkmbaaEvPre
import Derived.Test.YtbafegpiipkmbaaEvIn
set_option linter.unusedVariables false
set_option linter.unusedSimpArgs false
namespace Go.Proofs.Ytbafegpiipkmbaa
open Go Go.RowKit Ev

/-- The counter's bytes. -/
def ctrL (n : Nat) : List Nat := [0, 0, 0, 0, 0, 0, 0, 0, n / 72057594037927936 % 256, n / 281474976710656 % 256, n / 1099511627776 % 256, n / 4294967296 % 256, n / 16777216 % 256, n / 65536 % 256, n / 256 % 256, n % 256]
theorem ctrL_length (n : Nat) : (ctrL n).length = 16 := rfl
theorem ctrL_byt (n : Nat) : Byt (ctrL n) := by
  intro x hx
  simp only [ctrL, List.mem_cons, List.not_mem_nil, or_false] at hx
  omega
/-- A block of the keystream. -/
def ksL (k : List Nat) (n : Nat) : List Nat := forthLX (schedL k) (ctrL n)
theorem ksL_ok {k : List Nat} (hl : k.length = 16) (hk : Byt k) (n : Nat) : (ksL k n).length = 16 ∧ Byt (ksL k n) := runSt_ok (schedL_ok hl hk).2.1 _ _ (ctrL_length n) (ctrL_byt n)
def ctrE : List SV := List.replicate 8 (.int .u8 (.lit 0)) ++ [56, 48, 40, 32, 24, 16, 8].map (fun k => SV.int .u8 (.con .u8 (.shr (.var 0) k))) ++ [.int .u8 (.con .u8 (.var 0))]
theorem counter_ev : evCallF Try.prog noLore noCon 100 32 [.tv (.sc (.int .u64 (.var 0)))] [] = some (.tv (.agg ctrE), []) := by kernel_rfl
theorem counter_any (w : World) (n : Nat) : Calls Try.prog 32 #[.int .u64 (n : Int)] w fun e w' => e = .returned (.agg (cells8 (ctrL n))) ∧ Below w.heap.size w w' := by
  refine (calls_of_evF (noLore_ok ⟨fun _ => (n : Int), fun _ => .tuple #[], fun _ _ _ => 0⟩) (noCon_ok _ _) mixedOrders 100 counter_ev (args := #[.int .u64 (n : Int)]) w ?_).mono ?_
  · simp only [List.map_cons, List.map_nil, AV.inst, TV.inst, SV.inst, Ex.den]
  · rintro e w' ⟨ms, u, rfl, h1, h2, h3⟩
    refine ⟨?_, h3⟩
    have hk : ∀ k : Nat, IntKind.u8.wrap (Int.fdiv (n : Int) (2 ^ k)) = ((n / 2 ^ k % 256 : Nat) : Int) := fun k => by
      rw [IntKind.wrap_u8', Int.fdiv_eq_ediv_of_nonneg _ (by exact_mod_cast Nat.zero_le _)]
      have : ((2 : Int) ^ k) = ((2 ^ k : Nat) : Int) := by simp
      rw [this]
      omega
    have h0 : IntKind.u8.wrap (n : Int) = ((n % 256 : Nat) : Int) := by rw [IntKind.wrap_u8']; omega
    simp only [AV.inst, TV.inst, ctrE, List.replicate, List.map_cons, List.map_nil, List.cons_append, List.nil_append, SV.inst, Ex.den, hk, h0, seqO, Option.map_some, Option.some.injEq] at h1
    rw [← h1]
    rfl

/-- Names for bytes, a number, and two values. -/
def envC (f : Nat → Nat) (n : Int) : Env := ⟨fun i => if i = 500 then n else (f i : Int), fun _ => .tuple #[], fun _ _ _ => 0⟩
theorem varsC (f : Nat → Nat) (n : Int) (o m : Nat) (h : o + m ≤ 500) (ms : List Nat) : (vars o m).map (SV.inst (envC f n) ms) = ((named f o m).map fun x : Nat => Value.int .u8 (x : Int)).map some := by
  simp only [vars, named, List.map_map]
  refine List.map_congr_left fun i hi => ?_
  have := List.mem_range.1 hi
  simp [SV.inst, Ex.den, envC]
  omega
theorem aggC (f : Nat → Nat) (n : Int) (o m : Nat) (h : o + m ≤ 500) (ms : List Nat) : (TV.agg (vars o m)).inst (envC f n) ms = some (.agg (cells8 (named f o m))) := by
  simp only [TV.inst, (seqO_iff _ _).2 (varsC f n o m h ms), Option.map_some]
  rfl
theorem VC (f : Nat → Nat) (n : Int) (o m : Nat) (h : o + m ≤ 500) (ms : List Nat) : (V o m).inst (envC f n) ms = some (.agg (cells8 (named f o m))) := by
  unfold V
  simp only [AV.inst]
  exact aggC f n o m h ms

def tabS : List (Nat × List AV × AV) := [(39, [V 0 16], V 16 176)]
def hBlk : List Blk := [newBlk (vars 0 16), newBlk [.int .u64 (.var 500)], newBlk (vars 0 16), newBlk (vars 16 176), newBlk [.ptr 3 0]]
theorem blocks_ev : evCallF Try.prog noLore (tabCon tabS) 100 10 [V 0 16, .tv (.sc (.int .u64 (.var 500)))] [] = some (.tv (.sc (.clo 30 [(1, 0), (4, 0)])), hBlk) := by kernel_rfl

/-- What a Blocks that was made holds. -/
structure ItAt (w : World) (b1 b4 g : Nat) (k : List Nat) (n : Nat) : Prop where
  bf : w.cell? ⟨b1, 0, none⟩ = some (.int .u64 (n : Int))
  bc : w.cell? ⟨b4, 0, none⟩ = some (.pointer (some ⟨g, 0, none⟩))
  ci : HCi w g (schedL k)
def itD (b1 b4 g : Nat) (i : Nat) : Prop := i = b1 ∨ i = b4 ∨ i = g
theorem at8_vars {l : List Nat} {m : Nat} (h : l.length = m) {f : Nat → Nat} {o : Nat} (hf : ∀ i, i < m → f (o + i) = at8 l i) : named f o m = l := by
  refine List.ext_getElem (by rw [named_length, h]) fun i h1 h2 => ?_
  have hi : i < m := by simpa [named_length] using h1
  simp only [named, List.getElem_map, List.getElem_range]
  rw [hf i hi]
  simp [at8, List.getD, List.getElem?_eq_getElem h2]
theorem blocks_any (w : World) (k : List Nat) (n : Nat) (hk : Byt k) (hl : k.length = 16) : Calls Try.prog 10 #[.agg (cells8 k), .int .u64 (n : Int)] w fun e w' =>
    ∃ b1 b4 g, e = .returned (.func (.func 30) #[] #[.pointer (some ⟨b1, 0, none⟩), .pointer (some ⟨b4, 0, none⟩)]) ∧ ItAt w' b1 b4 g k n ∧ (∀ i, itD b1 b4 g i → w.heap.size ≤ i ∧ i < w'.heap.size) ∧ Below w.heap.size w w' := by
  obtain ⟨s1, s2, _⟩ := schedL_ok hl hk
  obtain ⟨ks, hks⟩ : ∃ ks, ks = schedL k := ⟨_, rfl⟩
  rw [← hks] at s1 s2
  let f : Nat → Nat := fun i => if i < 16 then at8 k i else at8 ks (i - 16)
  have n1 : named f 0 16 = k := at8_vars hl fun i hi => by simp only [f]; rw [if_pos (by omega)]; congr 1; omega
  have n2 : named f 16 176 = ks := at8_vars s1 fun i hi => by simp only [f]; rw [if_neg (by omega)]; congr 1; omega
  have hcon : ConOk Try.prog (envC f (n : Int)) (tabCon tabS) := by
    refine tabCon_ok ?_
    intro e he
    simp only [tabS, List.mem_cons, List.not_mem_nil, or_false] at he
    subst he
    intro ms W args ha
    have ea : args = #[.agg (cells8 k)] := by
      obtain ⟨l⟩ := args
      have hl1 : l.length = 1 := by have := congrArg List.length ha; simpa using this.symm
      match l, hl1, ha with
      | [u], _, ha =>
        simp only [List.map_cons, List.map_nil, List.cons.injEq, and_true, VC f n 0 16 (by decide), n1, Option.some.injEq] at ha
        subst ha
        rfl
    subst ea
    exact (sched_any W k hk hl).mono fun e w' ⟨q1, q2⟩ => ⟨_, q1, by rw [VC f n 16 176 (by decide), n2, hks], q2⟩
  refine (calls_of_evF (noLore_ok (envC f (n : Int))) hcon mixedOrders 100 blocks_ev (args := #[.agg (cells8 k), .int .u64 (n : Int)]) w ?_).mono ?_
  · have e1 : (AV.tv (.sc (.int .u64 (.var 500)))).inst (envC f (n : Int)) [] = some (.int .u64 (n : Int)) := rfl
    simp only [List.map_cons, List.map_nil, VC f n 0 16 (by decide), n1, e1]
  · rintro e w' ⟨ms, u, rfl, h1, h2, h3⟩
    have hlen : ms.length = 5 := h2.len
    match ms, hlen with
    | [m0, m1, m2, m3, m4], _ =>
      have h1' : some (Value.func (.func 30) #[] #[.pointer (some ⟨m1, 0, none⟩), .pointer (some ⟨m4, 0, none⟩)]) = some u := h1
      cases h1'
      refine ⟨m1, m4, m3, rfl, ⟨?_, ?_, ?_, ?_⟩, ?_, h3⟩
      · obtain ⟨v, q1, q2, _⟩ := h2.cell 1 m1 _ rfl rfl 0 (.int .u64 (.var 500)) rfl
        rw [q2, ← q1]; rfl
      · obtain ⟨v, q1, q2, _⟩ := h2.cell 4 m4 _ rfl rfl 0 (.ptr 3 0) rfl
        rw [q2, ← q1]; rfl
      · exact h2.bnd 3 m3 _ rfl rfl (by simp [newBlk, vars])
      · intro j hj
        obtain ⟨v, q1, q2, _⟩ := h2.cell 3 m3 _ rfl rfl j (.int .u8 (.var (16 + j))) (by simp [newBlk, vars, hj])
        rw [q2, ← q1]
        simp only [SV.inst, Ex.den, envC]
        rw [if_neg (by omega)]
        simp only [f]
        rw [if_neg (by omega), Nat.add_sub_cancel_left, hks]
      · rintro i (rfl | rfl | rfl)
        · exact ⟨h2.low 1 _ _ rfl rfl rfl, h2.bnd 1 _ _ rfl rfl (by simp [newBlk])⟩
        · exact ⟨h2.low 4 _ _ rfl rfl rfl, h2.bnd 4 _ _ rfl rfl (by simp [newBlk])⟩
        · exact ⟨h2.low 3 _ _ rfl rfl rfl, h2.bnd 3 _ _ rfl rfl (by simp [newBlk, vars])⟩
end Go.Proofs.Ytbafegpiipkmbaa
