/- tag.Pad, by the evaluator over the contract of sha.Sum. -/
import Derived.Test.YtjmlpkemjafifaaDoorTgEv
set_option linter.unusedVariables false
set_option linter.unusedSimpArgs false
namespace Go.Proofs.YtjmlpkemjafifaaDoor
open Go Go.RowKit Ev

def envP (x : Nat) : Env := ⟨fun i => if i = 0 then (x : Int) else (pdL x).getD (i - 1) 0, fun _ => .tuple #[], fun _ _ _ => 0⟩
def bigE : List SV := [.int .u8 (.con .u8 (.shr (.con .u64 (.var 0)) 24)), .int .u8 (.con .u8 (.shr (.con .u64 (.var 0)) 16)), .int .u8 (.con .u8 (.shr (.con .u64 (.var 0)) 8)), .int .u8 (.con .u8 (.con .u64 (.var 0)))]
def expP : List SV := lI (num8 14) ++ (lI wPad ++ (lI (num8 4) ++ bigE))
theorem bigE_inst (x : Nat) (hx : x < 4294967296) (ms : List Nat) : bigE.map (SV.inst (envP x) ms) = ((bigL 4 x).map (Value.int .u8)).map some := by
  have e0 : IntKind.u64.wrap (x : Int) = (x : Int) := by rw [IntKind.wrap_u64]; omega
  have f : ∀ k : Nat, ((x : Int).fdiv (2 ^ k)) = ((x / 2 ^ k : Nat) : Int) := fun k => by
    rw [show (2 : Int) ^ k = ((2 ^ k : Nat) : Int) by simp, Int.ofNat_fdiv]
  have g : ∀ n : Nat, IntKind.u8.wrap (n : Int) = ((n % 256 : Nat) : Int) := fun n => by rw [IntKind.wrap_u8]; rfl
  simp only [bigE, bigL, List.map_cons, List.map_nil, SV.inst, Ex.den, envP, if_pos, e0, f, g, Nat.pow_zero, Nat.div_one]
theorem expP_inst (x : Nat) (hx : x < 4294967296) (ms : List Nat) : expP.map (SV.inst (envP x) ms) = ((pdB x).map (Value.int .u8)).map some := by
  unfold expP pdB
  simp only [List.map_append, lI_inst]
  rw [bigE_inst x hx]
theorem pdB_byt (x : Nat) : ByI (pdB x) := by
  have k : ∀ l : List Int, (l.all fun x => decide (0 ≤ x ∧ x < 256)) = true → ByI l := fun l h x hx => by simpa using List.all_eq_true.1 h x hx
  have a : ∀ a b : List Int, ByI a → ByI b → ByI (a ++ b) := fun a b ha hb x hx => (List.mem_append.1 hx).elim (ha x) (hb x)
  exact a _ _ (k _ (by decide)) (a _ _ (k _ (by decide)) (a _ _ (k _ (by decide)) (bigL_byt 4 x)))
theorem pad_ev : evCallF Tryd.prog noLore (conSum expP 1) 100 39 [.tv (.sc (.int .u32 (.var 0)))] HK = some (.tv (.agg (vI 1 32)), HK) := by kernel_rfl
theorem tpad_any (w : World) (x : Nat) (hx : x < 4294967296) (hk : KC w) : Calls Tryd.prog 39 #[.int .u32 (x : Int)] w fun e w' => e = .returned (.agg (cellsB (pdL x))) ∧ Below w.heap.size w w' := by
  have hv : ∀ i, (envP x).int (1 + i) = (pdL x).getD i 0 := fun i => by
    simp only [envP]
    rw [if_neg (by omega), show 1 + i - 1 = i by omega]
  have hcon : ConOk Tryd.prog (envP x) (conSum expP 1) := conSum_ok (m := pdB x) (pdB_byt x) (by simp [pdB, num8, wPad, bigL_length]) (expP_inst x hx) (fun i _ => hv i)
  refine (calls_of_evHF (noLore_ok (envP x)) hcon mixedOrders 100 pad_ev (args := #[.int .u32 (x : Int)]) w ?_ (holdsK (envP x) w hk)).mono ?_
  · simp [AV.inst, TV.inst, SV.inst, Ex.den, envP]
  · rintro e w' ⟨ms, u, rfl, _, h1, _, h3⟩
    rw [agg_inst (vI_inst (envP x) ms 1 32 (pdL x) (digL_length _) (fun i _ => hv i))] at h1
    simp only [Option.some.injEq] at h1
    rw [← h1]
    exact ⟨rfl, h3⟩
theorem digL_byt (m : List Int) : ByI (digL m) := by
  intro x hx
  unfold digL at hx
  obtain ⟨y, _, h⟩ := List.mem_flatMap.1 hx
  exact bigL_byt _ _ x h
theorem ndL_D (l r : List Int) : D32 (ndL l r) := ⟨digL_length _, digL_byt _⟩
theorem pdL_D (x : Nat) : D32 (pdL x) := ⟨digL_length _, digL_byt _⟩
end Go.Proofs.YtjmlpkemjafifaaDoor
