/- The law AesCiphers: what stands about the loop by the evaluator, a step's load by hand, the rest of a round by the evaluator. -/
import Derived.Test.YtlmidjgjijmiiaaAesCipher
import Derived.Test.YtlmidjgjijmiiaaEvPre
set_option linter.unusedVariables false
namespace Go.Proofs.Ytlmidjgjijmiiaa
open Go Go.RowKit Ev

/-- n steps: which cipher, which way, which block. -/
def HSt (w : World) (v : Value) (n : Nat) (S K : Nat → Bool) (D : Nat → List Nat) : Prop :=
  ∃ (p : Option Addr) (c : Nat), v = .slice p n c ∧ n ≤ 9223372036854775807 ∧ (p = none → n = 0 ∧ c = 0) ∧ (∀ i, (D i).length = 16 ∧ Byt (D i)) ∧
    (∀ i, i < n → ∃ b off, p = some ⟨b, off, none⟩ ∧ w.cell? ⟨b, off + i * 18, none⟩ = some (.bool (S i)) ∧ w.cell? ⟨b, off + i * 18 + 1, none⟩ = some (.bool (K i)) ∧ ∀ j, j < 16 → w.cell? ⟨b, off + i * 18 + 2 + j, none⟩ = some (.int .u8 (at8 (D i) j : Int)))
/-- The names of a round. -/
def cF (ks1 ks2 b x : List Nat) : Nat → Nat := fun i => if i < 176 then at8 ks1 i else if i < 352 then at8 ks2 (i - 176) else if i < 368 then at8 b (i - 352) else at8 x (i - 368)
theorem cF_lt {ks1 ks2 b x : List Nat} (h1 : Byt ks1) (h2 : Byt ks2) (hb : Byt b) (hx : Byt x) (i : Nat) : cF ks1 ks2 b x i < 256 := by
  unfold cF
  split
  · exact byt_at h1 i
  · split
    · exact byt_at h2 _
    · split
      · exact byt_at hb _
      · exact byt_at hx _
theorem sched_key {k : List Nat} (hl : k.length = 16) (hk : Byt k) (i : Nat) (hi : i < 16) : at8 (schedL k) i = at8 k i := by
  rw [← (schedL_ok hl hk).2.2 i (by omega)]
  unfold schedF
  rw [show i / 16 = 0 by omega, show i % 16 = i by omega]
  simp [blk, at8]
theorem cF_named {k1 k2 b x : List Nat} (h1 : k1.length = 16) (b1 : Byt k1) (h2 : k2.length = 16) (b2 : Byt k2) (hb : b.length = 16) (hx : x.length = 16) :
    named (cF (schedL k1) (schedL k2) b x) 0 16 = k1 ∧ named (cF (schedL k1) (schedL k2) b x) 0 176 = schedL k1 ∧ named (cF (schedL k1) (schedL k2) b x) 176 16 = k2 ∧ named (cF (schedL k1) (schedL k2) b x) 176 176 = schedL k2 ∧
    named (cF (schedL k1) (schedL k2) b x) 352 16 = b ∧ named (cF (schedL k1) (schedL k2) b x) 368 16 = x := by
  refine ⟨named_at h1 fun i hi => ?_, named_at (schedL_ok h1 b1).1 fun i hi => ?_, named_at h2 fun i hi => ?_, named_at (schedL_ok h2 b2).1 fun i hi => ?_, named_at hb fun i hi => ?_, named_at hx fun i hi => ?_⟩
  · unfold cF; rw [if_pos (by omega), Nat.zero_add]; exact sched_key h1 b1 i hi
  · unfold cF; rw [if_pos (by omega), Nat.zero_add]
  · unfold cF; rw [if_neg (by omega), if_pos (by omega), show 176 + i - 176 = i by omega]; exact sched_key h2 b2 i hi
  · unfold cF; rw [if_neg (by omega), if_pos (by omega), show 176 + i - 176 = i by omega]
  · unfold cF; rw [if_neg (by omega), if_neg (by omega), if_pos (by omega), show 352 + i - 352 = i by omega]
  · unfold cF; rw [if_neg (by omega), if_neg (by omega), if_neg (by omega), show 368 + i - 368 = i by omega]
/- The law's code, in its parts. -/
def fstC : Code → Code | .seq a _ => a | c => c
def sndC : Code → Code | .seq _ b => b | c => c
def inBlk : Code → Code | .block _ c => c | c => c
def inLoop : Code → Code | .loop c => c | c => c
def opsC : Code → Array Oper | .region _ ops _ => ops | _ => #[]
noncomputable def lawC : Code := (Try.f7.body).getD .skip
noncomputable def r5 : Code := fstC (fstC (tailN 4 lawC))
noncomputable def cEnd : Code := sndC (tailN 4 lawC)
noncomputable def LB : Code := inLoop (inBlk (sndC (fstC (tailN 4 lawC))))
noncomputable def r22 : Code := sndC (sndC (sndC LB))
noncomputable def BD : Code := inBlk (fstC (sndC (sndC LB)))
noncomputable def ops7 : Array Oper := opsC (fstC BD)
noncomputable def REST : Code := sndC BD
theorem law_parts : tailN 4 lawC = .seq (.seq r5 (.block 0 (.loop LB))) cEnd := by kernel_rfl
theorem lb_parts : LB = .seq (fstC LB) (.seq (.cond (.tmp 33) .skip (.exit 0)) (.seq (.block 1 BD) r22)) := by kernel_rfl
theorem bd_parts : BD = .seq (.region 7 ops7 false) REST := by kernel_rfl
def HI : List Blk := [newBlk (vars 0 16), newBlk (vars 176 16), newBlk (vars 0 16), newBlk (vars 0 176), newBlk (vars 176 16), newBlk (vars 176 176)]
def P0 (n o : Nat) : AV := .tv (.sc (.ptr n o))
def SLA (A : Addr) (n c : Nat) : AV := .tv (.sc (.sla A n c))
def preTab : List (Nat × List AV × AV) := [(33, [V 0 16], V 0 176), (33, [V 176 16], V 176 176), (36, [], .tv (.sc (.bool true)))]
def selT (l : List Nat) (t : Tm) : Nat × List (Option AV) := (t.n, l.map t.get)
set_option maxRecDepth 100000 in
theorem pre_ev (A : Addr) (n c : Nat) : (evPre (evCF Try.prog noLore (tabCon preTab) 100) 4 lawC (Tm.make 74 [V 0 16, V 176 16, SLA A n c]) []).map (fun r => (selT [2, 3, 4, 7, 8] r.1, r.2)) = some ((74, [some (SLA A n c), some (P0 0 0), some (P0 1 0), some (P0 3 0), some (P0 5 0)]), HI) := by kernel_rfl
def tmI (A : Addr) (n c : Nat) (k : Int) : List (Nat × AV) := [(3, P0 0 0), (4, P0 1 0), (7, P0 3 0), (8, P0 5 0), (30, SLA A n c), (31, N64 (n : Int)), (32, N64 k)]
def selI (A : Addr) (n c : Nat) (k : Int) : Nat × List (Option AV) := (74, [some (P0 0 0), some (P0 1 0), some (P0 3 0), some (P0 5 0), some (SLA A n c), some (N64 (n : Int)), some (N64 k)])
def slI : List Nat := [3, 4, 7, 8, 30, 31, 32]
def stepSV (s b : Bool) : List SV := .bool s :: .bool b :: vars 352 16
def gC (b : Bool) : Nat := match b with | true => 39 | false => 41
def rC (b : Bool) : Nat := match b with | true => 40 | false => 42
def mC (s : Bool) : Nat := match s with | true => 5 | false => 3
def oC (s : Bool) : Nat := match s with | true => 176 | false => 0
def cC (s b : Bool) : ConF := fun g xs H =>
  if g = gC b then (if xs = [P0 (mC s) 0, V 352 16] ∧ H[mC s]? = some (newBlk (vars (oC s) 176)) then some (.tup [.agg (vars 368 16), .sc (.int .i64 (.lit 0))]) else none)
  else if g = rC b then (if xs = [V (oC s) 16, V 352 16] then some (V 368 16) else none) else none
def noCall : CallF := fun _ _ _ => none
theorem noCall_ok (P : Program) (ρ : Env) : CallOk P ρ noCall := fun _ _ _ _ _ h => by cases h
set_option maxRecDepth 100000 in
theorem r5_ev (A : Addr) (n c : Nat) : (evCF Try.prog noLore noCon 100 r5 (tmL 74 [(2, SLA A n c), (3, P0 0 0), (4, P0 1 0), (7, P0 3 0), (8, P0 5 0)]) HI).map (fun r => (r.1, selT slI r.2.1, r.2.2)) = some (.normal, selI A n c 0, HI) := by kernel_rfl
set_option maxRecDepth 100000 in
theorem r6_ev (A : Addr) (n c : Nat) (k : Int) : (evCF Try.prog noLore noCon 100 (fstC LB) (tmL 74 (tmI A n c k)) HI).map (fun r => (r.1, r.2.1.get 33, selT slI r.2.1, r.2.2)) = some (.normal, some (.tv (.sc (.bool (decide (k < (n : Int)))))), selI A n c k, HI) := by kernel_rfl
set_option maxRecDepth 100000 in
theorem ops_ev (A : Addr) (n c : Nat) (k : Int) (s b : Bool) : (evOps noCall Try.prog noLore ops7 (ops7.toList.drop 2) (tmL 74 ((35, .tv (.agg (stepSV s b))) :: tmI A n c k)) HI).map (fun r => (r.1.get 10, selT slI r.1, r.2)) = some (some (P0 6 0), selI A n c k, HI ++ [newBlk (stepSV s b)]) := by cases s <;> cases b <;> kernel_rfl
set_option maxRecDepth 100000 in
theorem rest_ev (A : Addr) (n c : Nat) (k : Int) (s b : Bool) : (evCF Try.prog noLore (cC s b) 100 REST (tmL 74 ((10, P0 6 0) :: tmI A n c k)) (HI ++ [newBlk (stepSV s b)])).map (fun r => (r.1, selT slI r.2.1, r.2.2.take 6)) = some (.normal, selI A n c k, HI) := by cases s <;> cases b <;> kernel_rfl
set_option maxRecDepth 100000 in
theorem r22_ev (A : Addr) (n c : Nat) (k : Int) : (evCF Try.prog noLore noCon 100 r22 (tmL 74 (tmI A n c k)) HI).map (fun r => (r.1, selT slI r.2.1, r.2.2)) = some (.normal, selI A n c (IntKind.i64.wrap (k + 1)), HI) := by kernel_rfl
set_option maxRecDepth 100000 in
theorem end_ev (A : Addr) (n c : Nat) (k : Int) : (evCF Try.prog noLore noCon 100 cEnd (tmL 74 (tmI A n c k)) HI).map (fun r => (r.1, evResults Try.prog Try.f7 r.2.1 r.2.2)) = some (.ret, some (.tv (.sc (.bool true)))) := by kernel_rfl
set_option maxRecDepth 100000 in
theorem nil_ev : (evCallF Try.prog noLore (tabCon preTab) 100 7 [V 0 16, V 176 16, .tv (.sc (.nils 0 0))] []).map (·.1) = some (.tv (.sc (.bool true))) := by kernel_rfl
end Go.Proofs.Ytlmidjgjijmiiaa
