/- The cipher's contracts where all bytes are told; awake. -/
import Derived.Test.YtbafegpiipkmbaaAesSched
namespace Go.Proofs.Ytbafegpiipkmbaa
open Go Go.RowKit Ev

def litsOf : List SV → Option (List Nat)
  | [] => some []
  | .int .u8 (.lit (.ofNat n)) :: r => if n < 256 then (litsOf r).map (n :: ·) else none
  | _ => none
theorem litsOf_ok : ∀ (l : List SV) (k : List Nat), litsOf l = some k → l = lits k ∧ Byt k
  | [], k, h => by simp [litsOf] at h; subst h; exact ⟨rfl, fun x hx => by simp at hx⟩
  | s :: r, k, h => by
    unfold litsOf at h
    split at h
    · rename_i h0; cases h0
    · rename_i n r' h0
      cases h0
      split at h
      case isFalse => cases h
      rename_i hn
      rw [Option.map_eq_some_iff] at h
      obtain ⟨k', h1, rfl⟩ := h
      obtain ⟨h2, h3⟩ := litsOf_ok r k' h1
      refine ⟨by rw [h2]; rfl, fun x hx => ?_⟩
      rcases List.mem_cons.1 hx with rfl | hx
      · exact hn
      · exact h3 x hx
    · cases h
/-- The keys of the rounds, a block forth, a block back: where all is told. -/
def conLit : ConF := fun g xs _ =>
  if g = 39 then
    match xs with
    | [.tv (.agg l)] => match litsOf l with | some k => if k.length = 16 then some (.tv (.agg (lits (schedL k)))) else none | none => none
    | _ => none
  else if g = 41 then
    match xs with
    | [.tv (.agg l), .tv (.agg m), .tv (.sc (.int .i64 (.lit (.ofNat r))))] =>
      match litsOf l, litsOf m with
      | some k, some b => if k.length = 176 ∧ b.length = 16 ∧ r ≤ 10 then some (.tv (.agg (lits (forthL k b r)))) else none
      | _, _ => none
    | _ => none
  else none
theorem conLit_ok (ρ : Env) : ConOk Try.prog ρ conLit := by
  intro g xs H v h ms B w args ha hH
  unfold conLit at h
  split at h
  · rename_i hg
    subst hg
    split at h
    case h_2 => cases h
    rename_i l
    split at h
    case h_2 => cases h
    rename_i k hk
    split at h
    case isFalse => cases h
    rename_i hlen
    simp only [Option.some.injEq] at h
    subst h
    obtain ⟨rfl, hb⟩ := litsOf_ok _ _ hk
    have ea : args = #[.agg (cells8 k)] := by
      obtain ⟨al⟩ := args
      have hl : al.length = 1 := by have := congrArg List.length ha; simpa using this.symm
      match al, hl, ha with
      | [u], _, ha =>
        simp only [List.map_cons, List.map_nil, List.cons.injEq, and_true, AV.inst, lits_inst, Option.some.injEq] at ha
        subst ha
        rfl
    subst ea
    refine (sched_any w k hb hlen).mono fun e w' ⟨q1, q2⟩ => ⟨_, q1, ?_, q2⟩
    simp only [AV.inst, lits_inst]
  · split at h
    case isFalse => cases h
    rename_i hg
    subst hg
    split at h
    case h_2 => cases h
    rename_i l m r
    split at h
    case h_2 => cases h
    rename_i k b hk hb
    split at h
    case isFalse => cases h
    rename_i hc
    obtain ⟨h1, h2, h3⟩ := hc
    simp only [Option.some.injEq] at h
    subst h
    obtain ⟨rfl, hkb⟩ := litsOf_ok _ _ hk
    obtain ⟨rfl, hbb⟩ := litsOf_ok _ _ hb
    have ea : args = #[.agg (cells8 k), .agg (cells8 b), .int .i64 (r : Int)] := by
      obtain ⟨al⟩ := args
      have hl : al.length = 3 := by have := congrArg List.length ha; simpa using this.symm
      match al, hl, ha with
      | [u, u', u''], _, ha =>
        simp only [List.map_cons, List.map_nil, List.cons.injEq, and_true, AV.inst, lits_inst, Option.some.injEq] at ha
        obtain ⟨rfl, rfl, ha⟩ := ha
        simp only [TV.inst, SV.inst, Ex.den, Option.some.injEq] at ha
        subst ha
        rfl
    subst ea
    refine (forth_any w k b hkb h1 hbb h2 r h3).mono fun e w' ⟨q1, q2⟩ => ⟨_, q1, ?_, q2⟩
    simp only [AV.inst, lits_inst]
end Go.Proofs.Ytbafegpiipkmbaa
