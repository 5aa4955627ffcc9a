/- The evaluator on the first parts of a body; temporaries told by a list. -/
import Derived.Test.YtbafegpiipkmbaaEvPart
namespace Go.Proofs.Ytbafegpiipkmbaa.Ev
open Go Go.RowKit

/-- The first n parts, one behind the other. -/
def evPre (self : CodeF) : Nat → Code → Tm → List Blk → Option (Tm × List Blk)
  | 0, _, t, H => some (t, H)
  | n + 1, .seq a b, t, H =>
    match self a t H with
    | some (.normal, t', H') => evPre self n b t' H'
    | _ => none
  | _ + 1, _, _, _ => none
theorem evPre_ok {P : Program} {ρ : Env} {self : CodeF} (hs : CodeOk P ρ self) {B : Nat} {Q : Exit → Act → World → Prop} : ∀ (n : Nat) (c : Code) (t : Tm) (H : List Blk) (t' : Tm) (H' : List Blk), evPre self n c t H = some (t', H') →
    ∀ (ms : List Nat) (a : Act) (w : World), RelT ρ ms t a.tmps → Holds ρ ms H B w →
    (∀ ms' a' w', ms <+: ms' → RelT ρ ms' t' a'.tmps → a'.defers = a.defers → Holds ρ ms' H' B w' → Bel B w w' → (tailN n c).wp P Q a' w') → c.wp P Q a w
  | 0, c, t, H, t', H', h, ms, a, w, hT, hH, hQ => by
    simp only [evPre, Option.some.injEq, Prod.mk.injEq] at h
    obtain ⟨rfl, rfl⟩ := h
    have := hQ ms a w (List.prefix_refl _) hT rfl hH (Bel.refl _ _)
    cases c <;> exact this
  | n + 1, c, t, H, t', H', h, ms, a, w, hT, hH, hQ => by
    cases c <;> simp only [evPre] at h <;> try (cases h; done)
    rename_i x y
    split at h
    case h_2 => cases h
    rename_i t1 H1 h1
    refine wp_seq (hs x t H .normal t1 H1 h1 ms B a w _ hT hH fun ms1 a1 w1 q1 q2 q3 q4 q5 => ?_)
    exact evPre_ok hs n y t1 H1 t' H' h ms1 a1 w1 q2 q4 fun ms' a' w' r1 r2 r3 r4 r5 => hQ ms' a' w' (q1.trans r1) r2 (r3.trans q3) r4 (q5.trans r5)
/-- Temporaries told by a list. -/
def tmL (n : Nat) : List (Nat × AV) → Tm
  | [] => ⟨n, .emp⟩
  | p :: r => (tmL n r).set p.1 p.2
theorem tmL_n (n : Nat) : ∀ l, (tmL n l).n = n
  | [] => rfl
  | p :: r => by rw [tmL, Tm.set_n, tmL_n n r]
theorem RelT.ofL {ρ : Env} {ms : List Nat} {n : Nat} {tmps : Array Value} (hn : n = tmps.size) (h5 : n ≤ 512) (hg : Gl ms) : ∀ (l : List (Nat × AV)), (∀ p ∈ l, ∃ v, tmps[p.1]? = some v ∧ p.2.inst ρ ms = some v) → RelT ρ ms (tmL n l) tmps
  | [], _ => by
    refine ⟨hn, h5, fun i x hx => ?_, hg⟩
    unfold tmL Tm.get at hx
    split at hx
    · rw [Tr.law3.emp] at hx; cases hx
    · cases hx
  | p :: r, h => by
    have ih := RelT.ofL hn h5 hg r fun q hq => h q (List.mem_cons_of_mem _ hq)
    obtain ⟨v, h1, h2⟩ := h p (List.mem_cons_self ..)
    refine ⟨by rw [tmL_n]; exact hn, by rw [tmL_n]; exact h5, fun i x hx => ?_, hg⟩
    rw [tmL, Tm.get_set (by rw [tmL_n]; exact h5)] at hx
    split at hx
    · rename_i e
      cases hx
      rw [← e.1]
      exact ⟨v, h1, h2⟩
    · exact ih.val i x hx
end Go.Proofs.Ytbafegpiipkmbaa.Ev
