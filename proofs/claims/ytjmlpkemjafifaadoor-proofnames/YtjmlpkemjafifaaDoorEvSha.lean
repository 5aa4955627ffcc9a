/- The evaluator over sha: the constants as a block that is read alone; a block mixed into eight words that are told, by its contract. -/
import Derived.Test.YtjmlpkemjafifaaDoorGrEvB
import Derived.Test.YtjmlpkemjafifaaDoorGrShA
namespace Go.Proofs.YtjmlpkemjafifaaDoor
open Go Go.RowKit Ev

def litW (l : List Nat) : List SV := l.map fun x : Nat => .int .u32 (.lit (x : Int))
/-- The variable 'constants'. -/
def kBlk : Blk := ⟨true, true, 0, litW kW⟩
def HK : List Blk := [kBlk, dead]
def unW : SV → Option Nat
  | .int .u32 (.lit n) => if 0 ≤ n ∧ n < 4294967296 then some n.toNat else none
  | _ => none
def unB : SV → Option Int
  | .int .u8 (.lit n) => if 0 ≤ n ∧ n < 256 then some n else none
  | _ => none
def hasK : List Blk → Bool
  | b :: _ => decide (b.cells = litW kW)
  | [] => false
def conMix : ConF := fun g xs H =>
  if g = 97 then
    match xs with
    | [.tv (.agg a), .tv (.agg b)] =>
      match seqO (a.map unW), seqO (b.map unB) with
      | some hs, some l => if hs.length = 8 ∧ l.length = 64 ∧ hasK H = true then some (.tv (.agg (litW (mixL hs l)))) else none
      | _, _ => none
    | _ => none
  else none
theorem unW_ok {ρ : Env} {ms : List Nat} : ∀ (l : List SV) (b : List Nat) (vs : List Value), l.map unW = b.map some → l.map (SV.inst ρ ms) = vs.map some → vs = b.map (fun x : Nat => Value.int .u32 (x : Int)) ∧ ∀ x ∈ b, x < 4294967296
  | [], b, vs, h, hv => by cases b <;> cases vs <;> simp at h hv ⊢
  | s :: l, b, vs, h, hv => by
    match b, vs, h, hv with
    | x :: b, v :: vs, h, hv =>
      simp only [List.map_cons, List.cons.injEq] at h hv ⊢
      obtain ⟨q1, q2⟩ := unW_ok l b vs h.2 hv.2
      have h1 := h.1
      unfold unW at h1
      split at h1
      · rename_i n
        split at h1 <;> cases h1
        rename_i hn
        have h2 := hv.1
        simp only [SV.inst, Ex.den, Option.some.injEq] at h2
        refine ⟨⟨?_, q1⟩, ?_⟩
        · rw [← h2]; congr 1; omega
        · intro y hy
          rcases List.mem_cons.1 hy with rfl | hy
          · omega
          · exact q2 y hy
      · cases h1
theorem unB_ok {ρ : Env} {ms : List Nat} : ∀ (l : List SV) (b : List Int) (vs : List Value), l.map unB = b.map some → l.map (SV.inst ρ ms) = vs.map some → vs = b.map (Value.int .u8) ∧ ∀ x ∈ b, 0 ≤ x ∧ x < 256
  | [], b, vs, h, hv => by cases b <;> cases vs <;> simp at h hv ⊢
  | s :: l, b, vs, h, hv => by
    match b, vs, h, hv with
    | x :: b, v :: vs, h, hv =>
      simp only [List.map_cons, List.cons.injEq] at h hv ⊢
      obtain ⟨q1, q2⟩ := unB_ok l b vs h.2 hv.2
      have h1 := h.1
      unfold unB at h1
      split at h1
      · rename_i n
        split at h1 <;> cases h1
        rename_i hn
        have h2 := hv.1
        simp only [SV.inst, Ex.den, Option.some.injEq] at h2
        refine ⟨⟨h2.symm, q1⟩, ?_⟩
        intro y hy
        rcases List.mem_cons.1 hy with rfl | hy
        · exact hn
        · exact q2 y hy
      · cases h1
theorem litW_map (ρ : Env) (ms : List Nat) (l : List Nat) : (litW l).map (SV.inst ρ ms) = (l.map fun x : Nat => Value.int .u32 (x : Int)).map some := by
  simp [litW, SV.inst, Ex.den]
theorem hasK_ok {ρ : Env} {ms : List Nat} {H : List Blk} {B : Nat} {w : World} (hH : Holds ρ ms H B w) (h : hasK H = true) : KC w := by
  unfold hasK at h
  split at h
  · rename_i b r
    have hb : b.cells = litW kW := by simpa using h
    intro t ht
    have hg := hH.gl 0 (by decide)
    have hc : b.cells[t]? = some (.int .u32 (.lit ((kW.getD t 0 : Nat) : Int))) := by
      rw [hb, litW, List.getElem?_map]
      have : t < kW.length := by rw [kW_length]; exact ht
      simp [List.getD, List.getElem?_eq_getElem this]
    obtain ⟨v, h1, h2, _⟩ := hH.cell 0 0 b hg rfl t _ hc
    simp only [SV.inst, Ex.den, Option.some.injEq] at h1
    rw [h2, h1]
  · cases h
theorem conMix_ok (ρ : Env) : ConOk Tryd.prog ρ conMix := by
  intro g xs H v h ms B w args ha hH
  unfold conMix at h
  split at h
  case isFalse => cases h
  rename_i hg
  subst hg
  split at h
  case h_2 => cases h
  rename_i a b
  split at h
  case h_2 => cases h
  rename_i hs l h1 h2
  split at h <;> cases h
  rename_i hc
  obtain ⟨c1, c2, c3⟩ := hc
  rw [seqO_iff] at h1 h2
  obtain ⟨al⟩ := args
  have hl2 : al.length = 2 := by have := congrArg List.length ha; simpa using this.symm
  match al, hl2, ha with
  | [u, u'], _, ha =>
    simp only [List.map_cons, List.map_nil, List.cons.injEq, and_true, AV.inst, TV.inst, Option.map_eq_some_iff] at ha
    obtain ⟨⟨vs, e1, rfl⟩, ⟨us, e2, rfl⟩⟩ := ha
    rw [seqO_iff] at e1 e2
    obtain ⟨q1, q2⟩ := unW_ok _ _ _ h1 e1
    obtain ⟨q3, q4⟩ := unB_ok _ _ _ h2 e2
    subst q1 q3
    refine (mix_any w hs l ⟨c1, q2⟩ c2 q4 (hasK_ok hH c3)).mono fun e w' ⟨r1, r2⟩ => ⟨_, r1, ?_, r2⟩
    simp only [AV.inst, TV.inst]
    rw [(seqO_iff _ _).2 (litW_map ρ ms _)]
    rfl
theorem holdsK (ρ : Env) (w : World) (h : KC w) : Holds ρ ms0 HK w.heap.size w := by
  have h0 := World.block_lt_of_cell? w _ (h 0 (by decide))
  have cases2 : ∀ (i : Nat) (k : Blk), HK[i]? = some k → k.cells ≠ [] → i = 0 ∧ k = kBlk := fun i k hk hne => by
    match i, hk with
    | 0, hk => exact ⟨rfl, by simpa [HK] using hk.symm⟩
    | 1, hk => simp [HK] at hk; subst hk; exact absurd rfl hne
    | i + 2, hk => simp [HK] at hk
  have ro : ∀ (i : Nat) (k : Blk), HK[i]? = some k → k.ro = true ∧ k.cap = 0 := fun i k hk => by
    match i, hk with
    | 0, hk => simp [HK] at hk; subst hk; exact ⟨rfl, rfl⟩
    | 1, hk => simp [HK] at hk; subst hk; exact ⟨rfl, rfl⟩
    | i + 2, hk => simp [HK] at hk
  refine ⟨rfl, gl0, ?_, ?_, ?_, Nat.le_refl _, ?_, ?_, ?_⟩
  · intro i j b k k' _ _ hk hk' hne hne'
    rw [(cases2 i k hk hne).1, (cases2 j k' hk' hne').1]
  · intro i b k _ hk hr
    rw [(ro i k hk).1] at hr
    cases hr
  · intro i b k hi hk hne
    obtain ⟨rfl, rfl⟩ := cases2 i k hk hne
    have : b = 0 := by simpa [ms0, nGl] using hi.symm
    subst this
    exact h0
  · intro i k hk hp
    match i, hk with
    | 0, hk => simp [HK] at hk; subst hk; simp [kBlk, litW, SV.plain]
    | 1, hk => simp [HK] at hk; subst hk; rfl
    | i + 2, hk => simp [HK] at hk
  · intro i b k hi hk j s hs
    obtain ⟨rfl, rfl⟩ := cases2 i k hk (mem_nil_of_get hs)
    have : b = 0 := by simpa [ms0, nGl] using hi.symm
    subst this
    simp only [kBlk, litW, List.getElem?_map, Option.map_eq_some_iff] at hs
    obtain ⟨x, hx, rfl⟩ := hs
    have hj : j < 64 := by
      have := (List.getElem?_eq_some_iff.1 hx).1
      rw [kW_length] at this
      exact this
    refine ⟨_, rfl, ?_, fun hr => by simp [kBlk] at hr⟩
    rw [h j hj]
    simp [List.getD, hx, Ex.den]
  · intro i b c k0 k _ _ _ _ _ hk hcap
    rw [(ro _ k hk).2] at hcap
    omega
end Go.Proofs.YtjmlpkemjafifaaDoor
