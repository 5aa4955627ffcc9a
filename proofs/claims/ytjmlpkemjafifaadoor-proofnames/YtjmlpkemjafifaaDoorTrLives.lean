/- The laws' own look whether the program lives, by the evaluator over the contracts of a node; TreeNames. -/
import Derived.Test.YtjmlpkemjafifaaDoorTgRef3
import Derived.Test.YtjmlpkemjafifaaDoorTrRoot
set_option linter.unusedVariables false
set_option linter.unusedSimpArgs false
namespace Go.Proofs.YtjmlpkemjafifaaDoor
open Go Go.RowKit Ev

def dLiv : List Int := [0, 0, 0, 9] ++ List.replicate 28 0
theorem dLiv_D : D32 dLiv := ⟨rfl, fun x hx => by
  have h : (dLiv.all fun x => decide (0 ≤ x ∧ x < 256)) = true := by decide
  simpa using List.all_eq_true.1 h x hx⟩
def envL : Env := ⟨fun i => (ndL dLiv dLiv).getD i 0, fun _ => .tuple #[], fun _ _ _ => 0⟩
def conNd : ConF := fun g xs H =>
  if g = 36 then
    if xs = [.tv (.agg (lI dLiv)), .tv (.agg (lI dLiv))] then some (.tv (.agg (vI 0 32))) else none
  else none
theorem conNd_ok : ConOk Tryd.prog envL conNd := by
  intro g xs H v h ms B w args ha hH
  unfold conNd at h
  split at h
  case isFalse => cases h
  rename_i hg
  subst hg
  split at h <;> cases h
  rename_i hc
  subst hc
  have e1 : (AV.tv (.agg (lI dLiv))).inst envL ms = some (.agg (cellsB dLiv)) := agg_inst (lI_inst envL ms dLiv)
  have e2 : (AV.tv (.agg (vI 0 32))).inst envL ms = some (.agg (cellsB (ndL dLiv dLiv))) := agg_inst (vI_inst envL ms 0 32 _ (digL_length _) (fun i hi => by simp [envL]))
  simp only [List.map_cons, List.map_nil, e1] at ha
  have ea : args = #[.agg (cellsB dLiv), .agg (cellsB dLiv)] := by
    obtain ⟨al⟩ := args
    have : (al.map some) = [some (.agg (cellsB dLiv)), some (.agg (cellsB dLiv))] := ha.symm
    match al, this with
    | [a, b], this =>
      simp only [List.map_cons, List.map_nil, List.cons.injEq, Option.some.injEq, and_true] at this
      rw [this.1, this.2]
  subst ea
  exact (rnode_any w dLiv dLiv dLiv_D dLiv_D).mono fun e w' ⟨r1, r2⟩ => ⟨_, r1, e2, r2⟩
/-- The cells of a told slice of len digests. -/
def digsAt (H : List Blk) : SV → Option (Nat × List SV)
  | .sl n o len cap => if len ≤ cap ∧ cap ≤ 100000 then (span H n o (len * 32)).map fun l => (len, l) else none
  | _ => none
def conRoot : ConF := fun g xs H =>
  if g = 11 then
    match xs with
    | [.tv (.sc s)] =>
      if hasK H = true then
        if digsAt H s = some (1, lI dLiv) then some (.tup [.agg (lI dLiv), .sc (.int .i64 (.lit 0))])
        else if digsAt H s = some (2, lI dLiv ++ lI dLiv) then some (.tup [.agg (vI 0 32), .sc (.int .i64 (.lit 0))])
        else none
      else none
    | _ => none
  else none
theorem digsAt_ok {ρ : Env} {ms : List Nat} {H : List Blk} {B : Nat} {w : World} (hH : Holds ρ ms H B w) {s : SV} {len : Nat} {l : List SV} (h : digsAt H s = some (len, l)) {u : Value} (hu : s.inst ρ ms = some u) (ds : List (List Int)) (hd : ∀ d ∈ ds, D32 d) (hlen : ds.length = len) (hl : l = ds.flatMap lI) : HDs w u ds := by
  unfold digsAt at h
  split at h
  case h_2 => cases h
  rename_i n o len' cap
  split at h
  case isFalse => cases h
  rename_i hc
  rw [Option.map_eq_some_iff] at h
  obtain ⟨l', h1, h2⟩ := h
  simp only [Prod.mk.injEq] at h2
  obtain ⟨rfl, rfl⟩ := h2
  simp only [SV.inst, Option.map_eq_some_iff] at hu
  obtain ⟨b, hb, rfl⟩ := hu
  obtain ⟨vs, r1, r2, r3⟩ := span_ok ((hH.sees n).at _ _) hb h1
  have e : vs = ds.flatMap dc := by
    have : l'.map (SV.inst ρ ms) = (ds.flatMap dc).map some := by
      rw [hl]
      clear hlen hl h1 r1 r2 r3 hd
      induction ds with
      | nil => rfl
      | cons d r ih =>
        rw [List.flatMap_cons, List.flatMap_cons, List.map_append, List.map_append, ih, lI_inst]
        rfl
    rw [r1] at this
    exact List.map_inj_right (fun _ _ h => Option.some.inj h) |>.1 this
  subst e
  refine ⟨⟨_, cap, by rw [hlen], by rw [hlen]; exact hc.1, by unfold maxLen; omega, (fun e => by cases e), fun _ => ⟨b, o, rfl, ?_⟩⟩, hd⟩
  clear hlen hl h1 r1 r2
  intro i hi j v hj
  have hdi := getD_D hd i hi
  have key : (ds.flatMap dc)[i * 32 + j]? = some v := by
    have hj32 : j < 32 := by
      have := (List.getElem?_eq_some_iff.1 hj).1
      rwa [dc_length, hdi.1] at this
    clear r3 hb
    induction ds generalizing i with
    | nil => simp at hi
    | cons d r ih =>
      have hl : (dc d).length = 32 := by rw [dc_length, (hd d (by simp)).1]
      rw [List.flatMap_cons]
      cases i with
      | zero =>
        rw [Nat.zero_mul, Nat.zero_add, List.getElem?_append_left (by omega)]
        exact hj
      | succ i =>
        rw [List.getElem?_append_right (by omega), hl, show (i + 1) * 32 + j - 32 = i * 32 + j by omega]
        have hd2 : ∀ x ∈ r, D32 x := fun x hx => hd x (by simp [hx])
        have hi2 : i < r.length := by simpa using hi
        exact ih hd2 (by intro e; subst e; simp at hi2) i hi2 hj (getD_D hd2 i hi2)
  have := r3 (i * 32 + j) v key
  rwa [show o + (i * 32 + j) = o + i * 32 + j by omega] at this
theorem root_one {N : List (List Int)} (h : IsT [dLiv] (wdN 1) N) : N.getD 0 [] = dLiv := h.leaf 0 (by decide)
theorem root_two {N : List (List Int)} (h : IsT [dLiv, dLiv] (wdN 2) N) : N.getD 0 [] = ndL dLiv dLiv := by
  have h0 := h.inner 1 (by decide) (by decide)
  have h1 := h.leaf 0 (by decide)
  have h2 := h.leaf 1 (by decide)
  unfold InR at h0
  rw [show wdN 2 - 1 + 0 = 2 * 1 - 1 by decide] at h1
  rw [show wdN 2 - 1 + 1 = 2 * 1 by decide] at h2
  rw [h1, h2] at h0
  exact h0
theorem tup2_inst {ρ : Env} {ms : List Nat} {s : List SV} {l : List Int} (h : s.map (SV.inst ρ ms) = (l.map (Value.int .u8)).map some) : (AV.tup [.agg s, .sc (.int .i64 (.lit 0))]).inst ρ ms = some (.tuple #[.agg (cellsB l), .int .i64 0]) := by
  have e := agg_inst h
  simp only [AV.inst] at e ⊢
  rw [(seqO_iff _ [.agg (cellsB l), .int .i64 0]).2 (by simp only [List.map_cons, List.map_nil, e]; rfl)]
  rfl
theorem conRoot_ok : ConOk Tryd.prog envL conRoot := by
  intro g xs H v h ms B w args ha hH
  unfold conRoot at h
  split at h
  case isFalse => cases h
  rename_i hg
  subst hg
  split at h
  case h_2 => cases h
  rename_i s
  split at h
  case isFalse => cases h
  rename_i hK
  obtain ⟨al⟩ := args
  obtain ⟨u, rfl, hau⟩ : ∃ u, al = [u] ∧ s.inst envL ms = some u := by
    cases al with
    | nil => simp at ha
    | cons u r =>
      cases r with
      | cons _ _ => simp at ha
      | nil =>
        simp only [List.map_cons, List.map_nil, List.cons.injEq, and_true, AV.inst, TV.inst] at ha
        exact ⟨u, rfl, ha⟩
  split at h
  · rename_i h1
    cases h
    have hd : ∀ d ∈ [dLiv], D32 d := fun d hd => by rw [List.mem_singleton.1 hd]; exact dLiv_D
    have hh := digsAt_ok hH h1 hau [dLiv] hd rfl (by simp)
    refine (root_ok w u [dLiv] hh (by simp) (by simp) (hasK_ok hH hK)).mono fun e w' ⟨N, r1, r2, _, r3⟩ => ⟨_, r1, ?_, r3⟩
    rw [root_one r2]
    exact tup2_inst (lI_inst envL ms dLiv)
  · split at h
    case isFalse => cases h
    rename_i h1
    cases h
    have hd : ∀ d ∈ [dLiv, dLiv], D32 d := fun d hd => by
      have : d = dLiv := by simpa using hd
      rw [this]; exact dLiv_D
    have hh := digsAt_ok hH h1 hau [dLiv, dLiv] hd rfl (by simp)
    refine (root_ok w u [dLiv, dLiv] hh (by simp) (by simp) (hasK_ok hH hK)).mono fun e w' ⟨N, r1, r2, _, r3⟩ => ⟨_, r1, ?_, r3⟩
    rw [root_two r2]
    exact tup2_inst (vI_inst envL ms 0 32 _ (digL_length _) (fun i hi => by simp [envL]))
def conLiv : ConF := conOr conNd conRoot
theorem conLiv_ok : ConOk Tryd.prog envL conLiv := conOr_ok conNd_ok conRoot_ok
theorem lives_ev : evCallF Tryd.prog noLore conLiv 100 9 [] HK = some (.tv (.sc (.bool true)), HK) := by kernel_rfl
theorem lives_any (w : World) (hk : KC w) : Calls Tryd.prog 9 #[] w fun e w' => e = .returned (.bool true) ∧ Below w.heap.size w w' := by
  refine (calls_of_evHF (noLore_ok envL) conLiv_ok mixedOrders 100 lives_ev (args := #[]) w rfl (holdsK envL w hk)).mono ?_
  rintro e w' ⟨ms, u, rfl, _, h1, _, h3⟩
  simp only [AV.inst, TV.inst, SV.inst, Option.some.injEq] at h1
  rw [← h1]
  exact ⟨rfl, h3⟩
end Go.Proofs.YtjmlpkemjafifaaDoor
