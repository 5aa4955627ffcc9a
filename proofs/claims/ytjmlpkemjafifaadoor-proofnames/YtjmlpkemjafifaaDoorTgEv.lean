/- tag.Node and tag.Pad, by the evaluator over the contract of sha.Sum. -/
import Derived.Test.YtjmlpkemjafifaaDoorShaSums
import Derived.Test.YtjmlpkemjafifaaDoorEvLit
import Derived.Test.YtjmlpkemjafifaaDoorEvSha
set_option linter.unusedVariables false
set_option linter.unusedSimpArgs false
namespace Go.Proofs.YtjmlpkemjafifaaDoor
open Go Go.RowKit Ev

/-- The word of a node, of a pad. -/
def wNode : List Int := [115, 116, 114, 111, 110, 103, 114, 111, 111, 109, 32, 110, 111, 100, 101]
def wPad : List Int := [115, 116, 114, 111, 110, 103, 114, 111, 111, 109, 32, 112, 97, 100]
def num8 (n : Int) : List Int := [0, 0, 0, 0, 0, 0, 0, n]
/-- The tagged bytes of a node over two. -/
def ndB (l r : List Int) : List Int := num8 15 ++ (wNode ++ (num8 32 ++ (l ++ (num8 32 ++ r))))
/-- The digest of a node over two. -/
def ndL (l r : List Int) : List Int := digL (ndB l r)
def pdB (x : Nat) : List Int := num8 14 ++ (wPad ++ (num8 4 ++ bigL 4 x))
def pdL (x : Nat) : List Int := digL (pdB x)
def ByI (l : List Int) : Prop := ∀ x ∈ l, 0 ≤ x ∧ x < 256
/-- A digest: 32 bytes. -/
def D32 (l : List Int) : Prop := l.length = 32 ∧ ByI l

/-- A slice whose room is told. -/
def tellSl : SV → Option (Nat × Nat × Nat)
  | .sl n o len cap => if len ≤ cap ∧ cap ≤ 100000 then some (n, o, len) else none
  | _ => none
theorem tellSl_ok {ρ : Env} {ms : List Nat} {s : SV} {n o len : Nat} (h : tellSl s = some (n, o, len)) {u : Value} (hu : s.inst ρ ms = some u) : ∃ b c, ms[n]? = some b ∧ u = .slice (some ⟨b, o, none⟩) len c ∧ len ≤ c ∧ c ≤ 100000 := by
  unfold tellSl at h
  split at h
  case h_2 => cases h
  rename_i n' o' len' cap
  split at h <;> cases h
  rename_i hc
  simp only [SV.inst, Option.map_eq_some_iff] at hu
  obtain ⟨b, h1, rfl⟩ := hu
  exact ⟨b, cap, h1, rfl, hc⟩
def toldAt (H : List Blk) (s : SV) : Option (List SV) := (tellSl s).bind fun x => span H x.1 x.2.1 x.2.2
theorem toldAt_ok {ρ : Env} {ms : List Nat} {H : List Blk} {B : Nat} {w : World} (hH : Holds ρ ms H B w) {s : SV} {l : List SV} (h : toldAt H s = some l) {u : Value} (hu : s.inst ρ ms = some u) :
    ∃ (b o c : Nat) (vs : List Value), u = .slice (some ⟨b, o, none⟩) vs.length c ∧ vs.length ≤ c ∧ c ≤ 100000 ∧ l.map (SV.inst ρ ms) = vs.map some ∧ ∀ j v, vs[j]? = some v → w.cell? ⟨b, o + j, none⟩ = some v := by
  unfold toldAt at h
  rw [Option.bind_eq_some_iff] at h
  obtain ⟨⟨n, o, len⟩, h1, h2⟩ := h
  obtain ⟨b, c, hb, rfl, hc1, hc2⟩ := tellSl_ok h1 hu
  obtain ⟨vs, r1, r2, r3⟩ := span_ok ((hH.sees n).at _ _) hb h2
  dsimp only at r2
  subst r2
  exact ⟨b, o, c, vs, rfl, hc1, hc2, r1, r3⟩
/-- sha.Sum of one list whose bytes are told as exp: the bytes from o on. -/
def conSum (exp : List SV) (o : Nat) : ConF := fun g xs H =>
  if g = 86 then
    match xs with
    | [.tv (.sc s)] =>
      match toldAt H s with
      | some [t] => match toldAt H t with
        | some l => if l = exp ∧ hasK H = true then some (.tv (.agg ((List.range 32).map fun i => .int .u8 (.var (o + i))))) else none
        | none => none
      | _ => none
    | _ => none
  else none
theorem conSum_ok {ρ : Env} {exp : List SV} {o : Nat} {m : List Int} (hm : ByI m) (hl : m.length ≤ 1000) (hexp : ∀ ms, exp.map (SV.inst ρ ms) = (m.map (Value.int .u8)).map some) (hout : ∀ i, i < 32 → ρ.int (o + i) = (digL m).getD i 0) : ConOk Tryd.prog ρ (conSum exp o) := by
  intro g xs H v h ms B w args ha hH
  unfold conSum at h
  split at h
  case isFalse => cases h
  rename_i hg
  subst hg
  split at h
  case h_2 => cases h
  rename_i s
  split at h
  case h_2 => cases h
  rename_i t h1
  split at h
  case h_2 => cases h
  rename_i l h2
  split at h <;> cases h
  rename_i hc
  obtain ⟨rfl, hK⟩ := hc
  obtain ⟨al⟩ := args
  obtain ⟨u, rfl, hau⟩ : ∃ u, al = [u] ∧ s.inst ρ ms = some u := by
    cases al with
    | nil => simp at ha
    | cons u r =>
      cases r with
      | cons _ _ => simp at ha
      | nil =>
        simp only [List.map_cons, List.map_nil, List.cons.injEq, and_true, AV.inst, TV.inst] at ha
        exact ⟨u, rfl, ha⟩
  obtain ⟨b, off, c, vs, rfl, hc1, hc2, r1, r3⟩ := toldAt_ok hH h1 hau
  obtain ⟨u2, rfl⟩ : ∃ u2, vs = [u2] := by
    cases vs with
    | nil => simp at r1
    | cons u2 r => cases r with
      | nil => exact ⟨u2, rfl⟩
      | cons _ _ => simp at r1
  simp only [List.map_cons, List.map_nil, List.cons.injEq, and_true] at r1
  obtain ⟨b2, off2, c2, vs2, rfl, hd1, hd2, q1, q3⟩ := toldAt_ok hH h2 r1
  have e : vs2 = m.map (Value.int .u8) := by
    have := hexp ms
    rw [q1] at this
    exact List.map_inj_right (fun _ _ h => Option.some.inj h) |>.1 this
  subst e
  simp only [List.length_map] at hd1 q3 r3
  have hHB : HB w (.slice (some ⟨b2, off2, none⟩) m.length c2) m := ⟨⟨_, c2, rfl, hd1, by unfold maxLen; omega, (fun e => by cases e), fun _ => ⟨b2, off2, rfl, fun j hj => q3 j _ (by simp [List.getD, List.getElem?_eq_getElem hj])⟩⟩, hm⟩
  have hHL : HL w (.slice (some ⟨b, off, none⟩) 1 c) [m] := ⟨_, c, rfl, hc1, by unfold maxLen; omega, (fun e => by cases e), fun _ => ⟨b, off, rfl, fun j hj => by
    have hj0 : j = 0 := by simp at hj; omega
    subst hj0
    exact ⟨_, r3 0 _ rfl, hHB⟩⟩⟩
  refine (sums_any w _ [m] hHL (hasK_ok hH hK) (by simp; omega)).mono fun e w' ⟨r1, r2⟩ => ⟨_, r1, ?_, r2⟩
  simp only [AV.inst, TV.inst, List.flatten_cons, List.flatten_nil, List.append_nil]
  rw [(seqO_iff _ ((digL m).map (Value.int .u8))).2 ?_]
  · rfl
  · rw [List.map_map, List.map_map]
    refine List.ext_getElem (by simp [digL_length]) fun i h1 h2 => ?_
    have hi : i < 32 := by simpa using h1
    have hi2 : i < (digL m).length := by rw [digL_length]; exact hi
    simp only [List.getElem_map, List.getElem_range, Function.comp, SV.inst, Ex.den, hout i hi]
    simp [List.getD, List.getElem?_eq_getElem hi2]
def vI (o n : Nat) : List SV := (List.range n).map fun i => .int .u8 (.var (o + i))
def lI (l : List Int) : List SV := l.map fun x => .int .u8 (.lit x)
theorem lI_inst (ρ : Env) (ms : List Nat) (l : List Int) : (lI l).map (SV.inst ρ ms) = (l.map (Value.int .u8)).map some := by simp [lI, SV.inst, Ex.den]
theorem vI_inst (ρ : Env) (ms : List Nat) (o n : Nat) (l : List Int) (hl : l.length = n) (h : ∀ i, i < n → ρ.int (o + i) = l.getD i 0) : (vI o n).map (SV.inst ρ ms) = (l.map (Value.int .u8)).map some := by
  unfold vI
  rw [List.map_map, List.map_map]
  refine List.ext_getElem (by simp [hl]) fun i h1 h2 => ?_
  have hi : i < n := by simpa using h1
  have hi2 : i < l.length := by omega
  simp only [List.getElem_map, List.getElem_range, Function.comp, SV.inst, Ex.den, h i hi]
  simp [List.getD, List.getElem?_eq_getElem hi2]
theorem agg_inst {ρ : Env} {ms : List Nat} {s : List SV} {l : List Int} (h : s.map (SV.inst ρ ms) = (l.map (Value.int .u8)).map some) : (AV.tv (.agg s)).inst ρ ms = some (.agg (cellsB l)) := by
  simp only [AV.inst, TV.inst]
  rw [(seqO_iff _ _).2 h]
  rfl

/- A node. -/
def envN (l r : List Int) : Env := ⟨fun i => if i < 32 then l.getD i 0 else if i < 64 then r.getD (i - 32) 0 else (ndL l r).getD (i - 64) 0, fun _ => .tuple #[], fun _ _ _ => 0⟩
def expN : List SV := lI (num8 15) ++ (lI wNode ++ (lI (num8 32) ++ (vI 0 32 ++ (lI (num8 32) ++ vI 32 32))))
theorem expN_inst {l r : List Int} (hl : D32 l) (hr : D32 r) (ms : List Nat) : expN.map (SV.inst (envN l r) ms) = ((ndB l r).map (Value.int .u8)).map some := by
  unfold expN ndB
  simp only [List.map_append, lI_inst]
  rw [vI_inst (envN l r) ms 0 32 l hl.1 (fun i hi => by simp [envN, hi]), vI_inst (envN l r) ms 32 32 r hr.1 (fun i hi => by
    simp only [envN]
    rw [if_neg (by omega), if_pos (by omega), show 32 + i - 32 = i by omega])]
theorem ndB_byt {l r : List Int} (hl : D32 l) (hr : D32 r) : ByI (ndB l r) := by
  have k : ∀ l : List Int, (l.all fun x => decide (0 ≤ x ∧ x < 256)) = true → ByI l := fun l h x hx => by simpa using List.all_eq_true.1 h x hx
  have a : ∀ a b : List Int, ByI a → ByI b → ByI (a ++ b) := fun a b ha hb x hx => (List.mem_append.1 hx).elim (ha x) (hb x)
  exact a _ _ (k _ (by decide)) (a _ _ (k _ (by decide)) (a _ _ (k _ (by decide)) (a _ _ hl.2 (a _ _ (k _ (by decide)) hr.2))))
theorem node_ev : evCallF Tryd.prog noLore (conSum expN 64) 100 43 [.tv (.agg (vI 0 32)), .tv (.agg (vI 32 32))] HK = some (.tv (.agg (vI 64 32)), HK) := by kernel_rfl
theorem node_any (w : World) (l r : List Int) (hl : D32 l) (hr : D32 r) (hk : KC w) : Calls Tryd.prog 43 #[.agg (cellsB l), .agg (cellsB r)] w fun e w' => e = .returned (.agg (cellsB (ndL l r))) ∧ Below w.heap.size w w' := by
  have hcon : ConOk Tryd.prog (envN l r) (conSum expN 64) := conSum_ok (m := ndB l r) (ndB_byt hl hr) (by simp [ndB, num8, wNode, hl.1, hr.1]) (expN_inst hl hr) (fun i hi => by
    simp only [envN]
    rw [if_neg (by omega), if_neg (by omega), show 64 + i - 64 = i by omega]
    rfl)
  refine (calls_of_evHF (noLore_ok (envN l r)) hcon mixedOrders 100 node_ev (args := #[.agg (cellsB l), .agg (cellsB r)]) w ?_ (holdsK (envN l r) w hk)).mono ?_
  · simp only [List.map_cons, List.map_nil]
    rw [agg_inst (vI_inst (envN l r) ms0 0 32 l hl.1 (fun i hi => by simp [envN, hi])), agg_inst (vI_inst (envN l r) ms0 32 32 r hr.1 (fun i hi => by
      simp only [envN]
      rw [if_neg (by omega), if_pos (by omega), show 32 + i - 32 = i by omega]))]
  · rintro e w' ⟨ms, u, rfl, _, h1, _, h3⟩
    rw [agg_inst (vI_inst (envN l r) ms 64 32 (ndL l r) (digL_length _) (fun i hi => by
      simp only [envN]
      rw [if_neg (by omega), if_neg (by omega), show 64 + i - 64 = i by omega]))] at h1
    simp only [Option.some.injEq] at h1
    rw [← h1]
    exact ⟨rfl, h3⟩
end Go.Proofs.YtjmlpkemjafifaaDoor
