/- Of the road to ringRoundCard_holds: EvLit, TgEv, TgPad, RgTag, OpensIx, DigA, DigO, CmpB, RgM, RgCmp, Owns, IntsA, RgRow, RgSort, RgOrd, RgOrder, RgAw, RgRank. -/
import Derived.Test.YtjdfclbjmmmcfaaDoorG05
import Derived.Test.YtjdfclbjmmmcfaaDoorChecked
import Derived.Test.YtjdfclbjmmmcfaaDoorG00
import Derived.Deep.RegionHeld
import Derived.Laws.MakeOwn
import Derived.Lib.BytesEntry
import Derived.Lib.Bytealg
import Derived.Deep.MidRow
import Derived.Laws.AppendOwnNone
import Derived.Laws.AppendOwn
import Derived.Shelf.SlGeneric
import Derived.Shelf.SlSortCmp.Whole1
import Derived.Ground.SlsfProg
import Derived.Test.YtjdfclbjmmmcfaaDoorProg
set_option linter.unusedVariables false
set_option linter.unusedSimpArgs false
namespace Go.Proofs.YtjdfclbjmmmcfaaDoor
open Go Go.RowKit Ev
def TV.plainT : TV → Bool
  | .sc s => s.plain
  | .agg l => l.all SV.plain
def plainA : AV → Bool
  | .tv v => TV.plainT v
  | .tup l => l.all TV.plainT
theorem sv_any {ρ : Env} {ms ms' : List Nat} {s : SV} (h : s.plain = true) : s.inst ρ ms = s.inst ρ ms' := by
  cases s <;> simp [SV.plain] at h <;> simp only [SV.inst]
  subst h; rfl
theorem tv_any {ρ : Env} {ms ms' : List Nat} {s : TV} (h : TV.plainT s = true) : s.inst ρ ms = s.inst ρ ms' := by
  cases s with
  | sc s => exact sv_any h
  | agg l =>
    simp only [TV.inst]
    congr 2
    refine List.map_congr_left fun p hp => sv_any ?_
    simp only [TV.plainT, List.all_eq_true] at h
    exact h p hp
theorem av_any {ρ : Env} {ms ms' : List Nat} {s : AV} (h : plainA s = true) : s.inst ρ ms = s.inst ρ ms' := by
  cases s with
  | tv s => exact tv_any h
  | tup l =>
    simp only [AV.inst]
    congr 2
    refine List.map_congr_left fun p hp => tv_any ?_
    simp only [plainA, List.all_eq_true] at h
    exact h p hp
def con1 (g : Nat) (xs : List AV) (v : AV) : ConF := fun g' xs' _ => if g' = g then (if xs' = xs then some v else none) else none
theorem con1_ok {ρ : Env} {con : ConF} (hcon : ConOk Tryd.prog ρ con) (hm : Tryd.prog.follows .mixedOrders = true) {n g : Nat} {xs : List AV} {v : AV} {H' : List Blk} (h : evCallF Tryd.prog noLore con n g xs H0 = some (v, H')) (hx : xs.all plainA = true) (hv : plainA v = true) : ConOk Tryd.prog ρ (con1 g xs v) := by
  intro g' xs' H u hu ms B w args ha hH
  unfold con1 at hu
  split at hu
  case isFalse => cases hu
  rename_i e
  subst e
  split at hu <;> cases hu
  rename_i e
  subst e
  have ha0 : xs'.map (AV.inst ρ ms0) = args.toList.map some := by
    rw [← ha]
    exact List.map_congr_left fun x hx' => av_any (List.all_eq_true.1 hx x hx')
  refine (calls_of_evHF (noLore_ok ρ) hcon hm n h w ha0 (holds_nil ρ w)).mono ?_
  rintro e w' ⟨ms', u', rfl, _, h1, _, h3⟩
  exact ⟨u', rfl, by rw [av_any hv (ms' := ms')]; exact h1, h3⟩
def conOr (c d : ConF) : ConF := fun g xs H => match c g xs H with | some v => some v | none => d g xs H
theorem conOr_ok {ρ : Env} {c d : ConF} (hc : ConOk Tryd.prog ρ c) (hd : ConOk Tryd.prog ρ d) : ConOk Tryd.prog ρ (conOr c d) := by
  intro g xs H v h
  unfold conOr at h
  split at h
  · rename_i u hu
    cases h
    exact hc g xs H _ hu
  · exact hd g xs H v h
def litB (l : List Nat) : List SV := l.map fun x : Nat => .int .u8 (.lit (x : Int))
def wNode : List Int := [115, 116, 114, 111, 110, 103, 114, 111, 111, 109, 32, 110, 111, 100, 101]
def wPad : List Int := [115, 116, 114, 111, 110, 103, 114, 111, 111, 109, 32, 112, 97, 100]
def num8 (n : Int) : List Int := [0, 0, 0, 0, 0, 0, 0, n]
def ndB (l r : List Int) : List Int := num8 15 ++ (wNode ++ (num8 32 ++ (l ++ (num8 32 ++ r))))
def ndL (l r : List Int) : List Int := digL (ndB l r)
def pdB (x : Nat) : List Int := num8 14 ++ (wPad ++ (num8 4 ++ bigL 4 x))
def pdL (x : Nat) : List Int := digL (pdB x)
def ByI (l : List Int) : Prop := ∀ x ∈ l, 0 ≤ x ∧ x < 256
def D32 (l : List Int) : Prop := l.length = 32 ∧ ByI l
def tellSl : SV → Option (Nat × Nat × Nat)
  | .sl n o len cap => if len ≤ cap ∧ cap ≤ 100000 then some (n, o, len) else none
  | _ => none
theorem tellSl_ok {ρ : Env} {ms : List Nat} {s : SV} {n o len : Nat} (h : tellSl s = some (n, o, len)) {u : Value} (hu : s.inst ρ ms = some u) : ∃ b c, ms[n]? = some b ∧ u = .slice (some ⟨b, o, none⟩) len c ∧ len ≤ c ∧ c ≤ 100000 := by
  unfold tellSl at h
  split at h
  case h_2 => cases h
  rename_i n' o' len' cap
  split at h <;> cases h
  rename_i hc
  simp only [SV.inst, Option.map_eq_some_iff] at hu
  obtain ⟨b, h1, rfl⟩ := hu
  exact ⟨b, cap, h1, rfl, hc⟩
def toldAt (H : List Blk) (s : SV) : Option (List SV) := (tellSl s).bind fun x => span H x.1 x.2.1 x.2.2
theorem toldAt_ok {ρ : Env} {ms : List Nat} {H : List Blk} {B : Nat} {w : World} (hH : Holds ρ ms H B w) {s : SV} {l : List SV} (h : toldAt H s = some l) {u : Value} (hu : s.inst ρ ms = some u) :
    ∃ (b o c : Nat) (vs : List Value), u = .slice (some ⟨b, o, none⟩) vs.length c ∧ vs.length ≤ c ∧ c ≤ 100000 ∧ l.map (SV.inst ρ ms) = vs.map some ∧ ∀ j v, vs[j]? = some v → w.cell? ⟨b, o + j, none⟩ = some v := by
  unfold toldAt at h
  rw [Option.bind_eq_some_iff] at h
  obtain ⟨⟨n, o, len⟩, h1, h2⟩ := h
  obtain ⟨b, c, hb, rfl, hc1, hc2⟩ := tellSl_ok h1 hu
  obtain ⟨vs, r1, r2, r3⟩ := span_ok ((hH.sees n).at _ _) hb h2
  dsimp only at r2
  subst r2
  exact ⟨b, o, c, vs, rfl, hc1, hc2, r1, r3⟩
def conSum (exp : List SV) (o : Nat) : ConF := fun g xs H =>
  if g = 43 then
    match xs with
    | [.tv (.sc s)] =>
      match toldAt H s with
      | some [t] => match toldAt H t with
        | some l => if l = exp ∧ hasK H = true then some (.tv (.agg ((List.range 32).map fun i => .int .u8 (.var (o + i))))) else none
        | none => none
      | _ => none
    | _ => none
  else none
theorem conSum_ok {ρ : Env} {exp : List SV} {o : Nat} {m : List Int} (hm : ByI m) (hl : m.length ≤ 1000) (hexp : ∀ ms, exp.map (SV.inst ρ ms) = (m.map (Value.int .u8)).map some) (hout : ∀ i, i < 32 → ρ.int (o + i) = (digL m).getD i 0) : ConOk Tryd.prog ρ (conSum exp o) := by
  intro g xs H v h ms B w args ha hH
  unfold conSum at h
  split at h
  case isFalse => cases h
  rename_i hg
  subst hg
  split at h
  case h_2 => cases h
  rename_i s
  split at h
  case h_2 => cases h
  rename_i t h1
  split at h
  case h_2 => cases h
  rename_i l h2
  split at h <;> cases h
  rename_i hc
  obtain ⟨rfl, hK⟩ := hc
  obtain ⟨al⟩ := args
  obtain ⟨u, rfl, hau⟩ : ∃ u, al = [u] ∧ s.inst ρ ms = some u := by
    cases al with
    | nil => simp at ha
    | cons u r =>
      cases r with
      | cons _ _ => simp at ha
      | nil =>
        simp only [List.map_cons, List.map_nil, List.cons.injEq, and_true, AV.inst, TV.inst] at ha
        exact ⟨u, rfl, ha⟩
  obtain ⟨b, off, c, vs, rfl, hc1, hc2, r1, r3⟩ := toldAt_ok hH h1 hau
  obtain ⟨u2, rfl⟩ : ∃ u2, vs = [u2] := by
    cases vs with
    | nil => simp at r1
    | cons u2 r => cases r with
      | nil => exact ⟨u2, rfl⟩
      | cons _ _ => simp at r1
  simp only [List.map_cons, List.map_nil, List.cons.injEq, and_true] at r1
  obtain ⟨b2, off2, c2, vs2, rfl, hd1, hd2, q1, q3⟩ := toldAt_ok hH h2 r1
  have e : vs2 = m.map (Value.int .u8) := by
    have := hexp ms
    rw [q1] at this
    exact List.map_inj_right (fun _ _ h => Option.some.inj h) |>.1 this
  subst e
  simp only [List.length_map] at hd1 q3 r3
  have hHB : HB w (.slice (some ⟨b2, off2, none⟩) m.length c2) m := ⟨⟨_, c2, rfl, hd1, by unfold maxLen; omega, (fun e => by cases e), fun _ => ⟨b2, off2, rfl, fun j hj => q3 j _ (by simp [List.getD, List.getElem?_eq_getElem hj])⟩⟩, hm⟩
  have hHL : HL w (.slice (some ⟨b, off, none⟩) 1 c) [m] := ⟨_, c, rfl, hc1, by unfold maxLen; omega, (fun e => by cases e), fun _ => ⟨b, off, rfl, fun j hj => by
    have hj0 : j = 0 := by simp at hj; omega
    subst hj0
    exact ⟨_, r3 0 _ rfl, hHB⟩⟩⟩
  refine (sums_any w _ [m] hHL (hasK_ok hH hK) (by simp; omega)).mono fun e w' ⟨r1, r2⟩ => ⟨_, r1, ?_, r2⟩
  simp only [AV.inst, TV.inst, List.flatten_cons, List.flatten_nil, List.append_nil]
  rw [(seqO_iff _ ((digL m).map (Value.int .u8))).2 ?_]
  · rfl
  · rw [List.map_map, List.map_map]
    refine List.ext_getElem (by simp [digL_length]) fun i h1 h2 => ?_
    have hi : i < 32 := by simpa using h1
    have hi2 : i < (digL m).length := by rw [digL_length]; exact hi
    simp only [List.getElem_map, List.getElem_range, Function.comp, SV.inst, Ex.den, hout i hi]
    simp [List.getD, List.getElem?_eq_getElem hi2]
def vI (o n : Nat) : List SV := (List.range n).map fun i => .int .u8 (.var (o + i))
def lI (l : List Int) : List SV := l.map fun x => .int .u8 (.lit x)
theorem lI_inst (ρ : Env) (ms : List Nat) (l : List Int) : (lI l).map (SV.inst ρ ms) = (l.map (Value.int .u8)).map some := by simp [lI, SV.inst, Ex.den]
theorem vI_inst (ρ : Env) (ms : List Nat) (o n : Nat) (l : List Int) (hl : l.length = n) (h : ∀ i, i < n → ρ.int (o + i) = l.getD i 0) : (vI o n).map (SV.inst ρ ms) = (l.map (Value.int .u8)).map some := by
  unfold vI
  rw [List.map_map, List.map_map]
  refine List.ext_getElem (by simp [hl]) fun i h1 h2 => ?_
  have hi : i < n := by simpa using h1
  have hi2 : i < l.length := by omega
  simp only [List.getElem_map, List.getElem_range, Function.comp, SV.inst, Ex.den, h i hi]
  simp [List.getD, List.getElem?_eq_getElem hi2]
theorem agg_inst {ρ : Env} {ms : List Nat} {s : List SV} {l : List Int} (h : s.map (SV.inst ρ ms) = (l.map (Value.int .u8)).map some) : (AV.tv (.agg s)).inst ρ ms = some (.agg (cellsB l)) := by
  simp only [AV.inst, TV.inst]
  rw [(seqO_iff _ _).2 h]
  rfl
def envN (l r : List Int) : Env := ⟨fun i => if i < 32 then l.getD i 0 else if i < 64 then r.getD (i - 32) 0 else (ndL l r).getD (i - 64) 0, fun _ => .tuple #[], fun _ _ _ => 0⟩
def expN : List SV := lI (num8 15) ++ (lI wNode ++ (lI (num8 32) ++ (vI 0 32 ++ (lI (num8 32) ++ vI 32 32))))
theorem expN_inst {l r : List Int} (hl : D32 l) (hr : D32 r) (ms : List Nat) : expN.map (SV.inst (envN l r) ms) = ((ndB l r).map (Value.int .u8)).map some := by
  unfold expN ndB
  simp only [List.map_append, lI_inst]
  rw [vI_inst (envN l r) ms 0 32 l hl.1 (fun i hi => by simp [envN, hi]), vI_inst (envN l r) ms 32 32 r hr.1 (fun i hi => by
    simp only [envN]
    rw [if_neg (by omega), if_pos (by omega), show 32 + i - 32 = i by omega])]
theorem ndB_byt {l r : List Int} (hl : D32 l) (hr : D32 r) : ByI (ndB l r) := by
  have k : ∀ l : List Int, (l.all fun x => decide (0 ≤ x ∧ x < 256)) = true → ByI l := fun l h x hx => by simpa using List.all_eq_true.1 h x hx
  have a : ∀ a b : List Int, ByI a → ByI b → ByI (a ++ b) := fun a b ha hb x hx => (List.mem_append.1 hx).elim (ha x) (hb x)
  exact a _ _ (k _ (by decide)) (a _ _ (k _ (by decide)) (a _ _ (k _ (by decide)) (a _ _ hl.2 (a _ _ (k _ (by decide)) hr.2))))
def envP (x : Nat) : Env := ⟨fun i => if i = 0 then (x : Int) else (pdL x).getD (i - 1) 0, fun _ => .tuple #[], fun _ _ _ => 0⟩
def bigE : List SV := [.int .u8 (.con .u8 (.shr (.con .u64 (.var 0)) 24)), .int .u8 (.con .u8 (.shr (.con .u64 (.var 0)) 16)), .int .u8 (.con .u8 (.shr (.con .u64 (.var 0)) 8)), .int .u8 (.con .u8 (.con .u64 (.var 0)))]
def expP : List SV := lI (num8 14) ++ (lI wPad ++ (lI (num8 4) ++ bigE))
theorem bigE_inst (x : Nat) (hx : x < 4294967296) (ms : List Nat) : bigE.map (SV.inst (envP x) ms) = ((bigL 4 x).map (Value.int .u8)).map some := by
  have e0 : IntKind.u64.wrap (x : Int) = (x : Int) := by rw [IntKind.wrap_u64]; omega
  have f : ∀ k : Nat, ((x : Int).fdiv (2 ^ k)) = ((x / 2 ^ k : Nat) : Int) := fun k => by
    rw [show (2 : Int) ^ k = ((2 ^ k : Nat) : Int) by simp, Int.ofNat_fdiv]
  have g : ∀ n : Nat, IntKind.u8.wrap (n : Int) = ((n % 256 : Nat) : Int) := fun n => by rw [IntKind.wrap_u8]; rfl
  simp only [bigE, bigL, List.map_cons, List.map_nil, SV.inst, Ex.den, envP, if_pos, e0, f, g, Nat.pow_zero, Nat.div_one]
theorem expP_inst (x : Nat) (hx : x < 4294967296) (ms : List Nat) : expP.map (SV.inst (envP x) ms) = ((pdB x).map (Value.int .u8)).map some := by
  unfold expP pdB
  simp only [List.map_append, lI_inst]
  rw [bigE_inst x hx]
theorem pdB_byt (x : Nat) : ByI (pdB x) := by
  have k : ∀ l : List Int, (l.all fun x => decide (0 ≤ x ∧ x < 256)) = true → ByI l := fun l h x hx => by simpa using List.all_eq_true.1 h x hx
  have a : ∀ a b : List Int, ByI a → ByI b → ByI (a ++ b) := fun a b ha hb x hx => (List.mem_append.1 hx).elim (ha x) (hb x)
  exact a _ _ (k _ (by decide)) (a _ _ (k _ (by decide)) (a _ _ (k _ (by decide)) (bigL_byt 4 x)))
theorem digL_byt (m : List Int) : ByI (digL m) := by
  intro x hx
  unfold digL at hx
  obtain ⟨y, _, h⟩ := List.mem_flatMap.1 hx
  exact bigL_byt _ _ x h
theorem ndL_D (l r : List Int) : D32 (ndL l r) := ⟨digL_length _, digL_byt _⟩
theorem pdL_D (x : Nat) : D32 (pdL x) := ⟨digL_length _, digL_byt _⟩
def wRing : List Int := [115, 116, 114, 111, 110, 103, 114, 111, 111, 109, 32, 114, 105, 110, 103]
def rgB (x : List Int) (s : Nat) : List Int := num8 15 ++ (wRing ++ (num8 16 ++ (x ++ (num8 4 ++ bigL 4 s))))
def rgL (x : List Int) (s : Nat) : List Int := digL (rgB x s)
def X16 (x : List Int) : Prop := x.length = 16 ∧ ByI x
def envR (x : List Int) (s : Nat) : Env := ⟨fun i => if i = 0 then (s : Int) else if i < 17 then x.getD (i - 1) 0 else (rgL x s).getD (i - 17) 0, fun _ => .tuple #[], fun _ _ _ => 0⟩
def expR : List SV := lI (num8 15) ++ (lI wRing ++ (lI (num8 16) ++ (vI 1 16 ++ (lI (num8 4) ++ bigE))))
theorem bigR_inst (x : List Int) (s : Nat) (hs : s < 4294967296) (ms : List Nat) : bigE.map (SV.inst (envR x s) ms) = ((bigL 4 s).map (Value.int .u8)).map some := by
  have e0 : IntKind.u64.wrap (s : Int) = (s : Int) := by rw [IntKind.wrap_u64]; omega
  have f : ∀ k : Nat, ((s : Int).fdiv (2 ^ k)) = ((s / 2 ^ k : Nat) : Int) := fun k => by
    rw [show (2 : Int) ^ k = ((2 ^ k : Nat) : Int) by simp, Int.ofNat_fdiv]
  have g : ∀ n : Nat, IntKind.u8.wrap (n : Int) = ((n % 256 : Nat) : Int) := fun n => by rw [IntKind.wrap_u8]; rfl
  simp only [bigE, bigL, List.map_cons, List.map_nil, SV.inst, Ex.den, envR, if_pos, e0, f, g, Nat.pow_zero, Nat.div_one]
theorem envR_x {x : List Int} (s : Nat) (i : Nat) (hi : i < 16) : (envR x s).int (1 + i) = x.getD i 0 := by
  simp only [envR]
  rw [if_neg (by omega), if_pos (by omega), show 1 + i - 1 = i by omega]
theorem envR_d (x : List Int) (s : Nat) (i : Nat) : (envR x s).int (17 + i) = (rgL x s).getD i 0 := by
  simp only [envR]
  rw [if_neg (by omega), if_neg (by omega), show 17 + i - 17 = i by omega]
theorem expR_inst {x : List Int} (hx : X16 x) (s : Nat) (hs : s < 4294967296) (ms : List Nat) : expR.map (SV.inst (envR x s) ms) = ((rgB x s).map (Value.int .u8)).map some := by
  unfold expR rgB
  simp only [List.map_append, lI_inst]
  rw [vI_inst (envR x s) ms 1 16 x hx.1 (fun i hi => envR_x s i hi), bigR_inst x s hs]
theorem rgB_byt {x : List Int} (hx : X16 x) (s : Nat) : ByI (rgB x s) := by
  have k : ∀ l : List Int, (l.all fun x => decide (0 ≤ x ∧ x < 256)) = true → ByI l := fun l h x hx => by simpa using List.all_eq_true.1 h x hx
  have a : ∀ a b : List Int, ByI a → ByI b → ByI (a ++ b) := fun a b ha hb x hx => (List.mem_append.1 hx).elim (ha x) (hb x)
  exact a _ _ (k _ (by decide)) (a _ _ (k _ (by decide)) (a _ _ (k _ (by decide)) (a _ _ hx.2 (a _ _ (k _ (by decide)) (bigL_byt 4 s)))))
theorem ring_ev : evCallF Tryd.prog noLore (conSum expR 17) 100 17 [.tv (.agg (vI 1 16)), .tv (.sc (.int .u32 (.var 0)))] HK = some (.tv (.agg (vI 17 32)), HK) := by kernel_rfl
theorem tring_any (w : World) (x : List Int) (s : Nat) (hx : X16 x) (hs : s < 4294967296) (hk : KC w) : Calls Tryd.prog 17 #[.agg (cellsB x), .int .u32 (s : Int)] w fun e w' => e = .returned (.agg (cellsB (rgL x s))) ∧ Below w.heap.size w w' := by
  have hcon : ConOk Tryd.prog (envR x s) (conSum expR 17) := conSum_ok (m := rgB x s) (rgB_byt hx s) (by simp [rgB, num8, wRing, hx.1, bigL_length]) (expR_inst hx s hs) (fun i _ => envR_d x s i)
  refine (calls_of_evHF (noLore_ok (envR x s)) hcon mixedOrders 100 ring_ev (args := #[.agg (cellsB x), .int .u32 (s : Int)]) w ?_ (holdsK (envR x s) w hk)).mono ?_
  · simp only [List.map_cons, List.map_nil]
    rw [agg_inst (vI_inst (envR x s) ms0 1 16 x hx.1 (fun i hi => envR_x s i hi))]
    simp [AV.inst, TV.inst, SV.inst, Ex.den, envR]
  · rintro e w' ⟨ms, u, rfl, _, h1, _, h3⟩
    rw [agg_inst (vI_inst (envR x s) ms 17 32 (rgL x s) (digL_length _) (fun i _ => envR_d x s i))] at h1
    simp only [Option.some.injEq] at h1
    rw [← h1]
    exact ⟨rfl, h3⟩
theorem rgL_D (x : List Int) (s : Nat) : D32 (rgL x s) := ⟨digL_length _, digL_byt _⟩
end Go.Proofs.YtjdfclbjmmmcfaaDoor
namespace Go.Proofs.YtjdfclbjmmmcfaaDoor
open Go.ChangeShapes Go.WideShapes Go.ChangeAt Go.RowKit
set_option maxRecDepth 100000 in
theorem open_ixV {W : World} {base : Nat} {v : Value} (h : Value.okWide Tryd.prog W .any base 23 v) : ∃ l : List Int, X16 l ∧ v = .agg (cellsB l) := by
  have ht : Tryd.prog.cellTypes Tryd.prog.depth 23 = some (List.replicate 16 5) := by kernel_rfl
  have hc : Tryd.prog.cellsOf 23 = 16 := by kernel_rfl
  simp only [Value.okWide, Tryd.underlying23] at h
  obtain ⟨cs, rfl, h1, ts, h2, _, h3⟩ := h
  rw [ht] at h2
  cases h2
  have key : ∀ (i : Nat) (v : Value), cs[i]? = some v → ∃ k : Int, (0 ≤ k ∧ k < 256) ∧ v = .int .u8 k := fun i v hv => by
    obtain ⟨u, h4, h5⟩ := h3 i v hv
    have hu8 : u = 5 := (List.mem_replicate.1 (List.mem_of_getElem? h4)).2
    subst hu8
    simp only [Cell.okWide, Tryd.underlying5] at h5
    cases v <;> simp only [Cell.ok, Tryd.underlying5] at h5
    obtain ⟨rfl, h6⟩ := h5
    have h7 := bounds_u8 (by simpa [Lit.wf, IntKind.has] using h6)
    exact ⟨_, ⟨h7.1, by omega⟩, rfl⟩
  refine ⟨cs.toList.map (fun v => match v with | .int _ n => n | _ => 0), ⟨by simp [h1, hc], fun x hx => ?_⟩, ?_⟩
  · obtain ⟨v, hv, rfl⟩ := List.mem_map.1 hx
    obtain ⟨i, hi, rfl⟩ := List.getElem_of_mem hv
    obtain ⟨k, hk, he⟩ := key i _ (by rw [← Array.getElem?_toList, List.getElem?_eq_getElem hi])
    rw [he]
    exact hk
  · congr 1
    unfold cellsB
    rw [List.map_map]
    apply Array.ext'
    simp only
    refine List.ext_getElem (by simp) fun i hi1 hi2 => ?_
    obtain ⟨k, hk, he⟩ := key i _ (by rw [← Array.getElem?_toList, List.getElem?_eq_getElem hi1])
    simp only [List.getElem_map, Function.comp, he]
end Go.Proofs.YtjdfclbjmmmcfaaDoor
namespace Go.Proofs.YtjdfclbjmmmcfaaDoor
open Go.RowKit
def dc (d : List Int) : List Value := d.map (Value.int .u8)
theorem dc_arr (d : List Int) : (dc d).toArray = cellsB d := rfl
theorem dc_length (d : List Int) : (dc d).length = d.length := by simp [dc]
def HDs (w : World) (v : Value) (ds : List (List Int)) : Prop :=
  (∃ (p : Option Addr) (c : Nat), v = .slice p ds.length c ∧ ds.length ≤ c ∧ c ≤ maxLen ∧ (p = none → c = 0) ∧
    (ds ≠ [] → ∃ b off, p = some ⟨b, off, none⟩ ∧ ∀ i, i < ds.length → w.rangeAt b (off + i * 32) (dc (ds.getD i [])))) ∧ ∀ d ∈ ds, D32 d
theorem HDs.open {w : World} {v : Value} {ds : List (List Int)} (h : HDs w v ds) : ∃ (p : Option Addr) (c : Nat), v = .slice p ds.length c ∧ ds.length ≤ c ∧ c ≤ maxLen := by
  obtain ⟨⟨p, c, h1, h2, h3, _⟩, _⟩ := h
  exact ⟨p, c, h1, h2, h3⟩
theorem HDs.ne {w : World} {v : Value} {ds : List (List Int)} (h : HDs w v ds) (hl : 0 < ds.length) :
    ∃ b off c, v = .slice (some ⟨b, off, none⟩) ds.length c ∧ ds.length ≤ c ∧ c ≤ maxLen ∧ b < w.heap.size ∧ ∀ i, i < ds.length → w.rangeAt b (off + i * 32) (dc (ds.getD i [])) := by
  obtain ⟨⟨p, c, h1, h2, h3, _, h4⟩, h5⟩ := h
  obtain ⟨b, off, rfl, hc⟩ := h4 (by intro e; subst e; simp at hl)
  refine ⟨b, off, c, h1, h2, h3, ?_, hc⟩
  have h6 := hc 0 hl
  have hd : D32 (ds.getD 0 []) := by
    have e : ds.getD 0 [] = ds[0] := by simp [List.getD, List.getElem?_eq_getElem hl]
    rw [e]; exact h5 _ (List.getElem_mem hl)
  have h7 := h6 0 _ (List.getElem?_eq_getElem (by rw [dc_length, hd.1]; omega))
  exact World.block_lt_of_cell? w _ h7
theorem getD_D {ds : List (List Int)} (h : ∀ d ∈ ds, D32 d) (i : Nat) (hi : i < ds.length) : D32 (ds.getD i []) := by
  have e : ds.getD i [] = ds[i] := by simp [List.getD, List.getElem?_eq_getElem hi]
  rw [e]; exact h _ (List.getElem_mem hi)
theorem range_below {w w' : World} {B b o : Nat} {cs : List Value} (h : w.rangeAt b o cs) (hB : Below B w w') (hb : b < B) : w'.rangeAt b o cs := fun j v hv => (hB.cell (p := ⟨b, o + j, none⟩) hb).trans (h j v hv)
theorem HDs.below {w w' : World} {v : Value} {ds : List (List Int)} (h : HDs w v ds) (hB : Below w.heap.size w w') : HDs w' v ds := by
  refine ⟨?_, h.2⟩
  by_cases h0 : 0 < ds.length
  · obtain ⟨b, off, c, h1, h2, h3, h4, h5⟩ := h.ne h0
    exact ⟨_, c, h1, h2, h3, (fun e => by cases e), fun _ => ⟨b, off, rfl, fun i hi => range_below (h5 i hi) hB h4⟩⟩
  · obtain ⟨⟨p, c, h1, h2, h3, h4, h5⟩, _⟩ := h
    exact ⟨p, c, h1, h2, h3, h4, fun hne => absurd (List.length_pos_iff.2 hne) h0⟩
theorem size_dig {d : List Int} (h : D32 d) : (Tryd.prog.info? 43).map (·.size) = some (dc d).length := by rw [dc_length, h.1]; exact size_digest
theorem results_cell2 {P : Program} {fn : Func} {p q : Tmp} {ty : TypeId} (h : fn.results = #[.cell p ty, .cell q ty]) (tmps : Array Value) (w : World) (g g' : Nat) (t : TypeId) (cs cs' : Array Value) (fr fr' : Nat × Nat) (d : TypeDesc)
    (hp : tmps.getD p undef = .pointer (some ⟨g, 0, none⟩)) (hq : tmps.getD q undef = .pointer (some ⟨g', 0, none⟩)) (hg : w.heap[g]? = some (.cells cs t fr)) (hg' : w.heap[g']? = some (.cells cs' t fr'))
    (hu : P.underlying ty = some d) (hd : (match d with | .struct _ | .array _ _ => true | _ => false) = true) (hi : (P.info? ty).map (·.size) = some cs.size) (hi' : (P.info? ty).map (·.size) = some cs'.size) :
    (results fn tmps).run P w = .ok (.tuple #[.agg cs, .agg cs']) w := by
  have hp' : tmps[p]?.getD undef = .pointer (some ⟨g, 0, none⟩) := by simpa using hp
  have hq' : tmps[q]?.getD undef = .pointer (some ⟨g', 0, none⟩) := by simpa using hq
  simp [results, h, hp', hq', asAddr, run_loadVar_row w g t ty cs fr d hg hu hd hi, run_loadVar_row w g' t ty cs' fr' d hg' hu hd hi']
theorem results_cellt {P : Program} {fn : Func} {p u : Tmp} {ty : TypeId} (h : fn.results = #[.cell p ty, .tmp u]) (tmps : Array Value) (w : World) (g : Nat) (t : TypeId) (cs : Array Value) (fr : Nat × Nat) (d : TypeDesc)
    (hp : tmps.getD p undef = .pointer (some ⟨g, 0, none⟩)) (hg : w.heap[g]? = some (.cells cs t fr))
    (hu : P.underlying ty = some d) (hd : (match d with | .struct _ | .array _ _ => true | _ => false) = true) (hi : (P.info? ty).map (·.size) = some cs.size) (x : Value) (hx : tmps.getD u undef = x) :
    (results fn tmps).run P w = .ok (.tuple #[.agg cs, x]) w := by
  have hp' : tmps[p]?.getD undef = .pointer (some ⟨g, 0, none⟩) := by simpa using hp
  have hx' : tmps[u]?.getD undef = x := by simpa using hx
  simp [results, h, hp', hx', asAddr, run_loadVar_row w g t ty cs fr d hg hu hd hi]
def OD (w : World) (g : Nat) (N : List (List Int)) : Prop :=
  (∃ cur, w.heap[g]? = some (.cells cur 43 (0, 0)) ∧ cur.size = N.length * 32) ∧ (∀ i, i < N.length → w.rangeAt g (i * 32) (dc (N.getD i []))) ∧ ∀ d ∈ N, D32 d
theorem OD.there {w : World} {g : Nat} {N : List (List Int)} (h : OD w g N) (i : Nat) (hi : i < N.length) : w.there g (i * 32) 32 := by
  obtain ⟨cur, h1, h2⟩ := h.1
  intro j hj
  have : i * 32 + j < cur.size := by rw [h2]; omega
  refine ⟨?_, frozen_of_row w g _ cur _ h1⟩
  rw [cell_of_row w g _ _ _ _ h1, Array.getElem?_eq_getElem this]
  rfl
theorem OD.HDs {w : World} {g : Nat} {N : List (List Int)} (h : OD w g N) (hn : N.length ≤ 1000000) : HDs w (.slice (some ⟨g, 0, none⟩) N.length N.length) N :=
  ⟨⟨_, _, rfl, Nat.le_refl _, by unfold maxLen; omega, (fun e => by cases e), fun _ => ⟨g, 0, rfl, fun i hi => by rw [Nat.zero_add]; exact h.2.1 i hi⟩⟩, h.2.2⟩
theorem OD.lt {w : World} {g : Nat} {N : List (List Int)} (h : OD w g N) : g < w.heap.size := by
  obtain ⟨cur, h1, _⟩ := h.1
  exact (Array.getElem?_eq_some_iff.1 h1).1
theorem OD.below {w w' : World} {g : Nat} {N : List (List Int)} (h : OD w g N) (hB : Below w.heap.size w w') : OD w' g N := by
  have hl := h.lt
  obtain ⟨⟨cur, q1, q2⟩, q3, q4⟩ := h
  exact ⟨⟨cur, (hB.block _ hl).trans q1, q2⟩, fun i hi => range_below (q3 i hi) hB hl, q4⟩
theorem shape_setCells (g : Nat) (T : TypeId) : ∀ (vs : List Value) (o : Nat) (w : World) (cur : Array Value), w.heap[g]? = some (.cells cur T (0, 0)) → ∃ cur', (w.setCells g o vs).heap[g]? = some (.cells cur' T (0, 0)) ∧ cur'.size = cur.size
  | [], o, w, cur, h => ⟨cur, h, rfl⟩
  | v :: r, o, w, cur, h => by
    obtain ⟨cur', h1, h2⟩ := shape_setCells g T r (o + 1) (w.setCell ⟨g, o, none⟩ v) _ (heap_setCell_same w g o cur T v h)
    exact ⟨cur', h1, by rw [h2]; simp⟩
theorem setCells_other (g : Nat) : ∀ (vs : List Value) (o : Nat) (w : World) (k : Nat), k ≠ g → (w.setCells g o vs).heap[k]? = w.heap[k]?
  | [], _, _, _, _ => rfl
  | v :: r, o, w, k, h => by
    rw [World.setCells, setCells_other g r (o + 1) _ k h]
    simp only [World.setCell, Array.getElem?_modify]
    rw [if_neg (fun e => h e.symm)]
theorem below_setCells {B : Nat} {a w : World} (h : Below B a w) {g : Nat} (hg : B ≤ g) : ∀ (vs : List Value) (o : Nat), Below B a (w.setCells g o vs) := by
  intro vs
  induction vs generalizing w with
  | nil => intro o; exact h
  | cons v r ih => intro o; exact ih (h.setCell (p := ⟨g, o, none⟩) hg v) (o + 1)
theorem setD {N : List (List Int)} {i : Nat} {d : List Int} (h : ∀ x ∈ N, D32 x) (hd : D32 d) : ∀ x ∈ N.set i d, D32 x := fun x hx => by
  rcases List.mem_or_eq_of_mem_set hx with h1 | rfl
  · exact h x h1
  · exact hd
theorem getD_set (N : List (List Int)) (i j : Nat) (d : List Int) (hi : i < N.length) : (N.set i d).getD j [] = if i = j then d else N.getD j [] := by
  by_cases e : i = j
  · subst e; simp [List.getD, hi]
  · rw [if_neg e]; simp [List.getD, List.getElem?_set_ne e]
theorem OD.store {w : World} {g : Nat} {N : List (List Int)} (h : OD w g N) (i : Nat) (hi : i < N.length) {d : List Int} (hd : D32 d) : OD (w.setCells g (i * 32) (dc d)) g (N.set i d) := by
  obtain ⟨cur, h1, h2⟩ := h.1
  obtain ⟨cur', h3, h4⟩ := shape_setCells g _ (dc d) (i * 32) w cur h1
  refine ⟨⟨cur', h3, by rw [h4, h2, List.length_set]⟩, fun j hj => ?_, setD h.2.2 hd⟩
  rw [List.length_set] at hj
  rw [getD_set N i j d hi]
  by_cases e : i = j
  · subst e
    rw [if_pos rfl]
    exact World.rangeAt_setCells_same w g (i * 32) (dc d) (by rw [dc_length, hd.1]; exact h.there i hi)
  · rw [if_neg e]
    refine World.rangeAt_setCells_apart (h.2.1 j hj) g (i * 32) (dc d) ?_
    have hl := (getD_D h.2.2 j hj).1
    rw [dc_length, dc_length, hl, hd.1]
    omega
def setL (N : List (List Int)) (o : Nat) : List (List Int) → List (List Int)
  | [] => N
  | d :: r => setL (N.set o d) (o + 1) r
theorem setL_length : ∀ (ls N : List (List Int)) (o : Nat), (setL N o ls).length = N.length
  | [], _, _ => rfl
  | d :: r, N, o => by rw [setL, setL_length r, List.length_set]
theorem setL_getD : ∀ (ls N : List (List Int)) (o j : Nat), o + ls.length ≤ N.length → (setL N o ls).getD j [] = if o ≤ j ∧ j < o + ls.length then ls.getD (j - o) [] else N.getD j []
  | [], N, o, j, h => by rw [if_neg (by simp only [List.length_nil]; omega)]; rfl
  | d :: r, N, o, j, h => by
    simp only [List.length_cons] at h ⊢
    rw [setL, setL_getD r (N.set o d) (o + 1) j (by rw [List.length_set]; omega), getD_set N o j d (by omega)]
    by_cases e : o = j
    · subst e
      rw [if_neg (by omega), if_pos rfl, if_pos (by omega), Nat.sub_self]
      rfl
    · by_cases h1 : o + 1 ≤ j ∧ j < o + 1 + r.length
      · rw [if_pos h1, if_pos (by omega), show j - o = (j - (o + 1)) + 1 by omega]
        rfl
      · rw [if_neg h1, if_neg e, if_neg (by omega)]
theorem setCells_append (g : Nat) : ∀ (xs ys : List Value) (o : Nat) (w : World), w.setCells g o (xs ++ ys) = (w.setCells g o xs).setCells g (o + xs.length) ys
  | [], ys, o, w => by simp [World.setCells]
  | x :: r, ys, o, w => by
    rw [List.cons_append, World.setCells, World.setCells, setCells_append g r ys (o + 1)]
    simp only [List.length_cons]
    rw [show o + 1 + r.length = o + (r.length + 1) by omega]
theorem OD.copy {g : Nat} : ∀ (ls N : List (List Int)) (o : Nat) (w : World), OD w g N → o + ls.length ≤ N.length → (∀ d ∈ ls, D32 d) → OD (w.setCells g (o * 32) (ls.flatMap dc)) g (setL N o ls)
  | [], N, o, w, h, _, _ => h
  | d :: r, N, o, w, h, hl, hd => by
    have hd0 := hd d (by simp)
    simp only [List.length_cons] at hl
    rw [List.flatMap_cons, setCells_append, setL, dc_length, hd0.1, show o * 32 + 32 = (o + 1) * 32 by omega]
    exact OD.copy r (N.set o d) (o + 1) _ (h.store o (by omega) hd0) (by rw [List.length_set]; omega) (fun x hx => hd x (by simp [hx]))
theorem run_make_dig (w : World) (n : Nat) (hn : n ≤ 1000000) : ∃ C, (Instr.makeSlice 51 (.int .i64 (n : Int)) (.int .i64 (n : Int))).run Tryd.prog w = .ok (.slice (some ⟨w.heap.size, 0, none⟩) n n) (w.alloc (.cells C 43)) ∧ OD (w.alloc (.cells C 43)) w.heap.size (List.replicate n zeros32) := by
  obtain ⟨i0, hi, hz0, hz1, hz2⟩ := info_parts info_digest
  have hr := run_make (P := Tryd.prog) w 51 43 i0 _ Tryd.underlying51 hi hz0 .i64 .i64 n n (by omega) (Int.le_refl _) (by rw [hz2]; omega) (by omega)
  simp only [Int.toNat_natCast] at hr
  refine ⟨_, hr, ⟨_, heap_alloc_new w _, by rw [size_madeCells, hz1, List.length_replicate]⟩, fun i hi => ?_, fun d hd => ?_⟩
  · rw [List.length_replicate] at hi
    have e : (List.replicate n zeros32).getD i [] = zeros32 := by simp [List.getD, hi]
    rw [e]
    intro j v hj
    have hj2 : j < 32 := by
      have := (List.getElem?_eq_some_iff.1 hj).1
      rwa [dc_length, zeros32_length] at this
    have hv : v = .int .u8 0 := by
      simp only [dc, zeros32, List.map_replicate, List.getElem?_replicate] at hj
      rw [if_pos hj2] at hj
      exact (Option.some.inj hj).symm
    subst hv
    rw [cell_of_row _ _ _ _ _ _ (heap_alloc_new w _)]
    unfold madeCells
    rw [Array.getElem?_map, Array.getElem?_range, hz1]
    rw [if_pos (by omega)]
    have e2 : (Value.agg (cellsB zeros32)).cells = cellsB zeros32 := rfl
    rw [e2, cellsB_size, zeros32_length, Option.map_some, show (i * 32 + j) % 32 = j by omega]
    have h5 : (cellsB zeros32)[j]? = some (.int .u8 0) := by rw [← dc_arr, List.getElem?_toArray]; exact hj
    rw [getElem!_def, h5]
  · rw [(List.mem_replicate.1 hd).2]
    exact ⟨zeros32_length, fun x hx => by have := (List.mem_replicate.1 hx).2; omega⟩
theorem run_copy_dig (w : World) (ty : TypeId) (b o dLen dCap : Nat) (a : Addr) (sLen sCap : Nat) (cs : List Value)
    (hn : cs.length = Nat.min sLen dLen * 32) (hsrc : ∀ j v, cs[j]? = some v → w.cell? (a.add j) = some v) (hc : ∀ j, j < cs.length → (w.cell? ⟨b, o + j, none⟩).isSome = true) (hf : ∀ j, j < cs.length → w.frozen? ⟨b, o + j, none⟩ = false) (h1 : ∀ v ∈ cs, v.oneCell' = true) :
    (Builtin.copy_ #[51, 51] ty #[.slice (some ⟨b, o, none⟩) dLen dCap, .slice (some a) sLen sCap]).run Tryd.prog w = .ok (goInt (Nat.min sLen dLen)) (w.setCells b o cs) := by
  obtain ⟨i0, hi, hz0, hz1, hz2⟩ := info_parts info_digest
  have hl := run_loadCells_list (P := Tryd.prog) w a cs hsrc
  have hst := run_storeCells_cells (P := Tryd.prog) b o cs 0 w (by simpa using hc) (by simpa using hf) h1
  rw [hn] at hl
  simp [Builtin.copy_, run_underlying Tryd.underlying51, Builtin.lenOf, Builtin.firstCells, sizeOf, typeInfo, hi, hz1, hl, hst]
end Go.Proofs.YtjdfclbjmmmcfaaDoor
namespace Go.Proofs.YtjdfclbjmmmcfaaDoor
open Go Go.RowKit
def cmpB : List Int → List Int → Int
  | [], [] => 0
  | [], _ :: _ => -1
  | _ :: _, [] => 1
  | a :: l, b :: r => if a < b then -1 else if b < a then 1 else cmpB l r
def cmpN (a b : Int) : Int := if a < b then -1 else if b < a then 1 else 0
theorem u8_lt {a b : Int} (ha : 0 ≤ a ∧ a < 256) (hb : 0 ≤ b ∧ b < 256) : (UInt8.ofNat a.toNat < UInt8.ofNat b.toNat) ↔ a < b := by
  rw [UInt8.lt_iff_toNat_lt, UInt8.toNat_ofNat', UInt8.toNat_ofNat', Nat.mod_eq_of_lt (by omega), Nat.mod_eq_of_lt (by omega)]
  omega
theorem cmpB_eq : ∀ (l r : List Int), (∀ x ∈ l, 0 ≤ x ∧ x < 256) → (∀ x ∈ r, 0 ≤ x ∧ x < 256) → Lib.compareBytes (Lib.bytesOf l) (Lib.bytesOf r) = cmpB l r
  | [], [], _, _ => rfl
  | [], _ :: _, _, _ => rfl
  | _ :: _, [], _, _ => rfl
  | a :: l, b :: r, hl, hr => by
    have ih := cmpB_eq l r (fun x hx => hl x (List.mem_cons_of_mem _ hx)) (fun x hx => hr x (List.mem_cons_of_mem _ hx))
    have ha := hl a (List.mem_cons_self ..)
    have hb := hr b (List.mem_cons_self ..)
    show Lib.compareBytes (UInt8.ofNat a.toNat :: Lib.bytesOf l) (UInt8.ofNat b.toNat :: Lib.bytesOf r) = _
    unfold Lib.compareBytes cmpB
    rw [ih]
    simp only [u8_lt ha hb, u8_lt hb ha]
theorem run_cmpSl {w : World} {va vb : Value} {la lb : List Int} (ha : HB w va la) (hb : HB w vb lb) : (Extern.BytealgCompare.compare #[va, vb]).run Tryd.prog w = .ok (.int .i64 (cmpB la lb)) w := by
  have key : ∀ {v : Value} {l : List Int}, HB w v l → ∃ s : ByteArray, (Extern.Bytes.bytesOf v).run Tryd.prog w = .ok s w ∧ s.data.toList = Lib.bytesOf l := fun {v l} h => by
    obtain ⟨⟨p, c, rfl, h2, h3, h6, h4⟩, h5⟩ := h
    cases p with
    | none =>
      have e : l = [] := by
        apply Classical.byContradiction
        intro hne
        obtain ⟨b, off, e, _⟩ := h4 hne
        cases e
      subst e
      exact ⟨ByteArray.empty, rfl, rfl⟩
    | some a =>
      by_cases hl : l = []
      · subst hl
        exact ⟨ByteArray.empty, rfl, rfl⟩
      · obtain ⟨b, off, e, hc⟩ := h4 hl
        cases e
        have hr := Lib.run_loadBytesX (P := Tryd.prog) w l ⟨b, off, none⟩ .empty (fun j x hj => by
          have hjl : j < l.length := (List.getElem?_eq_some_iff.1 hj).1
          rw [Go.WideShapes.add_plain, hc j hjl, List.getD_eq_getElem?_getD, hj]
          rfl)
        exact ⟨_, hr, by simp⟩
  obtain ⟨s, hs1, hs2⟩ := key ha
  obtain ⟨t, ht1, ht2⟩ := key hb
  change Sem.run Tryd.prog (do pure (goInt (Extern.BytealgCompare.cmp (← Extern.Bytes.bytesOf va) (← Extern.Bytes.bytesOf vb)))) w = _
  simp only [Sem.run_bind, Sem.run_pure, hs1, ht1, Result.andThen]
  rw [Lib.cmp_eq, hs2, ht2, cmpB_eq la lb ha.2 hb.2]
  rfl
set_option maxRecDepth 100000 in
set_option maxHeartbeats 4000000 in
theorem bcompare_any (w : World) (va vb : Value) (la lb : List Int) (ha : HB w va la) (hb : HB w vb lb) : Calls Tryd.prog 28 #[va, vb] w fun e w' => e = .returned (.int .i64 (cmpB la lb)) ∧ w' = w := by
  have hr := run_cmpSl ha hb
  obtain ⟨p, c, rfl, -, -⟩ := ha.open
  obtain ⟨p2, c2, rfl, -, -⟩ := hb.open
  go_enter Tryd.func28, Tryd.ntmps28
  go_wp2
  rw [run_callFunc_extern Tryd.func36 (by kernel_rfl) (by kernel_rfl) (by kernel_rfl) (e := Extern.BytealgCompare.compare) (by kernel_rfl), hr]
  simp only [Result.andThen]
  rw [Oper.upon_value]
  go_wp2
  go_ret
  exact ⟨rfl, rfl⟩
set_option maxRecDepth 100000 in
set_option maxHeartbeats 4000000 in
theorem isNaN_any (w : World) (x : Int) : Calls Tryd.prog 39 #[.int .i64 x] w fun e w' => e = .returned (.bool false) ∧ w' = w := by
  go_enter Tryd.func39, Tryd.ntmps39
  go_wp2
  go_ret
  exact ⟨by simp, rfl⟩
set_option maxRecDepth 100000 in
set_option maxHeartbeats 4000000 in
theorem ncompare_any (w : World) (x y : Int) : Calls Tryd.prog 31 #[.int .i64 x, .int .i64 y] w fun e w' => e = .returned (.int .i64 (cmpN x y)) ∧ w' = w := by
  have C1 := hid isNaN_any
  generalize hM : cmpN x y = M
  have HM := hid hM
  clear hM
  go_enter Tryd.func31, Tryd.ntmps31
  go_wp2_with (go_at_call 39; refine (C1.out _ _).mono ?_; rintro e w' ⟨rfl, hw'⟩; subst hw')
  all_goals go_ret
  all_goals (refine ⟨?_, rfl⟩; rw [← HM.out]; unfold cmpN; simp_all <;> try omega)
theorem cmpB_self : ∀ l : List Int, cmpB l l = 0
  | [] => rfl
  | a :: l => by
    unfold cmpB
    rw [if_neg (by omega), if_neg (by omega)]
    exact cmpB_self l
theorem cmpB_neg : ∀ l r : List Int, cmpB r l = - cmpB l r
  | [], [] => rfl
  | [], _ :: _ => rfl
  | _ :: _, [] => rfl
  | a :: l, b :: r => by
    unfold cmpB
    rcases (by omega : a < b ∨ b < a ∨ a = b) with h | h | h
    · rw [if_neg (by omega), if_pos h, if_pos h]; rfl
    · rw [if_pos h, if_neg (by omega), if_pos h]
    · rw [if_neg (by omega), if_neg (by omega), if_neg (by omega), if_neg (by omega)]
      exact cmpB_neg l r
theorem cmpB_eq0 : ∀ l r : List Int, cmpB l r = 0 → l = r
  | [], [], _ => rfl
  | [], _ :: _, h => by cases h
  | _ :: _, [], h => by cases h
  | a :: l, b :: r, h => by
    unfold cmpB at h
    rcases (by omega : a < b ∨ b < a ∨ a = b) with q | q | q
    · rw [if_pos q] at h; cases h
    · rw [if_neg (by omega), if_pos q] at h; cases h
    · rw [if_neg (by omega), if_neg (by omega)] at h
      rw [q, cmpB_eq0 l r h]
theorem cmpB_three : ∀ l r : List Int, cmpB l r = -1 ∨ cmpB l r = 0 ∨ cmpB l r = 1
  | [], [] => .inr (.inl rfl)
  | [], _ :: _ => .inl rfl
  | _ :: _, [] => .inr (.inr rfl)
  | a :: l, b :: r => by
    unfold cmpB
    split
    · exact .inl rfl
    · split
      · exact .inr (.inr rfl)
      · exact cmpB_three l r
theorem cmpB_trans : ∀ l m r : List Int, cmpB l m < 0 → cmpB m r < 0 → cmpB l r < 0
  | [], [], _, h, _ => by simp [cmpB] at h
  | [], _ :: _, [], _, h => by simp [cmpB] at h
  | [], _ :: _, _ :: _, _, _ => by simp [cmpB]
  | _ :: _, [], _, h, _ => by simp [cmpB] at h
  | _ :: _, _ :: _, [], _, h => by simp [cmpB] at h
  | a :: l, b :: m, c :: r, h1, h2 => by
    unfold cmpB at h1 h2 ⊢
    rcases (by omega : a < b ∨ b < a ∨ a = b) with q | q | q
    · rcases (by omega : b < c ∨ c < b ∨ b = c) with p | p | p
      · rw [if_pos (by omega)]; decide
      · rw [if_neg (by omega), if_pos p] at h2; omega
      · rw [if_pos (by omega)]; decide
    · rw [if_neg (by omega), if_pos q] at h1; omega
    · rw [if_neg (by omega), if_neg (by omega)] at h1
      rcases (by omega : b < c ∨ c < b ∨ b = c) with p | p | p
      · rw [if_pos (by omega)]; decide
      · rw [if_neg (by omega), if_pos p] at h2; omega
      · rw [if_neg (by omega), if_neg (by omega)] at h2
        rw [if_neg (by omega), if_neg (by omega)]
        exact cmpB_trans l m r h1 h2
theorem cmpN_lt (a b : Int) : cmpN a b < 0 ↔ a < b := by
  unfold cmpN
  split
  · simp_all
  · split <;> omega
end Go.Proofs.YtjdfclbjmmmcfaaDoor
namespace Go.Proofs.YtjdfclbjmmmcfaaDoor
open Go
def cmpR (d : Nat → List Int) (a b : Nat) : Int := if d a = d b then cmpN a b else cmpB (d a) (d b)
def ltR (d : Nat → List Int) (a b : Nat) : Prop := cmpR d a b < 0
instance (d : Nat → List Int) (a b : Nat) : Decidable (ltR d a b) := by unfold ltR; infer_instance
theorem ltR_iff (d : Nat → List Int) (a b : Nat) : ltR d a b ↔ (d a = d b ∧ a < b) ∨ (d a ≠ d b ∧ cmpB (d a) (d b) < 0) := by
  unfold ltR cmpR
  by_cases h : d a = d b
  · rw [if_pos h, cmpN_lt]
    constructor
    · intro q; exact .inl ⟨h, by omega⟩
    · rintro (⟨_, q⟩ | ⟨q, _⟩)
      · omega
      · exact absurd h q
  · rw [if_neg h]
    constructor
    · intro q; exact .inr ⟨h, q⟩
    · rintro (⟨q, _⟩ | ⟨_, q⟩)
      · exact absurd q h
      · exact q
theorem ltR_irrefl (d : Nat → List Int) (a : Nat) : ¬ ltR d a a := by
  rw [ltR_iff]
  rintro (⟨_, q⟩ | ⟨q, _⟩)
  · omega
  · exact q rfl
theorem ltR_trans {d : Nat → List Int} {a b c : Nat} (h1 : ltR d a b) (h2 : ltR d b c) : ltR d a c := by
  rw [ltR_iff] at *
  rcases h1 with ⟨e1, q1⟩ | ⟨e1, q1⟩
  · rcases h2 with ⟨e2, q2⟩ | ⟨e2, q2⟩
    · exact .inl ⟨e1.trans e2, by omega⟩
    · rw [← e1] at e2 q2
      exact .inr ⟨e2, q2⟩
  · rcases h2 with ⟨e2, q2⟩ | ⟨e2, q2⟩
    · rw [e2] at e1 q1
      exact .inr ⟨e1, q1⟩
    · have := cmpB_trans _ _ _ q1 q2
      refine .inr ⟨fun e => ?_, this⟩
      rw [e, cmpB_self] at this
      omega
theorem ltR_three (d : Nat → List Int) (a b : Nat) : ltR d a b ∨ a = b ∨ ltR d b a := by
  by_cases e : d a = d b
  · rcases Nat.lt_trichotomy a b with q | q | q
    · exact .inl ((ltR_iff d a b).2 (.inl ⟨e, q⟩))
    · exact .inr (.inl q)
    · exact .inr (.inr ((ltR_iff d b a).2 (.inl ⟨e.symm, q⟩)))
  · rcases cmpB_three (d a) (d b) with q | q | q
    · exact .inl ((ltR_iff d a b).2 (.inr ⟨e, by omega⟩))
    · exact absurd (cmpB_eq0 _ _ q) e
    · exact .inr (.inr ((ltR_iff d b a).2 (.inr ⟨fun h => e h.symm, by rw [cmpB_neg]; omega⟩)))
theorem ltR_asymm {d : Nat → List Int} {a b : Nat} (h : ltR d a b) : ¬ ltR d b a := fun q => ltR_irrefl d a (ltR_trans h q)
def IsO (d : Nat → List Int) (n : Nat) (l : List Nat) : Prop := l.Perm (List.range n) ∧ l.Pairwise (ltR d)
theorem pw_uniq {d : Nat → List Int} : ∀ {l m : List Nat}, l.Perm m → l.Pairwise (ltR d) → m.Pairwise (ltR d) → l = m
  | [], m, hp, _, _ => (List.nil_perm.1 hp).symm ▸ rfl
  | a :: l, [], hp, _, _ => by simp at hp
  | a :: l, b :: m, hp, h1, h2 => by
    have e : a = b := by
      have ha : a ∈ b :: m := hp.subset (List.mem_cons_self ..)
      have hb : b ∈ a :: l := hp.symm.subset (List.mem_cons_self ..)
      rcases List.mem_cons.1 ha with q | q
      · exact q
      rcases List.mem_cons.1 hb with p | p
      · exact p.symm
      · exact absurd ((List.pairwise_cons.1 h2).1 a q) (ltR_asymm ((List.pairwise_cons.1 h1).1 b p))
    subst e
    rw [pw_uniq (List.perm_cons a |>.1 hp) (List.pairwise_cons.1 h1).2 (List.pairwise_cons.1 h2).2]
theorem IsO.uniq {d : Nat → List Int} {n : Nat} {l m : List Nat} (h1 : IsO d n l) (h2 : IsO d n m) : l = m := pw_uniq (h1.1.trans h2.1.symm) h1.2 h2.2
theorem IsO.len {d : Nat → List Int} {n : Nat} {l : List Nat} (h : IsO d n l) : l.length = n := by rw [h.1.length_eq, List.length_range]
theorem IsO.mem {d : Nat → List Int} {n : Nat} {l : List Nat} (h : IsO d n l) (s : Nat) : s ∈ l ↔ s < n := by rw [h.1.mem_iff, List.mem_range]
theorem IsO.nodup {d : Nat → List Int} {n : Nat} {l : List Nat} (h : IsO d n l) : l.Nodup := h.1.nodup_iff.2 List.nodup_range
theorem IsO.at {d : Nat → List Int} {n : Nat} {l : List Nat} (h : IsO d n l) {i : Nat} (hi : i < n) : l.getD i 0 < n := by
  have : i < l.length := by rw [h.len]; exact hi
  rw [List.getD_eq_getElem?_getD, List.getElem?_eq_getElem this]
  exact (h.mem _).1 (List.getElem_mem this)
theorem pw_count {d : Nat → List Int} : ∀ {l : List Nat}, l.Pairwise (ltR d) → ∀ {i s : Nat}, l[i]? = some s → l.countP (fun t => decide (ltR d t s)) = i
  | [], _, _, _, h => by simp at h
  | a :: l, hp, 0, s, h => by
    obtain rfl : a = s := by simpa using h
    rw [List.countP_eq_zero]
    intro t ht
    rcases List.mem_cons.1 ht with q | q
    · rw [q]; simpa using ltR_irrefl d a
    · simpa using ltR_asymm ((List.pairwise_cons.1 hp).1 t q)
  | a :: l, hp, i + 1, s, h => by
    have h' : l[i]? = some s := by simpa using h
    rw [List.countP_cons_of_pos (by simpa using (List.pairwise_cons.1 hp).1 s (List.mem_of_getElem? h')), pw_count (List.pairwise_cons.1 hp).2 h']
theorem IsO.rank {d : Nat → List Int} {n : Nat} {l : List Nat} (h : IsO d n l) {i s : Nat} (hs : l[i]? = some s) : (List.range n).countP (fun t => decide (ltR d t s)) = i := by
  rw [← h.1.countP_eq]
  exact pw_count h.2 hs
theorem IsO.less {d : Nat → List Int} {n : Nat} {m : List Nat} (h : IsO d (n + 1) m) : IsO d n (m.filter (fun x => decide (x ≠ n))) := by
  refine ⟨?_, h.2.filter _⟩
  have := h.1.filter (fun x => decide (x ≠ n))
  rw [List.range_succ, List.filter_append] at this
  have e1 : [n].filter (fun x => decide (x ≠ n)) = [] := by simp
  have e2 : (List.range n).filter (fun x => decide (x ≠ n)) = List.range n := by
    rw [List.filter_eq_self]
    intro a ha
    have := List.mem_range.1 ha
    simp
    omega
  rw [e1, e2, List.append_nil] at this
  exact this
theorem IsO.congr {d d' : Nat → List Int} {n : Nat} {l : List Nat} (h : IsO d n l) (he : ∀ i, i < n → d i = d' i) : IsO d' n l := by
  refine ⟨h.1, h.2.imp_of_mem ?_⟩
  intro a b ha hb hab
  have ea := he a ((h.mem a).1 ha)
  have eb := he b ((h.mem b).1 hb)
  rw [ltR_iff] at hab ⊢
  rw [← ea, ← eb]
  exact hab
theorem IsO.there (d : Nat → List Int) (n : Nat) : ∃ l, IsO d n l := by
  have tr : ∀ a b c : Nat, (!decide (ltR d b a)) = true → (!decide (ltR d c b)) = true → (!decide (ltR d c a)) = true := fun a b c h1 h2 => by
    simp only [Bool.not_eq_true', decide_eq_false_iff_not] at *
    intro h
    rcases ltR_three d b c with q | q | q
    · exact h1 (ltR_trans q h)
    · rw [q] at h1; exact h1 h
    · exact h2 q
  have tot : ∀ a b : Nat, ((!decide (ltR d b a)) || (!decide (ltR d a b))) = true := fun a b => by
    simp only [Bool.or_eq_true, Bool.not_eq_true', decide_eq_false_iff_not]
    by_cases h : ltR d b a
    · exact .inr (ltR_asymm h)
    · exact .inl h
  refine ⟨(List.range n).mergeSort (fun a b => !decide (ltR d b a)), List.mergeSort_perm _ _, ?_⟩
  have h1 := List.pairwise_mergeSort (le := fun a b => !decide (ltR d b a)) tr tot (List.range n)
  have h2 : ((List.range n).mergeSort (fun a b => !decide (ltR d b a))).Nodup := (List.mergeSort_perm _ _).nodup_iff.2 List.nodup_range
  refine (h1.and h2).imp ?_
  intro a b ⟨q1, q2⟩
  simp only [Bool.not_eq_true', decide_eq_false_iff_not] at q1
  rcases ltR_three d a b with q | q | q
  · exact q
  · exact absurd q q2
  · exact absurd q q1
def il (l : List Nat) : List Int := List.map (fun x : Nat => (x : Int)) l
theorem il_len (l : List Nat) : (il l).length = l.length := by simp [il]
theorem il_getD (l : List Nat) (i : Nat) : (il l).getD i 0 = (l.getD i 0 : Nat) := by
  unfold il
  rw [List.getD_eq_getElem?_getD, List.getD_eq_getElem?_getD, List.getElem?_map]
  cases l[i]? <;> rfl
end Go.Proofs.YtjdfclbjmmmcfaaDoor
namespace Go.Proofs.YtjdfclbjmmmcfaaDoor
open Go.RowKit
set_option maxRecDepth 100000 in
set_option maxHeartbeats 4000000 in
theorem rcmp_any (W : World) (c : Nat) (vD : Value) (ds : List (List Int)) (a b : Nat) (hbox : W.cell? ⟨c, 0, none⟩ = some vD) (hD : HDs W vD ds) (ha : a < ds.length) (hb : b < ds.length) :
    Calls Tryd.prog 30 #[.int .i64 (a : Int), .int .i64 (b : Int), .pointer (some ⟨c, 0, none⟩)] W fun e w' => e = .returned (.int .i64 (cmpR (fun i => ds.getD i []) a b)) ∧ ∃ q, w' = W.drewN q := by
  obtain ⟨b0, off, cp, rfl, hc1, hc2, hbl, hr⟩ := hD.ne (by omega)
  have RA0 := hr a ha
  have RB0 := hr b hb
  have DA0 := getD_D hD.2 a ha
  have DB0 := getD_D hD.2 b hb
  obtain ⟨M, HM⟩ : ∃ M, Hid (cmpR (fun i => ds.getD i []) a b = M) := ⟨_, rfl⟩
  have HM2 : Hid (M = if ds.getD a [] = ds.getD b [] then cmpN a b else cmpB (ds.getD a []) (ds.getD b [])) := by rw [← HM.out]; exact rfl
  rw [HM.out]
  generalize ds.getD a [] = da at RA0 DA0 HM2
  generalize ds.getD b [] = db at RB0 DB0 HM2
  have RA := hid RA0
  have RB := hid RB0
  have DA := hid DA0
  have DB := hid DB0
  clear RA0 RB0 DA0 DB0 hr hD
  obtain ⟨n, HN⟩ : ∃ n, Hid (ds.length = n) := ⟨_, rfl⟩
  rw [HN.out] at hbox ha hb hc1
  have HEQ : ∀ W : World, (binOp .eql 43 (.agg (dc da).toArray) (.agg (dc db).toArray)).run Tryd.prog W = .ok (.bool (decide (da = db))) W := fun W => run_eql_bytes W 32 43 Tryd.underlying43 da db DA.out.1 DB.out.1
  have SA : Hid ((Tryd.prog.info? 43).map (·.size) = some (dc da).length) := size_dig DA.out
  have SB : Hid ((Tryd.prog.info? 43).map (·.size) = some (dc db).length) := size_dig DB.out
  have CN : Hid (∀ W : World, Calls Tryd.prog 31 #[.int .i64 (a : Int), .int .i64 (b : Int)] W fun e w' => e = .returned (.int .i64 (cmpN a b)) ∧ w' = W) := hid fun W => ncompare_any W a b
  have HBX : ∀ (W : World) (x : Nat) (d : List Int), D32 d → W.rangeAt b0 (off + x * 32) (dc d) → HB W (.slice (some ⟨b0, off + x * 32, none⟩) 32 32) d := fun W x d hd h => ⟨⟨_, 32, by rw [hd.1], by rw [hd.1]; omega, by unfold maxLen; omega, (fun e => by cases e), fun _ => ⟨b0, off + x * 32, rfl, fun j hj => h j _ (by simp [dc, List.getD, List.getElem?_eq_getElem hj])⟩⟩, hd.2⟩
  have CB : Hid (∀ W : World, W.rangeAt b0 (off + a * 32) (dc da) → W.rangeAt b0 (off + b * 32) (dc db) → Calls Tryd.prog 28 #[.slice (some ⟨b0, off + a * 32, none⟩) 32 32, .slice (some ⟨b0, off + b * 32, none⟩) 32 32] W fun e w' => e = .returned (.int .i64 (cmpB da db)) ∧ w' = W) := hid fun W h1 h2 => bcompare_any W _ _ da db (HBX W a da DA.out h1) (HBX W b db DB.out h2)
  have BX := hid hbox
  clear hbox HBX
  go_enter Tryd.func30, Tryd.ntmps30
  go_wp2
  refine wp_region_held_drew (S := fun W' => W'.cell? ⟨c, 0, none⟩ = some (.slice (some ⟨b0, off, none⟩) n cp) ∧ W'.rangeAt b0 (off + a * 32) (dc da) ∧ W'.rangeAt b0 (off + b * 32) (dc db)) (by kernel_rfl) ⟨BX.out, RA.out, RB.out⟩ (fun hHeld => ?_)
  have HS := hid hHeld
  clear hHeld
  change wpAnyH _ _ _ _ _ _ _ _ (World.drew _)
  refine wpAnyH_take (i := 0) (v := ?_) rfl (by kernel_rfl) (by kernel_rfl) (by kernel_rfl) (fun _ _ _ h => h) (Or.inl ⟨by rfl, ?q0⟩) HS.out ?_
  case q0 => intro w hSw; obtain ⟨z0, -, -⟩ := hSw; go_simp; rfl
  simp only [Act.put, List.getElem_toArray, List.getElem_cons_zero, List.getElem_cons_succ, List.setIfInBounds_toArray, List.set_cons_zero, List.set_cons_succ]
  refine wpAnyH_take (i := 1) (v := ?_) rfl (by kernel_rfl) (by kernel_rfl) (by kernel_rfl) (fun _ _ _ h => h) (Or.inl ⟨by rfl, ?q1⟩) HS.out ?_
  case q1 => intro w hSw; obtain ⟨z0, -, -⟩ := hSw; go_simp; rfl
  simp only [Act.put, List.getElem_toArray, List.getElem_cons_zero, List.getElem_cons_succ, List.setIfInBounds_toArray, List.set_cons_zero, List.set_cons_succ]
  refine wpAnyH_take (i := 2) (v := ?_) rfl (by kernel_rfl) (by kernel_rfl) (by kernel_rfl) (fun _ _ _ h => h) (Or.inl ⟨by rfl, ?q2⟩) HS.out ?_
  case q2 => intro w hSw; obtain ⟨z0, -, -⟩ := hSw; go_simp; rfl
  simp only [Act.put, List.getElem_toArray, List.getElem_cons_zero, List.getElem_cons_succ, List.setIfInBounds_toArray, List.set_cons_zero, List.set_cons_succ]
  refine wpAnyH_take (i := 3) rfl (by kernel_rfl) (by kernel_rfl) (by kernel_rfl) (fun _ _ _ h => h) (yieldsIf_load_mid (by rfl) 43 _ rfl b0 (off + a * 32) rfl (dc da) _ (fun W hW => hW.2.1) Tryd.underlying43 rfl SA.out) HS.out ?_
  simp only [Act.put, List.getElem_toArray, List.getElem_cons_zero, List.getElem_cons_succ, List.setIfInBounds_toArray, List.set_cons_zero, List.set_cons_succ]
  refine wpAnyH_take (i := 4) (v := ?_) rfl (by kernel_rfl) (by kernel_rfl) (by kernel_rfl) (fun _ _ _ h => h) (Or.inl ⟨by rfl, ?q4⟩) HS.out ?_
  case q4 => intro w hSw; obtain ⟨z0, -, -⟩ := hSw; go_simp; rfl
  simp only [Act.put, List.getElem_toArray, List.getElem_cons_zero, List.getElem_cons_succ, List.setIfInBounds_toArray, List.set_cons_zero, List.set_cons_succ]
  refine wpAnyH_take (i := 5) (v := ?_) rfl (by kernel_rfl) (by kernel_rfl) (by kernel_rfl) (fun _ _ _ h => h) (Or.inl ⟨by rfl, ?q5⟩) HS.out ?_
  case q5 => intro w hSw; obtain ⟨z0, -, -⟩ := hSw; go_simp; rfl
  simp only [Act.put, List.getElem_toArray, List.getElem_cons_zero, List.getElem_cons_succ, List.setIfInBounds_toArray, List.set_cons_zero, List.set_cons_succ]
  refine wpAnyH_take (i := 6) (v := ?_) rfl (by kernel_rfl) (by kernel_rfl) (by kernel_rfl) (fun _ _ _ h => h) (Or.inl ⟨by rfl, ?q6⟩) HS.out ?_
  case q6 => intro w hSw; obtain ⟨z0, -, -⟩ := hSw; go_simp; rfl
  simp only [Act.put, List.getElem_toArray, List.getElem_cons_zero, List.getElem_cons_succ, List.setIfInBounds_toArray, List.set_cons_zero, List.set_cons_succ]
  refine wpAnyH_take (i := 7) rfl (by kernel_rfl) (by kernel_rfl) (by kernel_rfl) (fun _ _ _ h => h) (yieldsIf_load_mid (by rfl) 43 _ rfl b0 (off + b * 32) rfl (dc db) _ (fun W hW => hW.2.2) Tryd.underlying43 rfl SB.out) HS.out ?_
  simp only [Act.put, List.getElem_toArray, List.getElem_cons_zero, List.getElem_cons_succ, List.setIfInBounds_toArray, List.set_cons_zero, List.set_cons_succ]
  refine wpAnyH_take (i := 8) (v := ?_) rfl (by kernel_rfl) (by kernel_rfl) (by kernel_rfl) (fun _ _ _ h => h) (Or.inl ⟨by rfl, ?q8⟩) HS.out ?_
  case q8 => intro w hSw; obtain ⟨z0, -, -⟩ := hSw; go_simp; rfl
  simp only [Act.put, List.getElem_toArray, List.getElem_cons_zero, List.getElem_cons_succ, List.setIfInBounds_toArray, List.set_cons_zero, List.set_cons_succ]
  refine wpAnyH_done (by kernel_rfl) ?_ _
  by_cases hE : da = db
  · have HE := hid hE
    rw [decide_eq_true hE]
    clear hE HEQ
    go_wp2_with fail
    refine (CN.out _).mono ?_
    rintro e w' ⟨rfl, hw'⟩
    rw [hw']
    clear hw'
    go_wp2
    go_ret
    exact ⟨by rw [HM2.out, if_pos HE.out]; rfl, 1, rfl⟩
  · have HE := hid hE
    rw [decide_eq_false hE]
    clear hE HEQ
    go_wp2
    refine wp_region_held_drew (S := fun W' => W'.cell? ⟨c, 0, none⟩ = some (.slice (some ⟨b0, off, none⟩) n cp) ∧ W'.rangeAt b0 (off + a * 32) (dc da) ∧ W'.rangeAt b0 (off + b * 32) (dc db)) (by kernel_rfl) ⟨BX.out, RA.out, RB.out⟩ (fun hHeld => ?_)
    have HS := hid hHeld
    clear hHeld
    change wpAnyH _ _ _ _ _ _ _ _ (World.drew _)
    refine wpAnyH_take (i := 0) (v := ?_) rfl (by kernel_rfl) (by kernel_rfl) (by kernel_rfl) (fun _ _ _ h => h) (Or.inl ⟨by rfl, ?q0⟩) HS.out ?_
    case q0 => intro w hSw; obtain ⟨z0, -, -⟩ := hSw; go_simp; rfl
    simp only [Act.put, List.getElem_toArray, List.getElem_cons_zero, List.getElem_cons_succ, List.setIfInBounds_toArray, List.set_cons_zero, List.set_cons_succ]
    refine wpAnyH_take (i := 1) (v := ?_) rfl (by kernel_rfl) (by kernel_rfl) (by kernel_rfl) (fun _ _ _ h => h) (Or.inl ⟨by rfl, ?q1⟩) HS.out ?_
    case q1 => intro w hSw; obtain ⟨z0, -, -⟩ := hSw; go_simp; rfl
    simp only [Act.put, List.getElem_toArray, List.getElem_cons_zero, List.getElem_cons_succ, List.setIfInBounds_toArray, List.set_cons_zero, List.set_cons_succ]
    refine wpAnyH_take (i := 2) (v := ?_) rfl (by kernel_rfl) (by kernel_rfl) (by kernel_rfl) (fun _ _ _ h => h) (Or.inl ⟨by rfl, ?q2⟩) HS.out ?_
    case q2 => intro w hSw; obtain ⟨z0, -, -⟩ := hSw; go_simp; rfl
    simp only [Act.put, List.getElem_toArray, List.getElem_cons_zero, List.getElem_cons_succ, List.setIfInBounds_toArray, List.set_cons_zero, List.set_cons_succ]
    refine wpAnyH_take (i := 3) (v := ?_) rfl (by kernel_rfl) (by kernel_rfl) (by kernel_rfl) (fun _ _ _ h => h) (Or.inl ⟨by rfl, ?q3⟩) HS.out ?_
    case q3 => intro w hSw; obtain ⟨z0, -, -⟩ := hSw; go_simp; rfl
    simp only [Act.put, List.getElem_toArray, List.getElem_cons_zero, List.getElem_cons_succ, List.setIfInBounds_toArray, List.set_cons_zero, List.set_cons_succ]
    refine wpAnyH_take (i := 4) (v := ?_) rfl (by kernel_rfl) (by kernel_rfl) (by kernel_rfl) (fun _ _ _ h => h) (Or.inl ⟨by rfl, ?q4⟩) HS.out ?_
    case q4 => intro w hSw; obtain ⟨z0, -, -⟩ := hSw; go_simp; rfl
    simp only [Act.put, List.getElem_toArray, List.getElem_cons_zero, List.getElem_cons_succ, List.setIfInBounds_toArray, List.set_cons_zero, List.set_cons_succ]
    refine wpAnyH_take (i := 5) (v := ?_) rfl (by kernel_rfl) (by kernel_rfl) (by kernel_rfl) (fun _ _ _ h => h) (Or.inl ⟨by rfl, ?q5⟩) HS.out ?_
    case q5 => intro w hSw; obtain ⟨z0, -, -⟩ := hSw; go_simp; rfl
    simp only [Act.put, List.getElem_toArray, List.getElem_cons_zero, List.getElem_cons_succ, List.setIfInBounds_toArray, List.set_cons_zero, List.set_cons_succ]
    refine wpAnyH_take (i := 6) (v := ?_) rfl (by kernel_rfl) (by kernel_rfl) (by kernel_rfl) (fun _ _ _ h => h) (Or.inl ⟨by rfl, ?q6⟩) HS.out ?_
    case q6 => intro w hSw; obtain ⟨z0, -, -⟩ := hSw; go_simp; rfl
    simp only [Act.put, List.getElem_toArray, List.getElem_cons_zero, List.getElem_cons_succ, List.setIfInBounds_toArray, List.set_cons_zero, List.set_cons_succ]
    refine wpAnyH_take (i := 7) (v := ?_) rfl (by kernel_rfl) (by kernel_rfl) (by kernel_rfl) (fun _ _ _ h => h) (Or.inl ⟨by rfl, ?q7⟩) HS.out ?_
    case q7 => intro w hSw; obtain ⟨z0, -, -⟩ := hSw; go_simp; rfl
    simp only [Act.put, List.getElem_toArray, List.getElem_cons_zero, List.getElem_cons_succ, List.setIfInBounds_toArray, List.set_cons_zero, List.set_cons_succ]
    refine wpAnyH_ready (rs := [8]) (by kernel_rfl) (by simp) ?_
    refine AllReadyH.cons rfl (fun K hK => ?_) AllReadyH.nil
    replace hK := hid hK
    go_simp
    refine (CB.out _ HS.out.2.1 HS.out.2.2).mono ?_
    rintro e w' ⟨rfl, hw'⟩
    rw [hw']
    clear hw'
    refine hK.out _ _ HS.out (fun _ => ?_)
    clear hK K
    refine wpAnyH_take (i := 9) (v := ?_) rfl (by kernel_rfl) (by kernel_rfl) (by kernel_rfl) (fun _ _ _ h => h) (Or.inl ⟨by rfl, ?q9⟩) HS.out ?_
    case q9 => intro w hSw; obtain ⟨z0, -, -⟩ := hSw; go_simp; rfl
    simp only [Act.put, List.getElem_toArray, List.getElem_cons_zero, List.getElem_cons_succ, List.setIfInBounds_toArray, List.set_cons_zero, List.set_cons_succ]
    refine wpAnyH_done (by kernel_rfl) ?_ _
    go_wp2
    go_ret
    exact ⟨by rw [HM2.out, if_neg HE.out]; rfl, 2, rfl⟩
theorem own_mono {w : World} {B B' e n : Nat} {v : Value} {xs : List Value} (h : w.ownsRow B e 1 v n xs) (hb : B' ≤ B) : w.ownsRow B' e 1 v n xs := by
  refine ⟨h.1, ?_⟩
  rcases h.2 with h2 | ⟨g, cap, cur, h1, h2, h3⟩
  · exact .inl h2
  · exact .inr ⟨g, cap, cur, h1, Nat.le_trans hb h2, h3⟩
theorem own_slc {w : World} {B n : Nat} {e : TypeId} {v : Value} {xs : List Value} (h : w.ownsRow B e 1 v n xs) : ∃ p c, v = .slice p n c := by
  rcases h.2 with ⟨rfl, rfl⟩ | ⟨g, cap, cur, rfl, _⟩
  · exact ⟨none, 0, rfl⟩
  · exact ⟨_, _, rfl⟩
theorem none_or (z : Option Nat) : z = none ∨ z ≠ none := by cases z <;> simp
theorem own_below {w w' : World} {B n : Nat} {e : TypeId} {v : Value} {xs : List Value} (h : w.ownsRow B e 1 v n xs) (hb : Below w.heap.size w w') : w'.ownsRow B e 1 v n xs :=
  h.kept ⟨hb.os, hb.tape, hb.output, hb.size, fun k hk _ => hb.block k hk⟩ (none_or _)
theorem own_ne {w w' : World} {B B' n n' : Nat} {e e' : TypeId} {v v' : Value} {xs xs' : List Value} (h : w.ownsRow B e 1 v n xs) (h' : w'.ownsRow B' e' 1 v' n' xs') (hb : w.heap.size ≤ B') :
    (v.ownBlock = none ∨ v.ownBlock ≠ v'.ownBlock) ∧ (v'.ownBlock = none ∨ v'.ownBlock ≠ v.ownBlock) := by
  constructor
  · rcases none_or v.ownBlock with q | q
    · exact .inl q
    · refine .inr fun e => ?_
      obtain ⟨k, hk⟩ := Option.ne_none_iff_exists'.1 q
      have h1 := h.lt k hk
      have h2 := h'.lt k (e ▸ hk)
      omega
  · rcases none_or v'.ownBlock with q | q
    · exact .inl q
    · refine .inr fun e => ?_
      obtain ⟨k, hk⟩ := Option.ne_none_iff_exists'.1 q
      have h1 := h'.lt k hk
      have h2 := h.lt k (e ▸ hk)
      omega
end Go.Proofs.YtjdfclbjmmmcfaaDoor
namespace Go.Proofs.YtjdfclbjmmmcfaaDoor.I
open Go Go.RowKit Go.Proofs.YtjdfclbjmmmcfaaDoor
def HB (w : World) (v : Value) (l : List Int) : Prop :=
  (∃ (p : Option Addr) (c : Nat), v = .slice p l.length c ∧ l.length ≤ c ∧ c ≤ maxLen ∧ (p = none → c = 0) ∧
    (l ≠ [] → ∃ b off, p = some ⟨b, off, none⟩ ∧ ∀ j, j < l.length → w.cell? ⟨b, off + j, none⟩ = some (.int .i64 (l.getD j 0)))) ∧ ∀ x ∈ l, -9223372036854775808 ≤ x ∧ x < 9223372036854775808
theorem HB.open {w : World} {v : Value} {l : List Int} (h : HB w v l) : ∃ (p : Option Addr) (c : Nat), v = .slice p l.length c ∧ l.length ≤ c ∧ c ≤ maxLen := by
  obtain ⟨⟨p, c, h1, h2, h3, _⟩, _⟩ := h
  exact ⟨p, c, h1, h2, h3⟩
theorem HB.ne {w : World} {v : Value} {l : List Int} (h : HB w v l) (hl : 0 < l.length) :
    ∃ b off c, v = .slice (some ⟨b, off, none⟩) l.length c ∧ l.length ≤ c ∧ c ≤ maxLen ∧ ∀ j, j < l.length → w.cell? ⟨b, off + j, none⟩ = some (.int .i64 (l.getD j 0)) := by
  obtain ⟨⟨p, c, h1, h2, h3, _, h4⟩, _⟩ := h
  obtain ⟨b, off, rfl, hc⟩ := h4 (by intro e; subst e; simp at hl)
  exact ⟨b, off, c, h1, h2, h3, hc⟩
theorem HB.byte {w : World} {v : Value} {l : List Int} (h : HB w v l) (j : Nat) : -9223372036854775808 ≤ l.getD j 0 ∧ l.getD j 0 < 9223372036854775808 := by
  by_cases hj : j < l.length
  · have e : l.getD j 0 = l[j] := by simp [List.getD, List.getElem?_eq_getElem hj]
    rw [e]
    exact h.2 _ (List.getElem_mem hj)
  · have e : l.getD j 0 = 0 := by simp [List.getD, List.getElem?_eq_none (by omega : l.length ≤ j)]
    rw [e]; omega
theorem HB.later {w w' : World} {v : Value} {l : List Int} (h : HB w v l) (hc : ∀ a (n : Int), w.cell? a = some (.int .i64 n) → w'.cell? a = some (.int .i64 n)) : HB w' v l := by
  obtain ⟨⟨p, c, h1, h2, h3, h6, h4⟩, h5⟩ := h
  refine ⟨⟨p, c, h1, h2, h3, h6, fun hl => ?_⟩, h5⟩
  obtain ⟨b, off, e, hh⟩ := h4 hl
  exact ⟨b, off, e, fun j hj => hc _ _ (hh j hj)⟩
theorem HB.below {w w' : World} {v : Value} {l : List Int} (h : HB w v l) (hb : Below w.heap.size w w') : HB w' v l :=
  h.later fun a _ hx => (hb.cell (World.block_lt_of_cell? w a hx)).trans hx
theorem HB.drewN {w : World} {v : Value} {l : List Int} (h : HB w v l) (q : Nat) : HB (w.drewN q) v l := h.later fun _ _ hx => hx
theorem HB.of_own {w : World} {B : Nat} {e : TypeId} {v : Value} {l : List Int} (h : w.ownsRow B e 1 v l.length (l.map (Value.int .i64))) (hx : ∀ x ∈ l, -9223372036854775808 ≤ x ∧ x < 9223372036854775808) : HB w v l := by
  refine ⟨?_, hx⟩
  by_cases h0 : 0 < l.length
  · obtain ⟨g, cap, rfl, _, hn, hm, hc⟩ := ownsRow_cells h h0
    refine ⟨_, cap, rfl, hn, hm, (fun e => by cases e), fun _ => ⟨g, 0, rfl, fun j hj => ?_⟩⟩
    exact hc j _ (by simp [List.getD, List.getElem?_eq_getElem hj])
  · have e : l = [] := List.length_eq_zero_iff.1 (by omega)
    subst e
    rcases h.2 with ⟨rfl, _⟩ | ⟨g, cap, cur, rfl, _, _, hn, hm, _⟩
    · exact ⟨none, 0, rfl, Nat.le_refl _, Nat.zero_le _, fun _ => rfl, fun h => absurd rfl h⟩
    · exact ⟨_, cap, rfl, hn, hm, (fun e => by cases e), fun h => absurd rfl h⟩
theorem HB.grown {w w' : World} {v : Value} {l : List Int} {g : Nat} (h : HB w v l) (hg : w.grownBy w' (some g)) (hn : ∀ o sp (n : Int), w.cell? ⟨g, o, sp⟩ ≠ some (.int .i64 n)) : HB w' v l :=
  h.later fun a n hx => hg.cell hx (by
    intro e
    obtain ⟨b, o, sp⟩ := a
    simp only [Option.some.injEq] at e
    subst e
    exact hn o sp n hx)
theorem HB.nil (w : World) : HB w (.slice none 0 0) [] := ⟨⟨none, 0, rfl, Nat.zero_le _, Nat.zero_le _, fun _ => rfl, fun h => absurd rfl h⟩, by simp⟩
theorem HB.dr {w w' : World} {v : Value} {l : List Int} (h : HB w v l) (d : Dr w w') : HB w' v l := h.later fun a _ hx => (d.cell a).trans hx
theorem info_i64 : (Tryd.prog.info? 3).map (fun i => (i.zero, i.size, i.bytes)) = some (some (.int .i64 0), 1, 8) := by kernel_rfl
theorem size_i64 : ∀ w, Sem.run Tryd.prog (Go.sizeOf 3) w = .ok 1 w := fun w => by
  obtain ⟨i0, hi, hz0, hz1, hz2⟩ := info_parts info_i64
  simp [Go.sizeOf, typeInfo, hi, hz1]
theorem eql_nil_bytes : ∀ (w : World) (a : Option Addr) (n c n' c' : Nat), (binOp .eql 24 (.slice a n c) (.slice none n' c')).run Tryd.prog w = .ok (.bool a.isNone) w :=
  fun w a n c n' c' => Lib.run_eql_slice_nil w _ _ a n c n' c' Tryd.underlying24
theorem take_eq_step (la lb : List Int) (k : Nat) (ha : k < la.length) (hb : k < lb.length) (h : la.take k = lb.take k) (e : la.getD k 0 = lb.getD k 0) : la.take (k + 1) = lb.take (k + 1) := by
  rw [List.take_succ_eq_append_getElem ha, List.take_succ_eq_append_getElem hb, h]
  have e1 : la.getD k 0 = la[k] := by simp [List.getD, List.getElem?_eq_getElem ha]
  have e2 : lb.getD k 0 = lb[k] := by simp [List.getD, List.getElem?_eq_getElem hb]
  rw [e1, e2] at e
  rw [e]
theorem take_ne (la lb : List Int) (k : Nat) (e : la.getD k 0 ≠ lb.getD k 0) : la ≠ lb := fun h => e (by rw [h])
set_option maxHeartbeats 400000 in
theorem sameBytes_any (w : World) (va vb : Value) (la lb : List Int) (ha : HB w va la) (hb : HB w vb lb) :
    Calls Tryd.prog 12 #[va, vb] w fun e w' => e = .returned (.bool (decide (la = lb))) ∧ Dr w w' := by
  by_cases hlen : la.length = lb.length
  · by_cases h0 : 0 < la.length
    · obtain ⟨b1, o1, c1, rfl, hc1, hm1, hk1⟩ := ha.ne h0
      obtain ⟨b2, o2, c2, rfl, hc2, hm2, hk2⟩ := hb.ne (by omega)
      unfold maxLen at hm1 hm2
      have hm : la.length ≤ 9223372036854775807 := by omega
      have HL : Hid (la.length = lb.length) := hlen
      rw [← hlen]
      have hcd : ∀ j, j < la.length → w.cell? ⟨b2, o2 + j, none⟩ = some (.int .i64 (lb.getD j 0)) := fun j hj => hk2 j (by omega)
      clear hlen hk2
      go_enter Tryd.func12, Tryd.ntmps12
      go_wp2
      go_loopw [5] (fun i wr => ∃ k : Nat, k ≤ la.length ∧ i = .int .i64 k ∧ la.take k = lb.take k ∧ Dr w wr) (fun i _ => la.length - (intOf i).toNat)
      case atStart => exact ⟨0, Nat.zero_le _, rfl, rfl, Dr.refl _⟩
      case round =>
        obtain ⟨k, hk, rfl, ht, q, rfl⟩ := hrel
        by_cases hlt : k < la.length
        · have g1 := hk1 k hlt
          have g2 := hcd k hlt
          obtain ⟨x, hx⟩ : ∃ x, la.getD k 0 = x := ⟨_, rfl⟩
          obtain ⟨y, hy⟩ : ∃ y, lb.getD k 0 = y := ⟨_, rfl⟩
          rw [hx] at g1
          rw [hy] at g2
          have HX := hid hx
          have HY := hid hy
          clear hx hy hk1 hcd
          by_cases he : x = y
          · have hne : (x != y) = false := by simpa using he
            have HE := hid he
            clear he
            go_wp2
            go_quiet (fail)
            go_wp2
            exact ⟨⟨k + 1, by omega, by go_num, take_eq_step la lb k hlt (by have := HL.out; omega) ht (by rw [HX.out, HY.out, HE.out]), Dr.one _ _⟩, by simp [intOf]; omega⟩
          · have hne : (x != y) = true := by simpa using he
            go_wp2
            go_quiet (fail)
            go_wp2
            go_ret
            exact ⟨by simp [take_ne la lb k (by rw [HX.out, HY.out]; exact he)], (Dr.one _ _).drewN _⟩
        · go_wp2
          go_ret
          have e : la = lb := by
            have h1 := List.take_of_length_le (show la.length ≤ k by omega)
            have h2 := List.take_of_length_le (show lb.length ≤ k by have := HL.out; omega)
            rw [← h1, ← h2, ht]
          exact ⟨by simp [e], Dr.one _ _⟩
    · obtain ⟨p1, c1, rfl, _, _⟩ := ha.open
      obtain ⟨p2, c2, rfl, _, _⟩ := hb.open
      have e1 : la = [] := List.length_eq_zero_iff.1 (by omega)
      have e2 : lb = [] := List.length_eq_zero_iff.1 (by omega)
      subst e1 e2
      go_enter Tryd.func12, Tryd.ntmps12
      go_wp2
      go_loop [5] (fun i => i = .int .i64 0) (fun _ => 0)
      case atStart => rfl
      case round =>
        subst hrel
        go_wp2
        go_ret
        exact ⟨rfl, Dr.refl _⟩
  · obtain ⟨p1, c1, rfl, _, _⟩ := ha.open
    obtain ⟨p2, c2, rfl, _, _⟩ := hb.open
    have hne : ((la.length : Int) != (lb.length : Int)) = true := by rw [bne_iff_ne]; omega
    go_enter Tryd.func12, Tryd.ntmps12
    go_wp2
    go_ret
    exact ⟨by simp [show la ≠ lb from fun e => hlen (by rw [e])], Dr.refl _⟩
theorem run_append_byte (w : World) (base : Nat) (ty : TypeId) (v : Value) (n : Nat) (xs : List Value) (hown : w.ownsRow base 3 1 v n xs) (a : Addr) (c : Nat) (x : Int) (hx : w.cell? a = some (.int .i64 x)) (hn : n + 1 ≤ 17592186044416) (hbase : base ≤ w.heap.size) :
    ∃ v' w', (Builtin.append_ #[24, 24] ty #[v, .slice (some a) 1 c]).run Tryd.prog w = .ok v' w' ∧ w'.ownsRow base 3 1 v' (n + 1) (xs ++ [.int .i64 x]) ∧ w.grownBy w' v.ownBlock ∧
      (v'.ownBlock = v.ownBlock ∨ (v'.ownBlock = some w.heap.size ∧ w.grownBy w' none)) := by
  obtain ⟨i0, hi, hz0, hz1, hz2⟩ := info_parts info_i64
  have hnews : ∀ j u, [Value.int .i64 x][j]? = some u → w.cell? (a.add j) = some u := by
    intro j u hj
    match j, hj with
    | 0, hj => simp at hj; subst hj; simpa [Addr.add] using hx
  have h1 : ∀ u ∈ [Value.int .i64 x], u.oneCell' = true := by intro u hu; simp at hu; subst hu; rfl
  obtain ⟨v', w', hr, h2, h3, _⟩ := run_append_own (P := Tryd.prog) w base 24 ty 3 i0 (.int .i64 0) 1 8 Tryd.underlying24 hi hz0 hz1 hz2 rfl (by decide) v n xs hown a 1 c [.int .i64 x] rfl hnews h1 (by unfold maxLen; omega) (by omega) hbase
  refine ⟨v', w', hr, h2, h3, ?_⟩
  rcases hown.2 with ⟨rfl, rfl⟩ | ⟨g, cap, cur, rfl, hbg, hg, hnc, hcm, hcs, htake⟩
  · have hr2 := run_append_nil (P := Tryd.prog) w 24 ty 3 i0 (.int .i64 0) Tryd.underlying24 hi hz0 a 1 c [.int .i64 x] (by rw [hz1]; rfl) hnews (by omega) (by omega) (by rw [hz2]; omega)
    rw [hr] at hr2
    simp only [Result.ok.injEq] at hr2
    obtain ⟨rfl, rfl⟩ := hr2
    exact .inr ⟨rfl, ⟨rfl, rfl, rfl, by simp, fun k hk _ => heap_alloc_old w.drew _ hk⟩⟩
  · by_cases hroom : n + 1 ≤ cap
    · obtain ⟨w2, hr2, _⟩ := run_append_fits (P := Tryd.prog) w base 24 ty 3 i0 1 Tryd.underlying24 hi hz1 g n cap xs hown a 1 c [.int .i64 x] rfl hnews h1 hroom
      rw [hr] at hr2
      simp only [Result.ok.injEq] at hr2
      obtain ⟨rfl, rfl⟩ := hr2
      exact .inl rfl
    · have hr2 := run_append_grow (P := Tryd.prog) w 24 ty 3 i0 (.int .i64 0) Tryd.underlying24 hi hz0 ⟨g, 0, none⟩ n cap xs (by rw [hz1]; exact hown.1) (hown.cells (g := g) rfl) a 1 c [.int .i64 x] (by rw [hz1]; rfl) hnews (by omega) (by omega) (growslice_fits (by omega) (by rw [hz2]; omega))
      rw [hr] at hr2
      simp only [Result.ok.injEq] at hr2
      obtain ⟨rfl, rfl⟩ := hr2
      exact .inr ⟨rfl, ⟨rfl, rfl, rfl, by simp, fun k hk _ => heap_alloc_old w.drew _ hk⟩⟩
theorem wpList_append_byte {w : World} {ops : Array Oper} {rest : List Oper} {o : Oper} {a : Act} {Q : Exit → Act → World → Prop} (hgd : o.guard = none) (s x : Operand)
    (ho : o.op = .call { callee := .builtin .append, args := #[s, x], argTypes := #[24, 24] })
    (base : Nat) (v : Value) (n : Nat) (xs : List Value) (hs : a.eval s = v) (hown : w.ownsRow base 3 1 v n xs)
    (ad : Addr) (c : Nat) (y : Int) (hx : a.eval x = .slice (some ad) 1 c) (hy : w.cell? ad = some (.int .i64 y)) (hn : n + 1 ≤ 17592186044416) (hbase : base ≤ w.heap.size)
    (h : ∀ v' w', w'.ownsRow base 3 1 v' (n + 1) (xs ++ [.int .i64 y]) → w.grownBy w' v.ownBlock → (v'.ownBlock = v.ownBlock ∨ (v'.ownBlock = some w.heap.size ∧ w.grownBy w' none)) → wpList Tryd.prog ops Q rest (a.put o.dst v') w') : wpList Tryd.prog ops Q (o :: rest) a w := by
  refine wpList_plain hgd fun K hK => ?_
  obtain ⟨v', w', hr, h2, h3, h4⟩ := run_append_byte w base o.type v n xs hown ad c y hy hn hbase
  unfold Oper.wp execOp
  simp only [ho, resolve, invoke, builtin, Sem.run_bind, Sem.run_pure, Result.andThen_ok, List.map_toArray, List.map_cons, List.map_nil, hs, hx, hr]
  exact hK _ _ (h v' w' h2 h3 h4)
def mkB (k i : Nat) : Int := ((1000003 * (k + 1) + i) % 4611686018427387904 : Nat)
theorem mkB_byt (k i : Nat) : -9223372036854775808 ≤ mkB k i ∧ mkB k i < 9223372036854775808 := by unfold mkB; omega
set_option maxHeartbeats 400000 in
theorem mark_any (w : World) (k i : Nat) (hk : k ≤ 1000000000) (hi : i ≤ 1125899906842624) : Calls Tryd.prog 23 #[.int .i64 k, .int .i64 i] w fun e w' => e = .returned (.int .i64 (mkB k i)) ∧ w' = w := by
  go_enter Tryd.func23, Tryd.ntmps23
  go_wp2
  go_ret
  have e : (1000003 * ((k : Int) + 1) + (i : Int)) = mkB k i := by unfold mkB; omega
  rw [← e]
  exact ⟨rfl, rfl⟩
theorem mark_eq (w : World) (k i : Nat) (a b : Int) (ha : a = (k : Int)) (hb : b = (i : Int)) (hk : k ≤ 1000000000) (hi : i ≤ 1125899906842624) : Calls Tryd.prog 23 #[.int .i64 a, .int .i64 b] w fun e w' => e = .returned (.int .i64 (mkB k i)) ∧ w' = w := by
  subst ha hb
  exact mark_any w k i hk hi
theorem wrap_succ (k : Nat) (h : k ≤ 1000000000) : IntKind.i64.wrap ((k : Int) + 1) = ((k + 1 : Nat) : Int) := by rw [IntKind.wrap_i64]; omega
def lent (l : List Int) : List Int := l ++ (List.range 70).map fun i => mkB 0 (l.length + i)
def lentTo (l : List Int) (m : Nat) : List Int := l ++ (List.range m).map fun i => mkB 0 (l.length + i)
theorem lent_length (l : List Int) : (lent l).length = l.length + 70 := by simp [lent]
theorem lentTo_length (l : List Int) (m : Nat) : (lentTo l m).length = l.length + m := by simp [lentTo]
theorem lentTo_succ (l : List Int) (m : Nat) : lentTo l (m + 1) = lentTo l m ++ [mkB 0 (l.length + m)] := by simp [lentTo, List.range_succ]
theorem lent_byt {l : List Int} (h : ∀ x ∈ l, -9223372036854775808 ≤ x ∧ x < 9223372036854775808) : ∀ x ∈ lent l, -9223372036854775808 ≤ x ∧ x < 9223372036854775808 := by
  intro x hx
  unfold lent at hx
  rcases List.mem_append.1 hx with hx | hx
  · exact h x hx
  · obtain ⟨i, _, rfl⟩ := List.mem_map.1 hx
    exact mkB_byt _ _
theorem lent_take (l : List Int) : (lent l).take l.length = l := by simp [lent]
end Go.Proofs.YtjdfclbjmmmcfaaDoor.I
namespace Go.Proofs.YtjdfclbjmmmcfaaDoor
open Go.RowKit
def nv (l : List Nat) : Array Value := (List.map (fun x : Nat => Value.int .i64 (x : Int)) l).toArray
theorem nv_size (l : List Nat) : (nv l).size = l.length := by simp [nv]
theorem nv_at (l : List Nat) (i : Nat) (hi : i < l.length) : (nv l)[i]? = some (.int .i64 ((l.getD i 0 : Nat) : Int)) := by simp [nv, List.getD, List.getElem?_eq_getElem hi]
theorem nv_set (l : List Nat) (i x : Nat) : (nv l).setIfInBounds i (.int .i64 (x : Int)) = nv (l.set i x) := by simp [nv]
def OI (w : World) (g : Nat) (l : List Nat) : Prop := w.heap[g]? = some (.cells (nv l) 3 (0, 0))
theorem OI.lt {w : World} {g : Nat} {l : List Nat} (h : OI w g l) : g < w.heap.size := (Array.getElem?_eq_some_iff.1 h).1
theorem OI.below {w w' : World} {g : Nat} {l : List Nat} (h : OI w g l) (hB : Below w.heap.size w w') : OI w' g l := (hB.block _ h.lt).trans h
theorem OI.belowB {w w' : World} {g B : Nat} {l : List Nat} (h : OI w g l) (hB : Below B w w') (hg : g < B) : OI w' g l := (hB.block _ hg).trans h
theorem OI.cell {w : World} {g : Nat} {l : List Nat} (h : OI w g l) {i : Nat} (hi : i < l.length) : w.cell? ⟨g, i, none⟩ = some (.int .i64 ((l.getD i 0 : Nat) : Int)) := by
  rw [cell_of_row w g i _ _ _ h]
  exact nv_at l i hi
theorem OI.free {w : World} {g : Nat} {l : List Nat} (h : OI w g l) (i : Nat) : w.frozen? ⟨g, i, none⟩ = false := frozen_of_row w g _ _ _ h
theorem OI.set {w : World} {g : Nat} {l : List Nat} (h : OI w g l) (i x : Nat) : OI (w.setCell ⟨g, i, none⟩ (.int .i64 (x : Int))) g (l.set i x) := by
  have := heap_setCell_same w g i (nv l) 3 (.int .i64 (x : Int)) h
  rw [nv_set] at this
  exact this
theorem OI.heap {w w' : World} {g : Nat} {l : List Nat} (h : OI w g l) (hh : w'.heap = w.heap) : OI w' g l := by unfold OI; rw [hh]; exact h
theorem OI.drew {w : World} {g : Nat} {l : List Nat} (h : OI w g l) : OI w.drew g l := h
theorem OI.HB {w : World} {g : Nat} {l : List Nat} (h : OI w g l) (hn : l.length ≤ 1000000) (hb : ∀ x ∈ l, x < 4611686018427387904) : I.HB w (.slice (some ⟨g, 0, none⟩) l.length l.length) (il l) := by
  refine ⟨⟨some ⟨g, 0, none⟩, l.length, by rw [il_len], by rw [il_len]; exact Nat.le_refl _, by unfold maxLen; omega, (fun e => by cases e), fun _ => ⟨g, 0, rfl, fun j hj => ?_⟩⟩, ?_⟩
  · rw [il_len] at hj
    rw [Nat.zero_add, h.cell hj, il_getD]
  · intro x hx
    unfold il at hx
    obtain ⟨y, hy, rfl⟩ := List.mem_map.1 hx
    have := hb y hy
    omega
theorem run_make_int (w : World) (n : Nat) (hn : n ≤ 1000000) : (Instr.makeSlice 24 (.int .i64 (n : Int)) (.int .i64 (n : Int))).run Tryd.prog w = .ok (.slice (some ⟨w.heap.size, 0, none⟩) n n) (w.alloc (.cells (nv (List.replicate n 0)) 3)) := by
  obtain ⟨i0, hi, hz0, hz1, hz2⟩ := info_parts I.info_i64
  have hr := run_make (P := Tryd.prog) w 24 3 i0 _ Tryd.underlying24 hi hz0 .i64 .i64 n n (by omega) (Int.le_refl _) (by rw [hz2]; omega) (by omega)
  simp only [Int.toNat_natCast] at hr
  have e : madeCells (Value.int .i64 0).cells (n * i0.size) = nv (List.replicate n 0) := by
    unfold madeCells
    apply Array.ext_getElem?
    intro j
    rw [Array.getElem?_map, hz1]
    by_cases hj : j < n
    · rw [nv_at _ _ (by simpa using hj), Array.getElem?_range, if_pos (by omega)]
      simp [List.getD, hj, Nat.mod_one, Value.cells]
    · rw [Array.getElem?_range, if_neg (by omega)]
      rw [Array.getElem?_eq_none (by rw [nv_size, List.length_replicate]; omega)]
      rfl
  rw [e] at hr
  exact hr
end Go.Proofs.YtjdfclbjmmmcfaaDoor
namespace Go.Proofs.YtjdfclbjmmmcfaaDoor
open Go Go.Shelf Go.Proofs
def sortR_ren : Go.Shelf.Ren := ⟨fun | 6 => 29 | 15 => 38 | 14 => 37 | 28 => 52 | 29 => 53 | 20 => 44 | 21 => 45 | 22 => 46 | 23 => 47 | 24 => 48 | 25 => 49 | 26 => 50 | 27 => 51 | 46 => 62 | 47 => 63 | 48 => 64 | 49 => 65 | 50 => 66 | 57 => 80 | n => n, fun | 22 => 24 | 24 => 3 | 25 => 48 | 3 => 3 | 39 => 65 | 0 => 0 | 53 => 45 | 55 => 64 | 4 => 4 | 46 => 76 | 45 => 75 | 50 => 80 | 5 => 5 | 9 => 9 | 66 => 93 | 70 => 97 | 76 => 112 | 77 => 113 | n => n, fun | n => n⟩
theorem sortR : Go.Proofs.SlLaysF.n6 Tryd.prog sortR_ren := {
  mixed := by kernel_rfl
  f6 := ⟨Tryd.f29.name, by decide, Tryd.func29.trans (congrArg some (by kernel_rfl))⟩
  f14 := ⟨Tryd.f37.name, by decide, Tryd.func37.trans (congrArg some (by kernel_rfl))⟩
  f15 := Tryd.func38.trans (congrArg some (by kernel_rfl))
  f20 := ⟨Tryd.f44.name, by decide, Tryd.func44.trans (congrArg some (by kernel_rfl))⟩
  f21 := ⟨Tryd.f45.name, by decide, Tryd.func45.trans (congrArg some (by kernel_rfl))⟩
  f22 := ⟨Tryd.f46.name, by decide, Tryd.func46.trans (congrArg some (by kernel_rfl))⟩
  f23 := ⟨Tryd.f47.name, by decide, Tryd.func47.trans (congrArg some (by kernel_rfl))⟩
  f24 := ⟨Tryd.f48.name, by decide, Tryd.func48.trans (congrArg some (by kernel_rfl))⟩
  f25 := ⟨Tryd.f49.name, by decide, Tryd.func49.trans (congrArg some (by kernel_rfl))⟩
  f26 := ⟨Tryd.f50.name, by decide, Tryd.func50.trans (congrArg some (by kernel_rfl))⟩
  f27 := ⟨Tryd.f51.name, by decide, Tryd.func51.trans (congrArg some (by kernel_rfl))⟩
  f28 := Tryd.func52.trans (congrArg some (by kernel_rfl))
  f29 := Tryd.func53.trans (congrArg some (by kernel_rfl))
  f46 := ⟨Tryd.f62.name, by decide, Tryd.func62.trans (congrArg some (by kernel_rfl))⟩
  f47 := Tryd.func63.trans (congrArg some (by kernel_rfl))
  f48 := Tryd.func64.trans (congrArg some (by kernel_rfl))
  f49 := ⟨Tryd.f65.name, by decide, Tryd.func65.trans (congrArg some (by kernel_rfl))⟩
  f50 := ⟨Tryd.f66.name, by decide, Tryd.func66.trans (congrArg some (by kernel_rfl))⟩
  f57 := ⟨Tryd.f80.name, by decide, Tryd.func80.trans (congrArg some (by kernel_rfl))⟩
  t0 := Tryd.underlying0
  a0 := Tryd.isAgg0
  z0 := Tryd.sizeOf0
  v0 := Tryd.zeroValue0
  t3 := Tryd.underlying3
  a3 := Tryd.isAgg3
  z3 := Tryd.sizeOf3
  v3 := Tryd.zeroValue3
  t4 := Tryd.underlying4
  a4 := Tryd.isAgg4
  z4 := Tryd.sizeOf4
  v4 := Tryd.zeroValue4
  t5 := Tryd.underlying5
  a5 := Tryd.isAgg5
  z5 := Tryd.sizeOf5
  v5 := Tryd.zeroValue5
  t9 := Tryd.underlying9
  a9 := Tryd.isAgg9
  z9 := Tryd.sizeOf9
  v9 := Tryd.zeroValue9
  t22 := Tryd.underlying24
  a22 := Tryd.isAgg24
  z22 := Tryd.sizeOf24
  v22 := Tryd.zeroValue24
  a24 := Tryd.isAgg3
  z24 := Tryd.sizeOf3
  t25 := Tryd.underlying48
  a25 := Tryd.isAgg48
  z25 := Tryd.sizeOf48
  v25 := Tryd.zeroValue48
  t39 := Tryd.underlying65
  a39 := Tryd.isAgg65
  z39 := Tryd.sizeOf65
  v39 := Tryd.zeroValue65
  t45 := Tryd.underlying75
  a45 := Tryd.isAgg75
  z45 := Tryd.sizeOf75
  v45 := Tryd.zeroValue75
  t46 := Tryd.underlying76
  a46 := Tryd.isAgg76
  z46 := Tryd.sizeOf76
  v46 := Tryd.zeroValue76
  t50 := Tryd.underlying80
  a50 := Tryd.isAgg80
  z50 := Tryd.sizeOf80
  v50 := Tryd.zeroValue80
  t53 := Tryd.underlying45
  a53 := Tryd.isAgg45
  z53 := Tryd.sizeOf45
  v53 := Tryd.zeroValue45
  t55 := Tryd.underlying64
  a55 := Tryd.isAgg64
  z55 := Tryd.sizeOf64
  v55 := Tryd.zeroValue64
  t66 := Tryd.underlying93
  a66 := Tryd.isAgg93
  z66 := Tryd.sizeOf93
  v66 := Tryd.zeroValue93
  t70 := Tryd.underlying97
  a70 := Tryd.isAgg97
  z70 := Tryd.sizeOf97
  v70 := Tryd.zeroValue97
  t76 := Tryd.underlying112
  a76 := Tryd.isAgg112
  z76 := Tryd.sizeOf112
  v76 := Tryd.zeroValue112
  t77 := Tryd.underlying113
  a77 := Tryd.isAgg113
  z77 := Tryd.sizeOf113
  v77 := Tryd.zeroValue113 }
end Go.Proofs.YtjdfclbjmmmcfaaDoor
namespace Go.Proofs.YtjdfclbjmmmcfaaDoor
open Go Go.RowKit Go.Shelf Go.Proofs
def encR {k : Nat} (x : Fin (k + 1)) : Value := .int .i64 ((x.val : Nat) : Int)
def cfR (d : Nat → List Int) {k : Nat} (x y : Fin (k + 1)) : Int := cmpR d x.val y.val
theorem ltOfR (d : Nat → List Int) {k : Nat} (x y : Fin (k + 1)) : ltOf (cfR d) x y = decide (ltR d x.val y.val) := rfl
theorem swoR (d : Nat → List Int) (k : Nat) : Go.Sort.SWO (ltOf (cfR d (k := k))) where
  irrefl x := by rw [ltOfR, decide_eq_false_iff_not]; exact ltR_irrefl d _
  trans x y z h1 h2 := by
    rw [ltOfR, decide_eq_true_eq] at *
    exact ltR_trans h1 h2
  ntrans x y z h1 h2 := by
    rw [ltOfR, decide_eq_false_iff_not] at *
    intro h
    rcases ltR_three d x.val y.val with q | q | q
    · exact h1 q
    · rw [q] at h; exact h2 h
    · exact h2 (ltR_trans q h)
theorem extract_all {α : Type} (d : Array α) (n : Nat) (h : d.size = n) : (d.extract 0 n).toList = d.toList := by subst h; simp
def allR (k : Nat) : Array (Fin (k + 1)) := Array.ofFn fun i => i
theorem allR_size (k : Nat) : (allR k).size = k + 1 := by simp [allR]
theorem allR_at (k j : Nat) (hj : j < k + 1) : ((allR k)[j]!).val = j := by
  rw [getElem!_pos (allR k) j (by rw [allR_size]; exact hj)]
  simp [allR]
theorem allR_vals (k : Nat) : (allR k).toList.map (·.val) = List.range (k + 1) := by
  apply List.ext_getElem
  · simp [allR]
  · intro i h1 h2
    simp only [List.getElem_map, Array.getElem_toList, allR, Array.getElem_ofFn, List.getElem_range]
theorem sortR_other {k : Nat} {w : World} {b m j : Nat} {d : Array (Fin (k + 1))} {os : Array Obj} (hk : j < w.heap.size) (hn : j ≠ b) : (sortWorld encR w b 0 m d os).heap[j]? = w.heap[j]? := by
  unfold sortWorld
  simp only [Sort.grow, Sort.putRow, Sort.mapBlock]
  rw [Array.getElem?_append_left (by simpa [Sort.ahead] using hk)]
  simp [Array.getElem?_modify, Ne.symm hn, Sort.ahead]
theorem sortR_at {k : Nat} {w : World} {b m : Nat} {l : List Nat} {d : Array (Fin (k + 1))} {os : Array Obj} (h : OI w b l) (hl : l.length = k + 1) (hd : d.size = k + 1) : OI (sortWorld encR w b 0 m d os) b (d.toList.map (·.val)) := by
  have hb : b < w.heap.size := h.lt
  unfold OI sortWorld
  simp only [Sort.grow, Sort.putRow, Sort.mapBlock]
  rw [Array.getElem?_append_left (by simpa [Sort.ahead] using hb)]
  have e : (Sort.ahead w m).heap[b]? = some (.cells (nv l) 3 (0, 0)) := h
  rw [Array.getElem?_modify, if_pos rfl, e]
  simp only [Option.map_some, Sort.onCells]
  congr 2
  unfold Sort.putCells
  apply Array.ext_getElem?
  intro j
  rw [Array.getElem?_mapIdx]
  by_cases hj : j < k + 1
  · rw [nv_at _ _ (by rw [hl]; exact hj), nv_at _ _ (by rw [List.length_map, Array.length_toList, hd]; exact hj)]
    simp only [Option.map_some]
    rw [if_pos ⟨Nat.zero_le _, by omega⟩, Nat.sub_zero]
    unfold encR
    rw [getElem!_pos d j (by omega)]
    simp [List.getD, hd, hj]
  · rw [Array.getElem?_eq_none (by rw [nv_size, hl]; omega), Array.getElem?_eq_none (by rw [nv_size, List.length_map, Array.length_toList, hd]; omega)]
    rfl
theorem sortR_below {k : Nat} {w : World} {b m B : Nat} {d : Array (Fin (k + 1))} {os : Array Obj} (hb : B ≤ b) (hB : B ≤ w.heap.size) : Below B w (sortWorld encR w b 0 m d os) := by
  refine ⟨rfl, rfl, rfl, ?_, fun j hj => sortR_other (by omega) (by omega)⟩
  unfold sortWorld
  simp only [Sort.grow, Sort.putRow, Sort.mapBlock]
  simp [Sort.ahead]
theorem HDs.keep {w w' : World} {v : Value} {ds : List (List Int)} {b : Nat} (h : HDs w v ds) (hk : ∀ j, j < w.heap.size → j ≠ b → w'.heap[j]? = w.heap[j]?) (hn : ∀ g o n c, v = .slice (some ⟨g, o, none⟩) n c → g ≠ b) : HDs w' v ds := by
  refine ⟨?_, h.2⟩
  by_cases h0 : 0 < ds.length
  · obtain ⟨g, off, c, h1, h2, h3, h4, h5⟩ := h.ne h0
    refine ⟨_, c, h1, h2, h3, (fun e => by cases e), fun _ => ⟨g, off, rfl, fun i hi j u hu => ?_⟩⟩
    have e := hk g h4 (hn g off _ _ h1)
    have := h5 i hi j u hu
    rw [← this]
    simp only [World.cell?, e]
  · obtain ⟨⟨p, c, h1, h2, h3, h4, h5⟩, _⟩ := h
    exact ⟨p, c, h1, h2, h3, h4, fun hne => absurd (List.length_pos_iff.2 hne) h0⟩
theorem cmpLaysR (w : World) (c g k : Nat) (vD : Value) (ds : List (List Int)) (hl : ds.length = k + 1) (hc : c < w.heap.size) (hcg : c ≠ g) (hbox : w.cell? ⟨c, 0, none⟩ = some vD) (hD : HDs w vD ds) (hn : ∀ b o n q, vD = .slice (some ⟨b, o, none⟩) n q → b ≠ g) :
    CmpLays1 Tryd.prog 30 #[.pointer (some ⟨c, 0, none⟩)] (encR (k := k)) (cfR fun i => ds.getD i []) g 0 (k + 1) w := by
  intro m os dk hs x y
  have hb : (sortWorld encR w g 0 m dk os).cell? ⟨c, 0, none⟩ = some vD := by
    rw [← hbox]
    simp only [World.cell?, sortR_other (m := m) (d := dk) (os := os) hc hcg]
  have hD' : HDs (sortWorld encR w g 0 m dk os) vD ds := hD.keep (fun j hj hne => sortR_other hj hne) hn
  exact (rcmp_any _ c vD ds x.val y.val hb hD' (by rw [hl]; exact x.isLt) (by rw [hl]; exact y.isLt)).mono fun e w' ⟨h1, q, h2⟩ => ⟨h1, q, #[], by rw [Sort.grow_empty]; exact h2⟩
theorem rsort_any (w : World) (c g k : Nat) (vD : Value) (ds : List (List Int)) (hl : ds.length = k + 1) (hk : k < 1000000) (hcg : c ≠ g) (hbox : w.cell? ⟨c, 0, none⟩ = some vD) (hD : HDs w vD ds) (hn : ∀ b o n q, vD = .slice (some ⟨b, o, none⟩) n q → b ≠ g) (hO : OI w g (List.range (k + 1))) {B : Nat} (hB : B ≤ g) :
    Calls Tryd.prog 29 #[.slice (some ⟨g, 0, none⟩) (k + 1) (k + 1), .func (.func 30) #[] #[.pointer (some ⟨c, 0, none⟩)]] w fun e w' => e = .returned (.tuple #[]) ∧ ∃ l, IsO (fun i => ds.getD i []) (k + 1) l ∧ OI w' g l ∧ Below B w w' := by
  have eg : ∀ args w, (callFunc 30 args).run Tryd.prog w = .ok (.enter 30 args) w := enters_of Tryd.func30 (by kernel_rfl) rfl
  have hgl : g < w.heap.size := hO.lt
  have hc : c < w.heap.size := World.block_lt_of_cell? w _ hbox
  have hH : Sort.Holds (encR (k := k)) w g 0 (allR k) := fun j hj => by
    rw [allR_size] at hj
    refine ⟨?_, hO.free _⟩
    rw [Nat.zero_add, hO.cell (by rw [List.length_range]; exact hj)]
    unfold encR
    rw [allR_at k j hj]
    simp [List.getD, hj]
  have hcon := Any.slices_SortFunc sortR (encR (k := k)) (fun _ => rfl) (cfR fun i => ds.getD i []) (swoR _ k) 30 #[.pointer (some ⟨c, 0, none⟩)] g 0 (k + 1) (allR k) w eg (by rw [allR_size]; exact cmpLaysR w c g k vD ds hl hc hcg hbox hD hn) hH hgl (by rw [allR_size]; omega)
  rw [allR_size] at hcon
  change Calls Tryd.prog 29 _ _ _ at hcon
  refine hcon.mono ?_
  rintro e w' ⟨rfl, d', n, os, hp, hs, rfl⟩
  have hds : d'.size = k + 1 := by rw [hp.1, allR_size]
  have hperm : (d'.toList.map (·.val)).Perm (List.range (k + 1)) := by
    have h1 := hp.2.2
    have e1 : (d'.extract 0 (k + 1)).toList = d'.toList := extract_all _ _ hds
    have e2 : ((allR k).extract 0 (k + 1)).toList = (allR k).toList := extract_all _ _ (allR_size k)
    rw [e1, e2] at h1
    rw [← allR_vals]
    exact h1.map _
  refine ⟨rfl, d'.toList.map (·.val), ⟨hperm, ?_⟩, sortR_at hO (by rw [List.length_range]) hds, sortR_below hB (by omega)⟩
  have hnd : (d'.toList.map (·.val)).Nodup := hperm.nodup_iff.2 List.nodup_range
  rw [List.pairwise_iff_getElem]
  intro i j hi hj hij
  have hj' : j < d'.size := by simpa using hj
  have hi' : i < d'.size := by omega
  have := hs i j (Nat.zero_le _) hij (by omega)
  rw [getElem!_pos d' j hj', getElem!_pos d' i hi', ltOfR, decide_eq_false_iff_not] at this
  simp only [List.getElem_map, Array.getElem_toList]
  rcases ltR_three (fun i => ds.getD i []) d'[i].val d'[j].val with q | q | q
  · exact q
  · have hne := (List.pairwise_iff_getElem.1 hnd) i j hi hj hij
    simp only [List.getElem_map, Array.getElem_toList] at hne
    exact absurd q hne
  · exact absurd q this
theorem nv_range_step (n i : Nat) (hi : i < n) : (List.range i ++ List.replicate (n - i) 0).set i i = List.range (i + 1) ++ List.replicate (n - (i + 1)) 0 := by
  rw [List.set_append_right _ _ (by simp), List.length_range, Nat.sub_self, show n - i = (n - (i + 1)) + 1 by omega, List.replicate_succ, List.set_cons_zero, List.range_succ, List.append_assoc]
  rfl
set_option maxRecDepth 100000 in
set_option maxHeartbeats 4000000 in
theorem rising_any (w : World) (vD : Value) (ds : List (List Int)) (hD : HDs w vD ds) (h1 : 1 ≤ ds.length) (h2 : ds.length ≤ 32) :
    Calls Tryd.prog 20 #[vD] w fun e w' => ∃ g l, e = .returned (.slice (some ⟨g, 0, none⟩) ds.length ds.length) ∧ w.heap.size ≤ g ∧ IsO (fun i => ds.getD i []) ds.length l ∧ OI w' g l ∧ Below w.heap.size w w' := by
  obtain ⟨n, HN⟩ : ∃ n, Hid (ds.length = n) := ⟨_, rfl⟩
  obtain ⟨b, off, c, ev, hc1, hc2, hbl, hr⟩ := hD.ne (by omega)
  have HD := hid hD
  rw [HN.out] at ev h1 h2 hc1
  rw [HN.out]
  subst ev
  clear hD hr
  obtain ⟨W1, HW1⟩ : ∃ W1, Hid (w.alloc (.cells #[.slice (some ⟨b, off, none⟩) n c] 51) = W1) := ⟨_, rfl⟩
  have HB1 : Hid (Below w.heap.size w W1) := by rw [← HW1.out]; exact (Below.refl _ w).alloc (Nat.le_refl _) _
  have HS1 : Hid (W1.heap.size = w.heap.size + 1) := by rw [← HW1.out]; refine hid ?_; simp
  have HC1 : W1.cell? ⟨w.heap.size, 0, none⟩ = some (.slice (some ⟨b, off, none⟩) n c) := by rw [← HW1.out]; exact (cell_of_row _ _ _ _ _ _ (heap_alloc_new w _)).trans rfl
  have hmk := run_make_int W1 n (by omega)
  obtain ⟨W2, HW2⟩ : ∃ W2, Hid (W1.alloc (.cells (nv (List.replicate n 0)) 3) = W2) := ⟨_, rfl⟩
  have HB2 : Hid (Below W1.heap.size W1 W2) := by rw [← HW2.out]; exact (Below.refl _ W1).alloc (Nat.le_refl _) _
  have HO2 : Hid (OI W2 (w.heap.size + 1) (List.range 0 ++ List.replicate (n - 0) 0)) := by rw [← HW2.out, ← HS1.out]; exact heap_alloc_new W1 _
  have HC2 : W2.cell? ⟨w.heap.size, 0, none⟩ = some (.slice (some ⟨b, off, none⟩) n c) := (HB2.out.cell (show w.heap.size < W1.heap.size by rw [HS1.out]; omega)).trans HC1
  have BL2 : Hid (Below (w.heap.size + 1) W1 W2) := hid (by rw [← HS1.out]; exact HB2.out)
  rw [HW2.out, HS1.out] at hmk
  go_enter Tryd.func20, Tryd.ntmps20
  go_wp2
  rw [HW1.out]
  go_wp2
  rw [hmk]
  simp only [Result.andThen]
  rw [Oper.upon_value]
  go_wp2
  go_loopw [10] (fun i wr => ∃ k : Nat, k ≤ n ∧ i = .int .i64 k ∧ Hid (OI wr (w.heap.size + 1) (List.range k ++ List.replicate (n - k) 0)) ∧ Hid (Below (w.heap.size + 1) W1 wr)) (fun i _ => n - (intOf i).toNat)
  case atStart => exact ⟨0, Nat.zero_le _, rfl, HO2, BL2⟩
  case round =>
    clear hmk HC2
    obtain ⟨k, hk, rfl, HO, HBel⟩ := hrel
    have hcb : wr.cell? ⟨w.heap.size, 0, none⟩ = some (.slice (some ⟨b, off, none⟩) n c) := (HBel.out.cell (show w.heap.size < w.heap.size + 1 by omega)).trans HC1
    by_cases hlt : k < n
    · have hcell := HO.out.cell (i := k) (by simp; omega)
      have hfree := HO.out.free k
      have HO3 := hid (HO.out.set k k)
      rw [nv_range_step n k hlt] at HO3
      have BL3 : Hid (Below (w.heap.size + 1) W1 (wr.setCell ⟨w.heap.size + 1, k, none⟩ (.int .i64 (k : Int)))) := hid (HBel.out.setCell (p := ⟨w.heap.size + 1, k, none⟩) (Nat.le_refl _) _)
      go_wp2
      exact ⟨⟨k + 1, by omega, by go_num, HO3, BL3⟩, by simp [intOf]; omega⟩
    · have hkn : k = n := by omega
      have HO3 := HO.out
      rw [hkn, Nat.sub_self, List.replicate_zero, List.append_nil] at HO3
      obtain ⟨k', hk'⟩ : ∃ k', n = k' + 1 := ⟨n - 1, by omega⟩
      have HDr : HDs wr (.slice (some ⟨b, off, none⟩) n c) ds := (HD.out.below HB1.out).keep (b := w.heap.size + 1) (fun j hj hne => HBel.out.block j (by rw [HS1.out] at hj; exact hj)) (fun g o m q e => by
        simp only [Value.slice.injEq, Option.some.injEq, Addr.mk.injEq] at e
        omega)
      have CS := hid (rsort_any wr w.heap.size (w.heap.size + 1) k' _ ds (by rw [HN.out, hk']) (by omega) (by omega) hcb HDr (fun g o m q e => by
        simp only [Value.slice.injEq, Option.some.injEq, Addr.mk.injEq] at e
        omega) (by rw [← hk']; exact HO3) (B := w.heap.size) (by omega))
      rw [← hk'] at CS
      have BLr : Hid (Below w.heap.size w wr) := HB1.out.trans (HBel.out.mono (by omega))
      clear HO3 HDr hk' hcb
      go_wp2_with fail
      refine CS.out.mono ?_
      rintro e w3 ⟨rfl, l, hO3, hI3, hB3⟩
      have P3 := hid hO3
      have Q3 := hid hI3
      have R3 := hid hB3
      clear hO3 hI3 hB3 CS
      go_wp2
      go_ret
      exact ⟨_, l, rfl, by omega, P3.out, Q3.out, BLr.out.trans R3.out⟩
end Go.Proofs.YtjdfclbjmmmcfaaDoor
namespace Go.Proofs.YtjdfclbjmmmcfaaDoor
open Go Go.RowKit
def dgL (x : List Int) (n k : Nat) : List (List Int) := (List.range k).map (rgL x) ++ List.replicate (n - k) zeros32
theorem dgL_length (x : List Int) (n k : Nat) (h : k ≤ n) : (dgL x n k).length = n := by simp [dgL]; omega
theorem dgL_step (x : List Int) (n k : Nat) (h : k < n) : (dgL x n k).set k (rgL x k) = dgL x n (k + 1) := by
  unfold dgL
  rw [List.set_append_right _ _ (by simp), List.length_map, List.length_range, Nat.sub_self, show n - k = (n - (k + 1)) + 1 by omega, List.replicate_succ, List.set_cons_zero, List.range_succ, List.map_append, List.append_assoc]
  rfl
theorem dgL_all (x : List Int) (n i : Nat) (h : i < n) : (dgL x n n).getD i [] = rgL x i := by simp [dgL, List.getD, h]
set_option maxRecDepth 100000 in
set_option maxHeartbeats 2000000 in
theorem order_bad (w : World) (x : List Int) (n : Int) (hx : X16 x) (hn : n < 1 ∨ 32 < n) :
    Calls Tryd.prog 8 #[.agg (cellsB x), .int .i64 n] w fun e w' => e = .returned (.tuple #[.slice none 0 0, .int .i64 2]) ∧ Below w.heap.size w w' := by
  obtain ⟨cl, HCL⟩ : ∃ c, Hid (cellsB x = c) := ⟨_, rfl⟩
  rw [HCL.out]
  have HB0 : Hid (Below w.heap.size w (w.alloc (.cells cl 23))) := (Below.refl _ w).alloc (Nat.le_refl _) _
  go_enter Tryd.func8, Tryd.ntmps8
  by_cases h1 : n < 1
  · go_wp2
    go_ret2
    exact ⟨rfl, HB0.out⟩
  · have h2 : 32 < n := by omega
    go_wp2
    go_ret2
    exact ⟨rfl, HB0.out⟩
set_option maxRecDepth 100000 in
set_option maxHeartbeats 4000000 in
theorem order_ok (w : World) (x : List Int) (n : Nat) (hx : X16 x) (h1 : 1 ≤ n) (h2 : n ≤ 32) (hk : KC w) :
    Calls Tryd.prog 8 #[.agg (cellsB x), .int .i64 (n : Int)] w fun e w' => ∃ g l, e = .returned (.tuple #[.slice (some ⟨g, 0, none⟩) n n, .int .i64 0]) ∧ w.heap.size ≤ g ∧ IsO (rgL x) n l ∧ OI w' g l ∧ Below w.heap.size w w' := by
  obtain ⟨cl, HCL⟩ : ∃ c, Hid (cellsB x = c) := ⟨_, rfl⟩
  rw [HCL.out]
  have HX := hid hx
  have HK := hid hk
  have HIx : Hid ((Tryd.prog.info? 23).map (·.size) = some cl.size) := by
    have e : cl.size = 16 := by rw [← HCL.out, cellsB_size, hx.1]
    rw [e]
    exact (by kernel_rfl : (Tryd.prog.info? 23).map (·.size) = some 16)
  obtain ⟨W1, HW1⟩ : ∃ W1, Hid (w.alloc (.cells cl 23) = W1) := ⟨_, rfl⟩
  have HB1 : Hid (Below w.heap.size w W1) := by rw [← HW1.out]; exact (Below.refl _ w).alloc (Nat.le_refl _) _
  have HS1 : Hid (W1.heap.size = w.heap.size + 1) := by rw [← HW1.out]; refine hid ?_; simp
  have HC1 : Hid (W1.heap[w.heap.size]? = some (.cells cl 23 (0, 0))) := by rw [← HW1.out]; exact heap_alloc_new w _
  obtain ⟨C, hmk, hod⟩ := run_make_dig W1 n (by omega)
  obtain ⟨W2, HW2⟩ : ∃ W2, Hid (W1.alloc (.cells C 43) = W2) := ⟨_, rfl⟩
  rw [HW2.out] at hmk hod
  have BL2 : Hid (Below (w.heap.size + 1) W1 W2) := by rw [← HS1.out, ← HW2.out]; exact (Below.refl _ W1).alloc (Nat.le_refl _) _
  have HO2 : Hid (OD W2 (w.heap.size + 1) (dgL x n 0)) := by
    rw [← HS1.out]
    have e : dgL x n 0 = List.replicate n zeros32 := by simp [dgL]
    rw [e]
    exact hod
  rw [HS1.out] at hmk
  clear hod hx hk
  have h1' : ¬ ((n : Int) < 1) := by omega
  have h2' : ¬ (32 < (n : Int)) := by omega
  go_enter Tryd.func8, Tryd.ntmps8
  go_wp2
  rw [HW1.out]
  go_wp2
  rw [hmk]
  simp only [Result.andThen]
  rw [Oper.upon_value]
  go_wp2
  go_loopw [17] (fun i wr => ∃ k : Nat, k ≤ n ∧ i = .int .i64 k ∧ Hid (OD wr (w.heap.size + 1) (dgL x n k)) ∧ Hid (Below (w.heap.size + 1) W1 wr)) (fun i _ => n - (intOf i).toNat)
  case atStart => exact ⟨0, Nat.zero_le _, rfl, HO2, BL2⟩
  case round =>
    clear hmk
    obtain ⟨k, hk, rfl, HO, HBel⟩ := hrel
    have hsz := HBel.out.size
    have HCr : Hid (wr.heap[w.heap.size]? = some (.cells cl 23 (0, 0))) := (HBel.out.block _ (by omega)).trans HC1.out
    have BLr : Hid (Below w.heap.size w wr) := HB1.out.trans (HBel.out.mono (by omega))
    by_cases hlt : k < n
    · have CT := hid (tring_any wr x k HX.out (by omega) (HK.out.below BLr.out))
      rw [HCL.out] at CT
      have hu : ((k : Int) : Int) < 4294967296 := by omega
      go_wp2_with (refine wpList_load_row rfl 23 _ rfl w.heap.size rfl 23 cl (0, 0) _ HCr.out Tryd.underlying23 rfl HIx.out ?_)
      refine CT.out.mono ?_
      rintro e w5 ⟨rfl, hB5⟩
      have HO5 := hid (HO.out.below hB5)
      have BL5 := hid (HBel.out.trans (hB5.mono (by rw [HS1.out] at hsz; exact hsz)))
      obtain ⟨pd, HPD⟩ : ∃ pd, Hid (rgL x k = pd) := ⟨_, rfl⟩
      have HPDD : Hid (D32 pd) := by rw [← HPD.out]; exact rgL_D x k
      rw [HPD.out]
      have hps : (cellsB pd).size = 32 := by rw [cellsB_size, HPDD.out.1]
      have HT : Hid (w5.there (w.heap.size + 1) (k * 32) (cellsB pd).size) := by
        rw [hps]
        exact HO5.out.there k (by rw [dgL_length x n k hk]; exact hlt)
      have SD : Hid ((Tryd.prog.info? 43).map (·.size) = some (cellsB pd).size) := by rw [hps]; exact size_digest
      have OD1 : Hid ((cellsB pd).all (·.oneCell') = true) := cellsB_one _
      obtain ⟨pc, HPC⟩ : ∃ pc, Hid (cellsB pd = pc) := ⟨_, rfl⟩
      have hpl : pc.toList = dc pd := by rw [← HPC.out]; rfl
      rw [HPC.out] at HT SD OD1 ⊢
      clear hB5 CT hps
      go_wp2_with (refine wpList_store_mid rfl 43 _ _ rfl (w.heap.size + 1) (k * 32) pc rfl rfl HT.out SD.out OD1.out ?_)
      have HO6 := HO5.out.store k (by rw [dgL_length x n k hk]; exact hlt) HPDD.out
      rw [← HPD.out, dgL_step x n k hlt, HPD.out] at HO6
      refine ⟨⟨k + 1, by omega, by go_num, HO6, below_setCells BL5.out (Nat.le_refl _) _ _⟩, by simp [intOf]; omega⟩
    · have hkn : k = n := by omega
      have HO6 := HO.out
      rw [hkn] at HO6
      have HDr := HO6.HDs (by rw [dgL_length x n n (Nat.le_refl _)]; omega)
      rw [dgL_length x n n (Nat.le_refl _)] at HDr
      have CR := hid (rising_any wr _ (dgL x n n) HDr (by rw [dgL_length x n n (Nat.le_refl _)]; exact h1) (by rw [dgL_length x n n (Nat.le_refl _)]; exact h2))
      rw [dgL_length x n n (Nat.le_refl _)] at CR
      clear HO6 HDr
      go_wp2_with fail
      refine CR.out.mono ?_
      rintro e w3 ⟨g, l, rfl, hg, hO3, hI3, hB3⟩
      have P3 := hid (hO3.congr (d' := rgL x) fun i hi => dgL_all x n i hi)
      have Q3 := hid hI3
      have R3 := hid hB3
      have hgs : w.heap.size ≤ g := Nat.le_trans BLr.out.size hg
      clear hO3 hI3 hB3 CR
      go_wp2
      go_ret2
      exact ⟨g, l, rfl, hgs, P3.out, Q3.out, BLr.out.trans (R3.out.mono BLr.out.size)⟩
def x7 : List Int := 7 :: List.replicate 15 0
theorem x7_X : X16 x7 := ⟨rfl, fun x hx => by
  have : x = 7 ∨ x = 0 := by
    rcases List.mem_cons.1 hx with h | h
    · exact .inl h
    · exact .inr (List.mem_replicate.1 h).2
  omega⟩
theorem built_x7 : Tryd.prog.built 23 [(0, .int .u8 7)] = some (cellsB x7) := by kernel_rfl
theorem IsO.one {d : Nat → List Int} {l : List Nat} (h : IsO d 1 l) : l = [0] := by
  have hl := h.len
  match l, hl with
  | [a], _ => have := (h.mem a).1 (by simp); simp; omega
set_option maxRecDepth 100000 in
set_option maxHeartbeats 2000000 in
theorem awake_any (w : World) (hk : KC w) : Calls Tryd.prog 16 #[] w fun e w' => e = .returned (.bool true) ∧ Below w.heap.size w w' := by
  obtain ⟨cl, HCL⟩ : ∃ c, Hid (cellsB x7 = c) := ⟨_, rfl⟩
  have HBt := built_x7
  rw [HCL.out] at HBt
  have HBT := hid HBt
  have CO := hid (order_ok w x7 1 x7_X (by omega) (by omega) hk)
  rw [HCL.out] at CO
  clear hk HBt
  go_enter Tryd.func16, Tryd.ntmps16
  go_wp2_with (refine wpList_build rfl 23 _ rfl (by simp [Act.eval, HBT.out]) ?_)
  rw [show (Tryd.prog.built 23 [(0, .int .u8 7)]).getD #[] = cl by rw [HBT.out]; rfl]
  refine CO.out.mono ?_
  rintro e w1 ⟨g, l, rfl, hg, hO, hI, hB⟩
  have el := hO.one
  subst el
  have hc := hI.cell (i := 0) (by simp)
  have BL := hid hB
  clear hO hI hB
  go_wp2
  go_ret
  exact ⟨rfl, BL.out⟩
set_option maxRecDepth 100000 in
theorem size_ix {x : List Int} (hx : X16 x) : (Tryd.prog.info? 23).map (·.size) = some (cellsB x).size := by
  have e : (cellsB x).size = 16 := by rw [cellsB_size, hx.1]
  rw [e]
  exact (by kernel_rfl : (Tryd.prog.info? 23).map (·.size) = some 16)
theorem nodup_before {l : List Nat} (h : l.Nodup) {i s : Nat} (hi : l[i]? = some s) (k : Nat) (hk : k < i) : l.getD k 0 ≠ s := by
  have hil := (List.getElem?_eq_some_iff.1 hi).1
  have e : l[i] = s := (List.getElem?_eq_some_iff.1 hi).2
  have := (List.pairwise_iff_getElem.1 h) k i (by omega) hil hk
  rw [List.getD_eq_getElem?_getD, List.getElem?_eq_getElem (by omega)]
  rw [e] at this
  exact this
set_option maxRecDepth 100000 in
set_option maxHeartbeats 2000000 in
theorem sindex_any (w : World) (g : Nat) (l : List Nat) (i s : Nat) (hI : OI w g l) (hs : l[i]? = some s) (hd : l.Nodup) (hl : l.length ≤ 1000) :
    Calls Tryd.prog 22 #[.slice (some ⟨g, 0, none⟩) l.length l.length, .int .i64 (s : Int)] w fun e w' => e = .returned (.int .i64 (i : Int)) ∧ w' = w := by
  have hil := (List.getElem?_eq_some_iff.1 hs).1
  have HD : Hid (∀ k, k < i → l.getD k 0 ≠ s) := fun k hk => nodup_before hd hs k hk
  have HE : Hid (l.getD i 0 = s) := by rw [List.getD_eq_getElem?_getD, hs]; exact rfl
  have HI := hid hI
  obtain ⟨n, HN⟩ : ∃ n, Hid (l.length = n) := ⟨_, rfl⟩
  rw [HN.out] at hil hl ⊢
  clear hd hs hI
  go_enter Tryd.func22, Tryd.ntmps22
  go_wp2
  go_loopw [8] (fun x wr => ∃ k : Nat, k ≤ i ∧ x = .int .i64 k ∧ Hid (wr = w)) (fun x _ => n - (intOf x).toNat)
  case atStart => exact ⟨0, Nat.zero_le _, rfl, rfl⟩
  case round =>
    obtain ⟨k, hk, rfl, hwr⟩ := hrel
    have hwo := hwr.out
    rw [hwo]
    clear hwo hwr
    have hc := HI.out.cell (i := k) (by rw [HN.out]; omega)
    by_cases hki : k = i
    · subst hki
      rw [HE.out] at hc
      clear HE
      go_wp2
      go_ret
      exact ⟨rfl, rfl⟩
    · have hv := HD.out k (by omega)
      generalize l.getD k 0 = y at hc hv
      have hne : ¬ ((s : Int) = (y : Int)) := by omega
      have hkn : k < n := by omega
      go_wp2
      exact ⟨⟨k + 1, by omega, by go_num, trivial⟩, by simp [intOf]; omega⟩
set_option maxRecDepth 100000 in
set_option maxHeartbeats 2000000 in
theorem rank_bad (w : World) (x : List Int) (n s : Int) (hx : X16 x) (h : (s < 0 ∨ n ≤ s) ∨ (n < 1 ∨ 32 < n)) :
    Calls Tryd.prog 10 #[.agg (cellsB x), .int .i64 n, .int .i64 s] w fun e w' => e = .returned (.tuple #[.int .i64 0, .int .i64 2]) ∧ Below w.heap.size w w' := by
  obtain ⟨cl, HCL⟩ : ∃ c, Hid (cellsB x = c) := ⟨_, rfl⟩
  have HIx : Hid ((Tryd.prog.info? 23).map (·.size) = some cl.size) := by
    have e : cl.size = 16 := by rw [← HCL.out, cellsB_size, hx.1]
    rw [e]
    exact (by kernel_rfl : (Tryd.prog.info? 23).map (·.size) = some 16)
  rw [HCL.out]
  obtain ⟨W1, HW1⟩ : ∃ W1, Hid (w.alloc (.cells cl 23) = W1) := ⟨_, rfl⟩
  have HB1 : Hid (Below w.heap.size w W1) := by rw [← HW1.out]; exact (Below.refl _ w).alloc (Nat.le_refl _) _
  have HC1 : Hid (W1.heap[w.heap.size]? = some (.cells cl 23 (0, 0))) := by rw [← HW1.out]; exact heap_alloc_new w _
  have HX := hid hx
  have HH := hid h
  clear h hx
  go_enter Tryd.func10, Tryd.ntmps10
  by_cases h1 : s < 0
  · go_wp2
    rw [HW1.out]
    go_ret2
    exact ⟨rfl, HB1.out⟩
  · by_cases h2 : n ≤ s
    · go_wp2
      rw [HW1.out]
      go_ret2
      exact ⟨rfl, HB1.out⟩
    · have C1 : Hid (Calls Tryd.prog 8 #[.agg cl, .int .i64 n] W1 fun e w' => e = .returned (.tuple #[.slice none 0 0, .int .i64 2]) ∧ Below W1.heap.size W1 w') := hid (by
        rw [← HCL.out]
        exact order_bad W1 x n HX.out (by have := HH.out; omega))
      go_wp2_with (refine wpList_load_row rfl 23 _ rfl w.heap.size rfl 23 cl (0, 0) _ (by rw [HW1.out]; exact HC1.out) Tryd.underlying23 rfl HIx.out ?_)
      rw [HW1.out]
      refine C1.out.mono ?_
      rintro e W3 ⟨rfl, hB3⟩
      have BL3 : Hid (Below w.heap.size w W3) := HB1.out.trans (hB3.mono HB1.out.size)
      clear hB3 C1
      go_wp2
      go_ret2
      exact ⟨rfl, BL3.out⟩
set_option maxRecDepth 100000 in
set_option maxHeartbeats 2000000 in
theorem rank_ok (w : World) (x : List Int) (n s i : Nat) (l : List Nat) (hx : X16 x) (h1 : 1 ≤ n) (h2 : n ≤ 32) (hs : s < n) (hO : IsO (rgL x) n l) (hi : l[i]? = some s) (hk : KC w) :
    Calls Tryd.prog 10 #[.agg (cellsB x), .int .i64 (n : Int), .int .i64 (s : Int)] w fun e w' => e = .returned (.tuple #[.int .i64 (i : Int), .int .i64 0]) ∧ Below w.heap.size w w' := by
  obtain ⟨cl, HCL⟩ : ∃ c, Hid (cellsB x = c) := ⟨_, rfl⟩
  have HIx : Hid ((Tryd.prog.info? 23).map (·.size) = some cl.size) := by
    have e : cl.size = 16 := by rw [← HCL.out, cellsB_size, hx.1]
    rw [e]
    exact (by kernel_rfl : (Tryd.prog.info? 23).map (·.size) = some 16)
  obtain ⟨W1, HW1⟩ : ∃ W1, Hid (w.alloc (.cells cl 23) = W1) := ⟨_, rfl⟩
  have HB1 : Hid (Below w.heap.size w W1) := by rw [← HW1.out]; exact (Below.refl _ w).alloc (Nat.le_refl _) _
  have HC1 : Hid (W1.heap[w.heap.size]? = some (.cells cl 23 (0, 0))) := by rw [← HW1.out]; exact heap_alloc_new w _
  have C1 := hid (order_ok W1 x n hx h1 h2 (hk.below HB1.out))
  rw [HCL.out] at C1
  rw [HCL.out]
  have HO := hid hO
  have HI := hid hi
  have hs0 : ¬ ((s : Int) < 0) := by omega
  have hs1 : (s : Int) < (n : Int) := by omega
  clear hO hi hk hx
  go_enter Tryd.func10, Tryd.ntmps10
  go_wp2_with (refine wpList_load_row rfl 23 _ rfl w.heap.size rfl 23 cl (0, 0) _ (by rw [HW1.out]; exact HC1.out) Tryd.underlying23 rfl HIx.out ?_)
  rw [HW1.out]
  refine C1.out.mono ?_
  rintro e W3 ⟨g, l', rfl, hg, hO', hI', hB3⟩
  have e1 : l' = l := hO'.uniq HO.out
  have BL3 : Hid (Below w.heap.size w W3) := HB1.out.trans (hB3.mono HB1.out.size)
  have CI := sindex_any W3 g l i s (by rw [← e1]; exact hI') HI.out HO.out.nodup (by rw [HO.out.len]; omega)
  rw [HO.out.len] at CI
  have CX := hid CI
  clear hB3 C1 CI e1 hI' hO'
  go_wp2_with fail
  refine CX.out.mono ?_
  rintro e W4 ⟨rfl, hw4⟩
  rw [hw4]
  clear hw4
  go_wp2
  go_ret2
  exact ⟨rfl, BL3.out⟩
end Go.Proofs.YtjdfclbjmmmcfaaDoor
