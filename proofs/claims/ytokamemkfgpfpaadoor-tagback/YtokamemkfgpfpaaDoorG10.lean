/- Of the road to tagBackUptoCard_holds: TgRef, EvLit, TgEv, TgPad, TgRef2, FramesB, TgBytes, BsStr, BsIdx, Clone, TgRead, TagPadEv. -/
import Derived.Test.YtokamemkfgpfpaaDoorG09
import Derived.Test.YtokamemkfgpfpaaDoorG00
import Derived.Laws.IdiomStrings
import Derived.Test.YtokamemkfgpfpaaDoorG08
import Derived.Test.YtokamemkfgpfpaaDoorChecked
import Derived.Test.YtokamemkfgpfpaaDoorG01
import Derived.Laws.Strings
import Derived.Laws.Strings2
import Derived.Laws.Concat
import Derived.Lib.Strings
import Derived.WalkKit
import Derived.Deep.RegionHeld
import Derived.OrdersHeld
set_option linter.unusedVariables false
set_option linter.unusedSimpArgs false
namespace Go.Proofs.YtokamemkfgpfpaaDoor
open Go.RowKit
def hi5 (n m x : Nat) : List Int := (bigL n x).take (n - m)
theorem hi5_step (n m x : Nat) (h : m < n) : hi5 n m x = hi5 n (m + 1) x ++ [((x / 256 ^ m % 256 : Nat) : Int)] := by
  have key : ∀ r j, j < r → (bigL r x)[j]? = some ((x / 256 ^ (r - 1 - j) % 256 : Nat) : Int) := by
    intro r
    induction r with
    | zero => intro j hj; omega
    | succ r ih =>
      intro j hj
      cases j with
      | zero => simp [bigL]
      | succ j =>
        simp only [bigL, List.getElem?_cons_succ]
        rw [ih j (by omega), show r + 1 - 1 - (j + 1) = r - 1 - j by omega]
  unfold hi5
  have e : n - m = (n - (m + 1)) + 1 := by omega
  rw [e, List.take_add_one, key n _ (by omega), show n - 1 - (n - (m + 1)) = m by omega]
  rfl
set_option maxRecDepth 100000 in
set_option maxHeartbeats 1000000 in
theorem rbig5_any (W : World) (x n : Nat) (hx : x < 18446744073709551616) (hn : n ≤ 8) : Calls Tryd.prog 72 #[.int .u64 (x : Int), .int .i64 (n : Int)] W fun e W' => ∃ v', e = .returned v' ∧ W'.ownsRow W.heap.size 5 1 v' n ((bigL n x).map (Value.int .u8)) ∧ Below W.heap.size W W' := by
  go_enter Tryd.func72, Tryd.ntmps72
  go_wp2
  go_loopw [5, 6] (fun o i wr => ∃ m : Nat, m ≤ n ∧ i = .int .i64 ((m : Int) - 1) ∧ Hid (wr.ownsRow W.heap.size 5 1 o (n - m) ((hi5 n m x).map (Value.int .u8))) ∧ Hid (Below W.heap.size W wr)) (fun _ i _ => (intOf i + 1).toNat)
  case atStart => exact ⟨n, Nat.le_refl _, rfl, by rw [Nat.sub_self]; simp only [hi5, Nat.sub_self, List.take_zero, List.map_nil]; exact World.ownsRow_nil _ _ _ _, Below.refl _ _⟩
  case round =>
    obtain ⟨m, hm, rfl, HO, HBw⟩ := hrel
    cases m with
    | zero =>
      go_wp2
      go_ret
      refine ⟨_, rfl, ?_, HBw.out⟩
      have := HO.out
      simp only [Nat.sub_zero] at this
      rw [show hi5 n 0 x = bigL n x by unfold hi5; rw [Nat.sub_zero, List.take_of_length_le (by rw [bigL_length]; exact Nat.le_refl n)]] at this
      exact this
    | succ m =>
      have HS := hid (hi5_step n m x (by omega))
      have hmc : m = 0 ∨ m = 1 ∨ m = 2 ∨ m = 3 ∨ m = 4 ∨ m = 5 ∨ m = 6 ∨ m = 7 := by omega
      have hxi : (x : Int) < 18446744073709551616 := by omega
      have hsz := HBw.out.size
      obtain ⟨y, HY⟩ : ∃ y, Hid (((x / 256 ^ m % 256 : Nat) : Int) = y) := ⟨_, rfl⟩
      rw [HY.out] at HS
      obtain ⟨k0, HK⟩ : ∃ k0, Hid (n - (m + 1) = k0) := ⟨_, rfl⟩
      have HK2 : Hid (n - m = k0 + 1) := by show _ = _; rw [← HK.out]; omega
      have hk0 : k0 ≤ 8 := by rw [← HK.out]; omega
      obtain ⟨lst, HLs⟩ : ∃ lst, Hid (hi5 n (m + 1) x = lst) := ⟨_, rfl⟩
      rw [HLs.out] at HS
      have HO' := hid HO.out
      rw [HK.out, HLs.out] at HO'
      clear HO
      rcases hmc with rfl | rfl | rfl | rfl | rfl | rfl | rfl | rfl
      all_goals
        go_wp2_with (at_builtin; refine wpList_append_byte rfl _ _ rfl W.heap.size _ _ _ rfl (HO'.out.alloc _) ⟨wr.heap.size, 0, none⟩ 1 y rfl ?q0 ?q1 ?q2 ?_)
        case q0 => rw [← HY.out]; simp; try omega
        case q1 => omega
        case q2 => simp; omega
        intro v' w2 hown2 hgr2 _
        have HO2 : Hid (w2.ownsRow W.heap.size 5 1 v' (k0 + 1) (lst.map (Value.int .u8) ++ [.int .u8 y])) := hown2
        have HB2 := hid ((HBw.out.alloc HBw.out.size _).grown hgr2 (by simp; omega) (fun k e => (HO'.out.lt k e).1))
        clear hown2 hgr2
        go_wp2
        exact ⟨⟨_, Nat.le_of_succ_le hm, rfl, by rw [HK2.out, HS.out, List.map_append]; exact HO2, HB2⟩, by simp [intOf]⟩
def fr1 (l : List Int) : List Int := bigL 8 l.length ++ l
theorem fr1_length (l : List Int) : (fr1 l).length = 8 + l.length := by simp [fr1, bigL_length]
theorem fr1_byt {l : List Int} (h : ∀ x ∈ l, 0 ≤ x ∧ x < 256) : ∀ x ∈ fr1 l, 0 ≤ x ∧ x < 256 := fun x hx => (List.mem_append.1 hx).elim (bigL_byt _ _ x) (h x)
set_option maxRecDepth 100000 in
set_option maxHeartbeats 1000000 in
theorem rframe_any (w : World) (v : Value) (l : List Int) (h : HB w v l) (hl : l.length ≤ 140737488355000) : Calls Tryd.prog 42 #[v] w fun e w' => ∃ v', e = .returned v' ∧ w'.ownsRow w.heap.size 5 1 v' (fr1 l).length ((fr1 l).map (Value.int .u8)) ∧ Below w.heap.size w w' := by
  obtain ⟨p, c, e, hlc, hm⟩ := h.open
  have HH := hid h
  obtain ⟨n, HN⟩ : ∃ n, Hid (l.length = n) := ⟨_, rfl⟩
  rw [HN.out] at e hl hlc
  subst e
  clear h
  go_enter Tryd.func42, Tryd.ntmps42
  go_wp2_with fail
  refine (rbig5_any w n 8 (by omega) (by omega)).mono ?_
  rintro e w1 ⟨v1, rfl, ho1, hB1⟩
  have HO := hid ho1
  have HB1 := hid hB1
  have H1 := hid (HH.out.below hB1)
  clear ho1 hB1
  go_wp2_with (at_builtin; refine wpList_append_HB rfl _ _ rfl w.heap.size _ _ _ rfl HO.out _ _ rfl H1.out ?q1 ?q2 ?_)
  case q1 => rw [HN.out]; omega
  case q2 => exact HB1.out.size
  intro v2 w2 ho2 hg2
  have HO2 : Hid (w2.ownsRow w.heap.size 5 1 v2 (fr1 l).length ((fr1 l).map (Value.int .u8))) := by
    rw [fr1_length]
    show World.ownsRow _ _ _ _ _ _ _
    unfold fr1
    rw [List.map_append, HN.out]
    rw [HN.out] at ho2
    exact ho2
  have HB2 : Hid (Below w.heap.size w w2) := HB1.out.grown hg2 HB1.out.size (fun k e => (HO.out.lt k e).1)
  clear ho2 hg2
  go_wp2
  go_ret
  exact ⟨_, rfl, HO2.out, HB2.out⟩
end Go.Proofs.YtokamemkfgpfpaaDoor
namespace Go.Proofs.YtokamemkfgpfpaaDoor
open Go Go.RowKit Ev
def TV.plainT : TV → Bool
  | .sc s => s.plain
  | .agg l => l.all SV.plain
def plainA : AV → Bool
  | .tv v => TV.plainT v
  | .tup l => l.all TV.plainT
theorem sv_any {ρ : Env} {ms ms' : List Nat} {s : SV} (h : s.plain = true) : s.inst ρ ms = s.inst ρ ms' := by
  cases s <;> simp [SV.plain] at h <;> simp only [SV.inst]
  subst h; rfl
theorem tv_any {ρ : Env} {ms ms' : List Nat} {s : TV} (h : TV.plainT s = true) : s.inst ρ ms = s.inst ρ ms' := by
  cases s with
  | sc s => exact sv_any h
  | agg l =>
    simp only [TV.inst]
    congr 2
    refine List.map_congr_left fun p hp => sv_any ?_
    simp only [TV.plainT, List.all_eq_true] at h
    exact h p hp
theorem av_any {ρ : Env} {ms ms' : List Nat} {s : AV} (h : plainA s = true) : s.inst ρ ms = s.inst ρ ms' := by
  cases s with
  | tv s => exact tv_any h
  | tup l =>
    simp only [AV.inst]
    congr 2
    refine List.map_congr_left fun p hp => tv_any ?_
    simp only [plainA, List.all_eq_true] at h
    exact h p hp
def con1 (g : Nat) (xs : List AV) (v : AV) : ConF := fun g' xs' _ => if g' = g then (if xs' = xs then some v else none) else none
theorem con1_ok {ρ : Env} {con : ConF} (hcon : ConOk Tryd.prog ρ con) (hm : Tryd.prog.follows .mixedOrders = true) {n g : Nat} {xs : List AV} {v : AV} {H' : List Blk} (h : evCallF Tryd.prog noLore con n g xs H0 = some (v, H')) (hx : xs.all plainA = true) (hv : plainA v = true) : ConOk Tryd.prog ρ (con1 g xs v) := by
  intro g' xs' H u hu ms B w args ha hH
  unfold con1 at hu
  split at hu
  case isFalse => cases hu
  rename_i e
  subst e
  split at hu <;> cases hu
  rename_i e
  subst e
  have ha0 : xs'.map (AV.inst ρ ms0) = args.toList.map some := by
    rw [← ha]
    exact List.map_congr_left fun x hx' => av_any (List.all_eq_true.1 hx x hx')
  refine (calls_of_evHF (noLore_ok ρ) hcon hm n h w ha0 (holds_nil ρ w)).mono ?_
  rintro e w' ⟨ms', u', rfl, _, h1, _, h3⟩
  exact ⟨u', rfl, by rw [av_any hv (ms' := ms')]; exact h1, h3⟩
def conOr (c d : ConF) : ConF := fun g xs H => match c g xs H with | some v => some v | none => d g xs H
theorem conOr_ok {ρ : Env} {c d : ConF} (hc : ConOk Tryd.prog ρ c) (hd : ConOk Tryd.prog ρ d) : ConOk Tryd.prog ρ (conOr c d) := by
  intro g xs H v h
  unfold conOr at h
  split at h
  · rename_i u hu
    cases h
    exact hc g xs H _ hu
  · exact hd g xs H v h
def litB (l : List Nat) : List SV := l.map fun x : Nat => .int .u8 (.lit (x : Int))
def wNode : List Int := [115, 116, 114, 111, 110, 103, 114, 111, 111, 109, 32, 110, 111, 100, 101]
def wPad : List Int := [115, 116, 114, 111, 110, 103, 114, 111, 111, 109, 32, 112, 97, 100]
def num8 (n : Int) : List Int := [0, 0, 0, 0, 0, 0, 0, n]
def ndB (l r : List Int) : List Int := num8 15 ++ (wNode ++ (num8 32 ++ (l ++ (num8 32 ++ r))))
def ndL (l r : List Int) : List Int := digL (ndB l r)
def pdB (x : Nat) : List Int := num8 14 ++ (wPad ++ (num8 4 ++ bigL 4 x))
def pdL (x : Nat) : List Int := digL (pdB x)
def ByI (l : List Int) : Prop := ∀ x ∈ l, 0 ≤ x ∧ x < 256
def D32 (l : List Int) : Prop := l.length = 32 ∧ ByI l
def tellSl : SV → Option (Nat × Nat × Nat)
  | .sl n o len cap => if len ≤ cap ∧ cap ≤ 100000 then some (n, o, len) else none
  | _ => none
theorem tellSl_ok {ρ : Env} {ms : List Nat} {s : SV} {n o len : Nat} (h : tellSl s = some (n, o, len)) {u : Value} (hu : s.inst ρ ms = some u) : ∃ b c, ms[n]? = some b ∧ u = .slice (some ⟨b, o, none⟩) len c ∧ len ≤ c ∧ c ≤ 100000 := by
  unfold tellSl at h
  split at h
  case h_2 => cases h
  rename_i n' o' len' cap
  split at h <;> cases h
  rename_i hc
  simp only [SV.inst, Option.map_eq_some_iff] at hu
  obtain ⟨b, h1, rfl⟩ := hu
  exact ⟨b, cap, h1, rfl, hc⟩
def toldAt (H : List Blk) (s : SV) : Option (List SV) := (tellSl s).bind fun x => span H x.1 x.2.1 x.2.2
theorem toldAt_ok {ρ : Env} {ms : List Nat} {H : List Blk} {B : Nat} {w : World} (hH : Holds ρ ms H B w) {s : SV} {l : List SV} (h : toldAt H s = some l) {u : Value} (hu : s.inst ρ ms = some u) :
    ∃ (b o c : Nat) (vs : List Value), u = .slice (some ⟨b, o, none⟩) vs.length c ∧ vs.length ≤ c ∧ c ≤ 100000 ∧ l.map (SV.inst ρ ms) = vs.map some ∧ ∀ j v, vs[j]? = some v → w.cell? ⟨b, o + j, none⟩ = some v := by
  unfold toldAt at h
  rw [Option.bind_eq_some_iff] at h
  obtain ⟨⟨n, o, len⟩, h1, h2⟩ := h
  obtain ⟨b, c, hb, rfl, hc1, hc2⟩ := tellSl_ok h1 hu
  obtain ⟨vs, r1, r2, r3⟩ := span_ok ((hH.sees n).at _ _) hb h2
  dsimp only at r2
  subst r2
  exact ⟨b, o, c, vs, rfl, hc1, hc2, r1, r3⟩
def conSum (exp : List SV) (o : Nat) : ConF := fun g xs H =>
  if g = 35 then
    match xs with
    | [.tv (.sc s)] =>
      match toldAt H s with
      | some [t] => match toldAt H t with
        | some l => if l = exp ∧ hasK H = true then some (.tv (.agg ((List.range 32).map fun i => .int .u8 (.var (o + i))))) else none
        | none => none
      | _ => none
    | _ => none
  else none
theorem conSum_ok {ρ : Env} {exp : List SV} {o : Nat} {m : List Int} (hm : ByI m) (hl : m.length ≤ 1000) (hexp : ∀ ms, exp.map (SV.inst ρ ms) = (m.map (Value.int .u8)).map some) (hout : ∀ i, i < 32 → ρ.int (o + i) = (digL m).getD i 0) : ConOk Tryd.prog ρ (conSum exp o) := by
  intro g xs H v h ms B w args ha hH
  unfold conSum at h
  split at h
  case isFalse => cases h
  rename_i hg
  subst hg
  split at h
  case h_2 => cases h
  rename_i s
  split at h
  case h_2 => cases h
  rename_i t h1
  split at h
  case h_2 => cases h
  rename_i l h2
  split at h <;> cases h
  rename_i hc
  obtain ⟨rfl, hK⟩ := hc
  obtain ⟨al⟩ := args
  obtain ⟨u, rfl, hau⟩ : ∃ u, al = [u] ∧ s.inst ρ ms = some u := by
    cases al with
    | nil => simp at ha
    | cons u r =>
      cases r with
      | cons _ _ => simp at ha
      | nil =>
        simp only [List.map_cons, List.map_nil, List.cons.injEq, and_true, AV.inst, TV.inst] at ha
        exact ⟨u, rfl, ha⟩
  obtain ⟨b, off, c, vs, rfl, hc1, hc2, r1, r3⟩ := toldAt_ok hH h1 hau
  obtain ⟨u2, rfl⟩ : ∃ u2, vs = [u2] := by
    cases vs with
    | nil => simp at r1
    | cons u2 r => cases r with
      | nil => exact ⟨u2, rfl⟩
      | cons _ _ => simp at r1
  simp only [List.map_cons, List.map_nil, List.cons.injEq, and_true] at r1
  obtain ⟨b2, off2, c2, vs2, rfl, hd1, hd2, q1, q3⟩ := toldAt_ok hH h2 r1
  have e : vs2 = m.map (Value.int .u8) := by
    have := hexp ms
    rw [q1] at this
    exact List.map_inj_right (fun _ _ h => Option.some.inj h) |>.1 this
  subst e
  simp only [List.length_map] at hd1 q3 r3
  have hHB : HB w (.slice (some ⟨b2, off2, none⟩) m.length c2) m := ⟨⟨_, c2, rfl, hd1, by unfold maxLen; omega, (fun e => by cases e), fun _ => ⟨b2, off2, rfl, fun j hj => q3 j _ (by simp [List.getD, List.getElem?_eq_getElem hj])⟩⟩, hm⟩
  have hHL : HL w (.slice (some ⟨b, off, none⟩) 1 c) [m] := ⟨_, c, rfl, hc1, by unfold maxLen; omega, (fun e => by cases e), fun _ => ⟨b, off, rfl, fun j hj => by
    have hj0 : j = 0 := by simp at hj; omega
    subst hj0
    exact ⟨_, r3 0 _ rfl, hHB⟩⟩⟩
  refine (sums_any w _ [m] hHL (hasK_ok hH hK) (by simp; omega)).mono fun e w' ⟨r1, r2⟩ => ⟨_, r1, ?_, r2⟩
  simp only [AV.inst, TV.inst, List.flatten_cons, List.flatten_nil, List.append_nil]
  rw [(seqO_iff _ ((digL m).map (Value.int .u8))).2 ?_]
  · rfl
  · rw [List.map_map, List.map_map]
    refine List.ext_getElem (by simp [digL_length]) fun i h1 h2 => ?_
    have hi : i < 32 := by simpa using h1
    have hi2 : i < (digL m).length := by rw [digL_length]; exact hi
    simp only [List.getElem_map, List.getElem_range, Function.comp, SV.inst, Ex.den, hout i hi]
    simp [List.getD, List.getElem?_eq_getElem hi2]
def vI (o n : Nat) : List SV := (List.range n).map fun i => .int .u8 (.var (o + i))
def lI (l : List Int) : List SV := l.map fun x => .int .u8 (.lit x)
theorem lI_inst (ρ : Env) (ms : List Nat) (l : List Int) : (lI l).map (SV.inst ρ ms) = (l.map (Value.int .u8)).map some := by simp [lI, SV.inst, Ex.den]
theorem vI_inst (ρ : Env) (ms : List Nat) (o n : Nat) (l : List Int) (hl : l.length = n) (h : ∀ i, i < n → ρ.int (o + i) = l.getD i 0) : (vI o n).map (SV.inst ρ ms) = (l.map (Value.int .u8)).map some := by
  unfold vI
  rw [List.map_map, List.map_map]
  refine List.ext_getElem (by simp [hl]) fun i h1 h2 => ?_
  have hi : i < n := by simpa using h1
  have hi2 : i < l.length := by omega
  simp only [List.getElem_map, List.getElem_range, Function.comp, SV.inst, Ex.den, h i hi]
  simp [List.getD, List.getElem?_eq_getElem hi2]
theorem agg_inst {ρ : Env} {ms : List Nat} {s : List SV} {l : List Int} (h : s.map (SV.inst ρ ms) = (l.map (Value.int .u8)).map some) : (AV.tv (.agg s)).inst ρ ms = some (.agg (cellsB l)) := by
  simp only [AV.inst, TV.inst]
  rw [(seqO_iff _ _).2 h]
  rfl
def envN (l r : List Int) : Env := ⟨fun i => if i < 32 then l.getD i 0 else if i < 64 then r.getD (i - 32) 0 else (ndL l r).getD (i - 64) 0, fun _ => .tuple #[], fun _ _ _ => 0⟩
def expN : List SV := lI (num8 15) ++ (lI wNode ++ (lI (num8 32) ++ (vI 0 32 ++ (lI (num8 32) ++ vI 32 32))))
theorem expN_inst {l r : List Int} (hl : D32 l) (hr : D32 r) (ms : List Nat) : expN.map (SV.inst (envN l r) ms) = ((ndB l r).map (Value.int .u8)).map some := by
  unfold expN ndB
  simp only [List.map_append, lI_inst]
  rw [vI_inst (envN l r) ms 0 32 l hl.1 (fun i hi => by simp [envN, hi]), vI_inst (envN l r) ms 32 32 r hr.1 (fun i hi => by
    simp only [envN]
    rw [if_neg (by omega), if_pos (by omega), show 32 + i - 32 = i by omega])]
theorem ndB_byt {l r : List Int} (hl : D32 l) (hr : D32 r) : ByI (ndB l r) := by
  have k : ∀ l : List Int, (l.all fun x => decide (0 ≤ x ∧ x < 256)) = true → ByI l := fun l h x hx => by simpa using List.all_eq_true.1 h x hx
  have a : ∀ a b : List Int, ByI a → ByI b → ByI (a ++ b) := fun a b ha hb x hx => (List.mem_append.1 hx).elim (ha x) (hb x)
  exact a _ _ (k _ (by decide)) (a _ _ (k _ (by decide)) (a _ _ (k _ (by decide)) (a _ _ hl.2 (a _ _ (k _ (by decide)) hr.2))))
theorem node_ev : evCallF Tryd.prog noLore (conSum expN 64) 100 56 [.tv (.agg (vI 0 32)), .tv (.agg (vI 32 32))] HK = some (.tv (.agg (vI 64 32)), HK) := by kernel_rfl
theorem node_any (w : World) (l r : List Int) (hl : D32 l) (hr : D32 r) (hk : KC w) : Calls Tryd.prog 56 #[.agg (cellsB l), .agg (cellsB r)] w fun e w' => e = .returned (.agg (cellsB (ndL l r))) ∧ Below w.heap.size w w' := by
  have hcon : ConOk Tryd.prog (envN l r) (conSum expN 64) := conSum_ok (m := ndB l r) (ndB_byt hl hr) (by simp [ndB, num8, wNode, hl.1, hr.1]) (expN_inst hl hr) (fun i hi => by
    simp only [envN]
    rw [if_neg (by omega), if_neg (by omega), show 64 + i - 64 = i by omega]
    rfl)
  refine (calls_of_evHF (noLore_ok (envN l r)) hcon mixedOrders 100 node_ev (args := #[.agg (cellsB l), .agg (cellsB r)]) w ?_ (holdsK (envN l r) w hk)).mono ?_
  · simp only [List.map_cons, List.map_nil]
    rw [agg_inst (vI_inst (envN l r) ms0 0 32 l hl.1 (fun i hi => by simp [envN, hi])), agg_inst (vI_inst (envN l r) ms0 32 32 r hr.1 (fun i hi => by
      simp only [envN]
      rw [if_neg (by omega), if_pos (by omega), show 32 + i - 32 = i by omega]))]
  · rintro e w' ⟨ms, u, rfl, _, h1, _, h3⟩
    rw [agg_inst (vI_inst (envN l r) ms 64 32 (ndL l r) (digL_length _) (fun i hi => by
      simp only [envN]
      rw [if_neg (by omega), if_neg (by omega), show 64 + i - 64 = i by omega]))] at h1
    simp only [Option.some.injEq] at h1
    rw [← h1]
    exact ⟨rfl, h3⟩
def envP (x : Nat) : Env := ⟨fun i => if i = 0 then (x : Int) else (pdL x).getD (i - 1) 0, fun _ => .tuple #[], fun _ _ _ => 0⟩
def bigE : List SV := [.int .u8 (.con .u8 (.shr (.con .u64 (.var 0)) 24)), .int .u8 (.con .u8 (.shr (.con .u64 (.var 0)) 16)), .int .u8 (.con .u8 (.shr (.con .u64 (.var 0)) 8)), .int .u8 (.con .u8 (.con .u64 (.var 0)))]
def expP : List SV := lI (num8 14) ++ (lI wPad ++ (lI (num8 4) ++ bigE))
theorem bigE_inst (x : Nat) (hx : x < 4294967296) (ms : List Nat) : bigE.map (SV.inst (envP x) ms) = ((bigL 4 x).map (Value.int .u8)).map some := by
  have e0 : IntKind.u64.wrap (x : Int) = (x : Int) := by rw [IntKind.wrap_u64]; omega
  have f : ∀ k : Nat, ((x : Int).fdiv (2 ^ k)) = ((x / 2 ^ k : Nat) : Int) := fun k => by
    rw [show (2 : Int) ^ k = ((2 ^ k : Nat) : Int) by simp, Int.ofNat_fdiv]
  have g : ∀ n : Nat, IntKind.u8.wrap (n : Int) = ((n % 256 : Nat) : Int) := fun n => by rw [IntKind.wrap_u8]; rfl
  simp only [bigE, bigL, List.map_cons, List.map_nil, SV.inst, Ex.den, envP, if_pos, e0, f, g, Nat.pow_zero, Nat.div_one]
theorem expP_inst (x : Nat) (hx : x < 4294967296) (ms : List Nat) : expP.map (SV.inst (envP x) ms) = ((pdB x).map (Value.int .u8)).map some := by
  unfold expP pdB
  simp only [List.map_append, lI_inst]
  rw [bigE_inst x hx]
theorem pdB_byt (x : Nat) : ByI (pdB x) := by
  have k : ∀ l : List Int, (l.all fun x => decide (0 ≤ x ∧ x < 256)) = true → ByI l := fun l h x hx => by simpa using List.all_eq_true.1 h x hx
  have a : ∀ a b : List Int, ByI a → ByI b → ByI (a ++ b) := fun a b ha hb x hx => (List.mem_append.1 hx).elim (ha x) (hb x)
  exact a _ _ (k _ (by decide)) (a _ _ (k _ (by decide)) (a _ _ (k _ (by decide)) (bigL_byt 4 x)))
theorem pad_ev : evCallF Tryd.prog noLore (conSum expP 1) 100 16 [.tv (.sc (.int .u32 (.var 0)))] HK = some (.tv (.agg (vI 1 32)), HK) := by kernel_rfl
theorem tpad_any (w : World) (x : Nat) (hx : x < 4294967296) (hk : KC w) : Calls Tryd.prog 16 #[.int .u32 (x : Int)] w fun e w' => e = .returned (.agg (cellsB (pdL x))) ∧ Below w.heap.size w w' := by
  have hv : ∀ i, (envP x).int (1 + i) = (pdL x).getD i 0 := fun i => by
    simp only [envP]
    rw [if_neg (by omega), show 1 + i - 1 = i by omega]
  have hcon : ConOk Tryd.prog (envP x) (conSum expP 1) := conSum_ok (m := pdB x) (pdB_byt x) (by simp [pdB, num8, wPad, bigL_length]) (expP_inst x hx) (fun i _ => hv i)
  refine (calls_of_evHF (noLore_ok (envP x)) hcon mixedOrders 100 pad_ev (args := #[.int .u32 (x : Int)]) w ?_ (holdsK (envP x) w hk)).mono ?_
  · simp [AV.inst, TV.inst, SV.inst, Ex.den, envP]
  · rintro e w' ⟨ms, u, rfl, _, h1, _, h3⟩
    rw [agg_inst (vI_inst (envP x) ms 1 32 (pdL x) (digL_length _) (fun i _ => hv i))] at h1
    simp only [Option.some.injEq] at h1
    rw [← h1]
    exact ⟨rfl, h3⟩
theorem digL_byt (m : List Int) : ByI (digL m) := by
  intro x hx
  unfold digL at hx
  obtain ⟨y, _, h⟩ := List.mem_flatMap.1 hx
  exact bigL_byt _ _ x h
theorem ndL_D (l r : List Int) : D32 (ndL l r) := ⟨digL_length _, digL_byt _⟩
theorem pdL_D (x : Nat) : D32 (pdL x) := ⟨digL_length _, digL_byt _⟩
end Go.Proofs.YtokamemkfgpfpaaDoor
namespace Go.Proofs.YtokamemkfgpfpaaDoor
open Go.RowKit
def strI (s : ByteArray) : List Int := s.data.toList.map fun b => ((b.toNat : Nat) : Int)
theorem strI_length (s : ByteArray) : (strI s).length = s.size := by
  unfold strI
  rw [List.length_map, Array.length_toList]
  rfl
theorem wpList_bytes_str {ops : Array Oper} {rest : List Oper} {o : Oper} {a : Act} {w : World} {Q : Exit → Act → World → Prop} (hgd : o.guard = none) (x : Operand) (ho : o.op = .convert 9 30 x) (s : ByteArray) (hx : a.eval x = .string s) (hs : s.size ≤ 1000)
    (h : ∀ v' w', HB w' v' (strI s) → Below w.heap.size w w' → wpList Tryd.prog ops Q rest (a.put o.dst v') w') : wpList Tryd.prog ops Q (o :: rest) a w :=
  wpList_plain hgd fun _ hK => by
    have hr := run_bytes_of_string (P := Tryd.prog) w 9 30 5 s Tryd.underlying9 Tryd.underlying30 Tryd.underlying5
    unfold Oper.wp
    simp only [execOp, ho, hx, Sem.run_bind, hr, Result.andThen_ok]
    have hge := grownCap_ge w s.size 0 5
    have hle := grownCap_le_maxLen w s.size 0 5 (by unfold maxLen; omega)
    refine hK _ _ (h _ _ ⟨⟨_, _, by rw [strI_length], by rw [strI_length]; exact hge, hle, (fun e => by cases e), fun _ => ⟨w.heap.size, 0, rfl, fun j hj => ?_⟩⟩, fun x hx => ?_⟩ ((Below.refl _ w).drew.alloc (Nat.le_refl _) _))
    · have hb : (w.drew.alloc (.cells (bytesRow s (grownCap w s.size 0 5)) 5 ((bytesRow s (grownCap w s.size 0 5)).size, (bytesRow s (grownCap w s.size 0 5)).size + 1))).heap[w.heap.size]? = some (.cells (bytesRow s (grownCap w s.size 0 5)) 5 ((bytesRow s (grownCap w s.size 0 5)).size, (bytesRow s (grownCap w s.size 0 5)).size + 1)) := heap_alloc_new w.drew _
      rw [cell_of_row _ _ _ _ _ _ hb]
      have hj2 : j < s.data.size := by rw [strI_length] at hj; exact hj
      have hj3 : j < s.size := hj2
      simp [bytesRow, Array.getElem?_append, hj3, strI, List.getD, Array.getElem?_eq_getElem hj2]
    · unfold strI at hx
      obtain ⟨b, _, rfl⟩ := List.mem_map.1 hx
      have := b.toNat_lt
      omega
def snode : ByteArray := ⟨((if 6 = 6 then wNode else wPad).map fun x => UInt8.ofNat x.toNat).toArray⟩
theorem snode_strI : strI snode = if 6 = 6 then wNode else wPad := by decide
set_option maxRecDepth 100000 in
set_option maxHeartbeats 1000000 in
theorem rword_node (w : World) : Calls Tryd.prog 27 #[.int .u8 6] w fun e w' => e = .returned (.string snode) ∧ w' = w := by
  go_enter Tryd.func27, Tryd.ntmps27
  go_wp2
  go_ret
  exact ⟨rfl, rfl⟩
def spad : ByteArray := ⟨((if 7 = 6 then wNode else wPad).map fun x => UInt8.ofNat x.toNat).toArray⟩
theorem spad_strI : strI spad = if 7 = 6 then wNode else wPad := by decide
set_option maxRecDepth 100000 in
set_option maxHeartbeats 1000000 in
theorem rword_pad (w : World) : Calls Tryd.prog 27 #[.int .u8 7] w fun e w' => e = .returned (.string spad) ∧ w' = w := by
  go_enter Tryd.func27, Tryd.ntmps27
  go_wp2
  go_ret
  exact ⟨rfl, rfl⟩
set_option maxRecDepth 100000 in
set_option maxHeartbeats 1000000 in
theorem rfits_node (w : World) (v : Value) (l r : List Int) (h : HL w v [l, r]) (hl : l.length = 32) (hr : r.length = 32) : Calls Tryd.prog 41 #[.int .u8 6, v] w fun e w' => e = .returned (.bool true) ∧ w' = w := by
  obtain ⟨b, off, c, rfl, hc1, hc2, hh⟩ := h.ne (by simp)
  obtain ⟨u0, h0, hb0⟩ := hh 0 (by simp)
  obtain ⟨u1, h1, hb1⟩ := hh 1 (by simp)
  obtain ⟨p0, c0, rfl, _, _⟩ := hb0.open
  obtain ⟨p1, c1, rfl, _, _⟩ := hb1.open
  simp only [List.getD_cons_zero, List.getD_cons_succ, hl, hr, List.length_cons, List.length_nil, Nat.add_zero, Nat.zero_add, Nat.reduceAdd] at h0 h1 ⊢
  clear hh hb0 hb1 h
  go_enter Tryd.func41, Tryd.ntmps41
  go_wp2
  go_ret
  exact ⟨rfl, rfl⟩
set_option maxRecDepth 100000 in
set_option maxHeartbeats 1000000 in
theorem rfits_pad (w : World) (v : Value) (l : List Int) (h : HL w v [l]) (hl : l.length = 4) : Calls Tryd.prog 41 #[.int .u8 7, v] w fun e w' => e = .returned (.bool true) ∧ w' = w := by
  obtain ⟨b, off, c, rfl, hc1, hc2, hh⟩ := h.ne (by simp)
  obtain ⟨u0, h0, hb0⟩ := hh 0 (by simp)
  obtain ⟨p0, c0, rfl, _, _⟩ := hb0.open
  simp only [List.getD_cons_zero, List.getD_cons_succ, hl, List.length_cons, List.length_nil, Nat.add_zero, Nat.zero_add, Nat.reduceAdd] at h0 ⊢
  clear hh hb0 h
  go_enter Tryd.func41, Tryd.ntmps41
  go_wp2
  go_ret
  exact ⟨rfl, rfl⟩
def frK (wd : List Int) (ps : List (List Int)) (k : Nat) : List Int := framed (wd :: ps.take k)
theorem frK_zero (wd : List Int) (ps : List (List Int)) : frK wd ps 0 = fr1 wd := by simp [frK, framed, pcs, fr1]
theorem frK_snoc (wd : List Int) (ps : List (List Int)) (k : Nat) (hk : k < ps.length) : frK wd ps (k + 1) = frK wd ps k ++ fr1 (ps.getD k []) := by
  unfold frK framed
  rw [List.take_succ_eq_append_getElem hk]
  have e : ps.getD k [] = ps[k] := by simp [List.getD, List.getElem?_eq_getElem hk]
  rw [e]
  simp only [pcs, fr1, List.flatMap_cons, List.flatMap_append, List.flatMap_nil, List.flatten_append, List.flatten_cons, List.flatten_nil, List.append_nil, List.append_assoc, List.cons_append, List.nil_append]
theorem frK_all (wd : List Int) (ps : List (List Int)) : frK wd ps ps.length = framed (wd :: ps) := by simp [frK]
theorem frK_le (wd : List Int) (ps : List (List Int)) (k : Nat) : (frK wd ps k).length ≤ wd.length + 8 + (ps.flatten.length + 8 * ps.length) := by
  unfold frK
  rw [framed_length]
  have := flat_take_le ps k
  simp only [List.flatten_cons, List.length_append, List.length_cons, List.length_take]
  omega
theorem framed_byt : ∀ (ps : List (List Int)), (∀ l ∈ ps, ∀ x ∈ l, 0 ≤ x ∧ x < 256) → ∀ x ∈ framed ps, 0 ≤ x ∧ x < 256 := by
  intro ps h x hx
  unfold framed pcs at hx
  obtain ⟨l, h1, h2⟩ := List.mem_flatten.1 hx
  obtain ⟨q, h3, h4⟩ := List.mem_flatMap.1 h1
  simp only [List.mem_cons, List.not_mem_nil, or_false] at h4
  rcases h4 with rfl | rfl
  · exact bigL_byt _ _ x h2
  · exact h _ h3 x h2
set_option maxRecDepth 100000 in
set_option maxHeartbeats 2000000 in
theorem rbytes_node (w : World) (v : Value) (ps : List (List Int)) (h : HL w v ps) (hF : ∀ w', Below w.heap.size w w' → Calls Tryd.prog 41 #[.int .u8 6, v] w' fun e w'' => e = .returned (.bool true) ∧ w'' = w') (hbig : ps.flatten.length + 8 * ps.length ≤ 100000000000000) :
    Calls Tryd.prog 19 #[.int .u8 6, v] w fun e w' => ∃ v', e = .returned (.tuple #[v', .int .i64 0]) ∧ w'.ownsRow w.heap.size 5 1 v' (framed (strI snode :: ps)).length ((framed (strI snode :: ps)).map (Value.int .u8)) ∧ Below w.heap.size w w' := by
  have hsz : snode.size ≤ 1000 := by decide
  have hse : snode.toList.isEmpty = false := by decide +kernel
  have A0 := hid h
  obtain ⟨p, c, e, hlc, hm⟩ := h.open
  unfold maxLen at hm
  have A : Hid (0 < ps.length → ∃ b off, p = some ⟨b, off, none⟩ ∧ ∀ j, j < ps.length → ∃ u, w.cell? ⟨b, off + j, none⟩ = some u ∧ HB w u (ps.getD j [])) := by
    intro h0
    obtain ⟨b, off, c', e', _, _, hh⟩ := h.ne h0
    rw [e] at e'
    simp only [Value.slice.injEq, true_and] at e'
    exact ⟨b, off, e'.1, hh⟩
  have HF := hid hF
  obtain ⟨n, HN⟩ : ∃ n, Hid (ps.length = n) := ⟨_, rfl⟩
  have HBig := hid hbig
  rw [HN.out] at e hlc hbig
  subst e
  clear h hF
  go_enter Tryd.func19, Tryd.ntmps19
  go_wp2_with fail
  refine (rword_node _).mono ?_
  rintro e w1 ⟨rfl, rfl⟩
  go_wp2_with fail
  refine (HF.out _ (Below.refl _ _)).mono ?_
  rintro e w2 ⟨rfl, rfl⟩
  go_wp2_with fail
  refine (rword_node _).mono ?_
  rintro e w3 ⟨rfl, rfl⟩
  go_wp2_with (refine wpList_bytes_str rfl _ rfl snode rfl hsz ?_)
  intro v4 w4 hb4 hB4
  have HB4 := hid hb4
  have BL4 := hid hB4
  clear hb4 hB4
  go_wp2_with fail
  refine (rframe_any w4 v4 _ HB4.out (by rw [strI_length]; omega)).mono ?_
  rintro e w5 ⟨v5, rfl, ho5, hB5⟩
  have HO5 : Hid (w5.ownsRow w3.heap.size 5 1 v5 (frK (strI snode) ps 0).length ((frK (strI snode) ps 0).map (Value.int .u8))) := by
    rw [frK_zero]
    exact own_mono ho5 BL4.out.size
  have BL5 := hid (BL4.out.trans (hB5.mono BL4.out.size))
  clear ho5 hB5
  go_wp2
  go_loopw [6, 7] (fun o i wr => ∃ k : Nat, k ≤ n ∧ i = .int .i64 k ∧ Hid (wr.ownsRow w3.heap.size 5 1 o (frK (strI snode) ps k).length ((frK (strI snode) ps k).map (Value.int .u8))) ∧ Hid (Below w3.heap.size w3 wr)) (fun _ i _ => n - (intOf i).toNat)
  case atStart => exact ⟨0, Nat.zero_le _, rfl, HO5, BL5⟩
  case round =>
    obtain ⟨k, hk, rfl, HO, HBel⟩ := hrel
    by_cases hlt : k < n
    · obtain ⟨b, off, rfl, hh⟩ := A.out (by rw [HN.out]; omega)
      obtain ⟨u, hu0, hb⟩ := hh k (by rw [HN.out]; exact hlt)
      have hu : wr.cell? ⟨b, off + k, none⟩ = some u := (HBel.out.cell (World.block_lt_of_cell? w3 _ hu0)).trans hu0
      have HBu := hid (hb.below HBel.out)
      have hls : (ps.getD k []).length ≤ 100000000000000 := by
        have h1 := flat_take_le ps (k + 1)
        rw [flat_snoc ps k (by rw [HN.out]; exact hlt), List.length_append] at h1
        have := HBig.out
        omega
      have HS := hid (frK_snoc (strI snode) ps k (by rw [HN.out]; exact hlt))
      have HLe := hid (frK_le (strI snode) ps (k + 1))
      rw [HS.out, List.length_append, strI_length] at HLe
      clear hh hb hu0
      go_wp2_with fail
      refine (rframe_any wr u _ HBu.out (by omega)).mono ?_
      rintro e w6 ⟨v6, rfl, ho6, hB6⟩
      have HB6 : Hid (HB w6 v6 (fr1 (ps.getD k []))) := HB.of_own ho6 (fr1_byt HBu.out.2)
      have HO6 := hid (own_below HO.out hB6)
      have BL6 := hid (HBel.out.trans (hB6.mono HBel.out.size))
      clear ho6 hB6
      go_wp2_with (at_builtin; refine wpList_append_HB rfl _ _ rfl w3.heap.size _ _ _ rfl HO6.out _ _ rfl HB6.out ?q1 ?q2 ?_)
      case q1 => have := HLe.out; have := HBig.out; omega
      case q2 => exact BL6.out.size
      intro v7 w7 ho7 hg7
      have HO7 : Hid (w7.ownsRow w3.heap.size 5 1 v7 (frK (strI snode) ps (k + 1)).length ((frK (strI snode) ps (k + 1)).map (Value.int .u8))) := by
        rw [HS.out, List.length_append, List.map_append]
        exact ho7
      have BL7 : Hid (Below w3.heap.size w3 w7) := BL6.out.grown hg7 BL6.out.size (fun k e => (HO6.out.lt k e).1)
      clear ho7 hg7
      go_wp2
      exact ⟨⟨k + 1, by omega, by go_num, HO7, BL7⟩, by simp [intOf]; omega⟩
    · have hkn : k = ps.length := by rw [HN.out]; omega
      have HO8 := hid HO.out
      rw [hkn, frK_all] at HO8
      go_wp2
      go_ret2
      exact ⟨_, rfl, HO8.out, HBel.out⟩
set_option maxRecDepth 100000 in
set_option maxHeartbeats 2000000 in
theorem rbytes_pad (w : World) (v : Value) (ps : List (List Int)) (h : HL w v ps) (hF : ∀ w', Below w.heap.size w w' → Calls Tryd.prog 41 #[.int .u8 7, v] w' fun e w'' => e = .returned (.bool true) ∧ w'' = w') (hbig : ps.flatten.length + 8 * ps.length ≤ 100000000000000) :
    Calls Tryd.prog 19 #[.int .u8 7, v] w fun e w' => ∃ v', e = .returned (.tuple #[v', .int .i64 0]) ∧ w'.ownsRow w.heap.size 5 1 v' (framed (strI spad :: ps)).length ((framed (strI spad :: ps)).map (Value.int .u8)) ∧ Below w.heap.size w w' := by
  have hsz : spad.size ≤ 1000 := by decide
  have hse : spad.toList.isEmpty = false := by decide +kernel
  have A0 := hid h
  obtain ⟨p, c, e, hlc, hm⟩ := h.open
  unfold maxLen at hm
  have A : Hid (0 < ps.length → ∃ b off, p = some ⟨b, off, none⟩ ∧ ∀ j, j < ps.length → ∃ u, w.cell? ⟨b, off + j, none⟩ = some u ∧ HB w u (ps.getD j [])) := by
    intro h0
    obtain ⟨b, off, c', e', _, _, hh⟩ := h.ne h0
    rw [e] at e'
    simp only [Value.slice.injEq, true_and] at e'
    exact ⟨b, off, e'.1, hh⟩
  have HF := hid hF
  obtain ⟨n, HN⟩ : ∃ n, Hid (ps.length = n) := ⟨_, rfl⟩
  have HBig := hid hbig
  rw [HN.out] at e hlc hbig
  subst e
  clear h hF
  go_enter Tryd.func19, Tryd.ntmps19
  go_wp2_with fail
  refine (rword_pad _).mono ?_
  rintro e w1 ⟨rfl, rfl⟩
  go_wp2_with fail
  refine (HF.out _ (Below.refl _ _)).mono ?_
  rintro e w2 ⟨rfl, rfl⟩
  go_wp2_with fail
  refine (rword_pad _).mono ?_
  rintro e w3 ⟨rfl, rfl⟩
  go_wp2_with (refine wpList_bytes_str rfl _ rfl spad rfl hsz ?_)
  intro v4 w4 hb4 hB4
  have HB4 := hid hb4
  have BL4 := hid hB4
  clear hb4 hB4
  go_wp2_with fail
  refine (rframe_any w4 v4 _ HB4.out (by rw [strI_length]; omega)).mono ?_
  rintro e w5 ⟨v5, rfl, ho5, hB5⟩
  have HO5 : Hid (w5.ownsRow w3.heap.size 5 1 v5 (frK (strI spad) ps 0).length ((frK (strI spad) ps 0).map (Value.int .u8))) := by
    rw [frK_zero]
    exact own_mono ho5 BL4.out.size
  have BL5 := hid (BL4.out.trans (hB5.mono BL4.out.size))
  clear ho5 hB5
  go_wp2
  go_loopw [6, 7] (fun o i wr => ∃ k : Nat, k ≤ n ∧ i = .int .i64 k ∧ Hid (wr.ownsRow w3.heap.size 5 1 o (frK (strI spad) ps k).length ((frK (strI spad) ps k).map (Value.int .u8))) ∧ Hid (Below w3.heap.size w3 wr)) (fun _ i _ => n - (intOf i).toNat)
  case atStart => exact ⟨0, Nat.zero_le _, rfl, HO5, BL5⟩
  case round =>
    obtain ⟨k, hk, rfl, HO, HBel⟩ := hrel
    by_cases hlt : k < n
    · obtain ⟨b, off, rfl, hh⟩ := A.out (by rw [HN.out]; omega)
      obtain ⟨u, hu0, hb⟩ := hh k (by rw [HN.out]; exact hlt)
      have hu : wr.cell? ⟨b, off + k, none⟩ = some u := (HBel.out.cell (World.block_lt_of_cell? w3 _ hu0)).trans hu0
      have HBu := hid (hb.below HBel.out)
      have hls : (ps.getD k []).length ≤ 100000000000000 := by
        have h1 := flat_take_le ps (k + 1)
        rw [flat_snoc ps k (by rw [HN.out]; exact hlt), List.length_append] at h1
        have := HBig.out
        omega
      have HS := hid (frK_snoc (strI spad) ps k (by rw [HN.out]; exact hlt))
      have HLe := hid (frK_le (strI spad) ps (k + 1))
      rw [HS.out, List.length_append, strI_length] at HLe
      clear hh hb hu0
      go_wp2_with fail
      refine (rframe_any wr u _ HBu.out (by omega)).mono ?_
      rintro e w6 ⟨v6, rfl, ho6, hB6⟩
      have HB6 : Hid (HB w6 v6 (fr1 (ps.getD k []))) := HB.of_own ho6 (fr1_byt HBu.out.2)
      have HO6 := hid (own_below HO.out hB6)
      have BL6 := hid (HBel.out.trans (hB6.mono HBel.out.size))
      clear ho6 hB6
      go_wp2_with (at_builtin; refine wpList_append_HB rfl _ _ rfl w3.heap.size _ _ _ rfl HO6.out _ _ rfl HB6.out ?q1 ?q2 ?_)
      case q1 => have := HLe.out; have := HBig.out; omega
      case q2 => exact BL6.out.size
      intro v7 w7 ho7 hg7
      have HO7 : Hid (w7.ownsRow w3.heap.size 5 1 v7 (frK (strI spad) ps (k + 1)).length ((frK (strI spad) ps (k + 1)).map (Value.int .u8))) := by
        rw [HS.out, List.length_append, List.map_append]
        exact ho7
      have BL7 : Hid (Below w3.heap.size w3 w7) := BL6.out.grown hg7 BL6.out.size (fun k e => (HO6.out.lt k e).1)
      clear ho7 hg7
      go_wp2
      exact ⟨⟨k + 1, by omega, by go_num, HO7, BL7⟩, by simp [intOf]; omega⟩
    · have hkn : k = ps.length := by rw [HN.out]; omega
      have HO8 := hid HO.out
      rw [hkn, frK_all] at HO8
      go_wp2
      go_ret2
      exact ⟨_, rfl, HO8.out, HBel.out⟩
set_option maxHeartbeats 1000000 in
theorem framed_big (w : World) (v : Value) (ls : List (List Int)) (h : HL w v ls) (hbig : ls.flatten.length + 8 * ls.length ≤ 140737488355328) (hcnt : ls.length ≤ 1100000) :
    Calls Tryd.prog 31 #[v] w fun e w' => ∃ v', e = .returned v' ∧ w'.ownsRow w.heap.size 5 1 v' (framed ls).length ((framed ls).map (Value.int .u8)) ∧ HB w' v' (framed ls) ∧ Below w.heap.size w w' := by
  obtain ⟨i0, hi, hz0, hz1, hz2⟩ := info_parts info_bytes
  obtain ⟨p, c, e, hlc, hm⟩ := h.open
  unfold maxLen at hm
  have A : Hid (0 < ls.length → ∃ b off, p = some ⟨b, off, none⟩ ∧ ∀ j, j < ls.length → ∃ u, w.cell? ⟨b, off + j, none⟩ = some u ∧ HB w u (ls.getD j [])) := by
    intro h0
    obtain ⟨b, off, c', e', _, _, hh⟩ := h.ne h0
    rw [e] at e'
    simp only [Value.slice.injEq, true_and] at e'
    exact ⟨b, off, e'.1, hh⟩
  clear h
  subst e
  obtain ⟨w1, hmk, hown, hgr⟩ := run_make_own (P := Tryd.prog) w w.heap.size 24 30 i0 (.slice none 0 0) 1 Tryd.underlying24 hi hz0 hz1 .i64 .i64 (2 * ls.length) (by rw [hz2]; omega) (by unfold maxLen; omega) (Nat.le_refl _)
  rw [show ((2 * ls.length : Nat) : Int) = 2 * (ls.length : Int) by omega] at hmk
  have HB1 := hid ((Below.refl _ w).grown hgr (Nat.le_refl _) (fun k e => by cases e))
  have HO1 : Hid (OWL w w1 _ []) := ⟨[], hown, fun j hj => by simp at hj⟩
  clear hown hgr
  go_enter Tryd.func31, Tryd.ntmps31
  go_wp2
  go_loopw [3, 12] (fun o i wr => ∃ k : Nat, k ≤ ls.length ∧ i = .int .i64 k ∧ Hid (OWL w wr o (pcsTo ls k)) ∧ Hid (Below w.heap.size w wr)) (fun _ i _ => ls.length - (intOf i).toNat)
  case atStart => exact ⟨0, Nat.zero_le _, rfl, HO1, HB1⟩
  case round =>
    clear HO1 HB1 hmk
    obtain ⟨k, hk, rfl, HO, HBw⟩ := hrel
    by_cases hlt : k < ls.length
    · obtain ⟨b, off, rfl, hh⟩ := A.out (by omega)
      obtain ⟨u, hu0, hb⟩ := hh k hlt
      have hu : wr.cell? ⟨b, off + k, none⟩ = some u := (HBw.out.cell (World.block_lt_of_cell? w _ hu0)).trans hu0
      have HS := hid (pcs_snoc ls k hlt)
      have hlen : (ls.getD k []).length ≤ 140737488355328 := by
        have h1 := flat_snoc ls k hlt
        have h2 := flat_take_le ls (k + 1)
        rw [h1, List.length_append] at h2
        omega
      obtain ⟨l, HLk⟩ : ∃ l, Hid (l = ls.getD k []) := ⟨_, rfl⟩
      rw [← HLk.out] at hb HS hlen
      have HU := hid hb
      obtain ⟨p2, c2, hu2, _, _⟩ := hb.open
      subst hu2
      clear hh hu0 hb
      go_wp2_with fail
      refine (big_uint64 l.length (by omega) wr).mono ?_
      rintro e w2 ⟨v2, rfl, hown2, hB2⟩
      have hO2 := HO.out.below hB2
      have hel : EL w w2 v2 (bigL 8 l.length) := .inl ⟨by rw [bigL_length]; exact own_mono hown2 HBw.out.size, bigL_byt _ _⟩
      have hBw2 : Below w.heap.size w w2 := HBw.out.trans (hB2.mono HBw.out.size)
      obtain ⟨p3, c3, e3, _, _⟩ := (hel.hb hBw2).open
      rw [bigL_length] at e3
      obtain ⟨W3, hW3⟩ : ∃ W3, W3 = w2.alloc (.cells #[v2, .slice p2 l.length c2] 30) := ⟨_, rfl⟩
      have hal : Below w2.heap.size w2 W3 := by rw [hW3]; exact (Below.refl _ _).alloc (Nat.le_refl _) _
      have HO3 := hid (hO2.below hal)
      have HE3 := hid (hel.below hal)
      have HB3 := hid (hBw2.trans (hal.mono hBw2.size))
      rw [hW3] at HO3 HE3 HB3
      clear hO2 hel hBw2 hown2 hal hW3 W3 hB2
      subst e3
      go_wp2_with (at_builtin; refine wpList_append_OWL (w0 := w) rfl _ _ rfl _ _ rfl HO3.out ⟨w2.heap.size, 0, none⟩ 2 2 [_, _] [bigL 8 l.length, l] rfl rfl rfl (cell_two_new _ _ _ _) ?q1 ?q2 ?q3 ?q4 ?_)
      case q1 =>
        intro j hj
        match j, hj with
        | 0, _ => exact HE3.out
        | 1, _ => exact .inr HU.out
      case q2 =>
        intro u hu
        simp only [List.mem_cons, List.not_mem_nil, or_false] at hu
        rcases hu with rfl | rfl <;> rfl
      case q3 => have := pcsTo_length ls k; omega
      case q4 => exact HB3.out.size
      intro v' w4 hO4 hg4 hbk
      have HO4 : Hid (OWL w w4 v' (pcsTo ls (k + 1))) := by rw [HS.out]; exact hO4
      have HB4 := hid (HB3.out.grown hg4 HB3.out.size (fun k e => (hbk k e).1))
      clear hO4 hg4 hbk
      go_wp2
      exact ⟨⟨k + 1, by omega, by go_num, HO4, HB4⟩, by simp [intOf]; omega⟩
    · have HP : Hid (pcsTo ls k = pcs ls) := by
        show _ = _
        unfold pcsTo
        rw [List.take_of_length_le (by omega)]
      have HO2 : Hid (OWL w wr u3 (pcs ls)) := by rw [← HP.out]; exact HO
      have HFl := hid (framed_length ls)
      obtain ⟨fl, HF⟩ : ∃ fl, Hid (framed ls = fl) := ⟨_, rfl⟩
      rw [HF.out] at HFl
      go_wp2_with fail
      have hHL := HO2.out.hl HBw.out
      refine (join_any wr _ (pcs ls) hHL (by have := HFl.out; rw [← HF.out] at this; unfold framed at this; omega)).mono ?_
      rintro e w2 ⟨v2, rfl, hown2, hB2⟩
      have hbt := hHL.byt
      rw [show (pcs ls).flatten = fl from HF.out] at hown2 hbt
      have H2 := hid hown2
      have Hb := hid hbt
      have HB3 := hid (HBw.out.trans (hB2.mono HBw.out.size))
      have hsz := HBw.out.size
      clear hHL hown2 hB2 hbt
      go_wp2
      go_ret
      refine ⟨_, rfl, ?_, ?_, HB3.out⟩
      · rw [HF.out]; exact own_mono H2.out hsz
      · rw [HF.out]; exact HB.of_own H2.out Hb.out
end Go.Proofs.YtokamemkfgpfpaaDoor
namespace Go.Proofs.YtokamemkfgpfpaaDoor
open Go Go.RowKit
def TagOk (t : Nat) (ls : List (List Int)) : Prop := (1 ≤ t ∧ t ≤ 9) ∧ FitQ t ls
def tagB (t : Nat) (ls : List (List Int)) : List Int := framed (strI (wS t) :: ls)
theorem wS_size (t : Nat) : (wS t).size ≤ 18 := by
  rcases tag_cases t with rfl | rfl | rfl | rfl | rfl | rfl | rfl | rfl | rfl | h
  all_goals first | (rw [(none_of h).2]; decide) | decide
theorem wS_ne {t : Nat} (h : 1 ≤ t ∧ t ≤ 9) : (wS t).toList.isEmpty = false := by
  rcases tag_cases t with rfl | rfl | rfl | rfl | rfl | rfl | rfl | rfl | rfl | h
  all_goals first | omega | decide +kernel
theorem strI_len (s : ByteArray) : (strI s).length = s.size := by unfold strI; rw [List.length_map, Array.length_toList]; rfl
theorem tagB_len (t : Nat) (ls : List (List Int)) : (tagB t ls).length ≤ ls.flatten.length + 8 * ls.length + 26 := by
  unfold tagB
  rw [framed_length, List.flatten_cons, List.length_append, List.length_cons, strI_len]
  have := wS_size t
  omega
theorem fit_ne {t : Nat} {ls : List (List Int)} (h : TagOk t ls) : 0 < ls.length ∧ ls.length ≤ 3 := by
  have h1 := h.2.1
  have h2 := bds_len t
  refine ⟨?_, by omega⟩
  have h3 : 0 < (bdsOf t).length := by
    rcases tag_cases t with rfl | rfl | rfl | rfl | rfl | rfl | rfl | rfl | rfl | q
    all_goals first | (have := h.1; omega) | decide
  omega
theorem len1 {α : Type} {l : List α} (h : l.length = 1) : ∃ a, l = [a] := by
  match l, h with
  | [a], _ => exact ⟨a, rfl⟩
theorem len2 {α : Type} {l : List α} (h : l.length = 2) : ∃ a b, l = [a, b] := by
  match l, h with
  | [a, b], _ => exact ⟨a, b, rfl⟩
theorem len3 {α : Type} {l : List α} (h : l.length = 3) : ∃ a b c, l = [a, b, c] := by
  match l, h with
  | [a, b, c], _ => exact ⟨a, b, c, rfl⟩
theorem fit_flat {t : Nat} {ls : List (List Int)} (h : TagOk t ls) (hn : ∀ l ∈ ls, l.length ≤ 140737488351232) : ls.flatten.length ≤ 140737488351232 := by
  obtain ⟨h0, h1, h2⟩ := h
  have one : ls.length = 1 → ls.flatten.length ≤ 140737488351232 := fun h => by
    obtain ⟨a, rfl⟩ := len1 h
    simpa using hn a (by simp)
  rcases tag_cases t with rfl | rfl | rfl | rfl | rfl | rfl | rfl | rfl | rfl | q
  · obtain ⟨a, b, c, rfl⟩ := len3 (show ls.length = 3 from h1)
    have e0 := h2 0 (by simp)
    have e1 := h2 1 (by simp)
    have e2 := h2 2 (by simp)
    simp [bdsOf, Bd.ok] at e0 e1 e2
    simp
    omega
  · exact one h1
  · exact one h1
  · exact one h1
  · exact one h1
  · obtain ⟨a, b, rfl⟩ := len2 (show ls.length = 2 from h1)
    have e0 := h2 0 (by simp)
    have e1 := h2 1 (by simp)
    simp [bdsOf, Bd.ok] at e0 e1
    simp
    omega
  · exact one h1
  · exact one h1
  · obtain ⟨a, b, rfl⟩ := len2 (show ls.length = 2 from h1)
    have e0 := h2 0 (by simp)
    have e1 := h2 1 (by simp)
    simp [bdsOf, Bd.ok] at e0 e1
    simp
    omega
  · omega
theorem HL.vals {w : World} {v : Value} {ls : List (List Int)} (h : HL w v ls) (h0 : 0 < ls.length) : ∃ (b off c : Nat) (us : List Value), v = .slice (some ⟨b, off, none⟩) ls.length c ∧ us.length = ls.length ∧ (∀ j u, us[j]? = some u → w.cell? ⟨b, off + j, none⟩ = some u) ∧ ∀ j, j < ls.length → HB w (us.getD j undef) (ls.getD j []) := by
  obtain ⟨p, c, rfl, _, _⟩ := h.open
  obtain ⟨b, off, rfl, hq⟩ := h.at5 h0
  let f : Nat → Value := fun j => if hj : j < ls.length then Classical.choose (hq j hj) else undef
  have hf : ∀ j, j < ls.length → w.cell? ⟨b, off + j, none⟩ = some (f j) ∧ HB w (f j) (ls.getD j []) := fun j hj => by
    simp only [f, hj, dif_pos]
    exact Classical.choose_spec (hq j hj)
  refine ⟨b, off, c, (List.range ls.length).map f, rfl, by simp, fun j u hu => ?_, fun j hj => ?_⟩
  · rw [List.getElem?_map, Option.map_eq_some_iff] at hu
    obtain ⟨k, hk, rfl⟩ := hu
    rw [List.getElem?_eq_some_iff] at hk
    obtain ⟨hk1, hk2⟩ := hk
    simp at hk1 hk2
    subst hk2
    exact (hf j hk1).1
  · have e : ((List.range ls.length).map f).getD j undef = f j := by simp [List.getD, hj]
    rw [e]
    exact (hf j hj).2
theorem HB.one {w : World} {v : Value} {l : List Int} (h : HB w v l) : v.oneCell' = true := by
  obtain ⟨p, c, rfl, _, _⟩ := h.open
  rfl
def TyQ (t : Nat) (ls : List (List Int)) (w : World) (v : Value) (E : Int) : Prop := (E = 0 ∧ TagOk t ls ∧ HB w v (tagB t ls)) ∨ (E ≠ 0 ∧ ¬ TagOk t ls ∧ v = .slice none 0 0)
set_option maxRecDepth 100000 in
set_option maxHeartbeats 4000000 in
theorem tbytes_any (w : World) (t : Nat) (v : Value) (ls : List (List Int)) (h : HL w v ls) (hn : ∀ l ∈ ls, l.length ≤ 140737488351232) : Calls Tryd.prog 11 #[.int .u8 (t : Int), v] w fun e w' => ∃ v' E, e = .returned (.tuple #[v', .int .i64 E]) ∧ TyQ t ls w' v' E ∧ Below w.heap.size w w' := by
  have C1 := hid fun w => word_tag w t
  have HH := hid h
  have C2 := hid (fit_any w t v ls h)
  have HN := hid hn
  have hs1 : (wS t).size ≤ 1000 := by have := wS_size t; omega
  have TB : Hid (tagB t ls = framed (strI (wS t) :: ls)) := hid rfl
  have LB : Hid ((strI (wS t)).length ≤ 18) := hid (by rw [strI_len]; exact wS_size t)
  by_cases ht : 1 ≤ t ∧ t ≤ 9
  case neg =>
    have he := (none_of (t := t) (by omega)).2
    have hno : Hid (¬ TagOk t ls) := hid fun q => ht q.1
    rw [he] at C1
    clear h hs1 TB LB he
    obtain ⟨p, c, rfl, _, _⟩ := HH.out.open
    go_enter Tryd.func11, Tryd.ntmps11
    go_wp2_with fail
    refine (C1.out w).mono ?_
    rintro e w1 ⟨rfl, rfl⟩
    go_wp2
    go_ret2
    exact ⟨_, _, rfl, .inr ⟨by decide, hno.out, rfl⟩, Below.refl _ _⟩
  case pos =>
    have hse := wS_ne ht
    obtain ⟨sb, HSB⟩ : ∃ x, Hid (wS t = x) := ⟨_, rfl⟩
    rw [HSB.out] at C1 hs1 hse TB LB
    have TO : Hid (TagOk t ls ↔ FitQ t ls) := hid ⟨fun q => q.2, fun q => ⟨ht, q⟩⟩
    have FNE : Hid (TagOk t ls → 0 < ls.length ∧ ls.length ≤ 3) := hid fit_ne
    by_cases hf : FitQ t ls
    case neg =>
      rw [decide_eq_false hf] at C2
      have hno : Hid (¬ TagOk t ls) := hid fun q => hf q.2
      clear hf h hn
      obtain ⟨p, c, rfl, _, _⟩ := HH.out.open
      go_enter Tryd.func11, Tryd.ntmps11
      go_wp2_with fail
      refine (C1.out w).mono ?_
      rintro e w1 ⟨rfl, rfl⟩
      clear C1
      go_wp2_with fail
      refine C2.out.mono ?_
      rintro e w2 ⟨rfl, hb2⟩
      have B2 := hid hb2
      clear hb2 C2
      go_wp2
      go_ret2
      exact ⟨_, _, rfl, .inr ⟨by decide, hno.out, rfl⟩, B2.out⟩
    case pos =>
      rw [decide_eq_true hf] at C2
      have YES := hid (TO.out.2 hf)
      obtain ⟨h0, h3⟩ := FNE.out YES.out
      obtain ⟨b, off, c, us, rfl, hul, huc, hub⟩ := h.vals h0
      have HUC := hid huc
      have HUB := hid hub
      have HUL := hid hul
      have H03 := hid (And.intro h0 h3)
      clear hf h hn hul huc hub h0 h3 TO FNE ht
      obtain ⟨n, Hn⟩ : ∃ x, Hid (ls.length = x) := ⟨_, rfl⟩
      rw [Hn.out] at C2 HUL
      rw [Hn.out]
      go_enter Tryd.func11, Tryd.ntmps11
      go_wp2_with fail
      refine (C1.out w).mono ?_
      rintro e w1 ⟨rfl, rfl⟩
      clear C1
      go_wp2_with fail
      refine C2.out.mono ?_
      rintro e w2 ⟨rfl, hb2⟩
      have B2 := hid hb2
      clear hb2 C2
      go_wp2_with (first | (refine wpList_bytes_str rfl _ rfl sb rfl hs1 (fun v3 w3 hv3 hb3 => Hid.out ?_)) | fail)
      obtain ⟨wl, HWL⟩ : ∃ x, Hid (strI sb = x) := ⟨_, rfl⟩
      rw [HWL.out] at hv3 TB LB
      have B3 := hid (B2.out.trans (hb3.mono B2.out.size))
      have V3 := hid hv3
      obtain ⟨p3, c3, rfl, _, _⟩ := hv3.open
      obtain ⟨zl, Hzl⟩ : ∃ x, Hid (wl.length = x) := ⟨_, rfl⟩
      rw [Hzl.out] at V3 LB
      rw [Hzl.out]
      have HA := hid (heap_alloc_new w3 (.cells #[.slice p3 zl c3] 30))
      have HAB := hid ((Below.refl w3.heap.size w3).alloc (Nat.le_refl _) (.cells #[.slice p3 zl c3] 30))
      have HO : Hid (OWL w3 (w3.alloc (.cells #[.slice p3 zl c3] 30)) (.slice (some ⟨w3.heap.size, 0, none⟩) 1 1) [wl]) := by
        refine hid ⟨[.slice p3 zl c3], ⟨rfl, .inr ⟨w3.heap.size, 1, _, rfl, Nat.le_refl _, HA.out, Nat.le_refl _, by unfold maxLen; omega, rfl, rfl⟩⟩, fun j hj => ?_⟩
        match j, hj with
        | 0, _ => exact .inr V3.out
      have B4 := hid (B3.out.alloc B3.out.size (.cells #[.slice p3 zl c3] 30))
      have S4 : Hid ((w3.alloc (.cells #[.slice p3 zl c3] 30)).heap.size = w3.heap.size + 1) := by refine hid ?_; simp
      have Q0 : Hid (∀ j u, us[j]? = some u → (w3.alloc (.cells #[.slice p3 zl c3] 30)).cell? ((⟨b, off, none⟩ : Addr).add j) = some u) := hid fun j u hu => by
        have := HUC.out j u hu
        rw [Go.WideShapes.add_plain]
        exact (B4.out.cell (World.block_lt_of_cell? _ _ this)).trans this
      have Q1 : Hid (∀ j, j < n → EL w3 (w3.alloc (.cells #[.slice p3 zl c3] 30)) (us.getD j undef) (ls.getD j [])) := hid fun j hj => .inr ((HUB.out j (by rw [Hn.out]; exact hj)).below B3.out)
      have Q2 : Hid (∀ u ∈ us, u.oneCell' = true) := hid fun u hu => by
        obtain ⟨j, hj, rfl⟩ := List.getElem_of_mem hu
        have hj2 : j < ls.length := by rw [Hn.out, ← HUL.out]; exact hj
        have := (HUB.out j hj2).one
        simpa [List.getD, List.getElem?_eq_getElem hj] using this
      clear hb3 hv3
      have hn3 : n ≤ 3 := by rw [← Hn.out]; exact H03.out.2
      refine hid ?_
      go_wp2_with (at_builtin; refine wpList_append_OWL (w0 := w3) rfl _ _ rfl _ _ rfl HO.out ⟨b, off, none⟩ n c us ls rfl HUL.out Hn.out Q0.out Q1.out Q2.out (by simp; omega) (by rw [S4.out]; omega) ?_)
      intro v5 w5 ho5 hg5 hbk5
      have B5 := hid (B4.out.grown hg5 B4.out.size (fun q e => by have := (hbk5 q e).1; have := B3.out.size; omega))
      have b35 : Below w3.heap.size w3 w5 := HAB.out.grown hg5 (by rw [S4.out]; omega) (fun q e => (hbk5 q e).1)
      have H5 := hid (ho5.hl b35)
      have CF := framed_big w5 v5 _ H5.out (by have := fit_flat YES.out HN.out; have := LB.out; have := Hzl.out; have := Hn.out; rw [List.flatten_cons, List.length_append, List.length_cons]; omega) (by have := Hn.out; rw [List.length_cons]; omega)
      rw [← TB.out] at CF
      have CF := hid CF
      clear ho5 hg5 hbk5 b35
      go_wp2_with fail
      refine CF.out.mono ?_
      rintro e w6 ⟨v6, rfl, _, hb6, hB6⟩
      have H6 := hid hb6
      have B6 := hid (B5.out.trans (hB6.mono B5.out.size))
      clear hb6 hB6 CF
      go_wp2
      go_ret2
      exact ⟨_, _, rfl, .inl ⟨rfl, YES.out, H6.out⟩, B6.out⟩
end Go.Proofs.YtokamemkfgpfpaaDoor
namespace Go.Proofs.YtokamemkfgpfpaaDoor
open Go.RowKit
def bS (l : List Int) : ByteArray := ⟨(l.map fun x => UInt8.ofNat x.toNat).toArray⟩
def sB (s : ByteArray) : List Int := s.data.toList.map fun b => (b.toNat : Int)
def Byt8 (l : List Int) : Prop := ∀ x ∈ l, 0 ≤ x ∧ x < 256
theorem sB_bS {l : List Int} (h : Byt8 l) : sB (bS l) = l := by
  unfold sB bS
  simp only [List.map_map]
  have : ∀ x ∈ l, ((fun b : UInt8 => (b.toNat : Int)) ∘ fun x : Int => UInt8.ofNat x.toNat) x = x := by
    intro x hx
    have := h x hx
    simp only [Function.comp, UInt8.toNat_ofNat']
    omega
  rw [List.map_congr_left this, List.map_id']
theorem bS_sB (s : ByteArray) : bS (sB s) = s := by
  unfold sB bS
  simp only [List.map_map]
  have : ∀ x ∈ s.data.toList, ((fun x : Int => UInt8.ofNat x.toNat) ∘ fun b : UInt8 => (b.toNat : Int)) x = x := by
    intro x hx
    simp
  rw [List.map_congr_left this, List.map_id']
theorem sB_byt (s : ByteArray) : Byt8 (sB s) := by
  intro x hx
  obtain ⟨b, _, rfl⟩ := List.mem_map.1 hx
  have := b.toNat_lt
  omega
theorem sB_length (s : ByteArray) : (sB s).length = s.size := by
  unfold sB
  rw [List.length_map]
  exact (Lib.size_eq s).symm
theorem bS_size (l : List Int) : (bS l).size = l.length := by
  simp [bS, ByteArray.size]
theorem sB_inj {a b : ByteArray} (h : sB a = sB b) : a = b := by rw [← bS_sB a, h, bS_sB]
theorem sB_get (s : ByteArray) (i : Nat) (h : i < s.size) : (s[i].toNat : Int) = (sB s).getD i 0 := by
  have h2 : i < (sB s).length := by rw [sB_length]; exact h
  rw [getD_of_lt h2]
  simp [sB]
  rfl
theorem sB_cut (s : ByteArray) (a b : Nat) : sB (s.extract a b) = ((sB s).drop a).take (b - a) := by
  unfold sB
  rw [Lib.extract_data, List.map_take, List.map_drop]
theorem sB_app (a b : ByteArray) : sB (a ++ b) = sB a ++ sB b := by
  unfold sB
  rw [← List.map_append]
  congr 1
theorem eq_iff_sB (a b : ByteArray) : (a.toList == b.toList) = decide (sB a = sB b) := by
  rw [ByteArray.toList_eq, ByteArray.toList_eq]
  by_cases h : a = b
  · subst h; simp
  · have h2 : ¬ sB a = sB b := fun e => h (sB_inj e)
    have h3 : ¬ a.data.toList = b.data.toList := by
      intro e
      apply h2
      unfold sB
      rw [e]
    simp [h2, h3]
    intro e
    exact h3 (by rw [e])
end Go.Proofs.YtokamemkfgpfpaaDoor
namespace Go.Proofs.YtokamemkfgpfpaaDoor
open Go Go.RowKit
theorem idx_str (w : World) (s : ByteArray) (i : Nat) (h : i < s.size) : (Instr.index 9 (.string s) (.int .i64 (i : Int))).run Tryd.prog w = .ok (.int .u8 ((sB s).getD i 0)) w := by
  rw [run_index_string w 9 s .i64 i Tryd.underlying9, dif_pos (by omega)]
  congr 2
  rw [← sB_get s i h]
  congr
theorem cut_str (w : World) (s : ByteArray) (i j : Nat) (h : i ≤ j) (hj : j ≤ s.size) : (Instr.slice 9 (.string s) (some (.int .i64 (i : Int))) (some (.int .i64 (j : Int))) none).run Tryd.prog w = .ok (.string (bS (((sB s).drop i).take (j - i)))) w := by
  rw [run_slice_string w 9 s .i64 .i64 i j Tryd.underlying9 (by omega) (by omega) (by omega), ← sB_cut, bS_sB]
  congr
theorem cut_str_end (w : World) (s : ByteArray) (i : Nat) (h : i ≤ s.size) : (Instr.slice 9 (.string s) (some (.int .i64 (i : Int))) none none).run Tryd.prog w = .ok (.string (bS ((sB s).drop i))) w := by
  have e : bS ((sB s).drop i) = s.extract i s.size := by
    apply sB_inj
    rw [sB_cut, sB_bS (fun x hx => sB_byt s x (List.mem_of_mem_drop hx)), List.take_of_length_le (by rw [List.length_drop, sB_length]; exact Nat.le_refl _)]
  rw [e]
  simp [Instr.slice, Instr.sliceBounds, Instr.sliceBound, asIntOf, run_underlying Tryd.underlying9, h]
theorem conv_str {w : World} {v : Value} {l : List Int} (h : HB w v l) : (convert 30 9 v).run Tryd.prog w = .ok (.string (bS l)) w := by
  have hby : Byt8 l := h.2
  by_cases h0 : 0 < l.length
  · obtain ⟨b, off, c, rfl, _, _, hc⟩ := h.ne h0
    obtain ⟨u, Hu⟩ : ∃ u : List UInt8, l.map (fun x => UInt8.ofNat x.toNat) = u := ⟨_, rfl⟩
    have hul : u.length = l.length := by rw [← Hu]; simp
    have := run_convert_bytes_back (P := Tryd.prog) w 30 9 5 ⟨b, off, none⟩ c u Tryd.underlying30 Tryd.underlying5 Tryd.underlying9 (by
      intro j hj
      rw [Go.WideShapes.add_plain, hc j (by omega)]
      subst Hu
      simp only [List.getElem_map, UInt8.toNat_ofNat']
      rw [getD_of_lt (by omega)]
      have := hby _ (List.getElem_mem (by omega : j < l.length))
      congr 2
      omega)
    rw [hul] at this
    rw [this]
    unfold bS
    rw [Hu]
  · have e : l = [] := List.length_eq_zero_iff.1 (by omega)
    subst e
    obtain ⟨p, c, rfl, _, _⟩ := h.open
    cases p with
    | none =>
      rw [List.length_nil, run_convert_bytes_string w 30 9 5 none 0 c Tryd.underlying30 Tryd.underlying5 Tryd.underlying9]
      simp [Conv.bytesToString, loadCells, bS]
      rfl
    | some a =>
      exact run_convert_bytes_back (P := Tryd.prog) w 30 9 5 a c [] Tryd.underlying30 Tryd.underlying5 Tryd.underlying9 (by intro j hj; simp at hj)
end Go.Proofs.YtokamemkfgpfpaaDoor
namespace Go.Proofs.YtokamemkfgpfpaaDoor
open Go.RowKit
set_option maxHeartbeats 1000000 in
theorem clone_any (w : World) (v : Value) (l : List Int) (h : HB w v l) (hbig : l.length ≤ 140737488355328) :
    Calls Tryd.prog 34 #[v] w fun e w' => ∃ v', e = .returned v' ∧ w'.ownsRow w.heap.size 5 1 v' l.length (l.map (Value.int .u8)) ∧ Below w.heap.size w w' := by
  obtain ⟨i0, hi, hz0, hz1, hz2⟩ := info_parts info_u8
  have q22 := eql_nil_bytes
  obtain ⟨⟨p, c, rfl, hlc, hm, _, hcell⟩, hby⟩ := h
  cases p with
  | none =>
    have e : l = [] := by
      apply Classical.byContradiction
      intro hne
      obtain ⟨b, off, e, _⟩ := hcell hne
      cases e
    subst e
    go_enter Tryd.func34, Tryd.ntmps34
    go_wp2
    go_ret
    exact ⟨_, rfl, World.ownsRow_nil _ _ _ _, Below.refl _ _⟩
  | some a =>
    have A : Hid (l ≠ [] → ∃ b off, some a = some ⟨b, off, none⟩ ∧ ∀ j, j < l.length → w.cell? ⟨b, off + j, none⟩ = some (.int .u8 (l.getD j 0))) := hcell
    clear hcell
    go_enter Tryd.func34, Tryd.ntmps34
    go_wp2_with (at_builtin; refine wpList_append_own _ rfl _ _ 30 rfl w.heap.size 5 i0 (.int .u8 0) 1 1 Tryd.underlying30 hi hz0 hz1 hz2 rfl (by decide) _ _ _ rfl (World.ownsRow_made w #[] 0 (Nat.le_refl _) (Nat.zero_le _) rfl) a l.length c (l.map (Value.int .u8)) rfl ?qc1 ?qc2 ?qc3 ?qc4 ?qc5 ?qc6 ?_)
    case qc1 => simp
    case qc2 =>
      intro j u hj
      have hjn : j < l.length := by
        have := (List.getElem?_eq_some_iff.1 hj).1
        simpa using this
      refine Lib.cell?_alloc_some _ ?_
      obtain ⟨b, off, e, hh⟩ := A.out (by intro e; subst e; simp at hjn)
      cases e
      rw [Go.WideShapes.add_plain, hh j hjn]
      have e : (l.map (Value.int .u8))[j]? = some (Value.int .u8 (l.getD j 0)) := by simp [List.getD, List.getElem?_eq_getElem hjn]
      rw [e] at hj
      exact hj
    case qc3 => intro u hu; obtain ⟨x, _, rfl⟩ := List.mem_map.1 hu; rfl
    case qc4 => unfold maxLen; omega
    case qc5 => omega
    case qc6 => simp
    intro v' w1 hown hgrow hnil
    go_wp2
    go_ret
    exact ⟨v', rfl, by simpa using hown, ((Below.refl _ w).alloc (Nat.le_refl _) _).grown hgrow (by simp) (by intro k hk; simp [Value.ownBlock] at hk; omega)⟩
end Go.Proofs.YtokamemkfgpfpaaDoor
namespace Go.Proofs.YtokamemkfgpfpaaDoor
open Go Go.RowKit
def WdQ (l : List Int) (t : Nat) (b : Bool) : Prop := (b = true ∧ (1 ≤ t ∧ t ≤ 9) ∧ strI (wS t) = l) ∨ (b = false ∧ t = 0 ∧ ∀ k, 1 ≤ k → k ≤ 9 → strI (wS k) ≠ l)
set_option maxRecDepth 100000 in
set_option maxHeartbeats 4000000 in
theorem worded_any (w : World) (v : Value) (l : List Int) (h : HB w v l) : Calls Tryd.prog 33 #[v] w fun e w' => ∃ (t : Nat) (b : Bool), e = .returned (.tuple #[.int .u8 (t : Int), .bool b]) ∧ WdQ l t b ∧ Below w.heap.size w w' := by
  have CW := hid word_tag
  have HH := hid h
  have CV := hid fun (W : World) (hW : Below w.heap.size w W) => conv_str (h.below hW)
  have SBL : Hid (sB (bS l) = l) := hid (sB_bS h.2)
  obtain ⟨p, c, rfl, _, _⟩ := h.open
  clear h
  obtain ⟨z, Hz⟩ : ∃ x, Hid (l.length = x) := ⟨_, rfl⟩
  rw [Hz.out] at CV
  rw [Hz.out]
  obtain ⟨bl, Hbl⟩ : ∃ x, Hid (bS l = x) := ⟨_, rfl⟩
  rw [Hbl.out] at CV SBL
  go_enter Tryd.func33, Tryd.ntmps33
  go_wp2
  go_loopw [4] (fun tt wr => ∃ k : Nat, 1 ≤ k ∧ k ≤ 10 ∧ tt = .int .u8 (k : Int) ∧ Hid (∀ j, 1 ≤ j → j < k → strI (wS j) ≠ l) ∧ Hid (Below w.heap.size w wr)) (fun tt _ => 10 - (intOf tt).toNat)
  case atStart => exact ⟨1, by omega, by omega, rfl, hid (fun j h1 h2 => by omega), hid (Below.refl _ _)⟩
  case round =>
    obtain ⟨k, hk1, hk2, rfl, HN, HBw⟩ := hrel
    by_cases hk : k ≤ 9
    case neg =>
      have HA : Hid (WdQ l 0 false) := hid (.inr ⟨rfl, rfl, fun j h1 h2 => HN.out j h1 (by omega)⟩)
      go_wp2
      go_ret2
      exact ⟨0, _, rfl, HA.out, HBw.out⟩
    case pos =>
      go_wp2
      refine wp_region_held_drew (S := Below wr.heap.size wr) (by kernel_rfl) (Below.refl _ _).drew (fun hHeld => ?_)
      have HS := hid hHeld
      clear hHeld
      change wpAnyH _ _ _ _ _ _ _ _ (World.drew _)
      refine wpAnyH_take (i := 0) (v := ?_) rfl (by kernel_rfl) (by kernel_rfl) (by kernel_rfl) (fun _ _ _ h => h) (Or.inl ⟨by rfl, ?q0⟩) HS.out ?_
      case q0 => intro w hSw; go_simp; rfl
      simp only [Act.put, List.getElem_toArray, List.getElem_cons_zero, List.getElem_cons_succ, List.setIfInBounds_toArray, List.set_cons_zero, List.set_cons_succ]
      refine wpAnyH_take (i := 2) (v := ?_) rfl (by kernel_rfl) (by kernel_rfl) (by kernel_rfl) (fun _ _ _ h => h) (Or.inl ⟨by rfl, ?q2⟩) HS.out ?_
      case q2 => intro w hSw; go_simp; rfl
      simp only [Act.put, List.getElem_toArray, List.getElem_cons_zero, List.getElem_cons_succ, List.setIfInBounds_toArray, List.set_cons_zero, List.set_cons_succ]
      refine wpAnyH_take (i := 3) (v := .string bl) rfl (by kernel_rfl) (by kernel_rfl) (by kernel_rfl) (fun _ _ _ h => h) (Or.inl ⟨by rfl, ?q3⟩) HS.out ?_
      case q3 => intro w hSw; have hcv := CV.out w (HBw.out.trans (hSw.mono HBw.out.size)); go_simp
      simp only [Act.put, List.getElem_toArray, List.getElem_cons_zero, List.getElem_cons_succ, List.setIfInBounds_toArray, List.set_cons_zero, List.set_cons_succ]
      refine wpAnyH_ready (rs := [1]) (by kernel_rfl) (by simp) ?_
      refine AllReadyH.cons rfl (fun K hK => ?_) AllReadyH.nil
      replace hK := hid hK
      go_simp
      refine (CW.out _ k).mono ?_
      rintro e w5 ⟨rfl, hw5⟩
      have hw5' := hw5.symm
      subst hw5'
      clear hw5
      refine hK.out _ _ HS.out (fun _ => ?_)
      clear hK K
      try simp only [Act.put, List.getElem_toArray, List.getElem_cons_zero, List.getElem_cons_succ, List.setIfInBounds_toArray, List.set_cons_zero, List.set_cons_succ]
      refine wpAnyH_take (i := 4) (v := .bool (decide (strI (wS k) = l))) rfl (by kernel_rfl) (by kernel_rfl) (by kernel_rfl) (fun _ _ _ h => h) (Or.inl ⟨by rfl, ?q4⟩) HS.out ?_
      case q4 => intro w hSw; go_simp; rw [eq_iff_sB, SBL.out]; rfl
      simp only [Act.put, List.getElem_toArray, List.getElem_cons_zero, List.getElem_cons_succ, List.setIfInBounds_toArray, List.set_cons_zero, List.set_cons_succ]
      refine wpAnyH_done (by kernel_rfl) ?_ _
      have HS' := hid (HBw.out.trans (HS.out.mono HBw.out.size))
      by_cases he : strI (wS k) = l
      case pos =>
        have HA : Hid (WdQ l k true) := hid (.inl ⟨rfl, ⟨hk1, hk⟩, he⟩)
        rw [decide_eq_true he]
        clear he
        go_wp2
        go_ret2
        exact ⟨k, _, rfl, HA.out, HS'.out⟩
      case neg =>
        have HNX : Hid (∀ j, 1 ≤ j → j < k + 1 → strI (wS j) ≠ l) := hid fun j h1 h2 => by
          by_cases e : j = k
          · rw [e]; exact he
          · exact HN.out j h1 (by omega)
        rw [decide_eq_false he]
        clear he
        go_wp2
        exact ⟨⟨k + 1, by omega, by omega, by go_num, HNX, HS'⟩, by simp [intOf]; omega⟩
theorem results_tmp4 {fn : Func} {t u v x : Tmp} (h : fn.results = #[.tmp t, .tmp u, .tmp v, .tmp x]) (tmps : Array Value) (P : Program) (w : World) :
    (results fn tmps).run P w = .ok (.tuple #[tmps.getD t undef, tmps.getD u undef, tmps.getD v undef, tmps.getD x undef]) w := by
  simp [results, h]
def RdQ (w' : World) (raw : List Int) (t : Nat) (v : Value) (a E : Int) : Prop :=
  (E = 0 ∧ a = 0 ∧ ∃ ls, TagOk t ls ∧ HL w' v ls ∧ tagB t ls = raw ∧ Ok ls) ∨ (E ≠ 0 ∧ t = 0 ∧ v = .slice none 0 0 ∧ ∀ (u : Nat) (xs : List (List Int)), TagOk u xs → Ok xs → tagB u xs ≠ raw)
theorem wS_inj5 {t u : Nat} (ht : 1 ≤ t ∧ t ≤ 9) (hu : 1 ≤ u ∧ u ≤ 9) (h : strI (wS t) = strI (wS u)) : t = u := by
  have key : ∀ t, t < 10 → ∀ u, u < 10 → 1 ≤ t → 1 ≤ u → strI (wS t) = strI (wS u) → t = u := by decide +kernel
  exact key t (by omega) u (by omega) ht.1 hu.1 h
theorem ok_word (t : Nat) {xs : List (List Int)} (h : Ok xs) : Ok (strI (wS t) :: xs) := fun l hl => by
  rcases List.mem_cons.1 hl with rfl | hl
  · rw [strI_len]; have := wS_size t; omega
  · exact h l hl
theorem slice_l5 (W : World) (p : Option Addr) (n c : Nat) (h1 : 1 ≤ n) : (Instr.slice 24 (.slice p n c) (some (.int .i64 1)) none none).run Tryd.prog W = .ok (.slice (if c = 1 then p else p.map (·.add 1)) (n - 1) (c - 1)) W := by
  have hel : Tryd.prog.elem 24 = 30 := by kernel_rfl
  have hsz : ∀ w, Sem.run Tryd.prog (Go.sizeOf 30) w = .ok 1 w := fun w => by
    have hi : (Tryd.prog.info? 30).map (·.size) = some 1 := by kernel_rfl
    cases hh : Tryd.prog.info? 30 with
    | none => rw [hh] at hi; cases hi
    | some i0 =>
      rw [hh] at hi
      simp only [Option.map_some, Option.some.injEq] at hi
      simp [Go.sizeOf, typeInfo, hh, hi]
  have h := run_slice_l (P := Tryd.prog) W 24 p n c (by rw [hel]; exact Tryd.underlying24) .i64 1 (by omega) (by omega)
  rw [h, hel, hsz, Result.andThen_ok]
  unfold sliced
  rw [Nat.mul_one]
  rfl
theorem HL.tail5 {w : World} {p : Option Addr} {n c : Nat} {x : List Int} {ls : List (List Int)} (h : HL w (.slice p n c) (x :: ls)) : HL w (.slice (if c = 1 then p else p.map (·.add 1)) (n - 1) (c - 1)) ls := by
  obtain ⟨p0, c0, e0, h1, h2⟩ := h.open
  simp only [Value.slice.injEq] at e0
  obtain ⟨rfl, rfl, rfl⟩ := e0
  obtain ⟨b, off, c', e', _, _, hh⟩ := h.ne (by simp)
  simp only [Value.slice.injEq, true_and] at e'
  obtain ⟨rfl, rfl⟩ := e'
  rw [List.length_cons] at h1
  refine ⟨(if c = 1 then some ⟨b, off, none⟩ else (some (⟨b, off, none⟩ : Addr)).map (·.add 1)), c - 1, by rw [List.length_cons, Nat.add_sub_cancel], by omega, by omega, ?_, fun hne => ?_⟩
  · intro e
    by_cases hc : c = 1
    · omega
    · rw [if_neg hc] at e; cases e
  · have hl : 0 < ls.length := List.length_pos_iff.2 hne
    refine ⟨b, off + 1, ?_, fun j hj => ?_⟩
    · rw [if_neg (by omega)]
      simp [Addr.add]
    · obtain ⟨u, hu, hb⟩ := hh (j + 1) (by simp; omega)
      refine ⟨u, ?_, ?_⟩
      · rw [← hu]; congr 2; omega
      · simpa using hb
set_option maxRecDepth 100000 in
set_option maxHeartbeats 4000000 in
theorem tread_any (w : World) (v : Value) (raw : List Int) (h : HB w v raw) (hbig : raw.length ≤ 2000000) : Calls Tryd.prog 12 #[v] w fun e w' => ∃ (t : Nat) (v' : Value) (a E : Int), e = .returned (.tuple #[.int .u8 (t : Int), v', .int .i64 a, .int .i64 E]) ∧ RdQ w' raw t v' a E ∧ Below w.heap.size w w' := by
  have CC := hid (tcut_any w v raw h hbig)
  have HBY := hid h.2
  have HNB := hid hbig
  obtain ⟨p, c, rfl, _, _⟩ := h.open
  clear h
  go_enter Tryd.func12, Tryd.ntmps12
  go_wp2_with fail
  refine CC.out.mono ?_
  rintro e w1 ⟨v1, a1, b1, rfl, hq1, hb1⟩
  have B1 := hid hb1
  have Q1 := hid hq1
  clear hb1 hq1 CC
  cases b1 with
  | false =>
    have NO : Hid (∀ (u : Nat) (xs : List (List Int)), TagOk u xs → Ok xs → tagB u xs ≠ raw) := hid fun u xs _ ho => by
      rcases Q1.out with ⟨e, _⟩ | ⟨_, h⟩
      · cases e
      · exact h _ (ok_word u ho) (by simp)
    go_wp2
    try simp only [Exit.inBlock, Exit.then]
    refine bodyPost_ret (results_tmp4 rfl _ _ _) rfl ?_
    exact ⟨0, _, _, _, rfl, .inr ⟨by decide, rfl, rfl, NO.out⟩, B1.out⟩
  | true =>
    obtain ⟨fs, hfs, hO, hok, hfr⟩ : ∃ ls, ls ≠ [] ∧ OWL w w1 v1 ls ∧ Ok ls ∧ framed ls = raw := by
      rcases Q1.out with ⟨_, h⟩ | ⟨e, _⟩
      · exact h
      · cases e
    obtain ⟨x, ls, rfl⟩ : ∃ x ls, fs = x :: ls := by
      cases fs with
      | nil => exact absurd rfl hfs
      | cons x ls => exact ⟨x, ls, rfl⟩
    have HLf := hid (hO.hl B1.out)
    have OKx : Hid (Ok (x :: ls)) := hid hok
    have OKl : Hid (Ok ls) := hid fun l hl => hok l (List.mem_cons_of_mem _ hl)
    have HFR := hid hfr
    have FLN : Hid (ls.flatten.length + 8 * ls.length ≤ 2000000) := hid (by
      have h1 := framed_length (x :: ls)
      rw [hfr, List.flatten_cons, List.length_append, List.length_cons] at h1
      have := HNB.out
      omega)
    clear hO hok hfr hfs Q1
    obtain ⟨pf, cf, ef, hcf, _⟩ := HLf.out.open
    subst ef
    rw [List.length_cons] at hcf
    obtain ⟨nf, Hnf⟩ : ∃ y, Hid ((x :: ls).length = y) := ⟨_, rfl⟩
    have Hnf2 : Hid (nf = ls.length + 1) := hid (by rw [← Hnf.out, List.length_cons])
    have HLf2 := HLf.out
    rw [Hnf.out] at HLf2 ⊢
    have HLf := hid HLf2
    obtain ⟨b0, o0, c0, e0, _, _, hh⟩ := HLf.out.ne (by simp)
    simp only [Value.slice.injEq] at e0
    obtain ⟨e1, e2, e3⟩ := e0
    clear e2 e3
    subst e1
    obtain ⟨u0, hu0, hbu0⟩ := hh 0 (by simp)
    have hbx : HB w1 u0 x := by simpa using hbu0
    rw [Nat.add_zero] at hu0
    obtain ⟨px, cx, ex, _, _⟩ := hbx.open
    subst ex
    have CWD := hid (worded_any w1 _ x hbx)
    obtain ⟨zx, Hzx⟩ : ∃ y, Hid (x.length = y) := ⟨_, rfl⟩
    rw [Hzx.out] at hu0 CWD
    have hn1 : 1 ≤ nf := by rw [Hnf2.out]; omega
    have hn0 : (0 : Int) < (nf : Int) := by omega
    have TL := hid HLf.out.tail5
    clear hh hbu0 hbx HLf2
    go_wp2_with fail
    refine CWD.out.mono ?_
    rintro e w2 ⟨t, b2, rfl, hq2, hb2⟩
    have Q2 := hid hq2
    have B2 := hid (B1.out.trans (hb2.mono B1.out.size))
    have TL := hid (TL.out.below hb2)
    clear hb2 hq2 CWD hu0
    cases b2 with
    | false =>
      have NO : Hid (∀ (u : Nat) (xs : List (List Int)), TagOk u xs → Ok xs → tagB u xs ≠ raw) := hid fun u xs hu ho hEq => by
        rcases Q2.out with ⟨e, _⟩ | ⟨_, _, h⟩
        · cases e
        · rw [← HFR.out] at hEq
          have := (framed_inj (ok_word u ho) OKx.out).1 hEq
          simp only [List.cons.injEq] at this
          exact h u hu.1.1 hu.1.2 this.1
      go_wp2
      try simp only [Exit.inBlock, Exit.then]
      refine bodyPost_ret (results_tmp4 rfl _ _ _) rfl ?_
      exact ⟨0, _, _, _, rfl, .inr ⟨by decide, rfl, rfl, NO.out⟩, B2.out⟩
    | true =>
      obtain ⟨ht, hw⟩ : (1 ≤ t ∧ t ≤ 9) ∧ strI (wS t) = x := by
        rcases Q2.out with ⟨_, h1, h2⟩ | ⟨e, _⟩
        · exact ⟨h1, h2⟩
        · cases e
      have HW := hid hw
      have HT := hid ht
      have RSL := slice_l5
      obtain ⟨pt, Hpt⟩ : ∃ y, Hid ((if cf = 1 then some ⟨b0, o0, none⟩ else (some (⟨b0, o0, none⟩ : Addr)).map (·.add 1)) = y) := ⟨_, rfl⟩
      have rsl : ∀ W, (Instr.slice 24 (.slice (some ⟨b0, o0, none⟩) nf cf) (some (.int .i64 1)) none none).run Tryd.prog W = .ok (.slice pt (nf - 1) (cf - 1)) W := fun W => by rw [← Hpt.out]; exact RSL W _ nf cf hn1
      have TL2 := TL.out
      rw [Hpt.out] at TL2
      have TL := hid TL2
      have CF := hid (fit_any w2 t _ ls TL.out)
      have NT : Hid (∀ (u : Nat) (xs : List (List Int)), TagOk u xs → Ok xs → tagB u xs = raw → u = t ∧ xs = ls) := hid fun u xs hu ho hEq => by
        rw [← HFR.out] at hEq
        have := (framed_inj (ok_word u ho) OKx.out).1 hEq
        simp only [List.cons.injEq] at this
        exact ⟨wS_inj5 hu.1 HT.out (this.1.trans HW.out.symm), this.2⟩
      have TBR : Hid (tagB t ls = raw) := hid (by unfold tagB; rw [HW.out]; exact HFR.out)
      clear hw ht TL2 RSL Hpt Q2 hn1 hn0 hcf
      by_cases hf : FitQ t ls
      case neg =>
        have NO : Hid (∀ (u : Nat) (xs : List (List Int)), TagOk u xs → Ok xs → tagB u xs ≠ raw) := hid fun u xs hu ho hEq => by
          obtain ⟨rfl, rfl⟩ := NT.out u xs hu ho hEq
          exact hf hu.2
        rw [decide_eq_false hf] at CF
        clear hf
        go_wp2_with fail
        refine CF.out.mono ?_
        rintro e w3 ⟨rfl, hb3⟩
        have B3 := hid (B2.out.trans (hb3.mono B2.out.size))
        clear hb3 CF rsl
        go_wp2
        try simp only [Exit.inBlock, Exit.then]
        refine bodyPost_ret (results_tmp4 rfl _ _ _) rfl ?_
        exact ⟨0, _, _, _, rfl, .inr ⟨by decide, rfl, rfl, NO.out⟩, B3.out⟩
      case pos =>
        have OKT : Hid (TagOk t ls) := hid ⟨HT.out, hf⟩
        rw [decide_eq_true hf] at CF
        have H3 := hid (fit_ne OKT.out)
        clear hf
        go_wp2_with fail
        refine CF.out.mono ?_
        rintro e w3 ⟨rfl, hb3⟩
        have B3 := hid (B2.out.trans (hb3.mono B2.out.size))
        have TL := hid (TL.out.below hb3)
        clear hb3 CF rsl
        obtain ⟨m, Hm⟩ : ∃ y, Hid (nf - 1 = y) := ⟨_, rfl⟩
        rw [Hm.out] at TL ⊢
        have hml : m = ls.length := by rw [← Hm.out, Hnf2.out]; omega
        have hm3 : m ≤ 3 := by rw [hml]; exact H3.out.2
        have CCL := hid fun W v l h hl => clone_any W v l h hl
        go_wp2
        go_loopw [12, 41] (fun ow ii wr => ∃ I : Nat, I ≤ m ∧ ii = .int .i64 (I : Int) ∧ Hid (OWL w3 wr ow (ls.take I)) ∧ Hid (Below w3.heap.size w3 wr)) (fun _ ii _ => m - (intOf ii).toNat)
        case atStart => exact ⟨0, by omega, rfl, hid (OWL.nil _ _), hid (Below.refl _ _)⟩
        case round =>
          obtain ⟨I, hI, rfl, HO, HBr⟩ := hrel
          by_cases hlt : I < m
          case neg =>
            have hIm : I = m := by omega
            have HT5 : Hid (ls.take I = ls) := hid (List.take_of_length_le (by omega))
            have HLo := HO.out.hl HBr.out
            rw [HT5.out] at HLo
            have HLO := hid HLo
            have BF := hid (B3.out.trans (HBr.out.mono B3.out.size))
            clear HLo
            go_wp2
            try simp only [Exit.inBlock, Exit.then]
            refine bodyPost_ret (results_tmp4 rfl _ _ _) rfl ?_
            exact ⟨t, _, _, _, rfl, .inl ⟨rfl, rfl, ls, OKT.out, HLO.out, TBR.out, OKl.out⟩, BF.out⟩
          case pos =>
            obtain ⟨b, off, c', e', _, _, hh⟩ := TL.out.ne (by omega)
            simp only [Value.slice.injEq] at e'
            obtain ⟨e1, e2, e3⟩ := e'
            clear e2 e3
            subst e1
            obtain ⟨u, hu0, hbu⟩ := hh I (by omega)
            have hu : wr.cell? ⟨b, off + I, none⟩ = some u := (HBr.out.cell (World.block_lt_of_cell? w3 _ hu0)).trans hu0
            have HTK : Hid (ls.take (I + 1) = ls.take I ++ [ls.getD I []]) := hid (by
              rw [List.take_succ_eq_append_getElem (by omega)]
              simp [List.getD, show I < ls.length by omega])
            have hln : (ls.getD I []).length ≤ 2000000 := by
              have h1 : ls.getD I [] ∈ ls := by
                have : ls.getD I [] = ls[I]'(by omega) := by simp [List.getD, show I < ls.length by omega]
                rw [this]; exact List.getElem_mem _
              have h2 := (List.sublist_flatten_of_mem h1).length_le
              have := FLN.out
              omega
            obtain ⟨l, HLl⟩ : ∃ y, Hid (ls.getD I [] = y) := ⟨_, rfl⟩
            rw [HLl.out] at hbu HTK hln
            obtain ⟨pu, cu, eu, _, _⟩ := hbu.open
            subst eu
            have C := hid (CCL.out wr _ _ (hbu.below HBr.out) (by omega))
            have HBL := hid hbu.2
            obtain ⟨zl, Hzl⟩ : ∃ y, Hid (l.length = y) := ⟨_, rfl⟩
            rw [Hzl.out] at hu C
            clear hh hu0 hbu
            go_wp2_with fail
            refine C.out.mono ?_
            rintro e w4 ⟨v4, rfl, hown4, hb4⟩
            have HBv := HB.of_own (l := l) (by rw [Hzl.out]; exact hown4) HBL.out
            obtain ⟨p4, c4, e4, _, _⟩ := HBv.open
            subst e4
            rw [Hzl.out] at HBv hown4 ⊢
            have HBr4 : Below w3.heap.size w3 w4 := HBr.out.trans (hb4.mono HBr.out.size)
            have hal : Below w4.heap.size w4 (w4.alloc (.cells #[.slice p4 zl c4] 30)) := (Below.refl _ _).alloc (Nat.le_refl _) _
            have hel : EL w3 w4 (.slice p4 zl c4) l := .inl ⟨by rw [Hzl.out]; exact own_mono hown4 HBr.out.size, HBL.out⟩
            have HE4 := hid (hel.below hal)
            have HO4 := hid ((HO.out.below hb4).below hal)
            have HB4 := hid (HBr4.trans (hal.mono HBr4.size))
            have hli : (ls.take I).length ≤ 3 := by rw [List.length_take]; omega
            clear hb4 hal hel HBr4 HBv hown4 C
            go_wp2_with (at_builtin; refine wpList_append_OWL (w0 := w3) rfl _ _ rfl _ (ls.take I) rfl HO4.out ⟨w4.heap.size, 0, none⟩ 1 1 [_] [l] rfl rfl rfl (cell_one_new _ _ _) ?q1 ?q2 ?q3 ?q4 ?_)
            case q1 => intro j hj; obtain rfl : j = 0 := (by omega); exact HE4.out
            case q2 => intro u hu; simp only [List.mem_singleton] at hu; subst hu; rfl
            case q3 => omega
            case q4 => exact HB4.out.size
            intro v5 w5 hO5 hg5 hbk
            rw [← HTK.out] at hO5
            have HO5 := hid hO5
            have HB5 := hid (HB4.out.grown hg5 HB4.out.size (fun k e => (hbk k e).1))
            clear hO5 hg5 hbk
            go_wp2
            exact ⟨⟨I + 1, by omega, by go_num, HO5, HB5⟩, by simp [intOf]; omega⟩
end Go.Proofs.YtokamemkfgpfpaaDoor
namespace Go.Proofs.YtokamemkfgpfpaaDoor
open Go Go.RowKit Ev
def padBlock : List Nat := [0, 0, 0, 0, 0, 0, 0, 14, 115, 116, 114, 111, 110, 103, 114, 111, 111, 109, 32, 112, 97, 100, 0, 0, 0, 0, 0, 0, 0, 4, 0, 0, 0, 7, 128, 0, 0, 0, 0, 0, 0, 0, 0, 0, 0, 0, 0, 0, 0, 0, 0, 0, 0, 0, 0, 0, 0, 0, 0, 0, 0, 0, 1, 16]
def padWords : List Nat := [0, 14, 1937011311, 1852273263, 1869422704, 1633943552, 0, 262144, 491520, 0, 0, 0, 0, 0, 0, 272, 469991425, 3434986114, 856169216, 2109270187, 2336771756, 3401826129, 782340079, 2759388120, 3267827049, 2613474185, 3856814505, 2195414451, 765228586, 4092630992, 2056790104, 4256031260, 1051854507, 14267866, 1557758059, 4085289097, 3296877623, 1480048775, 825061891, 167205286, 2006689177, 463709173, 536318916, 960675205, 1541371835, 3863650278, 949322803, 1635889268, 2790493887, 3426122357, 1987272896, 565975141, 2093606632, 2093668760, 4255755765, 3181709773, 688636137, 657923963, 2085829656, 3263850006, 1228338704, 1683799827, 620829454, 3676928581]
def padMixed : List Nat := [1687037637, 3791585302, 729886610, 2454548114, 3674386445, 2553926959, 2079459574, 3602981539]
def ivW : List Nat := [1779033703, 3144134277, 1013904242, 2773480762, 1359893119, 2600822924, 528734635, 1541459225]
theorem words_ev : evCallF Tryd.prog noLore noCon 100 68 [.tv (.agg (litB padBlock))] H0 = some (.tv (.agg (litW padWords)), H0) := by kernel_rfl
def conWords : ConF := con1 68 [.tv (.agg (litB padBlock))] (.tv (.agg (litW padWords)))
theorem conWords_ok (ρ : Env) : ConOk Tryd.prog ρ conWords := con1_ok (noCon_ok _ _) mixedOrders words_ev (by kernel_rfl) (by kernel_rfl)
theorem refMix_ev : evCallF Tryd.prog noLore conWords 100 38 [.tv (.agg (litW ivW)), .tv (.agg (litB padBlock))] H0 = some (.tv (.agg (litW padMixed)), H0) := by kernel_rfl
def conRefMix : ConF := con1 38 [.tv (.agg (litW ivW)), .tv (.agg (litB padBlock))] (.tv (.agg (litW padMixed)))
theorem conRefMix_ok (ρ : Env) : ConOk Tryd.prog ρ conRefMix := con1_ok (conWords_ok ρ) mixedOrders refMix_ev (by kernel_rfl) (by kernel_rfl)
def conTag : ConF := conOr conMix conRefMix
theorem conTag_ok (ρ : Env) : ConOk Tryd.prog ρ conTag := conOr_ok (conMix_ok ρ) (conRefMix_ok ρ)
end Go.Proofs.YtokamemkfgpfpaaDoor
