/- Of the road to ctrCiphers_holds: AesRoundsRef, AesDecRef, CtrBlocksEv, AppB, Join, Lists, CtrRef, CtrPc, CtrGen, CtrSk, Marks. -/
import Derived.Test.YtmpdmkckjajhiaaG06
import Derived.Test.YtmpdmkckjajhiaaG04
import Derived.Test.YtmpdmkckjajhiaaG00
import Derived.Laws.AppendOwn
import Derived.Laws.AppendOwnNone
import Derived.Test.YtmpdmkckjajhiaaG05
import Derived.Laws.Rows
import Derived.Deep.MidRow
import Derived.Deep.RegionHeld
import Derived.OrdersHeld
set_option linter.unusedVariables false
set_option linter.unusedSimpArgs false
namespace Go.Proofs.Ytmpdmkckjajhiaa
open Go Go.RowKit Ev
def bxE : List Ex := (List.range 16).map fun i => .bit .xor .u8 (.var i) (.var (16 + i))
theorem rxor_ev : evCall Try.prog noLore conC 100 40 [.tv (.agg (vars 0 16)), .tv (.agg (vars 16 16))] [] = some (.tv (.agg (bytesE bxE)), []) := by kernel_rfl
theorem bxE_ok : bxE.all okB = true ∧ bxE.length = 16 := by decide +kernel
inductive DS where
  | st (s : St)
  | bx (n : Nat)
def DS.ap (ks : List Nat) : DS → List Nat → List Nat
  | .st s, x => s.ap ks x
  | .bx n, x => bxE.map (nden (at8 (x ++ keyAt ks n)))
theorem DS.ap_ok {ks s : List Nat} (hk : Byt ks) (hs : Byt s) (d : DS) : (d.ap ks s).length = 16 ∧ Byt (d.ap ks s) := by
  cases d with
  | st t => exact t.ap_ok hk hs
  | bx n =>
    refine ⟨by simp [DS.ap, bxE_ok.2], fun x hx => ?_⟩
    obtain ⟨e, he, rfl⟩ := List.mem_map.1 hx
    exact (nden_ok (byt_at (byt_app hs (byt_keyAt hk n))) e (List.all_eq_true.1 bxE_ok.1 e he)).2
def runD (ks : List Nat) : List DS → List Nat → List Nat
  | [], s => s
  | d :: r, s => runD ks r (d.ap ks s)
theorem runD_ok {ks : List Nat} (hk : Byt ks) : ∀ (l : List DS) (s : List Nat), s.length = 16 → Byt s → (runD ks l s).length = 16 ∧ Byt (runD ks l s)
  | [], _, h1, h2 => ⟨h1, h2⟩
  | d :: l, _, _, h2 => runD_ok hk l _ (d.ap_ok hk h2).1 (d.ap_ok hk h2).2
theorem runD_append (ks : List Nat) : ∀ (l m : List DS) (s : List Nat), runD ks (l ++ m) s = runD ks m (runD ks l s)
  | [], _, _ => rfl
  | _ :: l, m, _ => runD_append ks l m _
def dstat (ks : List Nat) (steps : List DS) (b : List Nat) (p : Nat) : List Nat := runD ks (steps.take p) b
theorem dstat_succ {ks : List Nat} {steps : List DS} {b : List Nat} {p : Nat} {d : DS} (h : steps[p]? = some d) : dstat ks steps b (p + 1) = d.ap ks (dstat ks steps b p) := by
  unfold dstat
  have hp := (List.getElem?_eq_some_iff.1 h).1
  rw [List.take_succ_eq_append_getElem hp, runD_append]
  rw [List.getElem?_eq_getElem hp] at h
  cases h
  rfl
def dEnv (ks : List Nat) (steps : List DS) (b : List Nat) : Nat → Nat := fun i => if i < 176 then at8 ks i else at8 (dstat ks steps b ((i - 176) / 16)) ((i - 176) % 16)
theorem dstat_ok {ks : List Nat} (hk : Byt ks) {steps : List DS} {b : List Nat} (hb : Byt b) (hbl : b.length = 16) (p : Nat) : (dstat ks steps b p).length = 16 ∧ Byt (dstat ks steps b p) := runD_ok hk _ b hbl hb
theorem dEnv_lt {ks : List Nat} (hk : Byt ks) {steps : List DS} {b : List Nat} (hb : Byt b) (hbl : b.length = 16) (i : Nat) : dEnv ks steps b i < 256 := by
  unfold dEnv
  split
  · exact byt_at hk i
  · exact byt_at (dstat_ok hk hb hbl _).2 _
theorem dname_inst {ks : List Nat} (hk : Byt ks) {steps : List DS} {b : List Nat} (hb : Byt b) (hbl : b.length = 16) (ms : List Nat) (p : Nat) : (TV.agg (nameOf p)).inst (envB (dEnv ks steps b)) ms = some (.agg (cells8 (dstat ks steps b p))) :=
  vars_inst (dEnv_lt hk hb hbl) ms _ 16 _ (dstat_ok hk hb hbl p).1 fun i hi => by
    unfold dEnv
    rw [if_neg (by omega), show (176 + 16 * p + i - 176) / 16 = p by omega, show (176 + 16 * p + i - 176) % 16 = i by omega]
    rfl
theorem dkey_inst {ks : List Nat} (hk : Byt ks) (hkl : ks.length = 176) {steps : List DS} {b : List Nat} (hb : Byt b) (hbl : b.length = 16) (ms : List Nat) (n : Nat) (hn : n ≤ 10) : (TV.agg (vars (16 * n) 16)).inst (envB (dEnv ks steps b)) ms = some (.agg (cells8 (keyAt ks n))) :=
  vars_inst (dEnv_lt hk hb hbl) ms _ 16 _ (by simp [keyAt]; omega) fun i hi => by
    unfold dEnv
    rw [if_pos (by omega)]
    simp only [at8, keyAt, List.getD, List.getElem?_take, List.getElem?_drop]
    rw [if_pos hi]
def DS.hits (g : Nat) (rest : List AV) : DS → Bool
  | .st .spread => decide (g = 42) && decide (rest = [])
  | .st .gather => decide (g = 45) && decide (rest = [])
  | .st .sub => decide (g = 41) && decide (rest = [])
  | .st .shift => decide (g = 43) && decide (rest = [])
  | .st .mix => decide (g = 44) && decide (rest = [])
  | .bx n => decide (g = 40) && decide (rest = [.tv (.agg (vars (16 * n) 16))]) && decide (n ≤ 10)
  | .st (.key _) => false
  | .st .unsub => false
  | .st .unshift => false
  | .st .unmix => false
def dCon (steps : List DS) : ConF := fun g xs _ =>
  match xs with
  | .tv (.agg l) :: rest =>
    match steps[pOf l]? with
    | some d => if decide (l = nameOf (pOf l)) && d.hits g rest then some (.tv (.agg (nameOf (pOf l + 1)))) else none
    | none => none
  | _ => none
theorem dCon_ok {ks : List Nat} (hk : Byt ks) (hkl : ks.length = 176) {steps : List DS} {b : List Nat} (hb : Byt b) (hbl : b.length = 16) : ConOk Try.prog (envB (dEnv ks steps b)) (dCon steps) := by
  intro g xs H v h ms B w args ha hH
  unfold dCon at h
  split at h
  case h_2 => cases h
  rename_i l rest
  split at h
  case h_2 => cases h
  rename_i d hd
  split at h
  case isFalse => cases h
  rename_i hc
  rw [Bool.and_eq_true, decide_eq_true_eq] at hc
  simp only [Option.some.injEq] at h
  subst h
  obtain ⟨hl, hh⟩ := hc
  generalize pOf l = p at *
  subst hl
  obtain ⟨hsl, hsb⟩ := dstat_ok (steps := steps) hk hb hbl p
  have hout : (AV.tv (.agg (nameOf (p + 1)))).inst (envB (dEnv ks steps b)) ms = some (.agg (cells8 (d.ap ks (dstat ks steps b p)))) := by
    rw [← dstat_succ hd]
    exact dname_inst hk hb hbl ms (p + 1)
  have h1 : rest = [] → args = #[.agg (cells8 (dstat ks steps b p))] := fun hr => by
    subst hr
    obtain ⟨al⟩ := args
    have hlen : al.length = 1 := by have := congrArg List.length ha; simpa using this.symm
    match al, hlen, ha with
    | [u], _, ha =>
      simp only [List.map_cons, List.map_nil, List.cons.injEq, and_true, AV.inst, dname_inst hk hb hbl, Option.some.injEq] at ha
      subst ha
      rfl
  have h2 : ∀ (x : TV) (t : List Nat), rest = [.tv x] → x.inst (envB (dEnv ks steps b)) ms = some (.agg (cells8 t)) → args = #[.agg (cells8 (dstat ks steps b p)), .agg (cells8 t)] := fun x t hr hx => by
    subst hr
    obtain ⟨al⟩ := args
    have hlen : al.length = 2 := by have := congrArg List.length ha; simpa using this.symm
    match al, hlen, ha with
    | [u, u'], _, ha =>
      simp only [List.map_cons, List.map_nil, List.cons.injEq, and_true, AV.inst, dname_inst hk hb hbl, hx, Option.some.injEq] at ha
      obtain ⟨rfl, rfl⟩ := ha
      rfl
  have fin : ∀ (Cl : Calls Try.prog g args w fun e w' => e = .returned (.agg (cells8 (d.ap ks (dstat ks steps b p)))) ∧ Below w.heap.size w w'), Calls Try.prog g args w fun e w' => ∃ u, e = .returned u ∧ (AV.tv (.agg (nameOf (p + 1)))).inst (envB (dEnv ks steps b)) ms = some u ∧ Below w.heap.size w w' := fun Cl =>
    Cl.mono fun e w' ⟨q1, q2⟩ => ⟨_, q1, hout, q2⟩
  refine fin ?_
  clear fin hout
  cases d with
  | bx n =>
    simp only [DS.hits, Bool.and_eq_true, decide_eq_true_eq] at hh
    obtain ⟨⟨rfl, hr⟩, hn⟩ := hh
    rw [h2 _ _ hr (dkey_inst hk hkl hb hbl ms n hn)]
    exact fun2 rxor_ev bxE_ok.1 w _ _ hsl (by simp [keyAt]; omega) hsb (byt_keyAt hk n)
  | st s =>
    cases s <;> simp only [DS.hits, Bool.and_eq_true, decide_eq_true_eq, Bool.false_eq_true] at hh
    case spread => obtain ⟨rfl, hr⟩ := hh; rw [h1 hr]; exact funR rspread_ev (St.out_ok .spread).1 w _ hsl hsb
    case gather => obtain ⟨rfl, hr⟩ := hh; rw [h1 hr]; exact funR rgather_ev (St.out_ok .gather).1 w _ hsl hsb
    case sub => obtain ⟨rfl, hr⟩ := hh; rw [h1 hr]; exact funR rsubAll_ev (St.out_ok .sub).1 w _ hsl hsb
    case shift => obtain ⟨rfl, hr⟩ := hh; rw [h1 hr]; exact funR rshift_ev (St.out_ok .shift).1 w _ hsl hsb
    case mix =>
      obtain ⟨rfl, hr⟩ := hh
      rw [h1 hr]
      have := funR rmix_ev (by decide +kernel) w _ hsl hsb
      rw [rmix_mix hsb] at this
      exact this
def dround (n : Nat) : List DS := [.st .spread, .st .sub, .st .shift] ++ (if n < 10 then [.st .mix] else []) ++ [.st .gather, .bx n]
def docSt (r : Nat) : List DS := [.bx 0] ++ (List.range r).flatMap (fun n => dround (n + 1))
def schedTab : List (Nat × List AV × AV) := [(39, [V 0 16], V 0 176)]
theorem rbehind_ev : (List.range 11).all (fun r => decide (evCallF Try.prog noLore (conOr (dCon (docSt r)) (tabCon schedTab)) 100 34 [V 0 16, .tv (.agg (nameOf 0)), N64 (r : Int)] [] = some (.tv (.agg (nameOf (docSt r).length)), []))) = true := by kernel_rfl
theorem bx_gather {ks s : List Nat} (h : s.length = 16) (n : Nat) : DS.ap ks (.bx n) s = St.gather.ap ks ((St.key n).ap ks (St.spread.ap ks s)) := by
  obtain ⟨x0, x1, x2, x3, x4, x5, x6, x7, x8, x9, x10, x11, x12, x13, x14, x15, rfl⟩ := list16 h
  rfl
theorem bx_of_gather {ks s : List Nat} (hk : Byt ks) (h : s.length = 16) (hb : Byt s) (n : Nat) : DS.ap ks (.bx n) (St.gather.ap ks s) = St.gather.ap ks ((St.key n).ap ks s) := by
  rw [bx_gather (St.ap_ok hk hb .gather).1, spread_gather h]
theorem dround_ap {ks s : List Nat} (hk : Byt ks) (h : s.length = 16) (hb : Byt s) (n : Nat) : runD ks (dround n) (St.gather.ap ks s) = St.gather.ap ks (runSt ks (roundSt n) s) := by
  have g1 := St.ap_ok hk hb .sub
  have g2 := St.ap_ok hk g1.2 .shift
  have g3 := St.ap_ok hk g2.2 .mix
  unfold dround roundSt
  by_cases hn : n < 10
  · rw [if_pos hn, if_pos hn]
    show DS.ap ks (.bx n) (St.gather.ap ks (St.mix.ap ks (St.shift.ap ks (St.sub.ap ks (St.spread.ap ks (St.gather.ap ks s)))))) = _
    rw [spread_gather h, bx_of_gather hk g3.1 g3.2]
    rfl
  · rw [if_neg hn, if_neg hn]
    show DS.ap ks (.bx n) (St.gather.ap ks (St.shift.ap ks (St.sub.ap ks (St.spread.ap ks (St.gather.ap ks s))))) = _
    rw [spread_gather h, bx_of_gather hk g2.1 g2.2]
    rfl
theorem rounds_ap {ks : List Nat} (hk : Byt ks) : ∀ (l : List Nat) (s : List Nat), s.length = 16 → Byt s → runD ks (l.flatMap fun n => dround (n + 1)) (St.gather.ap ks s) = St.gather.ap ks (runSt ks (l.flatMap fun n => roundSt (n + 1)) s)
  | [], _, _, _ => rfl
  | n :: l, s, h1, h2 => by
    rw [List.flatMap_cons, List.flatMap_cons, runD_append, runSt_append, dround_ap hk h1 h2]
    have := runSt_ok hk (roundSt (n + 1)) s h1 h2
    exact rounds_ap hk l _ this.1 this.2
theorem doc_forth {ks b : List Nat} (hk : Byt ks) (h : b.length = 16) (hb : Byt b) (r : Nat) : runD ks (docSt r) b = forthL ks b r := by
  unfold docSt forthL forthSt
  have g1 := St.ap_ok hk hb .spread
  have g2 := St.ap_ok hk g1.2 (.key 0)
  rw [runD_append, runSt_append, runSt_append]
  show runD ks _ (DS.ap ks (.bx 0) b) = St.gather.ap ks (runSt ks _ ((St.key 0).ap ks (St.spread.ap ks b)))
  rw [bx_gather h, rounds_ap hk _ _ g2.1 g2.2]
theorem rbehind_any (w : World) (k b : List Nat) (hk : Byt k) (hkl : k.length = 16) (hb : Byt b) (hbl : b.length = 16) (r : Nat) (hr : r ≤ 10) :
    Calls Try.prog 34 #[.agg (cells8 k), .agg (cells8 b), .int .i64 (r : Int)] w fun e w' => e = .returned (.agg (cells8 (forthL (schedL k) b r))) ∧ Below w.heap.size w w' := by
  obtain ⟨s1, s2, s3⟩ := schedL_ok hkl hk
  have hev := List.all_eq_true.1 rbehind_ev r (List.mem_range.2 (by omega))
  rw [decide_eq_true_eq] at hev
  have hlt := dEnv_lt (steps := docSt r) s2 hb hbl
  have n1 : named (dEnv (schedL k) (docSt r) b) 0 16 = k := by
    refine Eq.trans (List.map_congr_left fun i hi => ?_) (sched_named hkl hk).1
    have hi2 : i < 16 := by simpa using hi
    unfold dEnv
    rw [Nat.zero_add, if_pos (by omega), ← s3 i (by omega)]
  have n2 : named (dEnv (schedL k) (docSt r) b) 0 176 = schedL k := by
    refine Eq.trans (List.map_congr_left fun i hi => ?_) (sched_named hkl hk).2
    have hi2 : i < 176 := by simpa using hi
    unfold dEnv
    rw [Nat.zero_add, if_pos hi2, ← s3 i hi2]
  refine (calls_of_evF (noLore_ok (envB (dEnv (schedL k) (docSt r) b))) (conOr_ok (dCon_ok s2 s1 hb hbl) (tabCon_ok ?_)) mixedOrders 100 hev (args := #[.agg (cells8 k), .agg (cells8 b), .int .i64 (r : Int)]) w ?_).mono ?_
  · intro e he
    simp only [schedTab, List.mem_cons, List.not_mem_nil, or_false] at he
    subst he
    exact ent1 hlt fun w => by rw [n1, n2]; exact rsched_any w k hk hkl
  · have e2 : (AV.tv (.agg (nameOf 0))).inst (envB (dEnv (schedL k) (docSt r) b)) [] = some (.agg (cells8 b)) := by simp only [AV.inst]; exact dname_inst s2 hb hbl [] 0
    have e3 : (N64 (r : Int)).inst (envB (dEnv (schedL k) (docSt r) b)) [] = some (.int .i64 (r : Int)) := rfl
    simp only [List.map_cons, List.map_nil, V_inst hlt, n1, e2, e3]
  · rintro e w' ⟨ms, u, rfl, h1, h2, h3⟩
    simp only [AV.inst, dname_inst s2 hb hbl, Option.some.injEq] at h1
    rw [← h1]
    refine ⟨?_, h3⟩
    unfold dstat
    rw [List.take_length, doc_forth s2 hbl hb]
def dunround (n : Nat) : List DS := [.bx n, .st .spread] ++ (if n < 10 then [.st .unmix] else []) ++ [.st .unshift, .st .unsub, .st .gather]
def docBackSt : List DS := (List.range 10).flatMap (fun n => dunround (10 - n)) ++ [.bx 0]
theorem dunround_ap {ks s : List Nat} (hk : Byt ks) (h : s.length = 16) (hb : Byt s) (n : Nat) : runD ks (dunround n) (St.gather.ap ks s) = St.gather.ap ks (runSt ks (unroundSt n) s) := by
  have g1 := St.ap_ok hk hb (.key n)
  unfold dunround unroundSt
  by_cases hn : n < 10
  · rw [if_pos hn, if_pos hn]
    show St.gather.ap ks (St.unsub.ap ks (St.unshift.ap ks (St.unmix.ap ks (St.spread.ap ks (DS.ap ks (.bx n) (St.gather.ap ks s)))))) = _
    rw [bx_of_gather hk h hb, spread_gather g1.1]
    rfl
  · rw [if_neg hn, if_neg hn]
    show St.gather.ap ks (St.unsub.ap ks (St.unshift.ap ks (St.spread.ap ks (DS.ap ks (.bx n) (St.gather.ap ks s))))) = _
    rw [bx_of_gather hk h hb, spread_gather g1.1]
    rfl
theorem unrounds_ap {ks : List Nat} (hk : Byt ks) : ∀ (l : List Nat) (s : List Nat), s.length = 16 → Byt s → runD ks (l.flatMap fun n => dunround (10 - n)) (St.gather.ap ks s) = St.gather.ap ks (runSt ks (l.flatMap fun n => unroundSt (10 - n)) s)
  | [], _, _, _ => rfl
  | n :: l, s, h1, h2 => by
    rw [List.flatMap_cons, List.flatMap_cons, runD_append, runSt_append, dunround_ap hk h1 h2]
    have := runSt_ok hk (unroundSt (10 - n)) s h1 h2
    exact unrounds_ap hk l _ this.1 this.2
theorem gather_spread16 {ks b : List Nat} (h : b.length = 16) : St.gather.ap ks (St.spread.ap ks b) = b := by
  obtain ⟨x0, x1, x2, x3, x4, x5, x6, x7, x8, x9, x10, x11, x12, x13, x14, x15, rfl⟩ := list16 h
  rfl
theorem doc_back {ks b : List Nat} (hk : Byt ks) (h : b.length = 16) (hb : Byt b) : runD ks docBackSt b = backL ks b := by
  unfold docBackSt backL backSt
  have g1 := St.ap_ok hk hb .spread
  rw [runD_append, runSt_append, runSt_append]
  show DS.ap ks (.bx 0) (runD ks _ b) = St.gather.ap ks ((St.key 0).ap ks (runSt ks _ (St.spread.ap ks b)))
  have g2 := runSt_ok hk ((List.range 10).flatMap fun n => unroundSt (10 - n)) _ g1.1 g1.2
  conv => lhs; rw [← gather_spread16 (ks := ks) h]
  rw [unrounds_ap hk _ _ g1.1 g1.2, bx_of_gather hk g2.1 g2.2]
theorem named_at {f : Nat → Nat} {o n : Nat} {l : List Nat} (hl : l.length = n) (h : ∀ i, i < n → f (o + i) = at8 l i) : named f o n = l := by
  refine List.ext_getElem (by rw [named_length, hl]) fun i h1 h2 => ?_
  rw [named_length] at h1
  simp only [named, List.getElem_map, List.getElem_range]
  rw [h i h1]
  simp [at8, List.getD, List.getElem?_eq_getElem h2]
def threeF (k b x : List Nat) : Nat → Nat := fun i => if i < 16 then at8 k i else if i < 32 then at8 b (i - 16) else at8 x (i - 32)
def rencTab : List (Nat × List AV × AV) := [(34, [V 0 16, V 16 16, N64 10], V 32 16)]
theorem rencrypt_ev : (evCallF Try.prog noLore (tabCon rencTab) 100 25 [V 0 16, V 16 16] []).map (·.1) = some (V 32 16) := by kernel_rfl
theorem rencrypt_any (w : World) (k b : List Nat) (hk : Byt k) (hkl : k.length = 16) (hb : Byt b) (hbl : b.length = 16) :
    Calls Try.prog 25 #[.agg (cells8 k), .agg (cells8 b)] w fun e w' => e = .returned (.agg (cells8 (forthL (schedL k) b 10))) ∧ Below w.heap.size w w' := by
  obtain ⟨x, hx⟩ : ∃ x, x = forthL (schedL k) b 10 := ⟨_, rfl⟩
  have ox : x.length = 16 ∧ Byt x := by rw [hx]; exact runSt_ok (schedL_ok hkl hk).2.1 _ b hbl hb
  have hlt : ∀ i, threeF k b x i < 256 := fun i => by
    unfold threeF
    split
    · exact byt_at hk i
    · split
      · exact byt_at hb _
      · exact byt_at ox.2 _
  have n1 : named (threeF k b x) 0 16 = k := named_at hkl fun i hi => by unfold threeF; rw [if_pos (by omega), Nat.zero_add]
  have n2 : named (threeF k b x) 16 16 = b := named_at hbl fun i hi => by unfold threeF; rw [if_neg (by omega), if_pos (by omega), show 16 + i - 16 = i by omega]
  have n3 : named (threeF k b x) 32 16 = x := named_at ox.1 fun i hi => by unfold threeF; rw [if_neg (by omega), if_neg (by omega), show 32 + i - 32 = i by omega]
  obtain ⟨⟨v, H'⟩, hev, hv⟩ := Option.map_eq_some_iff.1 rencrypt_ev
  simp only at hv
  subst hv
  refine (calls_of_evF (noLore_ok (envB (threeF k b x))) (tabCon_ok ?_) mixedOrders 100 hev (args := #[.agg (cells8 k), .agg (cells8 b)]) w ?_).mono ?_
  · intro e he
    simp only [rencTab, List.mem_cons, List.not_mem_nil, or_false] at he
    subst he
    exact ent3 hlt fun w => by rw [n1, n2, n3, hx]; exact rbehind_any w k b hk hkl hb hbl 10 (by decide)
  · simp only [List.map_cons, List.map_nil, V_inst hlt, n1, n2]
  · rintro e w' ⟨ms, u, rfl, h1, h2, h3⟩
    rw [V_inst hlt, n3, Option.some.injEq] at h1
    rw [← h1, hx]
    exact ⟨rfl, h3⟩
def eN : Nat → Ex
  | 0 => .var 900
  | j + 1 => .ari .add .u64 (eN j) (.lit 1)
def eIx : Ex → Option Nat
  | .var i => if i = 900 then some 0 else none
  | .ari op k e r => if op = .add ∧ k = .u64 ∧ r = .lit 1 then (eIx e).map (· + 1) else none
  | _ => none
theorem rcounter_ev : (evCallF Try.prog noLore noCon 100 26 [.tv (.sc (.int .u64 (.var 0)))] []).map (·.1) = some (.tv (.agg ctrE)) := by kernel_rfl
theorem ctrE_inst (n : Nat) (ms : List Nat) : (AV.tv (.agg ctrE)).inst ⟨fun _ => (n : Int), fun _ => .tuple #[], fun _ _ _ => 0⟩ ms = some (.agg (cells8 (ctrL n))) := by
  have hk : ∀ k : Nat, IntKind.u8.wrap (Int.fdiv (n : Int) (2 ^ k)) = ((n / 2 ^ k % 256 : Nat) : Int) := fun k => by
    rw [IntKind.wrap_u8', Int.fdiv_eq_ediv_of_nonneg _ (by exact_mod_cast Nat.zero_le _)]
    have : ((2 : Int) ^ k) = ((2 ^ k : Nat) : Int) := by simp
    rw [this]
    omega
  have h0 : IntKind.u8.wrap (n : Int) = ((n % 256 : Nat) : Int) := by rw [IntKind.wrap_u8']; omega
  simp only [AV.inst, TV.inst, ctrE, List.replicate, List.map_cons, List.map_nil, List.cons_append, List.nil_append, SV.inst, Ex.den, hk, h0, seqO, Option.map_some]
  rfl
theorem some_fst {v : AV} {r : Option (AV × List Blk)} (h : r.map (·.1) = some v) : ∃ H, r = some (v, H) := by
  cases r with
  | none => cases h
  | some p => simp only [Option.map_some, Option.some.injEq] at h; exact ⟨p.2, by rw [← h]⟩
theorem rcounter_any (w : World) (n : Nat) : Calls Try.prog 26 #[.int .u64 (n : Int)] w fun e w' => e = .returned (.agg (cells8 (ctrL n))) ∧ Below w.heap.size w w' := by
  obtain ⟨H, h⟩ := some_fst rcounter_ev
  refine (calls_of_evF (noLore_ok ⟨fun _ => (n : Int), fun _ => .tuple #[], fun _ _ _ => 0⟩) (noCon_ok _ _) mixedOrders 100 h (args := #[.int .u64 (n : Int)]) w ?_).mono ?_
  · simp only [List.map_cons, List.map_nil, AV.inst, TV.inst, SV.inst, Ex.den]
  · rintro e w' ⟨ms, u, rfl, h1, h2, h3⟩
    rw [ctrE_inst] at h1
    exact ⟨by rw [Option.some.inj h1], h3⟩
def tabR : List (Nat × List AV × AV) := [(26, [.tv (.sc (.int .u64 (.var 500)))], V 16 16), (25, [V 0 16, V 16 16], V 32 16)]
theorem rblock_ev : (evCallF Try.prog noLore (tabCon tabR) 100 22 [V 0 16, .tv (.sc (.int .u64 (.var 500)))] []).map (·.1) = some (V 32 16) := by kernel_rfl
theorem rblock_any (w : World) (k : List Nat) (n : Nat) (hk : Byt k) (hl : k.length = 16) : Calls Try.prog 22 #[.agg (cells8 k), .int .u64 (n : Int)] w fun e w' => e = .returned (.agg (cells8 (ksL k n))) ∧ Below w.heap.size w w' := by
  obtain ⟨H, h⟩ := some_fst rblock_ev
  let f : Nat → Nat := fun i => if i < 16 then at8 k i else if i < 32 then at8 (ctrL n) (i - 16) else at8 (ksL k n) (i - 32)
  have n1 : named f 0 16 = k := at8_vars hl fun i hi => by simp only [f]; rw [if_pos (by omega), Nat.zero_add]
  have n2 : named f 16 16 = ctrL n := at8_vars (ctrL_length n) fun i hi => by simp only [f]; rw [if_neg (by omega), if_pos (by omega), Nat.add_sub_cancel_left]
  have n3 : named f 32 16 = ksL k n := at8_vars (ksL_ok hl hk n).1 fun i hi => by simp only [f]; rw [if_neg (by omega), if_neg (by omega), Nat.add_sub_cancel_left]
  have e1 : ∀ ms, (AV.tv (.sc (.int .u64 (.var 500)))).inst (envC f (n : Int)) ms = some (.int .u64 (n : Int)) := fun ms => rfl
  have hcon : ConOk Try.prog (envC f (n : Int)) (tabCon tabR) := by
    refine tabCon_ok ?_
    intro e he
    simp only [tabR, List.mem_cons, List.not_mem_nil, or_false] at he
    rcases he with rfl | rfl
    · intro ms W args ha
      have ea : args = #[.int .u64 (n : Int)] := by
        obtain ⟨l⟩ := args
        have hl1 : l.length = 1 := by have := congrArg List.length ha; simpa using this.symm
        match l, hl1, ha with
        | [u], _, ha =>
          simp only [List.map_cons, List.map_nil, List.cons.injEq, and_true, e1, Option.some.injEq] at ha
          subst ha
          rfl
      subst ea
      exact (rcounter_any W n).mono fun e w' ⟨q1, q2⟩ => ⟨_, q1, by rw [VC _ _ 16 16 (by decide), n2], q2⟩
    · intro ms W args ha
      have ea : args = #[.agg (cells8 k), .agg (cells8 (ctrL n))] := by
        obtain ⟨l⟩ := args
        have hl1 : l.length = 2 := by have := congrArg List.length ha; simpa using this.symm
        match l, hl1, ha with
        | [u, u'], _, ha =>
          simp only [List.map_cons, List.map_nil, List.cons.injEq, and_true, VC _ _ 0 16 (by decide), VC _ _ 16 16 (by decide), n1, n2, Option.some.injEq] at ha
          obtain ⟨rfl, rfl⟩ := ha
          rfl
      subst ea
      exact (rencrypt_any W k (ctrL n) hk hl (ctrL_byt n) (ctrL_length n)).mono fun e w' ⟨q1, q2⟩ => ⟨_, q1, by rw [VC _ _ 32 16 (by decide), n3]; rfl, q2⟩
  refine (calls_of_evF (noLore_ok (envC f (n : Int))) hcon mixedOrders 100 h (args := #[.agg (cells8 k), .int .u64 (n : Int)]) w ?_).mono ?_
  · simp only [List.map_cons, List.map_nil, VC _ _ 0 16 (by decide), n1, e1]
  · rintro e w' ⟨ms, u, rfl, h1, h2, h3⟩
    rw [VC _ _ 32 16 (by decide), n3] at h1
    exact ⟨by rw [Option.some.inj h1], h3⟩
end Go.Proofs.Ytmpdmkckjajhiaa
namespace Go.Proofs.Ytmpdmkckjajhiaa
open Go.RowKit
theorem run_append_byte (w : World) (base : Nat) (ty : TypeId) (v : Value) (n : Nat) (xs : List Value) (hown : w.ownsRow base 5 1 v n xs) (a : Addr) (c : Nat) (x : Int) (hx : w.cell? a = some (.int .u8 x)) (hn : n + 1 ≤ 140737488355328) (hbase : base ≤ w.heap.size) :
    ∃ v' w', (Builtin.append_ #[31, 31] ty #[v, .slice (some a) 1 c]).run Try.prog w = .ok v' w' ∧ w'.ownsRow base 5 1 v' (n + 1) (xs ++ [.int .u8 x]) ∧ w.grownBy w' v.ownBlock ∧
      (v'.ownBlock = v.ownBlock ∨ (v'.ownBlock = some w.heap.size ∧ w.grownBy w' none)) := by
  obtain ⟨i0, hi, hz0, hz1, hz2⟩ := info_parts info_u8
  have hnews : ∀ j u, [Value.int .u8 x][j]? = some u → w.cell? (a.add j) = some u := by
    intro j u hj
    match j, hj with
    | 0, hj => simp at hj; subst hj; simpa [Addr.add] using hx
  have h1 : ∀ u ∈ [Value.int .u8 x], u.oneCell' = true := by intro u hu; simp at hu; subst hu; rfl
  obtain ⟨v', w', hr, h2, h3, _⟩ := run_append_own (P := Try.prog) w base 31 ty 5 i0 (.int .u8 0) 1 1 Try.underlying31 hi hz0 hz1 hz2 rfl (by decide) v n xs hown a 1 c [.int .u8 x] rfl hnews h1 (by unfold maxLen; omega) (by omega) hbase
  refine ⟨v', w', hr, h2, h3, ?_⟩
  rcases hown.2 with ⟨rfl, rfl⟩ | ⟨g, cap, cur, rfl, hbg, hg, hnc, hcm, hcs, htake⟩
  · have hr2 := run_append_nil (P := Try.prog) w 31 ty 5 i0 (.int .u8 0) Try.underlying31 hi hz0 a 1 c [.int .u8 x] (by rw [hz1]; rfl) hnews (by omega) (by omega) (by rw [hz2]; omega)
    rw [hr] at hr2
    simp only [Result.ok.injEq] at hr2
    obtain ⟨rfl, rfl⟩ := hr2
    exact .inr ⟨rfl, ⟨rfl, rfl, rfl, by simp, fun k hk _ => heap_alloc_old w.drew _ hk⟩⟩
  · by_cases hroom : n + 1 ≤ cap
    · obtain ⟨w2, hr2, _⟩ := run_append_fits (P := Try.prog) w base 31 ty 5 i0 1 Try.underlying31 hi hz1 g n cap xs hown a 1 c [.int .u8 x] rfl hnews h1 hroom
      rw [hr] at hr2
      simp only [Result.ok.injEq] at hr2
      obtain ⟨rfl, rfl⟩ := hr2
      exact .inl rfl
    · have hr2 := run_append_grow (P := Try.prog) w 31 ty 5 i0 (.int .u8 0) Try.underlying31 hi hz0 ⟨g, 0, none⟩ n cap xs (by rw [hz1]; exact hown.1) (hown.cells (g := g) rfl) a 1 c [.int .u8 x] (by rw [hz1]; rfl) hnews (by omega) (by omega) (growslice_fits (by omega) (by rw [hz2]; omega))
      rw [hr] at hr2
      simp only [Result.ok.injEq] at hr2
      obtain ⟨rfl, rfl⟩ := hr2
      exact .inr ⟨rfl, ⟨rfl, rfl, rfl, by simp, fun k hk _ => heap_alloc_old w.drew _ hk⟩⟩
theorem wpList_append_byte {w : World} {ops : Array Oper} {rest : List Oper} {o : Oper} {a : Act} {Q : Exit → Act → World → Prop} (hgd : o.guard = none) (s x : Operand)
    (ho : o.op = .call { callee := .builtin .append, args := #[s, x], argTypes := #[31, 31] })
    (base : Nat) (v : Value) (n : Nat) (xs : List Value) (hs : a.eval s = v) (hown : w.ownsRow base 5 1 v n xs)
    (ad : Addr) (c : Nat) (y : Int) (hx : a.eval x = .slice (some ad) 1 c) (hy : w.cell? ad = some (.int .u8 y)) (hn : n + 1 ≤ 140737488355328) (hbase : base ≤ w.heap.size)
    (h : ∀ v' w', w'.ownsRow base 5 1 v' (n + 1) (xs ++ [.int .u8 y]) → w.grownBy w' v.ownBlock → (v'.ownBlock = v.ownBlock ∨ (v'.ownBlock = some w.heap.size ∧ w.grownBy w' none)) → wpList Try.prog ops Q rest (a.put o.dst v') w') : wpList Try.prog ops Q (o :: rest) a w := by
  refine wpList_plain hgd fun K hK => ?_
  obtain ⟨v', w', hr, h2, h3, h4⟩ := run_append_byte w base o.type v n xs hown ad c y hy hn hbase
  unfold Oper.wp execOp
  simp only [ho, resolve, invoke, builtin, Sem.run_bind, Sem.run_pure, Result.andThen_ok, List.map_toArray, List.map_cons, List.map_nil, hs, hx, hr]
  exact hK _ _ (h v' w' h2 h3 h4)
theorem wpList_append_HB {w : World} {ops : Array Oper} {rest : List Oper} {o : Oper} {a : Act} {Q : Exit → Act → World → Prop} (hgd : o.guard = none) (s x : Operand)
    (ho : o.op = .call { callee := .builtin .append, args := #[s, x], argTypes := #[31, 31] })
    (base : Nat) (v : Value) (n : Nat) (xs : List Value) (hs : a.eval s = v) (hown : w.ownsRow base 5 1 v n xs)
    (u : Value) (l : List Int) (hx : a.eval x = u) (hu : HB w u l) (hbytes : n + l.length ≤ 140737488355328) (hbase : base ≤ w.heap.size)
    (h : ∀ v' w', w'.ownsRow base 5 1 v' (n + l.length) (xs ++ l.map (Value.int .u8)) → w.grownBy w' v.ownBlock → wpList Try.prog ops Q rest (a.put o.dst v') w') : wpList Try.prog ops Q (o :: rest) a w := by
  obtain ⟨i0, hi, hz0, hz1, hz2⟩ := info_parts info_u8
  obtain ⟨⟨p, c, rfl, hlc, hm, hpc, hcell⟩, hby⟩ := hu
  cases p with
  | none =>
    have e : l = [] := by
      apply Classical.byContradiction
      intro hne
      obtain ⟨b, off, e, _⟩ := hcell hne
      cases e
    subst e
    have := hpc rfl
    subst this
    refine wpList_append_own_none hgd s x 31 ho base 5 i0 1 Try.underlying31 hi v n xs hs hown hx ?_
    exact h v w (by simpa using hown) ⟨rfl, rfl, rfl, Nat.le_refl _, fun _ _ _ => rfl⟩
  | some ad =>
    refine wpList_append_own w hgd s x 31 ho base 5 i0 (.int .u8 0) 1 1 Try.underlying31 hi hz0 hz1 hz2 rfl (by decide) v n xs hs hown ad l.length c (l.map (Value.int .u8)) hx (by simp) ?_ ?_ (by unfold maxLen; omega) (by omega) hbase (fun v' w' h1 h2 _ => h v' w' h1 h2)
    · intro j y hj
      have hjn : j < l.length := by
        have := (List.getElem?_eq_some_iff.1 hj).1
        simpa using this
      obtain ⟨b, off, e, hh⟩ := hcell (by intro e; subst e; simp at hjn)
      cases e
      rw [Go.WideShapes.add_plain, hh j hjn]
      have e : (l.map (Value.int .u8))[j]? = some (Value.int .u8 (l.getD j 0)) := by simp [List.getD, List.getElem?_eq_getElem hjn]
      rw [e] at hj
      exact hj
    · intro u hu; obtain ⟨x, _, rfl⟩ := List.mem_map.1 hu; rfl
theorem flat_snoc (ls : List (List Int)) (k : Nat) (hk : k < ls.length) : (ls.take (k + 1)).flatten = (ls.take k).flatten ++ ls.getD k [] := by
  rw [List.take_succ_eq_append_getElem hk, List.flatten_append]
  simp [List.getD, List.getElem?_eq_getElem hk]
theorem flat_take_le (ls : List (List Int)) (k : Nat) : (ls.take k).flatten.length ≤ ls.flatten.length := by
  conv => rhs; rw [← List.take_append_drop k ls, List.flatten_append, List.length_append]
  omega
def lensTo (ls : List (List Int)) (k : Nat) : Nat := (ls.take k).flatten.length
def flatTo (ls : List (List Int)) (k : Nat) : List Int := (ls.take k).flatten
theorem info_bytes : (Try.prog.info? 31).map (fun i => (i.zero, i.size, i.bytes)) = some (some (.slice none 0 0), 1, 24) := by kernel_rfl
def BytI (l : List Int) : Prop := ∀ x ∈ l, 0 ≤ x ∧ x < 256
def EL (w0 w : World) (u : Value) (l : List Int) : Prop :=
  (w.ownsRow w0.heap.size 5 1 u l.length (l.map (Value.int .u8)) ∧ BytI l) ∨ HB w0 u l
def OWL (w0 w : World) (v : Value) (ls : List (List Int)) : Prop :=
  ∃ xs, w.ownsRow w0.heap.size 31 1 v ls.length xs ∧ ∀ j, j < ls.length → EL w0 w (xs.getD j undef) (ls.getD j [])
theorem EL.hb {w0 w : World} {u : Value} {l : List Int} (h : EL w0 w u l) (hb : Below w0.heap.size w0 w) : HB w u l := by
  rcases h with ⟨h, hx⟩ | h
  · exact HB.of_own h hx
  · exact h.below hb
theorem own_block_ne {w : World} {B e n : Nat} {v : Value} {xs : List Value} (h : w.ownsRow B e 1 v n xs) {g : Nat} {cur : Array Value} {e' : TypeId} {fz : Nat × Nat} (hg : w.heap[g]? = some (.cells cur e' fz)) (hne : e ≠ e') : v.ownBlock ≠ some g := by
  intro hv
  rcases h.2 with ⟨rfl, _⟩ | ⟨g', cap, cur', rfl, _, hh, _⟩
  · simp [Value.ownBlock] at hv
  · simp only [Value.ownBlock, Option.some.injEq] at hv
    subst hv
    rw [hh] at hg
    simp only [Option.some.injEq, Obj.cells.injEq] at hg
    exact hne hg.2.1
theorem EL.grown {w0 w w' : World} {u : Value} {l : List Int} {row : Option Nat} (h : EL w0 w u l) (hg : w.grownBy w' row) (hr : ∀ g, row = some g → ∃ cur e fz, w.heap[g]? = some (.cells cur e fz) ∧ 5 ≠ e) : EL w0 w' u l := by
  rcases h with ⟨h, hx⟩ | h
  · refine .inl ⟨h.kept hg ?_, hx⟩
    cases hrow : row with
    | none =>
      cases hv : u.ownBlock with
      | none => exact .inl rfl
      | some k => exact .inr (by simp)
    | some g =>
      obtain ⟨cur, e, fz, hh, hne⟩ := hr g hrow
      exact .inr (own_block_ne h hh hne)
  · exact .inr h
theorem OWL.grown {w0 w w' : World} {v : Value} {ls : List (List Int)} {row : Option Nat} (h : OWL w0 w v ls) (hg : w.grownBy w' row) (hr : ∀ g, row = some g → ∃ cur e fz, w.heap[g]? = some (.cells cur e fz) ∧ 5 ≠ e ∧ 31 ≠ e) : OWL w0 w' v ls := by
  obtain ⟨xs, h1, h2⟩ := h
  refine ⟨xs, h1.kept hg ?_, fun j hj => (h2 j hj).grown hg fun g e => ?_⟩
  · cases hrow : row with
    | none =>
      cases hv : v.ownBlock with
      | none => exact .inl rfl
      | some k => exact .inr (by simp)
    | some g =>
      obtain ⟨cur, e, fz, hh, _, hne⟩ := hr g hrow
      exact .inr (own_block_ne h1 hh hne)
  · obtain ⟨cur, e', fz, hh, hne, _⟩ := hr g e
    exact ⟨cur, e', fz, hh, hne⟩
theorem OWL.below {w0 w w' : World} {v : Value} {ls : List (List Int)} (h : OWL w0 w v ls) (hb : Below w.heap.size w w') : OWL w0 w' v ls :=
  h.grown (row := none) ⟨hb.os, hb.tape, hb.output, hb.size, fun k hk _ => hb.block k hk⟩ (fun g e => by cases e)
theorem OWL.hl {w0 w : World} {v : Value} {ls : List (List Int)} (h : OWL w0 w v ls) (hb : Below w0.heap.size w0 w) : HL w v ls := by
  obtain ⟨xs, h1, h2⟩ := h
  by_cases h0 : 0 < ls.length
  · obtain ⟨g, cap, rfl, _, hn, hm, hc⟩ := ownsRow_cells h1 h0
    refine ⟨_, cap, rfl, hn, hm, (fun e => by cases e), fun _ => ⟨g, 0, rfl, fun j hj => ⟨xs.getD j undef, ?_, (h2 j hj).hb hb⟩⟩⟩
    have hx : xs.length = ls.length := by have := h1.1; omega
    exact hc j _ (by simp [List.getD, List.getElem?_eq_getElem (show j < xs.length by omega)])
  · have e : ls = [] := List.length_eq_zero_iff.1 (by omega)
    subst e
    rcases h1.2 with ⟨rfl, _⟩ | ⟨g, cap, cur, rfl, _, _, hn, hm, _⟩
    · exact HL.nil _
    · exact ⟨_, cap, rfl, hn, hm, (fun e => by cases e), fun h => absurd rfl h⟩
theorem OWL.nil (w0 w : World) : OWL w0 w (.slice none 0 0) [] := ⟨[], World.ownsRow_nil _ _ _ _, fun j hj => by simp at hj⟩
theorem getD_app {α : Type} (l m : List α) (d : α) (j : Nat) : (l ++ m).getD j d = if j < l.length then l.getD j d else m.getD (j - l.length) d := by
  simp only [List.getD, List.getElem?_append]
  split <;> rfl
theorem wpList_append_OWL {w0 w : World} {ops : Array Oper} {rest : List Oper} {o : Oper} {a : Act} {Q : Exit → Act → World → Prop} (hgd : o.guard = none) (s x : Operand)
    (ho : o.op = .call { callee := .builtin .append, args := #[s, x], argTypes := #[30, 30] })
    (v : Value) (ls : List (List Int)) (hs : a.eval s = v) (hown : OWL w0 w v ls)
    (ad : Addr) (m c : Nat) (us : List Value) (ns : List (List Int)) (hx : a.eval x = .slice (some ad) m c) (hl : us.length = m) (hn : ns.length = m) (hcell : ∀ j u, us[j]? = some u → w.cell? (ad.add j) = some u)
    (hu : ∀ j, j < m → EL w0 w (us.getD j undef) (ns.getD j [])) (h1 : ∀ u ∈ us, u.oneCell' = true)
    (hbytes : (ls.length + m) * 24 ≤ 140737488355328) (hbase : w0.heap.size ≤ w.heap.size)
    (h : ∀ v' w', OWL w0 w' v' (ls ++ ns) → w.grownBy w' v.ownBlock → (∀ g, v.ownBlock = some g → w0.heap.size ≤ g ∧ BT w g 31) → wpList Try.prog ops Q rest (a.put o.dst v') w') : wpList Try.prog ops Q (o :: rest) a w := by
  obtain ⟨i0, hi, hz0, hz1, hz2⟩ := info_parts info_bytes
  obtain ⟨xs, hrow, hel⟩ := hown
  have hblk : ∀ g, v.ownBlock = some g → w0.heap.size ≤ g ∧ BT w g 31 := by
    intro g hg
    refine ⟨(hrow.lt g hg).1, ?_⟩
    rcases hrow.2 with ⟨rfl, _⟩ | ⟨g', cap, cur, rfl, _, hh, _⟩
    · simp [Value.ownBlock] at hg
    · simp only [Value.ownBlock, Option.some.injEq] at hg
      subst hg
      exact ⟨cur, _, hh⟩
  refine wpList_append_own w hgd s x 30 ho w0.heap.size 31 i0 (.slice none 0 0) 1 24 Try.underlying30 hi hz0 hz1 hz2 rfl (by decide) v ls.length xs hs hrow ad m c us hx (by omega) hcell h1 (by unfold maxLen; omega) hbytes hbase (fun v' w' h2 h3 _ => h v' w' ?_ h3 hblk)
  refine ⟨xs ++ us, by rw [List.length_append, hn]; exact h2, fun j hj => ?_⟩
  have key : ∀ u l, EL w0 w u l → EL w0 w' u l := fun u l he => he.grown h3 fun g hg => by
    obtain ⟨_, cur, fz, hh⟩ := hblk g hg
    exact ⟨cur, _, fz, hh, by decide⟩
  have hxl : xs.length = ls.length := by have := hrow.1; omega
  rw [getD_app, getD_app, hxl]
  rw [List.length_append] at hj
  split
  · exact key _ _ (hel j ‹_›)
  · exact key _ _ (hu _ (by omega))
theorem takel_eq_step (la lb : List (List Int)) (k : Nat) (ha : k < la.length) (hb : k < lb.length) (h : la.take k = lb.take k) (e : la.getD k [] = lb.getD k []) : la.take (k + 1) = lb.take (k + 1) := by
  rw [List.take_succ_eq_append_getElem ha, List.take_succ_eq_append_getElem hb, h]
  have e1 : la.getD k [] = la[k] := by simp [List.getD, List.getElem?_eq_getElem ha]
  have e2 : lb.getD k [] = lb[k] := by simp [List.getD, List.getElem?_eq_getElem hb]
  rw [e1, e2] at e
  rw [e]
set_option maxHeartbeats 400000 in
theorem sameLists_any (w : World) (va vb : Value) (la lb : List (List Int)) (ha : HL w va la) (hb : HL w vb lb) :
    Calls Try.prog 13 #[va, vb] w fun e w' => e = .returned (.bool (decide (la = lb))) ∧ Dr w w' := by
  by_cases hlen : la.length = lb.length
  · by_cases h0 : 0 < la.length
    · obtain ⟨b1, o1, c1, rfl, hc1, hm1, hk1⟩ := ha.ne h0
      obtain ⟨b2, o2, c2, rfl, hc2, hm2, hk2⟩ := hb.ne (by omega)
      unfold maxLen at hm1 hm2
      have hm : la.length ≤ 9223372036854775807 := by omega
      have HL : Hid (la.length = lb.length) := hlen
      rw [← hlen]
      have hcd : ∀ j, j < la.length → ∃ u, w.cell? ⟨b2, o2 + j, none⟩ = some u ∧ HB w u (lb.getD j []) := fun j hj => hk2 j (by omega)
      clear hlen hk2
      go_enter Try.func13, Try.ntmps13
      go_wp2
      go_loopw [5] (fun i wr => ∃ k : Nat, k ≤ la.length ∧ i = .int .i64 k ∧ la.take k = lb.take k ∧ Dr w wr) (fun i _ => la.length - (intOf i).toNat)
      case atStart => exact ⟨0, Nat.zero_le _, rfl, rfl, Dr.refl _⟩
      case round =>
        obtain ⟨k, hk, rfl, ht, hD⟩ := hrel
        have HD := hid hD
        clear hD
        by_cases hlt : k < la.length
        · obtain ⟨u1, g1, e1⟩ := hk1 k hlt
          obtain ⟨u2, g2, e2⟩ := hcd k hlt
          replace g1 := (HD.out.cell _).trans g1
          replace g2 := (HD.out.cell _).trans g2
          replace e1 := e1.dr HD.out
          replace e2 := e2.dr HD.out
          obtain ⟨x, HX⟩ : ∃ x, Hid (la.getD k [] = x) := ⟨_, rfl⟩
          obtain ⟨y, HY⟩ : ∃ y, Hid (lb.getD k [] = y) := ⟨_, rfl⟩
          rw [HX.out] at e1
          rw [HY.out] at e2
          obtain ⟨p1, c1', r1, _, _⟩ := e1.open
          obtain ⟨p2, c2', r2, _, _⟩ := e2.open
          subst r1 r2
          have E1 := hid e1
          have E2 := hid e2
          clear hk1 hcd e1 e2
          by_cases he : x = y
          · have hne : decide (x = y) = true := by simpa using he
            have HE := hid he
            clear he
            go_wp2
            go_quiet ((go_at_call 18; exact Calls.quiet_of (sameBytes_any _ _ _ x y (E1.out.later fun _ _ hx => hx) (E2.out.later fun _ _ hx => hx))))
            go_wp2
            exact ⟨⟨k + 1, by omega, by go_num, takel_eq_step la lb k hlt (by have := HL.out; omega) ht (by rw [HX.out, HY.out, HE.out]), HD.out.drewN _⟩, by simp [intOf]; omega⟩
          · have hne : decide (x = y) = false := by simpa using he
            go_wp2
            go_quiet ((go_at_call 18; exact Calls.quiet_of (sameBytes_any _ _ _ x y (E1.out.later fun _ _ hx => hx) (E2.out.later fun _ _ hx => hx))))
            go_wp2
            go_ret
            exact ⟨by rw [decide_eq_false (fun h => he ((HX.out.symm.trans (congrArg (fun z => List.getD z k []) h)).trans HY.out))]; rfl, HD.out.drewN _⟩
        · go_wp2
          go_ret
          have e : la = lb := by
            have h1 := List.take_of_length_le (show la.length ≤ k by omega)
            have h2 := List.take_of_length_le (show lb.length ≤ k by have := HL.out; omega)
            rw [← h1, ← h2, ht]
          exact ⟨by simp [e], HD.out⟩
    · obtain ⟨p1, c1, rfl, _, _⟩ := ha.open
      obtain ⟨p2, c2, rfl, _, _⟩ := hb.open
      have e1 : la = [] := List.length_eq_zero_iff.1 (by omega)
      have e2 : lb = [] := List.length_eq_zero_iff.1 (by omega)
      subst e1 e2
      go_enter Try.func13, Try.ntmps13
      go_wp2
      go_loop [5] (fun i => i = .int .i64 0) (fun _ => 0)
      case atStart => rfl
      case round =>
        subst hrel
        go_wp2
        go_ret
        exact ⟨rfl, Dr.refl _⟩
  · obtain ⟨p1, c1, rfl, _, _⟩ := ha.open
    obtain ⟨p2, c2, rfl, _, _⟩ := hb.open
    have hne : ((la.length : Int) != (lb.length : Int)) = true := by rw [bne_iff_ne]; omega
    go_enter Try.func13, Try.ntmps13
    go_wp2
    go_ret
    exact ⟨by simp [show la ≠ lb from fun e => hlen (by rw [e])], Dr.refl _⟩
end Go.Proofs.Ytmpdmkckjajhiaa
namespace Go.Proofs.Ytmpdmkckjajhiaa
open Go Go.RowKit
theorem cell_row4 (w : World) (g o : Nat) (m : Array Value) (T : TypeId) (fr : Nat × Nat) (h : w.heap[g]? = some (.cells m T fr)) : w.cell? ⟨g, o, none⟩ = m[o]? := by simp [World.cell?, h]
theorem zero16 : (#[.int .u8 0, .int .u8 0, .int .u8 0, .int .u8 0, .int .u8 0, .int .u8 0, .int .u8 0, .int .u8 0, .int .u8 0, .int .u8 0, .int .u8 0, .int .u8 0, .int .u8 0, .int .u8 0, .int .u8 0, .int .u8 0] : Array Value) = cells8 (List.replicate 16 0) := rfl
theorem size_blk : (Try.prog.info? 53).map (·.size) = some 16 := by kernel_rfl
theorem owp_append {o : Oper} {a : Act} {w w' : World} {K : Act → World → Prop} {Q : Exit → Act → World → Prop} {v v' : Value} {ad : Addr} {c : Nat} (s x : Operand)
    (ho : o.op = .call { callee := .builtin .append, args := #[s, x], argTypes := #[31, 31] }) (hs : a.eval s = v) (hx : a.eval x = .slice (some ad) 1 c)
    (hr : (Builtin.append_ #[31, 31] o.type #[v, .slice (some ad) 1 c]).run Try.prog w = .ok v' w') (h : K (a.put o.dst v') w') : o.wp Try.prog a w K Q := by
  unfold Oper.wp execOp
  simp only [ho, resolve, invoke, builtin, Sem.run_bind, Sem.run_pure, Result.andThen_ok, List.map_toArray, List.map_cons, List.map_nil, hs, hx, hr]
  exact h
theorem grown_setRow4 (w : World) (g : Nat) (cs : Array Value) : w.grownBy (w.setRow g cs) (some g) := ⟨rfl, rfl, rfl, by simp [World.setRow], fun k hk hne => by simp [World.setRow, Array.getElem?_modify, show g ≠ k from fun e => hne (by rw [e])]⟩
theorem strL_step (k : List Nat) (at' I : Nat) : strL k at' (I + 1) = strL k at' I ++ [ksB k (at' + I)] := by
  unfold strL
  rw [List.range_succ, List.map_append]
  rfl
set_option maxRecDepth 100000 in
set_option maxHeartbeats 2000000 in
theorem rstream_neg (w : World) (k : List Nat) (p n : Int) (hn : n < 0) : Calls Try.prog 19 #[.agg (cells8 k), .int .i64 p, .int .i64 n] w fun e w' => e = .returned (.tuple #[.slice none 0 0, .int .i64 2]) ∧ Below w.heap.size w w' := by
  obtain ⟨m, hm⟩ : ∃ m, cells8 k = m := ⟨_, rfl⟩
  rw [hm]
  go_enter Try.func19, Try.ntmps19
  go_wp2
  go_ret2
  exact ⟨rfl, (Below.refl _ w).alloc (Nat.le_refl _) _⟩
set_option maxRecDepth 100000 in
set_option maxHeartbeats 2000000 in
theorem rstream_bad (w : World) (k : List Nat) (p : Int) (n : Nat) (hp : -9223372036854775808 ≤ p ∧ p ≤ 9223372036854775807) (hb : ¬ okPl p n) : Calls Try.prog 19 #[.agg (cells8 k), .int .i64 p, .int .i64 (n : Int)] w fun e w' => e = .returned (.tuple #[.slice none 0 0, .int .i64 40]) ∧ Below w.heap.size w w' := by
  have hn0 : ¬ ((n : Int) < 0) := by omega
  obtain ⟨m, hm⟩ : ∃ m, cells8 k = m := ⟨_, rfl⟩
  rw [hm]
  unfold okPl at hb
  by_cases h1 : p < 0
  · go_enter Try.func19, Try.ntmps19
    go_wp2
    go_ret2
    exact ⟨rfl, (Below.refl _ w).alloc (Nat.le_refl _) _⟩
  · by_cases h2 : 4611686018427387904 < p
    · go_enter Try.func19, Try.ntmps19
      go_wp2
      go_ret2
      exact ⟨rfl, (Below.refl _ w).alloc (Nat.le_refl _) _⟩
    · have h3 : 4611686018427387904 - p < (n : Int) := by omega
      go_enter Try.func19, Try.ntmps19
      go_wp2
      go_ret2
      exact ⟨rfl, (Below.refl _ w).alloc (Nat.le_refl _) _⟩
set_option maxRecDepth 100000 in
set_option maxHeartbeats 8000000 in
theorem rstream_ok (w : World) (k : List Nat) (at' n : Nat) (hk : Byt k) (hl : k.length = 16) (hpl : at' + n ≤ 4611686018427387904) (hn : n ≤ 100000) :
    Calls Try.prog 19 #[.agg (cells8 k), .int .i64 (at' : Int), .int .i64 (n : Int)] w fun e w' => ∃ v', e = .returned (.tuple #[v', .int .i64 0]) ∧ w'.ownsRow w.heap.size 5 1 v' n ((strL k at' n).map (Value.int .u8)) ∧ Below w.heap.size w w' := by
  have CB := hid fun (W : World) (N : Nat) => rblock_any W k N hk hl
  obtain ⟨ck, HCK⟩ : ∃ x, Hid (cells8 k = x) := ⟨_, rfl⟩
  rw [HCK.out]
  have hn0 : ¬ ((n : Int) < 0) := by omega
  have h3 : ¬ (4611686018427387904 - (at' : Int) < (n : Int)) := by omega
  have h4 : ¬ ((4611686018427387904 : Int) < (at' : Int)) := by omega
  have h5 : ¬ ((at' : Int) < 0) := by omega
  go_enter Try.func19, Try.ntmps19
  go_wp2
  rw [zero16]
  obtain ⟨w0, HW0⟩ : ∃ x, Hid ((w.alloc (.cells ck 23)).alloc (.cells (cells8 (List.replicate 16 0)) 53) = x) := ⟨_, rfl⟩
  rw [HW0.out]
  have K0 : Hid (KeyIn w0 w.heap.size k) := by
    refine hid ?_
    rw [← HW0.out, ← HCK.out]
    exact (Below.heap_alloc _ _ _ (by simp)).trans (World.alloc_heap_new w _)
  have R0 : Hid (w0.heap[w.heap.size + 1]? = some (.cells (cells8 (List.replicate 16 0)) 53 (0, 0))) := by
    refine hid ?_
    rw [← HW0.out]
    have := World.alloc_heap_new (w.alloc (.cells ck 23)) (.cells (cells8 (List.replicate 16 0)) 53)
    simpa using this
  have B0 : Hid (Below w.heap.size w w0) := by refine hid ?_; rw [← HW0.out]; exact ((Below.refl w.heap.size w).alloc (Nat.le_refl _) _).alloc (by simp) _
  have Z0 : Hid (w.heap.size + 2 ≤ w0.heap.size) := by refine hid ?_; rw [← HW0.out]; simp
  clear HW0 HCK h3 h4 h5 hn0
  go_loopw [8, 9, 10, 12] (fun out hv no ii wr => ∃ (I N : Nat) (b : Bool) (bl : List Nat), I ≤ n ∧ ii = .int .i64 (I : Int) ∧ hv = .bool b ∧ no = .int .i64 (N : Int) ∧ bl.length = 16 ∧ Hid (b = true → bl = ksL k N) ∧ Hid (wr.ownsRow w.heap.size 5 1 out I ((strL k at' I).map (Value.int .u8))) ∧ Hid (wr.heap[w.heap.size + 1]? = some (.cells (cells8 bl) 53 (0, 0))) ∧ Hid (KeyIn wr w.heap.size k) ∧ Hid (Below w.heap.size w wr) ∧ Hid (w.heap.size + 2 ≤ wr.heap.size)) (fun _ _ _ ii _ => n - (intOf ii).toNat)
  case atStart => exact ⟨0, 0, false, List.replicate 16 0, by omega, rfl, rfl, rfl, rfl, hid (fun h => by cases h), hid (World.ownsRow_nil _ _ _ _), R0, K0, B0, Z0⟩
  case round =>
    clear R0 K0 B0 Z0
    obtain ⟨I, N, b, bl, hI, rfl, rfl, rfl, hbl, HBL, HO, HR, HK, HB, HZ⟩ := hrel
    by_cases hlt : I < n
    case neg =>
      have hIn : I = n := by omega
      have HO2 := HO.out
      rw [hIn] at HO2
      have HO2 := hid HO2
      go_wp2
      go_ret2
      exact ⟨_, rfl, HO2.out, HB.out⟩
    case pos =>
      obtain ⟨M, HM⟩ : ∃ x, Hid ((at' + I) / 16 = x) := ⟨_, rfl⟩
      obtain ⟨Rr, HRr⟩ : ∃ x, Hid ((at' + I) % 16 = x) := ⟨_, rfl⟩
      have hR16 : Rr < 16 := by have := HRr.out; omega
      have hM : M ≤ 4611686018427387904 := by have := HM.out; omega
      have hsum : (at' : Int) + (I : Int) ≤ 4611686018427387904 := by omega
      have hq : Int.tdiv ((at' : Int) + (I : Int)) 16 = (M : Int) := by rw [Int.tdiv_eq_ediv_of_nonneg (by omega)]; have := HM.out; omega
      have hr : Int.tmod ((at' : Int) + (I : Int)) 16 = (Rr : Int) := by rw [Int.tmod_eq_emod_of_nonneg (by omega)]; have := HRr.out; omega
      have KS : Hid (ksB k (at' + I) = ((at8 (ksL k M) Rr : Nat) : Int)) := hid (by unfold ksB; rw [HM.out, HRr.out])
      have KL : Hid ((ksL k M).length = 16) := hid (ksL_ok hl hk M).1
      by_cases hre : b = true ∧ N = M
      case pos =>
        obtain ⟨rfl, rfl⟩ := hre
        have hbk : bl = ksL k N := HBL.out rfl
        subst hbk
        as_aux_lemma =>
        have hcell : wr.cell? ⟨w.heap.size + 1, Rr, none⟩ = some (.int .u8 (ksB k (at' + I))) := by
          rw [cell_row4 _ _ _ _ _ _ HR.out, cells8_get (by rw [KL.out]; exact hR16), KS.out]
          rfl
        obtain ⟨kb, Hkb⟩ : ∃ x, Hid (ksB k (at' + I) = x) := ⟨_, rfl⟩
        have STP := hid (strL_step k at' I)
        rw [Hkb.out] at hcell STP
        have hal : Below wr.heap.size wr (wr.alloc (.cells #[.int .u8 kb] 5)) := (Below.refl _ _).alloc (Nat.le_refl _) _
        have OA := hid (own_below HO.out hal)
        have RA := hid ((hal.block (w.heap.size + 1) (Array.getElem?_eq_some_iff.1 HR.out).1).trans HR.out)
        have KA := hid (HK.out.below hal)
        have BA := hid (HB.out.trans (hal.mono HB.out.size))
        have CA : Hid ((wr.alloc (.cells #[.int .u8 kb] 5)).cell? ⟨wr.heap.size, 0, none⟩ = some (.int .u8 kb)) := hid ((cell_row4 _ _ 0 _ _ _ (World.alloc_heap_new wr _)).trans rfl)
        have ZA := hid (Nat.le_trans HZ.out hal.size)
        clear hal
        go_wp2_with (first | (at_builtin; refine wpList_append_byte rfl _ _ rfl w.heap.size _ I _ rfl OA.out ⟨wr.heap.size, 0, none⟩ 1 kb rfl CA.out (by omega) (by have := ZA.out; omega) ?_))
        intro v9 w9 ho9 hg9 hbk9
        have NB : Hid (∀ g, (_ : Value).ownBlock = some g → g ≠ w.heap.size + 1 ∧ g ≠ w.heap.size ∧ w.heap.size ≤ g) := hid fun g e => ⟨fun q => own_block_ne (g := w.heap.size + 1) OA.out RA.out (by decide) (by rw [e, q]), fun q => own_block_ne (g := w.heap.size) (cur := cells8 k) (e' := 23) (fz := (0, 0)) OA.out KA.out (by decide) (by rw [e, q]), (OA.out.lt g e).1⟩
        have O9 : Hid (w9.ownsRow w.heap.size 5 1 v9 (I + 1) ((strL k at' (I + 1)).map (Value.int .u8))) := hid (by rw [STP.out, List.map_append]; exact ho9)
        have R9 := hid ((hg9.block (w.heap.size + 1) (Array.getElem?_eq_some_iff.1 RA.out).1 (fun e => (NB.out _ e.symm).1 rfl)).trans RA.out)
        have K9 : Hid (KeyIn w9 w.heap.size k) := hid ((hg9.block w.heap.size (Array.getElem?_eq_some_iff.1 KA.out).1 (fun e => (NB.out _ e.symm).2.1 rfl)).trans KA.out)
        have B9 := hid (BA.out.grown hg9 BA.out.size (fun q e => (NB.out q e).2.2))
        have Z9 := hid (Nat.le_trans ZA.out hg9.size)
        clear ho9 hg9 hbk9
        go_wp2
        exact ⟨⟨I + 1, _, true, ksL k N, by omega, by go_num, rfl, rfl, KL.out, hid (fun _ => rfl), O9, R9, K9, B9, Z9⟩, by simp [intOf]; omega⟩
      case neg =>
        have CBN := hid (CB.out wr M)
        have hwM : IntKind.u64.wrap (M : Int) = (M : Int) := by rw [IntKind.wrap_u64]; omega
        have SY : Hid ((Try.prog.info? 53).map (·.size) = some (cells8 (ksL k M)).size) := hid (by rw [cells8_size, KL.out]; exact size_blk)
        have OY : Hid ((cells8 (ksL k M)).all (·.oneCell') = true) := hid (cells8_one _)
        have ZY : Hid ((cells8 bl).size = (cells8 (ksL k M)).size) := hid (by rw [cells8_size, cells8_size, hbl, KL.out])
        cases b with
        | false =>
          as_aux_lemma =>
          go_wp2_with (refine wpList_ldk HK hl rfl rfl rfl ?_)
          refine CBN.out.mono ?_
          rintro e w5 ⟨rfl, hb5⟩
          have R5 := hid ((hb5.block (w.heap.size + 1) (Array.getElem?_eq_some_iff.1 HR.out).1).trans HR.out)
          obtain ⟨w6, HW6⟩ : ∃ x, Hid (w5.setRow (w.heap.size + 1) (cells8 (ksL k M)) = x) := ⟨_, rfl⟩
          have R6 : Hid (w6.heap[w.heap.size + 1]? = some (.cells (cells8 (ksL k M)) 53 (0, 0))) := by refine hid ?_; rw [← HW6.out]; exact setRow_heap _ _ _ _ _ _ R5.out
          have G6 : Hid (w5.grownBy w6 (some (w.heap.size + 1))) := by refine hid ?_; rw [← HW6.out]; exact grown_setRow4 _ _ _
          have NB5 : Hid ((_ : Value).ownBlock ≠ some (w.heap.size + 1)) := hid (own_block_ne (own_below HO.out hb5) R5.out (by decide))
          have O6 := hid ((own_below HO.out hb5).kept G6.out (.inr NB5.out))
          have K6 : Hid (KeyIn w6 w.heap.size k) := hid ((G6.out.block w.heap.size (Array.getElem?_eq_some_iff.1 (HK.out.below hb5)).1 (by simp)).trans (HK.out.below hb5))
          have B6 := hid ((HB.out.trans (hb5.mono HB.out.size)).grown G6.out (HB.out.trans (hb5.mono HB.out.size)).size (fun q e => by cases e; omega))
          have Z6 := hid (Nat.le_trans (Nat.le_trans HZ.out hb5.size) G6.out.size)
          clear hb5 CBN HO HK HB HZ HR
          have hcell : w6.cell? ⟨w.heap.size + 1, Rr, none⟩ = some (.int .u8 (ksB k (at' + I))) := by
            rw [cell_row4 _ _ _ _ _ _ R6.out, cells8_get (by rw [KL.out]; exact hR16), KS.out]
            rfl
          obtain ⟨kb, Hkb⟩ : ∃ x, Hid (ksB k (at' + I) = x) := ⟨_, rfl⟩
          have STP := hid (strL_step k at' I)
          rw [Hkb.out] at hcell STP
          have hal : Below w6.heap.size w6 (w6.alloc (.cells #[.int .u8 kb] 5)) := (Below.refl _ _).alloc (Nat.le_refl _) _
          have OA := hid (own_below O6.out hal)
          have RA := hid ((hal.block (w.heap.size + 1) (Array.getElem?_eq_some_iff.1 R6.out).1).trans R6.out)
          have KA := hid (K6.out.below hal)
          have BA := hid (B6.out.trans (hal.mono B6.out.size))
          have CA : Hid ((w6.alloc (.cells #[.int .u8 kb] 5)).cell? ⟨w6.heap.size, 0, none⟩ = some (.int .u8 kb)) := hid ((cell_row4 _ _ 0 _ _ _ (World.alloc_heap_new w6 _)).trans rfl)
          have ZA := hid (Nat.le_trans Z6.out hal.size)
          clear hal
          go_wp2_with (first | (refine wpList_store_row rfl 53 _ _ rfl (w.heap.size + 1) (cells8 (ksL k M)) rfl rfl 53 _ R5.out SY.out ZY.out OY.out ?_; rw [HW6.out]) | (at_builtin; refine wpList_append_byte rfl _ _ rfl w.heap.size _ I _ rfl OA.out ⟨w6.heap.size, 0, none⟩ 1 kb rfl CA.out (by omega) (by have := ZA.out; omega) ?_))
          intro v9 w9 ho9 hg9 hbk9
          have NB : Hid (∀ g, (_ : Value).ownBlock = some g → g ≠ w.heap.size + 1 ∧ g ≠ w.heap.size ∧ w.heap.size ≤ g) := hid fun g e => ⟨fun q => own_block_ne (g := w.heap.size + 1) OA.out RA.out (by decide) (by rw [e, q]), fun q => own_block_ne (g := w.heap.size) (cur := cells8 k) (e' := 23) (fz := (0, 0)) OA.out KA.out (by decide) (by rw [e, q]), (OA.out.lt g e).1⟩
          have O9 : Hid (w9.ownsRow w.heap.size 5 1 v9 (I + 1) ((strL k at' (I + 1)).map (Value.int .u8))) := hid (by rw [STP.out, List.map_append]; exact ho9)
          have R9 := hid ((hg9.block (w.heap.size + 1) (Array.getElem?_eq_some_iff.1 RA.out).1 (fun e => (NB.out _ e.symm).1 rfl)).trans RA.out)
          have K9 : Hid (KeyIn w9 w.heap.size k) := hid ((hg9.block w.heap.size (Array.getElem?_eq_some_iff.1 KA.out).1 (fun e => (NB.out _ e.symm).2.1 rfl)).trans KA.out)
          have B9 := hid (BA.out.grown hg9 BA.out.size (fun q e => (NB.out q e).2.2))
          have Z9 := hid (Nat.le_trans ZA.out hg9.size)
          clear ho9 hg9 hbk9
          go_wp2
          exact ⟨⟨I + 1, _, true, ksL k M, by omega, by go_num, rfl, rfl, KL.out, hid (fun _ => rfl), O9, R9, K9, B9, Z9⟩, by simp [intOf]; omega⟩
        | true =>
          have hNM : ((N : Int) == (M : Int)) = false := by simp; intro e; exact hre ⟨rfl, by omega⟩
          as_aux_lemma =>
          go_wp2_with (refine wpList_ldk HK hl rfl rfl rfl ?_)
          refine CBN.out.mono ?_
          rintro e w5 ⟨rfl, hb5⟩
          have R5 := hid ((hb5.block (w.heap.size + 1) (Array.getElem?_eq_some_iff.1 HR.out).1).trans HR.out)
          obtain ⟨w6, HW6⟩ : ∃ x, Hid (w5.setRow (w.heap.size + 1) (cells8 (ksL k M)) = x) := ⟨_, rfl⟩
          have R6 : Hid (w6.heap[w.heap.size + 1]? = some (.cells (cells8 (ksL k M)) 53 (0, 0))) := by refine hid ?_; rw [← HW6.out]; exact setRow_heap _ _ _ _ _ _ R5.out
          have G6 : Hid (w5.grownBy w6 (some (w.heap.size + 1))) := by refine hid ?_; rw [← HW6.out]; exact grown_setRow4 _ _ _
          have NB5 : Hid ((_ : Value).ownBlock ≠ some (w.heap.size + 1)) := hid (own_block_ne (own_below HO.out hb5) R5.out (by decide))
          have O6 := hid ((own_below HO.out hb5).kept G6.out (.inr NB5.out))
          have K6 : Hid (KeyIn w6 w.heap.size k) := hid ((G6.out.block w.heap.size (Array.getElem?_eq_some_iff.1 (HK.out.below hb5)).1 (by simp)).trans (HK.out.below hb5))
          have B6 := hid ((HB.out.trans (hb5.mono HB.out.size)).grown G6.out (HB.out.trans (hb5.mono HB.out.size)).size (fun q e => by cases e; omega))
          have Z6 := hid (Nat.le_trans (Nat.le_trans HZ.out hb5.size) G6.out.size)
          clear hb5 CBN HO HK HB HZ HR
          have hcell : w6.cell? ⟨w.heap.size + 1, Rr, none⟩ = some (.int .u8 (ksB k (at' + I))) := by
            rw [cell_row4 _ _ _ _ _ _ R6.out, cells8_get (by rw [KL.out]; exact hR16), KS.out]
            rfl
          obtain ⟨kb, Hkb⟩ : ∃ x, Hid (ksB k (at' + I) = x) := ⟨_, rfl⟩
          have STP := hid (strL_step k at' I)
          rw [Hkb.out] at hcell STP
          have hal : Below w6.heap.size w6 (w6.alloc (.cells #[.int .u8 kb] 5)) := (Below.refl _ _).alloc (Nat.le_refl _) _
          have OA := hid (own_below O6.out hal)
          have RA := hid ((hal.block (w.heap.size + 1) (Array.getElem?_eq_some_iff.1 R6.out).1).trans R6.out)
          have KA := hid (K6.out.below hal)
          have BA := hid (B6.out.trans (hal.mono B6.out.size))
          have CA : Hid ((w6.alloc (.cells #[.int .u8 kb] 5)).cell? ⟨w6.heap.size, 0, none⟩ = some (.int .u8 kb)) := hid ((cell_row4 _ _ 0 _ _ _ (World.alloc_heap_new w6 _)).trans rfl)
          have ZA := hid (Nat.le_trans Z6.out hal.size)
          clear hal
          go_wp2_with (first | (refine wpList_store_row rfl 53 _ _ rfl (w.heap.size + 1) (cells8 (ksL k M)) rfl rfl 53 _ R5.out SY.out ZY.out OY.out ?_; rw [HW6.out]) | (at_builtin; refine wpList_append_byte rfl _ _ rfl w.heap.size _ I _ rfl OA.out ⟨w6.heap.size, 0, none⟩ 1 kb rfl CA.out (by omega) (by have := ZA.out; omega) ?_))
          intro v9 w9 ho9 hg9 hbk9
          have NB : Hid (∀ g, (_ : Value).ownBlock = some g → g ≠ w.heap.size + 1 ∧ g ≠ w.heap.size ∧ w.heap.size ≤ g) := hid fun g e => ⟨fun q => own_block_ne (g := w.heap.size + 1) OA.out RA.out (by decide) (by rw [e, q]), fun q => own_block_ne (g := w.heap.size) (cur := cells8 k) (e' := 23) (fz := (0, 0)) OA.out KA.out (by decide) (by rw [e, q]), (OA.out.lt g e).1⟩
          have O9 : Hid (w9.ownsRow w.heap.size 5 1 v9 (I + 1) ((strL k at' (I + 1)).map (Value.int .u8))) := hid (by rw [STP.out, List.map_append]; exact ho9)
          have R9 := hid ((hg9.block (w.heap.size + 1) (Array.getElem?_eq_some_iff.1 RA.out).1 (fun e => (NB.out _ e.symm).1 rfl)).trans RA.out)
          have K9 : Hid (KeyIn w9 w.heap.size k) := hid ((hg9.block w.heap.size (Array.getElem?_eq_some_iff.1 KA.out).1 (fun e => (NB.out _ e.symm).2.1 rfl)).trans KA.out)
          have B9 := hid (BA.out.grown hg9 BA.out.size (fun q e => (NB.out q e).2.2))
          have Z9 := hid (Nat.le_trans ZA.out hg9.size)
          clear ho9 hg9 hbk9
          go_wp2
          exact ⟨⟨I + 1, _, true, ksL k M, by omega, by go_num, rfl, rfl, KL.out, hid (fun _ => rfl), O9, R9, K9, B9, Z9⟩, by simp [intOf]; omega⟩
set_option maxRecDepth 100000 in
set_option maxHeartbeats 2000000 in
theorem rapply_bad (w : World) (k : List Nat) (p : Int) (v : Value) (l : List Int) (hl : k.length = 16) (hv : HB w v l) (hp : -9223372036854775808 ≤ p ∧ p ≤ 9223372036854775807) (hb : ¬ okPl p l.length) : Calls Try.prog 12 #[.agg (cells8 k), .int .i64 p, v] w fun e w' => e = .returned (.tuple #[.slice none 0 0, .int .i64 40]) ∧ Below w.heap.size w w' := by
  have CS := hid fun (W : World) => rstream_bad W k p l.length hp hb
  obtain ⟨pv, cv, rfl, _, _⟩ := hv.open
  obtain ⟨ck, HCK⟩ : ∃ x, Hid (cells8 k = x) := ⟨_, rfl⟩
  rw [HCK.out]
  clear hv hb
  go_enter Try.func12, Try.ntmps12
  refine wp_seq_k fun K1 h1 => ?_
  have H1 := hid h1
  clear h1
  go_wp2
  refine H1.out _ _ ?_
  clear H1 K1
  rw [← HCK.out]
  have K0 : Hid (KeyIn (w.alloc (.cells (cells8 k) 23)) w.heap.size k) := hid (World.alloc_heap_new w _)
  have B0 : Hid (Below w.heap.size w (w.alloc (.cells (cells8 k) 23))) := hid ((Below.refl _ w).alloc (Nat.le_refl _) _)
  obtain ⟨w0, HW0⟩ : ∃ x, Hid (w.alloc (.cells (cells8 k) 23) = x) := ⟨_, rfl⟩
  rw [HW0.out] at K0 B0 ⊢
  clear HW0 HCK
  go_wp2_with (refine wpList_ldk K0 hl rfl rfl rfl ?_)
  refine (CS.out w0).mono ?_
  rintro e w1 ⟨rfl, hb1⟩
  have B1 := hid (B0.out.trans (hb1.mono B0.out.size))
  clear hb1
  go_wp2
  go_ret2
  exact ⟨rfl, B1.out⟩
set_option maxRecDepth 100000 in
set_option maxHeartbeats 8000000 in
theorem rapply_ok (w : World) (k : List Nat) (at' : Nat) (v : Value) (l : List Int) (hk : Byt k) (hl : k.length = 16) (hv : HB w v l) (hpl : at' + l.length ≤ 4611686018427387904) (hn : l.length ≤ 100000) :
    Calls Try.prog 12 #[.agg (cells8 k), .int .i64 (at' : Int), v] w fun e w' => ∃ v', e = .returned (.tuple #[v', .int .i64 0]) ∧ w'.ownsRow w.heap.size 5 1 v' l.length ((xorL l (strL k at' l.length)).map (Value.int .u8)) ∧ Below w.heap.size w w' := by
  have CS := hid fun (W : World) => rstream_ok W k at' l.length hk hl hpl hn
  have HV := hid hv
  obtain ⟨pv, cv, rfl, _, _⟩ := hv.open
  obtain ⟨st, HST⟩ : ∃ x, Hid (strL k at' l.length = x) := ⟨_, rfl⟩
  have STL : Hid (st.length = l.length) := by rw [← HST.out]; exact hid (strL_length _ _ _)
  have STB : Hid (∀ x ∈ st, 0 ≤ x ∧ x < 256) := by rw [← HST.out]; exact hid (strL_byt hl hk _ _)
  rw [HST.out] at CS ⊢
  obtain ⟨X, HX⟩ : ∃ x, Hid (xorL l st = x) := ⟨_, rfl⟩
  have XL : Hid (X.length = l.length) := by rw [← HX.out]; exact hid (xorL_length STL.out.symm)
  have XG : Hid (∀ i, i < l.length → X.getD i 0 = xorB (l.getD i 0) (st.getD i 0)) := hid fun i hi => by
    have h2 : i < st.length := by rw [STL.out]; exact hi
    rw [← HX.out]
    simp [xorL, List.getD, List.getElem?_zipWith, List.getElem?_eq_getElem hi, List.getElem?_eq_getElem h2]
  rw [HX.out]
  clear HX HST hv
  obtain ⟨n, Hn⟩ : ∃ x, Hid (l.length = x) := ⟨_, rfl⟩
  rw [Hn.out] at CS STL XL XG hn hpl ⊢
  obtain ⟨ck, HCK⟩ : ∃ x, Hid (cells8 k = x) := ⟨_, rfl⟩
  rw [HCK.out]
  go_enter Try.func12, Try.ntmps12
  refine wp_seq_k fun K1 h1 => ?_
  have H1 := hid h1
  clear h1
  go_wp2
  refine H1.out _ _ ?_
  clear H1 K1
  rw [← HCK.out]
  have K0 : Hid (KeyIn (w.alloc (.cells (cells8 k) 23)) w.heap.size k) := hid (World.alloc_heap_new w _)
  have B0 : Hid (Below w.heap.size w (w.alloc (.cells (cells8 k) 23))) := hid ((Below.refl _ w).alloc (Nat.le_refl _) _)
  obtain ⟨w0, HW0⟩ : ∃ x, Hid (w.alloc (.cells (cells8 k) 23) = x) := ⟨_, rfl⟩
  rw [HW0.out] at K0 B0 ⊢
  clear HW0 HCK
  go_wp2_with (refine wpList_ldk K0 hl rfl rfl rfl ?_)
  refine (CS.out w0).mono ?_
  rintro e w2 ⟨v2, rfl, ho2, hb2⟩
  have B2 := hid (B0.out.trans (hb2.mono B0.out.size))
  have S2 := hid (HB.of_own (by rw [STL.out]; exact ho2) STB.out)
  have V2 := hid (HV.out.below B2.out)
  obtain ⟨ps, cs, rfl, _, _⟩ := S2.out.open
  rw [STL.out] at S2 ⊢
  rw [Hn.out] at V2
  clear hb2 ho2 CS
  go_wp2
  go_loopw [10, 11] (fun out ii wr => ∃ I : Nat, I ≤ n ∧ ii = .int .i64 (I : Int) ∧ Hid (wr.ownsRow w2.heap.size 5 1 out I ((X.take I).map (Value.int .u8))) ∧ Hid (Below w2.heap.size w2 wr)) (fun _ ii _ => n - (intOf ii).toNat)
  case atStart => exact ⟨0, by omega, rfl, hid (by simpa using World.ownsRow_nil _ _ _ _), hid (Below.refl _ _)⟩
  case round =>
    obtain ⟨I, hI, rfl, HO, HB⟩ := hrel
    by_cases hlt : I < n
    case neg =>
      have hIn : I = n := by omega
      have HO2 := HO.out
      rw [hIn, List.take_of_length_le (by rw [XL.out]; exact Nat.le_refl _)] at HO2
      have HO3 := hid (own_mono HO2 B2.out.size)
      have BF := hid (B2.out.trans (HB.out.mono B2.out.size))
      clear HO2
      go_wp2
      go_ret2
      exact ⟨_, rfl, HO3.out, BF.out⟩
    case pos =>
      obtain ⟨bx, ox, cx, ex, _, _, hx⟩ := V2.out.ne (by rw [Hn.out]; omega)
      simp only [Value.slice.injEq] at ex
      obtain ⟨e1, e2, e3⟩ := ex
      clear e2 e3
      subst e1
      obtain ⟨by', oy, cy, ey, _, _, hy⟩ := S2.out.ne (by rw [STL.out]; omega)
      simp only [Value.slice.injEq] at ey
      obtain ⟨e1, e2, e3⟩ := ey
      clear e2 e3
      subst e1
      have CX : Hid (∀ W, Below w2.heap.size w2 W → W.cell? ⟨bx, ox + I, none⟩ = some (.int .u8 (l.getD I 0)) ∧ W.cell? ⟨by', oy + I, none⟩ = some (.int .u8 (st.getD I 0))) := hid fun W hW => ⟨(hW.cell (World.block_lt_of_cell? w2 _ (hx I (by rw [Hn.out]; exact hlt)))).trans (hx I (by rw [Hn.out]; exact hlt)), (hW.cell (World.block_lt_of_cell? w2 _ (hy I (by rw [STL.out]; exact hlt)))).trans (hy I (by rw [STL.out]; exact hlt))⟩
      have XI := hid (XG.out I hlt)
      have TK : Hid (X.take (I + 1) = X.take I ++ [X.getD I 0]) := hid (by
        rw [List.take_succ_eq_append_getElem (by rw [XL.out]; exact hlt)]
        simp [List.getD, show I < X.length by rw [XL.out]; exact hlt])
      obtain ⟨lx, Hlx⟩ : ∃ y, Hid (l.getD I 0 = y) := ⟨_, rfl⟩
      obtain ⟨sy, Hsy⟩ : ∃ y, Hid (st.getD I 0 = y) := ⟨_, rfl⟩
      rw [Hlx.out, Hsy.out] at CX XI
      rw [XI.out] at TK
      clear hx hy
      have hib : (I : Int) < (n : Int) := by omega
      go_wp2
      refine wp_region_held_drew (S := Below w2.heap.size w2) (by kernel_rfl) HB.out.drew (fun hHeld => ?_)
      have HS := hid hHeld
      clear hHeld
      change wpAnyH _ _ _ _ _ _ _ _ (World.drew _)
      refine wpAnyH_take (i := 0) (v := ?_) rfl (by kernel_rfl) (by kernel_rfl) (by kernel_rfl) (fun _ _ _ h => h) (Or.inl ⟨by rfl, ?q0⟩) HS.out ?_
      case q0 => intro w hSw; go_simp; rfl
      simp only [Act.put, List.getElem_toArray, List.getElem_cons_zero, List.getElem_cons_succ, List.setIfInBounds_toArray, List.set_cons_zero, List.set_cons_succ]
      refine wpAnyH_take (i := 1) (v := ?_) rfl (by kernel_rfl) (by kernel_rfl) (by kernel_rfl) (fun _ _ _ h => h) (Or.inl ⟨by rfl, ?q1⟩) HS.out ?_
      case q1 => intro w hSw; go_simp; rfl
      simp only [Act.put, List.getElem_toArray, List.getElem_cons_zero, List.getElem_cons_succ, List.setIfInBounds_toArray, List.set_cons_zero, List.set_cons_succ]
      refine wpAnyH_take (i := 2) (v := ?_) rfl (by kernel_rfl) (by kernel_rfl) (by kernel_rfl) (fun _ _ _ h => h) (Or.inl ⟨by rfl, ?q2⟩) HS.out ?_
      case q2 => intro w hSw; go_simp; rfl
      simp only [Act.put, List.getElem_toArray, List.getElem_cons_zero, List.getElem_cons_succ, List.setIfInBounds_toArray, List.set_cons_zero, List.set_cons_succ]
      refine wpAnyH_take (i := 3) (v := ?_) rfl (by kernel_rfl) (by kernel_rfl) (by kernel_rfl) (fun _ _ _ h => h) (Or.inl ⟨by rfl, ?q3⟩) HS.out ?_
      case q3 => intro w hSw; go_simp; rfl
      simp only [Act.put, List.getElem_toArray, List.getElem_cons_zero, List.getElem_cons_succ, List.setIfInBounds_toArray, List.set_cons_zero, List.set_cons_succ]
      refine wpAnyH_take (i := 4) (v := .int .u8 lx) rfl (by kernel_rfl) (by kernel_rfl) (by kernel_rfl) (fun _ _ _ h => h) (Or.inl ⟨by rfl, ?q4⟩) HS.out ?_
      case q4 => intro w hSw; have hcx := (CX.out w hSw).1; go_simp
      simp only [Act.put, List.getElem_toArray, List.getElem_cons_zero, List.getElem_cons_succ, List.setIfInBounds_toArray, List.set_cons_zero, List.set_cons_succ]
      refine wpAnyH_take (i := 5) (v := ?_) rfl (by kernel_rfl) (by kernel_rfl) (by kernel_rfl) (fun _ _ _ h => h) (Or.inl ⟨by rfl, ?q5⟩) HS.out ?_
      case q5 => intro w hSw; go_simp; rfl
      simp only [Act.put, List.getElem_toArray, List.getElem_cons_zero, List.getElem_cons_succ, List.setIfInBounds_toArray, List.set_cons_zero, List.set_cons_succ]
      refine wpAnyH_take (i := 6) (v := ?_) rfl (by kernel_rfl) (by kernel_rfl) (by kernel_rfl) (fun _ _ _ h => h) (Or.inl ⟨by rfl, ?q6⟩) HS.out ?_
      case q6 => intro w hSw; go_simp; rfl
      simp only [Act.put, List.getElem_toArray, List.getElem_cons_zero, List.getElem_cons_succ, List.setIfInBounds_toArray, List.set_cons_zero, List.set_cons_succ]
      refine wpAnyH_take (i := 7) (v := ?_) rfl (by kernel_rfl) (by kernel_rfl) (by kernel_rfl) (fun _ _ _ h => h) (Or.inl ⟨by rfl, ?q7⟩) HS.out ?_
      case q7 => intro w hSw; go_simp; rfl
      simp only [Act.put, List.getElem_toArray, List.getElem_cons_zero, List.getElem_cons_succ, List.setIfInBounds_toArray, List.set_cons_zero, List.set_cons_succ]
      refine wpAnyH_take (i := 8) (v := .int .u8 sy) rfl (by kernel_rfl) (by kernel_rfl) (by kernel_rfl) (fun _ _ _ h => h) (Or.inl ⟨by rfl, ?q8⟩) HS.out ?_
      case q8 => intro w hSw; have hcx := (CX.out w hSw).2; go_simp
      simp only [Act.put, List.getElem_toArray, List.getElem_cons_zero, List.getElem_cons_succ, List.setIfInBounds_toArray, List.set_cons_zero, List.set_cons_succ]
      refine wpAnyH_take (i := 9) (v := .int .u8 (xorB lx sy)) rfl (by kernel_rfl) (by kernel_rfl) (by kernel_rfl) (fun _ _ _ h => h) (Or.inl ⟨by rfl, ?q9⟩) HS.out ?_
      case q9 => intro w hSw; go_simp; rfl
      simp only [Act.put, List.getElem_toArray, List.getElem_cons_zero, List.getElem_cons_succ, List.setIfInBounds_toArray, List.set_cons_zero, List.set_cons_succ]
      refine wpAnyH_ready (rs := [10]) (by kernel_rfl) (by simp) ?_
      refine AllReadyH.cons rfl (fun K hK => ?_) AllReadyH.nil
      replace hK := hid hK
      go_simp
      have HS2 := hid (HS.out.alloc HS.out.size (.cells #[.int .u8 (xorB lx sy)] 5))
      refine hK.out _ _ HS2.out (fun _ => ?_)
      clear hK K
      clear HS
      have HS := HS2
      clear HS2
      try simp only [Act.put, List.getElem_toArray, List.getElem_cons_zero, List.getElem_cons_succ, List.setIfInBounds_toArray, List.set_cons_zero, List.set_cons_succ]
      have bal : Below wr.heap.size wr (wr.drew.alloc (.cells #[.int .u8 (xorB lx sy)] 5)) := ((Below.refl wr.heap.size wr).drew).alloc (Nat.le_refl _) _
      have OA := hid (own_below HO.out bal)
      have CA : (wr.drew.alloc (.cells #[.int .u8 (xorB lx sy)] 5)).cell? ⟨wr.heap.size, 0, none⟩ = some (.int .u8 (xorB lx sy)) := (cell_row4 _ wr.heap.size 0 _ _ _ (World.alloc_heap_new wr.drew _)).trans rfl
      obtain ⟨v9, w9, hr9, ho9, hg9, hb9⟩ := run_append_byte (wr.drew.alloc (.cells #[.int .u8 (xorB lx sy)] 5)) w2.heap.size 31 _ I _ OA.out ⟨wr.heap.size, 0, none⟩ 1 (xorB lx sy) CA (by omega) (Nat.le_trans HB.out.size bal.size)
      have HS3 := hid (HS.out.grown hg9 HS.out.size (fun q e => (OA.out.lt q e).1))
      have O9 : Hid (w9.ownsRow w2.heap.size 5 1 v9 (I + 1) ((X.take (I + 1)).map (Value.int .u8))) := hid (by rw [TK.out, List.map_append]; exact ho9)
      clear ho9 hg9 hb9 bal CA
      refine wpAnyH_ready (rs := [11]) (by kernel_rfl) (by simp) ?_
      refine AllReadyH.cons rfl (fun K hK => ?_) AllReadyH.nil
      replace hK := hid hK
      try simp only [if_pos]
      first | refine owp_append _ _ rfl rfl rfl hr9 ?_ | refine (fun h => by simpa using h) (owp_append _ _ rfl rfl rfl hr9 ?_)
      simp only [Act.put, List.getElem_toArray, List.getElem_cons_zero, List.getElem_cons_succ, List.setIfInBounds_toArray, List.set_cons_zero, List.set_cons_succ]
      refine hK.out _ _ HS3.out (fun _ => ?_)
      clear hK K
      clear HS hr9
      have HS := HS3
      clear HS3
      try simp only [Act.put, List.getElem_toArray, List.getElem_cons_zero, List.getElem_cons_succ, List.setIfInBounds_toArray, List.set_cons_zero, List.set_cons_succ]
      refine wpAnyH_take (i := 12) (v := ?_) rfl (by kernel_rfl) (by kernel_rfl) (by kernel_rfl) (fun _ _ _ h => h) (Or.inl ⟨by rfl, ?q12⟩) HS.out ?_
      case q12 => intro w hSw; go_simp; rfl
      simp only [Act.put, List.getElem_toArray, List.getElem_cons_zero, List.getElem_cons_succ, List.setIfInBounds_toArray, List.set_cons_zero, List.set_cons_succ]
      refine wpAnyH_done (by kernel_rfl) ?_ _
      have BZ := hid HS.out
      go_wp2
      exact ⟨⟨I + 1, by omega, by go_num, O9, BZ⟩, by simp [intOf]; omega⟩
def ER (B : Nat) (w : World) (u : Value) (l : List Int) : Prop := w.ownsRow B 5 1 u l.length (l.map (Value.int .u8)) ∧ ∀ x ∈ l, 0 ≤ x ∧ x < 256
def PX (B : Nat) (w : World) (v : Value) (ls : List (List Int)) : Prop :=
  ∃ xs, w.ownsRow B 31 1 v ls.length xs ∧ ∀ j, j < ls.length → ER B w (xs.getD j undef) (ls.getD j [])
theorem PX.nil (B : Nat) (w : World) : PX B w (.slice none 0 0) [] := ⟨[], World.ownsRow_nil _ _ _ _, fun j hj => by simp at hj⟩
theorem ER.kept {B : Nat} {w w' : World} {u : Value} {l : List Int} {row : Option Nat} (h : ER B w u l) (hg : w.grownBy w' row) (hr : ∀ g, row = some g → u.ownBlock ≠ some g) : ER B w' u l := by
  refine ⟨h.1.kept hg ?_, h.2⟩
  cases hrow : row with
  | none => cases u.ownBlock <;> simp
  | some g => exact .inr (hr g hrow)
theorem PX.kept {B : Nat} {w w' : World} {v : Value} {ls : List (List Int)} {row : Option Nat} (h : PX B w v ls) (hg : w.grownBy w' row) (h1 : ∀ g, row = some g → v.ownBlock ≠ some g) (h2 : ∀ g, row = some g → g < B ∨ BT w g 31) : PX B w' v ls := by
  obtain ⟨xs, hr, he⟩ := h
  refine ⟨xs, hr.kept hg ?_, fun j hj => (he j hj).kept hg fun g eg => ?_⟩
  · cases hrow : row with
    | none => cases v.ownBlock <;> simp
    | some g => exact .inr (h1 g hrow)
  · rcases h2 g eg with h | ⟨cur, fz, hh⟩
    · intro q
      have := ((he j hj).1.lt g q).1
      omega
    · exact own_block_ne (he j hj).1 hh (by decide)
theorem PX.setLow {B : Nat} {w : World} {v : Value} {ls : List (List Int)} (h : PX B w v ls) (g o : Nat) (x : Value) (hg : g < B) : PX B (w.setCell ⟨g, o, none⟩ x) v ls :=
  h.kept (grown_set w g o x) (fun g' e q => by
    cases e
    obtain ⟨xs, hr, _⟩ := h
    have := (hr.lt g q).1
    omega) (fun g' e => by cases e; exact .inl hg)
theorem PX.below {B : Nat} {w w' : World} {v : Value} {ls : List (List Int)} (h : PX B w v ls) (hb : Below w.heap.size w w') : PX B w' v ls :=
  h.kept (row := none) (grown_below hb) (fun g e => by cases e) (fun g e => by cases e)
theorem PX.lt {B : Nat} {w : World} {v : Value} {ls : List (List Int)} (h : PX B w v ls) : ∀ g, v.ownBlock = some g → B ≤ g ∧ g < w.heap.size := by
  obtain ⟨xs, hr, _⟩ := h
  exact fun g e => hr.lt g e
theorem PX.hl {B : Nat} {w : World} {v : Value} {ls : List (List Int)} (h : PX B w v ls) : HL w v ls := by
  obtain ⟨xs, h1, h2⟩ := h
  by_cases h0 : 0 < ls.length
  · obtain ⟨g, cap, rfl, _, hn, hm, hc⟩ := ownsRow_cells h1 h0
    refine ⟨_, cap, rfl, hn, hm, (fun e => by cases e), fun _ => ⟨g, 0, rfl, fun j hj => ⟨xs.getD j undef, ?_, HB.of_own (h2 j hj).1 (h2 j hj).2⟩⟩⟩
    have hx : xs.length = ls.length := by have := h1.1; omega
    exact hc j _ (by simp [List.getD, List.getElem?_eq_getElem (show j < xs.length by omega)])
  · have e : ls = [] := List.length_eq_zero_iff.1 (by omega)
    subst e
    rcases h1.2 with ⟨rfl, _⟩ | ⟨g, cap, cur, rfl, _, _, hn, hm, _⟩
    · exact HL.nil _
    · exact ⟨_, cap, rfl, hn, hm, (fun e => by cases e), fun h => absurd rfl h⟩
theorem run_append_bs (w : World) (base : Nat) (ty : TypeId) (v : Value) (n : Nat) (xs : List Value) (hown : w.ownsRow base 31 1 v n xs) (ad : Addr) (c : Nat) (u : Value) (hu : u.oneCell' = true) (hx : w.cell? ad = some u) (hn : n ≤ 2000000) (hbase : base ≤ w.heap.size) :
    ∃ v' w', (Builtin.append_ #[30, 30] ty #[v, .slice (some ad) 1 c]).run Try.prog w = .ok v' w' ∧ w'.ownsRow base 31 1 v' (n + 1) (xs ++ [u]) ∧ w.grownBy w' v.ownBlock ∧
      (v'.ownBlock = v.ownBlock ∨ v'.ownBlock = some w.heap.size) := by
  obtain ⟨i0, hi, hz0, hz1, hz2⟩ := info_parts info_bytes
  have hnews : ∀ j q, [u][j]? = some q → w.cell? (ad.add j) = some q := by
    intro j q hj
    match j, hj with
    | 0, hj => simp at hj; subst hj; exact hx
    | j + 1, hj => simp at hj
  have h1 : ∀ q ∈ [u], q.oneCell' = true := by
    intro q hq
    simp at hq
    subst hq
    exact hu
  obtain ⟨v', w', hr, h2, h3, _⟩ := run_append_own (P := Try.prog) w base 30 ty 31 i0 _ 1 24 Try.underlying30 hi hz0 hz1 hz2 rfl (by decide) v n xs hown ad 1 c [u] rfl hnews h1 (by unfold maxLen; omega) (by omega) hbase
  refine ⟨v', w', hr, h2, h3, ?_⟩
  rcases hown.2 with ⟨rfl, rfl⟩ | ⟨g, cap, cur, rfl, hbg, hg, hnc, hcm, hcs, htake⟩
  · have hr2 := run_append_nil (P := Try.prog) w 30 ty 31 i0 _ Try.underlying30 hi hz0 ad 1 c [u] (by rw [hz1]; rfl) hnews (by omega) (by omega) (by rw [hz2]; omega)
    rw [hr] at hr2
    simp only [Result.ok.injEq] at hr2
    obtain ⟨rfl, rfl⟩ := hr2
    exact .inr rfl
  · by_cases hroom : n + 1 ≤ cap
    · obtain ⟨w2, hr2, _⟩ := run_append_fits (P := Try.prog) w base 30 ty 31 i0 1 Try.underlying30 hi hz1 g n cap xs hown ad 1 c [u] rfl hnews h1 hroom
      rw [hr] at hr2
      simp only [Result.ok.injEq] at hr2
      obtain ⟨rfl, rfl⟩ := hr2
      exact .inl rfl
    · have hr2 := run_append_grow (P := Try.prog) w 30 ty 31 i0 _ Try.underlying30 hi hz0 ⟨g, 0, none⟩ n cap xs (by rw [hz1]; exact hown.1) (hown.cells (g := g) rfl) ad 1 c [u] (by rw [hz1]; rfl) hnews (by omega) (by omega) (growslice_fits (by omega) (by rw [hz2]; omega))
      rw [hr] at hr2
      simp only [Result.ok.injEq] at hr2
      obtain ⟨rfl, rfl⟩ := hr2
      exact .inr rfl
theorem wpList_append_PX {B : Nat} {w : World} {ops : Array Oper} {rest : List Oper} {o : Oper} {a : Act} {Q : Exit → Act → World → Prop} (hgd : o.guard = none) (s x : Operand)
    (ho : o.op = .call { callee := .builtin .append, args := #[s, x], argTypes := #[30, 30] })
    (v : Value) (ls : List (List Int)) (hs : a.eval s = v) (hown : PX B w v ls)
    (ad : Addr) (c : Nat) (u : Value) (l : List Int) (hx : a.eval x = .slice (some ad) 1 c) (hcell : w.cell? ad = some u)
    (hu : ER B w u l) (hbytes : ls.length ≤ 2000000) (hbase : B ≤ w.heap.size)
    (h : ∀ v' w', PX B w' v' (ls ++ [l]) → w.grownBy w' v.ownBlock → (∀ g, v.ownBlock = some g → B ≤ g ∧ BT w g 31) → (v'.ownBlock = v.ownBlock ∨ v'.ownBlock = some w.heap.size) → wpList Try.prog ops Q rest (a.put o.dst v') w') : wpList Try.prog ops Q (o :: rest) a w := by
  obtain ⟨i0, hi, hz0, hz1, hz2⟩ := info_parts info_bytes
  obtain ⟨xs, hrow, hel⟩ := hown
  have hblk : ∀ g, v.ownBlock = some g → B ≤ g ∧ BT w g 31 := by
    intro g hg
    refine ⟨(hrow.lt g hg).1, ?_⟩
    rcases hrow.2 with ⟨rfl, _⟩ | ⟨g', cap, cur, rfl, _, hh, _⟩
    · simp [Value.ownBlock] at hg
    · simp only [Value.ownBlock, Option.some.injEq] at hg
      subst hg
      exact ⟨cur, _, hh⟩
  obtain ⟨pu, cu, eu⟩ := own_slc hu.1
  refine wpList_plain hgd fun K hK => ?_
  obtain ⟨v', w', hr, h2, h3, h4⟩ := run_append_bs w B o.type v ls.length xs hrow ad c u (by rw [eu]; rfl) hcell hbytes hbase
  unfold Oper.wp execOp
  simp only [ho, resolve, invoke, builtin, Sem.run_bind, Sem.run_pure, Result.andThen_ok, List.map_toArray, List.map_cons, List.map_nil, hs, hx, hr]
  refine hK _ _ (h v' w' ?_ h3 hblk h4)
  refine ⟨xs ++ [u], by rw [List.length_append]; exact h2, fun j hj => ?_⟩
  have key : ∀ u l, ER B w u l → ER B w' u l := fun u l he => he.kept h3 fun g hg => by
    obtain ⟨_, cur, fz, hh⟩ := hblk g hg
    exact own_block_ne he.1 hh (by decide)
  have hxl : xs.length = ls.length := by have := hrow.1; omega
  rw [getD_app, getD_app, hxl]
  rw [List.length_append] at hj
  split
  · exact key _ _ (hel j ‹_›)
  · have e : j - ls.length = 0 := by simp at hj; omega
    rw [e]
    exact key _ _ hu
theorem ER.below {B : Nat} {w w' : World} {u : Value} {l : List Int} (h : ER B w u l) (hb : Below w.heap.size w w') : ER B w' u l :=
  h.kept (row := none) (grown_below hb) (fun g e => by cases e)
theorem ER.setLow {B : Nat} {w : World} {u : Value} {l : List Int} (h : ER B w u l) (g o : Nat) (x : Value) (hg : g < B) : ER B (w.setCell ⟨g, o, none⟩ x) u l :=
  h.kept (grown_set w g o x) (fun g' e q => by
    cases e
    have := (h.1.lt g q).1
    omega)
theorem ER.hb {B : Nat} {w : World} {u : Value} {l : List Int} (h : ER B w u l) : HB w u l := HB.of_own h.1 h.2
theorem ne_right {a b b' : Option Nat} {N : Nat} (h : a = none ∨ a ≠ b) (hb : b' = b ∨ b' = some N) (ha : ∀ g, a = some g → g < N) : a = none ∨ a ≠ b' := by
  rcases hb with rfl | rfl
  · exact h
  · cases a with
    | none => exact .inl rfl
    | some g => exact .inr (by have := ha g rfl; simp; omega)
theorem ne_left {a a' b : Option Nat} {N : Nat} (h : a = none ∨ a ≠ b) (hb : a' = a ∨ a' = some N) (ha : ∀ g, b = some g → g < N) : a' = none ∨ a' ≠ b := by
  rcases hb with rfl | rfl
  · exact h
  · cases b with
    | none => exact .inr (by simp)
    | some g => exact .inr (by have := ha g rfl; simp; omega)
theorem ne_some {a b : Option Nat} (h : a = none ∨ a ≠ b) : ∀ g, b = some g → a ≠ some g := by
  intro g e q
  subst e q
  rcases h with h | h
  · cases h
  · exact h rfl
def HJ (w : World) (v : Value) (l : List Int) : Prop :=
  ∃ (p : Option Addr) (c : Nat), v = .slice p l.length c ∧ l.length ≤ c ∧ c ≤ maxLen ∧
    (l ≠ [] → ∃ b off, p = some ⟨b, off, none⟩ ∧ ∀ j, j < l.length → w.cell? ⟨b, off + j, none⟩ = some (.int .i64 (l.getD j 0)))
theorem elm8 : Try.prog.elem 31 = 5 := by kernel_rfl
theorem slice_lh5 (W : World) (p : Option Addr) (n c lo hi : Nat) (h1 : lo ≤ hi) (h2 : hi ≤ c) : (Instr.slice 31 (.slice p n c) (some (.int .i64 (lo : Int))) (some (.int .i64 (hi : Int))) none).run Try.prog W = .ok (.slice (if c = lo then p else p.map (·.add lo)) (hi - lo) (c - lo)) W := by
  have h := run_slice_lh (P := Try.prog) W 31 p n c (by rw [elm8]; exact Try.underlying31) .i64 .i64 (lo : Int) (hi : Int) (by omega) (by omega) (by omega)
  rw [h, elm8, size_u8, Result.andThen_ok, Int.toNat_natCast, Int.toNat_natCast]
  unfold sliced
  rw [Nat.mul_one]
open Classical
noncomputable def stE (p n : Int) : Int := if n < 0 then 2 else if okPl p n.toNat then 0 else 40
noncomputable def stL (k : List Nat) (p n : Int) : List Int := if 0 ≤ n ∧ okPl p n.toNat then strL k p.toNat n.toNat else []
noncomputable def apE (p : Int) (l : List Int) : Int := if okPl p l.length then 0 else 40
noncomputable def apL (k : List Nat) (p : Int) (l : List Int) : List Int := if okPl p l.length then xorL l (strL k p.toNat l.length) else []
theorem stL_byt {k : List Nat} (hl : k.length = 16) (hk : Byt k) (p n : Int) : ∀ x ∈ stL k p n, 0 ≤ x ∧ x < 256 := by
  unfold stL
  split
  · exact strL_byt hl hk _ _
  · intro x hx; cases hx
theorem apL_byt {k : List Nat} (hl : k.length = 16) (hk : Byt k) (p : Int) {l : List Int} (h : ∀ x ∈ l, 0 ≤ x ∧ x < 256) : ∀ x ∈ apL k p l, 0 ≤ x ∧ x < 256 := by
  unfold apL
  split
  · exact xorL_byt h (strL_byt hl hk _ _)
  · intro x hx; cases hx
theorem stL_len (k : List Nat) (p n : Int) : (stL k p n).length ≤ n.toNat := by
  unfold stL
  split
  · rw [strL_length]; exact Nat.le_refl _
  · simp
theorem apL_len (k : List Nat) (p : Int) (l : List Int) : (apL k p l).length ≤ l.length := by
  unfold apL
  split
  · rw [xorL_length (by rw [strL_length])]; exact Nat.le_refl _
  · simp
theorem er_nil (B : Nat) (w : World) : ER B w (.slice none 0 0) [] := ⟨World.ownsRow_nil _ _ _ _, fun x hx => by cases hx⟩
set_option maxRecDepth 100000 in
set_option maxHeartbeats 2000000 in
theorem stream_neg (w : World) (k : List Nat) (p n : Int) (hn : n < 0) : Calls Try.prog 20 #[.agg (cells8 k), .int .i64 p, .int .i64 n] w fun e w' => e = .returned (.tuple #[.slice none 0 0, .int .i64 2]) ∧ Below w.heap.size w w' := by
  obtain ⟨m, hm⟩ : ∃ m, Value.agg (cells8 k) = m := ⟨_, rfl⟩
  rw [hm]
  go_enter Try.func20, Try.ntmps20
  go_wp2
  all_goals go_ret2
  all_goals exact ⟨rfl, ((Below.refl _ w).alloc (Nat.le_refl _) _).alloc (by simp) _⟩
theorem stream_gen (w : World) (k : List Nat) (p n : Int) (hk : Byt k) (hl : k.length = 16) (hp : -9223372036854775808 ≤ p ∧ p ≤ 9223372036854775807) (hn : n ≤ 6000) :
    Calls Try.prog 20 #[.agg (cells8 k), .int .i64 p, .int .i64 n] w fun e w' => ∃ v', e = .returned (.tuple #[v', .int .i64 (stE p n)]) ∧ ER w.heap.size w' v' (stL k p n) ∧ Below w.heap.size w w' := by
  by_cases h0 : n < 0
  · have e1 : stE p n = 2 := by unfold stE; rw [if_pos h0]
    have e2 : stL k p n = [] := by unfold stL; rw [if_neg (by omega)]
    rw [e1, e2]
    exact (stream_neg w k p n h0).mono fun e w' h => ⟨_, h.1, er_nil _ _, h.2⟩
  · obtain ⟨m, rfl⟩ := Int.eq_ofNat_of_zero_le (show 0 ≤ n by omega)
    by_cases h1 : okPl p m
    · have e1 : stE p (m : Int) = 0 := by unfold stE; rw [if_neg h0, Int.toNat_natCast, if_pos h1]
      have e2 : stL k p (m : Int) = strL k p.toNat m := by unfold stL; rw [Int.toNat_natCast, if_pos ⟨by omega, h1⟩]
      obtain ⟨q, rfl⟩ := Int.eq_ofNat_of_zero_le h1.1
      have := h1.2
      rw [e1, e2, Int.toNat_natCast]
      exact (stream_any w k q m hk hl (by omega) (by omega)).mono fun e w' ⟨v', a, b, c⟩ => ⟨v', a, ⟨by rw [strL_length]; exact b, strL_byt hl hk _ _⟩, c⟩
    · have e1 : stE p (m : Int) = 40 := by unfold stE; rw [if_neg h0, Int.toNat_natCast, if_neg h1]
      have e2 : stL k p (m : Int) = [] := by unfold stL; rw [Int.toNat_natCast, if_neg (fun h => h1 h.2)]
      rw [e1, e2]
      first | exact (stream_bad w k p m hp (by omega) h1).mono fun e w' h => ⟨_, h.1, er_nil _ _, h.2⟩ | exact (stream_bad w k p m hp h1).mono fun e w' h => ⟨_, h.1, er_nil _ _, h.2⟩
theorem rstream_gen (w : World) (k : List Nat) (p n : Int) (hk : Byt k) (hl : k.length = 16) (hp : -9223372036854775808 ≤ p ∧ p ≤ 9223372036854775807) (hn : n ≤ 6000) :
    Calls Try.prog 19 #[.agg (cells8 k), .int .i64 p, .int .i64 n] w fun e w' => ∃ v', e = .returned (.tuple #[v', .int .i64 (stE p n)]) ∧ ER w.heap.size w' v' (stL k p n) ∧ Below w.heap.size w w' := by
  by_cases h0 : n < 0
  · have e1 : stE p n = 2 := by unfold stE; rw [if_pos h0]
    have e2 : stL k p n = [] := by unfold stL; rw [if_neg (by omega)]
    rw [e1, e2]
    exact (rstream_neg w k p n h0).mono fun e w' h => ⟨_, h.1, er_nil _ _, h.2⟩
  · obtain ⟨m, rfl⟩ := Int.eq_ofNat_of_zero_le (show 0 ≤ n by omega)
    by_cases h1 : okPl p m
    · have e1 : stE p (m : Int) = 0 := by unfold stE; rw [if_neg h0, Int.toNat_natCast, if_pos h1]
      have e2 : stL k p (m : Int) = strL k p.toNat m := by unfold stL; rw [Int.toNat_natCast, if_pos ⟨by omega, h1⟩]
      obtain ⟨q, rfl⟩ := Int.eq_ofNat_of_zero_le h1.1
      have := h1.2
      rw [e1, e2, Int.toNat_natCast]
      exact (rstream_ok w k q m hk hl (by omega) (by omega)).mono fun e w' ⟨v', a, b, c⟩ => ⟨v', a, ⟨by rw [strL_length]; exact b, strL_byt hl hk _ _⟩, c⟩
    · have e1 : stE p (m : Int) = 40 := by unfold stE; rw [if_neg h0, Int.toNat_natCast, if_neg h1]
      have e2 : stL k p (m : Int) = [] := by unfold stL; rw [Int.toNat_natCast, if_neg (fun h => h1 h.2)]
      rw [e1, e2]
      first | exact (rstream_bad w k p m hp (by omega) h1).mono fun e w' h => ⟨_, h.1, er_nil _ _, h.2⟩ | exact (rstream_bad w k p m hp h1).mono fun e w' h => ⟨_, h.1, er_nil _ _, h.2⟩
theorem apply_gen (w : World) (k : List Nat) (p : Int) (v : Value) (l : List Int) (hk : Byt k) (hl : k.length = 16) (hv : HB w v l) (hp : -9223372036854775808 ≤ p ∧ p ≤ 9223372036854775807) (hn : l.length ≤ 3000) :
    Calls Try.prog 17 #[.agg (cells8 k), .int .i64 p, v] w fun e w' => ∃ v', e = .returned (.tuple #[v', .int .i64 (apE p l)]) ∧ ER w.heap.size w' v' (apL k p l) ∧ Below w.heap.size w w' := by
  by_cases h1 : okPl p l.length
  · have e1 : apE p l = 0 := by unfold apE; rw [if_pos h1]
    have e2 : apL k p l = xorL l (strL k p.toNat l.length) := by unfold apL; rw [if_pos h1]
    obtain ⟨q, rfl⟩ := Int.eq_ofNat_of_zero_le h1.1
    have := h1.2
    rw [e1, e2, Int.toNat_natCast]
    exact (apply_ok w k q v l hk hl hv (by omega) (by omega)).mono fun e w' ⟨v', a, b, c⟩ => ⟨v', a, ⟨by rw [xorL_length (by rw [strL_length])]; exact b, xorL_byt hv.2 (strL_byt hl hk _ _)⟩, c⟩
  · have e1 : apE p l = 40 := by unfold apE; rw [if_neg h1]
    have e2 : apL k p l = [] := by unfold apL; rw [if_neg h1]
    rw [e1, e2]
    first | exact (apply_bad w k p v l hl hv hp (by omega) h1).mono fun e w' h => ⟨_, h.1, er_nil _ _, h.2⟩ | exact (apply_bad w k p v l hl hv hp h1).mono fun e w' h => ⟨_, h.1, er_nil _ _, h.2⟩
theorem rapply_gen (w : World) (k : List Nat) (p : Int) (v : Value) (l : List Int) (hk : Byt k) (hl : k.length = 16) (hv : HB w v l) (hp : -9223372036854775808 ≤ p ∧ p ≤ 9223372036854775807) (hn : l.length ≤ 3000) :
    Calls Try.prog 12 #[.agg (cells8 k), .int .i64 p, v] w fun e w' => ∃ v', e = .returned (.tuple #[v', .int .i64 (apE p l)]) ∧ ER w.heap.size w' v' (apL k p l) ∧ Below w.heap.size w w' := by
  by_cases h1 : okPl p l.length
  · have e1 : apE p l = 0 := by unfold apE; rw [if_pos h1]
    have e2 : apL k p l = xorL l (strL k p.toNat l.length) := by unfold apL; rw [if_pos h1]
    obtain ⟨q, rfl⟩ := Int.eq_ofNat_of_zero_le h1.1
    have := h1.2
    rw [e1, e2, Int.toNat_natCast]
    exact (rapply_ok w k q v l hk hl hv (by omega) (by omega)).mono fun e w' ⟨v', a, b, c⟩ => ⟨v', a, ⟨by rw [xorL_length (by rw [strL_length])]; exact b, xorL_byt hv.2 (strL_byt hl hk _ _)⟩, c⟩
  · have e1 : apE p l = 40 := by unfold apE; rw [if_neg h1]
    have e2 : apL k p l = [] := by unfold apL; rw [if_neg h1]
    rw [e1, e2]
    first | exact (rapply_bad w k p v l hl hv hp (by omega) h1).mono fun e w' h => ⟨_, h.1, er_nil _ _, h.2⟩ | exact (rapply_bad w k p v l hl hv hp h1).mono fun e w' h => ⟨_, h.1, er_nil _ _, h.2⟩
open Classical
set_option maxRecDepth 100000 in
set_option maxHeartbeats 2000000 in
theorem cseek_bad (w : World) (g : Nat) (k : List Nat) (p q : Int) (h : HCt w g k p) (hq : q < 0 ∨ 4611686018427387904 < q) (hqb : -9223372036854775808 ≤ q ∧ q ≤ 9223372036854775807) : Calls Try.prog 6 #[.pointer (some ⟨g, 0, none⟩), .int .i64 q] w fun e w' => e = .returned (.int .i64 40) ∧ w' = w := by
  have c0 := h.made
  have CW := hid (within_bad w q 0 hqb (by omega) (by unfold okPl; omega))
  clear h
  rw [show ((0 : Nat) : Int) = 0 from rfl] at CW
  go_enter Try.func6, Try.ntmps6
  go_wp2_with fail
  refine CW.out.mono ?_
  rintro e wq ⟨rfl, hwq⟩
  rw [hwq]
  clear hwq wq CW
  go_wp2
  go_ret
  exact ⟨rfl, rfl⟩
set_option maxRecDepth 100000 in
set_option maxHeartbeats 2000000 in
theorem cnext_bad (w : World) (g : Nat) (k : List Nat) (p : Int) (v : Value) (l : List Int) (hl : k.length = 16) (h : HCt w g k p) (hv : HB w v l) (hp : -9223372036854775808 ≤ p ∧ p ≤ 9223372036854775807) (hb : ¬ okPl p l.length) (hn : l.length ≤ 140737488351232) :
    Calls Try.prog 9 #[.pointer (some ⟨g, 0, none⟩), v] w fun e w' => e = .returned (.tuple #[.slice none 0 0, .int .i64 40]) ∧ Below w.heap.size w w' := by
  have HT := hid h
  have c0 := h.made
  obtain ⟨pa, ca, rfl, hca, hcm⟩ := hv.open
  have HD : Hid (HB w.drew (.slice pa l.length ca) l) := hv.below (Below.refl _ w).drew
  have C2 := hid (apply_bad w.drew k p _ l hl HD.out hp hn hb)
  clear h hv
  go_enter Try.func9, Try.ntmps9
  go_wp2
  clear c0
  refine wp_region_held_drew (S := fun V : World => HCt V g k p) mixedOrders (HT.out.below (Below.refl _ w).drew) (fun hHeld => ?_)
  have HS := hid hHeld
  clear hHeld
  change wpAnyH _ _ _ _ _ _ _ _ (World.drew _)
  refine wpAnyH_take (i := 0) (v := ?_) rfl (by kernel_rfl) (by kernel_rfl) (by kernel_rfl) (fun _ _ _ h => h) (Or.inl ⟨by rfl, ?q0⟩) HS.out ?_
  case q0 => intro w hSw; have hs1 := hSw.place; have hs2 := hSw.made; clear hSw; go_simp; rfl
  simp only [Act.put, List.getElem_toArray, List.getElem_cons_zero, List.getElem_cons_succ, List.setIfInBounds_toArray, List.set_cons_zero, List.set_cons_succ]
  refine wpAnyH_take (i := 1) (v := ?_) rfl (by kernel_rfl) (by kernel_rfl) (by kernel_rfl) (fun _ _ _ h => h) (Or.inl ⟨by rfl, ?q1⟩) HS.out ?_
  case q1 => intro w hSw; have hs1 := hSw.place; have hs2 := hSw.made; clear hSw; go_simp; rfl
  simp only [Act.put, List.getElem_toArray, List.getElem_cons_zero, List.getElem_cons_succ, List.setIfInBounds_toArray, List.set_cons_zero, List.set_cons_succ]
  refine wpAnyH_take (i := 2) (v := ?_) rfl (by kernel_rfl) (by kernel_rfl) (by kernel_rfl) (fun _ _ _ h => h) (Or.inl ⟨by rfl, ?q2⟩) HS.out ?_
  case q2 => intro w hSw; have hs1 := hSw.place; have hs2 := hSw.made; clear hSw; go_simp; rfl
  simp only [Act.put, List.getElem_toArray, List.getElem_cons_zero, List.getElem_cons_succ, List.setIfInBounds_toArray, List.set_cons_zero, List.set_cons_succ]
  refine wpAnyH_take (i := 3) (v := .agg (cells8 k)) rfl (by kernel_rfl) (by kernel_rfl) (by kernel_rfl) (fun _ _ _ h => h) (Or.inl ⟨by rfl, fun w hSw => ldc_exec hSw hl rfl rfl⟩) HS.out ?_
  simp only [Act.put, List.getElem_toArray, List.getElem_cons_zero, List.getElem_cons_succ, List.setIfInBounds_toArray, List.set_cons_zero, List.set_cons_succ]
  refine wpAnyH_take (i := 4) (v := ?_) rfl (by kernel_rfl) (by kernel_rfl) (by kernel_rfl) (fun _ _ _ h => h) (Or.inl ⟨by rfl, ?q4⟩) HS.out ?_
  case q4 => intro w hSw; have hs1 := hSw.place; have hs2 := hSw.made; clear hSw; go_simp; rfl
  simp only [Act.put, List.getElem_toArray, List.getElem_cons_zero, List.getElem_cons_succ, List.setIfInBounds_toArray, List.set_cons_zero, List.set_cons_succ]
  refine wpAnyH_take (i := 5) (v := ?_) rfl (by kernel_rfl) (by kernel_rfl) (by kernel_rfl) (fun _ _ _ h => h) (Or.inl ⟨by rfl, ?q5⟩) HS.out ?_
  case q5 => intro w hSw; have hs1 := hSw.place; have hs2 := hSw.made; clear hSw; go_simp; rfl
  simp only [Act.put, List.getElem_toArray, List.getElem_cons_zero, List.getElem_cons_succ, List.setIfInBounds_toArray, List.set_cons_zero, List.set_cons_succ]
  refine wpAnyH_take (i := 6) (v := ?_) rfl (by kernel_rfl) (by kernel_rfl) (by kernel_rfl) (fun _ _ _ h => h) (Or.inl ⟨by rfl, ?q6⟩) HS.out ?_
  case q6 => intro w hSw; have hs1 := hSw.place; have hs2 := hSw.made; clear hSw; go_simp; rfl
  simp only [Act.put, List.getElem_toArray, List.getElem_cons_zero, List.getElem_cons_succ, List.setIfInBounds_toArray, List.set_cons_zero, List.set_cons_succ]
  refine wpAnyH_take (i := 7) (v := ?_) rfl (by kernel_rfl) (by kernel_rfl) (by kernel_rfl) (fun _ _ _ h => h) (Or.inl ⟨by rfl, ?q7⟩) HS.out ?_
  case q7 => intro w hSw; have hs1 := hSw.place; have hs2 := hSw.made; clear hSw; go_simp; rfl
  simp only [Act.put, List.getElem_toArray, List.getElem_cons_zero, List.getElem_cons_succ, List.setIfInBounds_toArray, List.set_cons_zero, List.set_cons_succ]
  refine wpAnyH_take (i := 8) (v := ?_) rfl (by kernel_rfl) (by kernel_rfl) (by kernel_rfl) (fun _ _ _ h => h) (Or.inl ⟨by rfl, ?q8⟩) HS.out ?_
  case q8 => intro w hSw; have hs1 := hSw.place; have hs2 := hSw.made; clear hSw; go_simp; rfl
  simp only [Act.put, List.getElem_toArray, List.getElem_cons_zero, List.getElem_cons_succ, List.setIfInBounds_toArray, List.set_cons_zero, List.set_cons_succ]
  refine wpAnyH_ready (rs := [9]) (by kernel_rfl) (by simp) ?_
  refine AllReadyH.cons rfl (fun K hK => ?_) AllReadyH.nil
  go_simp
  refine C2.out.mono ?_
  rintro e w1 ⟨rfl, hB1⟩
  have B1 : Hid (Below w.heap.size w w1) := (Below.refl _ w).drew.trans hB1
  have H1 := hid (HT.out.below B1.out)
  clear hB1 C2
  refine hK.out _ _ H1.out (fun _ => ?_)
  clear hK K
  refine wpAnyH_take (i := 10) (v := ?_) rfl (by kernel_rfl) (by kernel_rfl) (by kernel_rfl) (fun _ _ _ h => h) (Or.inl ⟨by rfl, ?q10⟩) H1.out ?_
  case q10 => intro w hSw; have hs1 := hSw.place; have hs2 := hSw.made; clear hSw; go_simp; rfl
  simp only [Act.put, List.getElem_toArray, List.getElem_cons_zero, List.getElem_cons_succ, List.setIfInBounds_toArray, List.set_cons_zero, List.set_cons_succ]
  refine wpAnyH_take (i := 11) (v := ?_) rfl (by kernel_rfl) (by kernel_rfl) (by kernel_rfl) (fun _ _ _ h => h) (Or.inl ⟨by rfl, ?q11⟩) H1.out ?_
  case q11 => intro w hSw; have hs1 := hSw.place; have hs2 := hSw.made; clear hSw; go_simp; rfl
  simp only [Act.put, List.getElem_toArray, List.getElem_cons_zero, List.getElem_cons_succ, List.setIfInBounds_toArray, List.set_cons_zero, List.set_cons_succ]
  refine wpAnyH_take (i := 12) (v := ?_) rfl (by kernel_rfl) (by kernel_rfl) (by kernel_rfl) (fun _ _ _ h => h) (Or.inl ⟨by rfl, ?q12⟩) H1.out ?_
  case q12 => intro w hSw; have hs1 := hSw.place; have hs2 := hSw.made; clear hSw; go_simp; rfl
  simp only [Act.put, List.getElem_toArray, List.getElem_cons_zero, List.getElem_cons_succ, List.setIfInBounds_toArray, List.set_cons_zero, List.set_cons_succ]
  refine wpAnyH_take (i := 13) (v := ?_) rfl (by kernel_rfl) (by kernel_rfl) (by kernel_rfl) (fun _ _ _ h => h) (Or.inl ⟨by rfl, ?q13⟩) H1.out ?_
  case q13 => intro w hSw; have hs1 := hSw.place; have hs2 := hSw.made; clear hSw; go_simp; rfl
  simp only [Act.put, List.getElem_toArray, List.getElem_cons_zero, List.getElem_cons_succ, List.setIfInBounds_toArray, List.set_cons_zero, List.set_cons_succ]
  refine wpAnyH_take (i := 14) (v := ?_) rfl (by kernel_rfl) (by kernel_rfl) (by kernel_rfl) (fun _ _ _ h => h) (Or.inl ⟨by rfl, ?q14⟩) H1.out ?_
  case q14 => intro w hSw; have hs1 := hSw.place; have hs2 := hSw.made; clear hSw; go_simp; rfl
  simp only [Act.put, List.getElem_toArray, List.getElem_cons_zero, List.getElem_cons_succ, List.setIfInBounds_toArray, List.set_cons_zero, List.set_cons_succ]
  refine wpAnyH_done (by kernel_rfl) ?_ _
  go_wp2
  go_ret2
  exact ⟨rfl, B1.out⟩
noncomputable def nxP (p : Int) (l : List Int) : Int := if okPl p l.length then p + l.length else p
theorem cnext_gen (w : World) (g : Nat) (k : List Nat) (p : Int) (v : Value) (l : List Int) (hk : Byt k) (hl : k.length = 16) (h : HCt w g k p) (hv : HB w v l) (hp : -9223372036854775808 ≤ p ∧ p ≤ 9223372036854775807) (hn : l.length ≤ 3000) :
    Calls Try.prog 9 #[.pointer (some ⟨g, 0, none⟩), v] w fun e w' => ∃ v', e = .returned (.tuple #[v', .int .i64 (apE p l)]) ∧ ER w.heap.size w' v' (apL k p l) ∧ HCt w' g k (nxP p l) ∧ w.grownBy w' (some g) := by
  have hg := h.lt
  by_cases h1 : okPl p l.length
  · have e1 : apE p l = 0 := by unfold apE; rw [if_pos h1]
    have e2 : apL k p l = xorL l (strL k p.toNat l.length) := by unfold apL; rw [if_pos h1]
    have e3 : nxP p l = p + l.length := by unfold nxP; rw [if_pos h1]
    obtain ⟨q, rfl⟩ := Int.eq_ofNat_of_zero_le h1.1
    have := h1.2
    rw [e1, e2, e3, Int.toNat_natCast]
    refine (cnext_ok w g k q v l hk hl h hv (by omega) (by omega)).mono fun e w' ⟨v', w1, a, b, c, d⟩ => ⟨v', a, ?_, ?_, ?_⟩
    · subst d
      have hx : (xorL l (strL k q l.length)).length = l.length := xorL_length (by rw [strL_length])
      refine ⟨?_, xorL_byt hv.2 (strL_byt hl hk _ _)⟩
      rw [hx]
      refine b.kept (row := some g) (grown_set w1 g 17 _) ?_
      cases e : v'.ownBlock with
      | none => exact .inl rfl
      | some x => exact .inr (fun e2 => by have := (b.lt x e).1; have e3 := Option.some.inj e2; omega)
    · subst d
      have := (h.below c).set ((q + l.length : Nat) : Int)
      rw [show ((q : Int) + (l.length : Int)) = ((q + l.length : Nat) : Int) by push_cast; rfl]
      exact this
    · subst d
      have g1 : w.grownBy w1 (some g) := ⟨c.os, c.tape, c.output, c.size, fun i hi _ => c.block i hi⟩
      have g2 := grown_set w1 g 17 (.int .i64 ((q + l.length : Nat) : Int))
      exact ⟨g2.os.trans g1.os, g2.tape.trans g1.tape, g2.output.trans g1.output, Nat.le_trans g1.size g2.size, fun i hi hn => (g2.block i (Nat.lt_of_lt_of_le hi g1.size) hn).trans (g1.block i hi hn)⟩
  · have e1 : apE p l = 40 := by unfold apE; rw [if_neg h1]
    have e2 : apL k p l = [] := by unfold apL; rw [if_neg h1]
    have e3 : nxP p l = p := by unfold nxP; rw [if_neg h1]
    rw [e1, e2, e3]
    exact (cnext_bad w g k p v l hl h hv hp h1 (by omega)).mono fun e w' ⟨a, b⟩ => ⟨_, a, er_nil _ _, h.below b, ⟨b.os, b.tape, b.output, b.size, fun i hi _ => b.block i hi⟩⟩
end Go.Proofs.Ytmpdmkckjajhiaa
namespace Go.Proofs.Ytmpdmkckjajhiaa
open Go.RowKit
def mkB (k i : Nat) : Int := ((151 * k + 7 * i + 1) % 256 : Nat)
theorem mkB_byt (k i : Nat) : 0 ≤ mkB k i ∧ mkB k i < 256 := by unfold mkB; omega
set_option maxHeartbeats 400000 in
theorem mark_any (w : World) (k i : Nat) (hk : k ≤ 1125899906842624) (hi : i ≤ 1125899906842624) : Calls Try.prog 16 #[.int .i64 k, .int .i64 i] w fun e w' => e = .returned (.int .u8 (mkB k i)) ∧ w' = w := by
  go_enter Try.func16, Try.ntmps16
  go_wp2
  go_ret
  exact ⟨by unfold mkB; first | rfl | (congr 2; done) | (congr 2; omega), rfl⟩
theorem mark_eq (w : World) (k i : Nat) (a b : Int) (ha : a = (k : Int)) (hb : b = (i : Int)) (hk : k ≤ 1125899906842624) (hi : i ≤ 1125899906842624) : Calls Try.prog 16 #[.int .i64 a, .int .i64 b] w fun e w' => e = .returned (.int .u8 (mkB k i)) ∧ w' = w := by
  subst ha hb
  exact mark_any w k i hk hi
theorem wrap_succ (k : Nat) (h : k ≤ 1125899906842624) : IntKind.i64.wrap ((k : Int) + 1) = ((k + 1 : Nat) : Int) := by rw [IntKind.wrap_i64]; omega
def lent (l : List Int) : List Int := l ++ (List.range 70).map fun i => mkB 0 (l.length + i)
def lentTo (l : List Int) (m : Nat) : List Int := l ++ (List.range m).map fun i => mkB 0 (l.length + i)
theorem lent_length (l : List Int) : (lent l).length = l.length + 70 := by simp [lent]
theorem lentTo_length (l : List Int) (m : Nat) : (lentTo l m).length = l.length + m := by simp [lentTo]
theorem lentTo_succ (l : List Int) (m : Nat) : lentTo l (m + 1) = lentTo l m ++ [mkB 0 (l.length + m)] := by simp [lentTo, List.range_succ]
theorem lent_byt {l : List Int} (h : ∀ x ∈ l, 0 ≤ x ∧ x < 256) : ∀ x ∈ lent l, 0 ≤ x ∧ x < 256 := by
  intro x hx
  unfold lent at hx
  rcases List.mem_append.1 hx with hx | hx
  · exact h x hx
  · obtain ⟨i, _, rfl⟩ := List.mem_map.1 hx
    exact mkB_byt _ _
theorem lent_take (l : List Int) : (lent l).take l.length = l := by simp [lent]
set_option maxHeartbeats 1000000 in
theorem lent_any (w : World) (v : Value) (l : List Int) (h : HB w v l) (hbig : l.length ≤ 140737488351232) :
    Calls Try.prog 8 #[v] w fun e w' => ∃ v', e = .returned v' ∧ w'.ownsRow w.heap.size 5 1 v' (lent l).length ((lent l).map (Value.int .u8)) ∧ Below w.heap.size w w' := by
  obtain ⟨p, c, e, hlc, hm⟩ := h.open
  unfold maxLen at hm
  have A : Hid (0 < l.length → ∃ b off, p = some ⟨b, off, none⟩ ∧ ∀ j, j < l.length → w.cell? ⟨b, off + j, none⟩ = some (.int .u8 (l.getD j 0))) := by
    intro h0
    obtain ⟨b, off, c', e', _, _, hh⟩ := h.ne h0
    rw [e] at e'
    simp only [Value.slice.injEq, true_and] at e'
    exact ⟨b, off, e'.1, hh⟩
  clear h
  subst e
  go_enter Try.func8, Try.ntmps8
  go_wp2
  go_loopw [3, 4] (fun o i wr => ∃ k : Nat, k ≤ l.length ∧ i = .int .i64 k ∧ Hid (wr.ownsRow w.heap.size 5 1 o k ((l.take k).map (Value.int .u8))) ∧ Hid (Below w.heap.size w wr)) (fun _ i _ => l.length - (intOf i).toNat)
  case atStart => exact ⟨0, Nat.zero_le _, rfl, World.ownsRow_nil _ _ _ _, Below.refl _ _⟩
  case round =>
    obtain ⟨k, hk, rfl, HO, HBw⟩ := hrel
    by_cases hlt : k < l.length
    · obtain ⟨b, off, rfl, hh⟩ := A.out (by omega)
      have hu0 := hh k hlt
      have hu := (HBw.out.cell (World.block_lt_of_cell? w _ hu0)).trans hu0
      have HS : Hid (l.take (k + 1) = l.take k ++ [l.getD k 0]) := by
        show _ = _
        rw [List.take_succ_eq_append_getElem hlt, getD_of_lt hlt]
      obtain ⟨x, HX⟩ : ∃ x, Hid (l.getD k 0 = x) := ⟨_, rfl⟩
      rw [HX.out] at hu HS
      clear hh hu0
      go_wp2_with (at_builtin; refine wpList_append_byte rfl _ _ rfl w.heap.size _ k _ rfl (HO.out.alloc _) ⟨wr.heap.size, 0, none⟩ 1 x rfl (by simp) ?q1 ?q2 ?_)
      case q1 => omega
      case q2 => have := HBw.out.size; simp; omega
      intro v' w2 hown2 hgr2 _
      have HO2 : Hid (w2.ownsRow w.heap.size 5 1 v' (k + 1) ((l.take (k + 1)).map (Value.int .u8))) := by
        rw [HS.out, List.map_append, List.map_take]
        exact hown2
      have HB2 := hid ((HBw.out.alloc HBw.out.size _).grown hgr2 (by have := HBw.out.size; simp; omega) (fun k e => (HO.out.lt k e).1))
      clear hown2 hgr2
      go_wp2
      exact ⟨⟨k + 1, by omega, by go_num, HO2, HB2⟩, by simp [intOf]; omega⟩
    · have hkl : k = l.length := by omega
      have HO' : Hid (wr.ownsRow w.heap.size 5 1 u3 (l.length + 0) ((lentTo l 0).map (Value.int .u8))) := by
        show World.ownsRow _ _ _ _ _ _ _
        have := HO.out
        rw [hkl, List.take_of_length_le (Nat.le_refl _)] at this
        simpa [lentTo] using this
      clear hkl
      go_wp2
      go_loopw [3, 5] (fun o i wz => ∃ m : Nat, m ≤ 70 ∧ i = .int .i64 m ∧ Hid (wz.ownsRow w.heap.size 5 1 o (l.length + m) ((lentTo l m).map (Value.int .u8))) ∧ Hid (Below w.heap.size w wz)) (fun _ i _ => 70 - (intOf i).toNat)
      case atStart => exact ⟨0, Nat.zero_le _, rfl, HO', HBw⟩
      case round =>
        clear HO' HBw HO
        obtain ⟨m, hm70, rfl, HO, HBw⟩ := hrel
        by_cases hlt2 : m < 70
        · have hlt3 : (m : Int) < 70 := by omega
          have HS := hid (lentTo_succ l m)
          go_wp2_with fail
          have e1 : ((l.length : Int) + (m : Int)) = ((l.length + m : Nat) : Int) := by omega
          rw [e1]
          refine (mark_any wr 0 (l.length + m) (by omega) (by omega)).mono ?_
          rintro e wz ⟨rfl, hw⟩
          have hw' := hw.symm
          subst hw'
          clear hw e1
          go_wp2_with (at_builtin; refine wpList_append_byte rfl _ _ rfl w.heap.size _ (l.length + m) _ rfl (HO.out.alloc _) ⟨wr.heap.size, 0, none⟩ 1 (mkB 0 (l.length + m)) rfl (by simp) ?q1 ?q2 ?_)
          case q1 => omega
          case q2 => have := HBw.out.size; simp; omega
          intro v' w2 hown2 hgr2 _
          have HO2 : Hid (w2.ownsRow w.heap.size 5 1 v' (l.length + (m + 1)) ((lentTo l (m + 1)).map (Value.int .u8))) := by
            rw [HS.out, List.map_append]
            exact hown2
          have HB2 := hid ((HBw.out.alloc HBw.out.size _).grown hgr2 (by have := HBw.out.size; simp; omega) (fun k e => (HO.out.lt k e).1))
          clear hown2 hgr2
          go_wp2
          exact ⟨⟨m + 1, by omega, by go_num, HO2, HB2⟩, by simp [intOf]; omega⟩
        · have e70 : m = 70 := by omega
          subst e70
          go_wp2
          go_ret
          refine ⟨_, rfl, ?_, HBw.out⟩
          rw [lent_length]
          exact HO.out
set_option maxHeartbeats 400000 in
theorem kept_any (w : World) (vf vl : Value) (fl l : List Int) (hf : HB w vf fl) (hl : HB w vl l) (hbig : l.length ≤ 140737488351232) :
    Calls Try.prog 10 #[vf, vl] w fun e w' => e = .returned (.bool (decide (fl = lent l))) ∧ Below w.heap.size w w' := by
  have HF := hid hf
  have HLl := hid hl
  obtain ⟨p1, c1, rfl, _, _⟩ := hf.open
  obtain ⟨p2, c2, rfl, _, _⟩ := hl.open
  clear hf hl
  go_enter Try.func10, Try.ntmps10
  go_wp2_with fail
  refine (lent_any w _ l HLl.out hbig).mono ?_
  rintro e w1 ⟨v1, rfl, hown, hB⟩
  have H1 := hid (HB.of_own hown (lent_byt HLl.out.2))
  have HF1 := hid (HF.out.below hB)
  have B1 := hid hB
  obtain ⟨p3, c3, e3, _, _⟩ := H1.out.open
  clear hown hB
  subst e3
  obtain ⟨ll, HLL⟩ : ∃ ll, Hid (lent l = ll) := ⟨_, rfl⟩
  rw [HLL.out] at H1 ⊢
  go_wp2_with fail
  refine (sameBytes_any w1 _ _ fl ll HF1.out H1.out).mono ?_
  rintro e w2 ⟨rfl, hD⟩
  have B2 := hid (B1.out.trans (hD.below _))
  obtain ⟨z, HZ⟩ : ∃ z, Hid (decide (fl = ll) = z) := ⟨_, rfl⟩
  rw [HZ.out]
  clear hD
  go_wp2
  go_ret
  exact ⟨by rw [HLL.out, HZ.out]; rfl, B2.out⟩
set_option maxHeartbeats 1000000 in
theorem over_any (w : World) (B : Nat) (v : Value) (n : Nat) (xs : List Value) (h : w.ownsRow B 5 1 v n xs) (hn : n ≤ 140737488355328) :
    Calls Try.prog 11 #[v] w fun e w' => e = .returned (.tuple #[]) ∧ (∃ ys, w'.ownsRow B 5 1 v n ys) ∧ w.grownBy w' v.ownBlock := by
  rcases h.2 with ⟨rfl, rfl⟩ | ⟨g, cap, cur, rfl, hbg, hg, hnc, hcm, hcs, htake⟩
  · go_enter Try.func11, Try.ntmps11
    go_wp2
    go_loop [2] (fun i => i = .int .i64 0) (fun _ => 0)
    case atStart => rfl
    case round =>
      subst hrel
      go_wp2
      go_end0
      exact ⟨rfl, ⟨xs, h⟩, ⟨rfl, rfl, rfl, Nat.le_refl _, fun _ _ _ => rfl⟩⟩
  · have HO := hid h
    clear h hg htake hcs hbg
    unfold maxLen at hcm
    go_enter Try.func11, Try.ntmps11
    go_wp2
    go_loopw [2] (fun i wr => ∃ k : Nat, k ≤ n ∧ i = .int .i64 k ∧ Hid (∃ ys, wr.ownsRow B 5 1 (.slice (some ⟨g, 0, none⟩) n cap) n ys) ∧ Hid (w.grownBy wr (some g))) (fun i _ => n - (intOf i).toNat)
    case atStart => exact ⟨0, Nat.zero_le _, rfl, ⟨_, HO.out⟩, ⟨rfl, rfl, rfl, Nat.le_refl _, fun _ _ _ => rfl⟩⟩
    case round =>
      obtain ⟨k, hk, rfl, HY, HG⟩ := hrel
      by_cases hlt : k < n
      · obtain ⟨ys, hy⟩ := HY.out
        have hc := hy.cellAt k (by omega)
        have hfz := hy.frozenAt k
        obtain ⟨z, hz⟩ : ∃ z, ys[k]? = some z := ⟨_, List.getElem?_eq_getElem (by have := hy.1; omega)⟩
        rw [hz] at hc
        have HYY := hid hy
        clear hz hy
        go_wp2_with fail
        have e1 : ((k : Int) + 3) = ((k + 3 : Nat) : Int) := by omega
        rw [e1]
        refine (mark_any wr 7 (k + 3) (by omega) (by omega)).mono ?_
        rintro e wz ⟨rfl, hw⟩
        have hw' := hw.symm
        subst hw'
        clear hw e1
        go_wp2
        exact ⟨⟨k + 1, by omega, by go_num, ⟨_, (HYY.out.stored k _).1⟩, ⟨HG.out.os, HG.out.tape, HG.out.output, by simpa using HG.out.size, fun i hi hne => by
          rw [heap_setCell_other _ _ _ _ (fun e => hne (by simp [e]))]
          exact HG.out.block i hi hne⟩⟩, by simp [intOf]; omega⟩
      · go_wp2
        go_end0
        exact ⟨rfl, HY.out, HG.out⟩
end Go.Proofs.Ytmpdmkckjajhiaa
