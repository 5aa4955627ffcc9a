/- The document's Behind: its steps one behind the other, by the evaluator; each block and state goes by a name. -/
import Derived.Test.YtbafegpiipkmbaaAesKeysLaw
import Derived.Test.YtbafegpiipkmbaaAesLit
set_option linter.unusedVariables false
namespace Go.Proofs.Ytbafegpiipkmbaa
open Go Go.RowKit Ev

/-- A block, byte by byte exclusive or a key. -/
def bxE : List Ex := (List.range 16).map fun i => .bit .xor .u8 (.var i) (.var (16 + i))
theorem rxor_ev : evCall Try.prog noLore conC 100 57 [.tv (.agg (vars 0 16)), .tv (.agg (vars 16 16))] [] = some (.tv (.agg (bytesE bxE)), []) := by kernel_rfl
theorem bxE_ok : bxE.all okB = true ∧ bxE.length = 16 := by decide +kernel
inductive DS where
  | st (s : St)
  | bx (n : Nat)
def DS.ap (ks : List Nat) : DS → List Nat → List Nat
  | .st s, x => s.ap ks x
  | .bx n, x => bxE.map (nden (at8 (x ++ keyAt ks n)))
theorem DS.ap_ok {ks s : List Nat} (hk : Byt ks) (hs : Byt s) (d : DS) : (d.ap ks s).length = 16 ∧ Byt (d.ap ks s) := by
  cases d with
  | st t => exact t.ap_ok hk hs
  | bx n =>
    refine ⟨by simp [DS.ap, bxE_ok.2], fun x hx => ?_⟩
    obtain ⟨e, he, rfl⟩ := List.mem_map.1 hx
    exact (nden_ok (byt_at (byt_app hs (byt_keyAt hk n))) e (List.all_eq_true.1 bxE_ok.1 e he)).2
def runD (ks : List Nat) : List DS → List Nat → List Nat
  | [], s => s
  | d :: r, s => runD ks r (d.ap ks s)
theorem runD_ok {ks : List Nat} (hk : Byt ks) : ∀ (l : List DS) (s : List Nat), s.length = 16 → Byt s → (runD ks l s).length = 16 ∧ Byt (runD ks l s)
  | [], _, h1, h2 => ⟨h1, h2⟩
  | d :: l, _, _, h2 => runD_ok hk l _ (d.ap_ok hk h2).1 (d.ap_ok hk h2).2
theorem runD_append (ks : List Nat) : ∀ (l m : List DS) (s : List Nat), runD ks (l ++ m) s = runD ks m (runD ks l s)
  | [], _, _ => rfl
  | _ :: l, m, _ => runD_append ks l m _
/-- The block behind p steps. -/
def dstat (ks : List Nat) (steps : List DS) (b : List Nat) (p : Nat) : List Nat := runD ks (steps.take p) b
theorem dstat_succ {ks : List Nat} {steps : List DS} {b : List Nat} {p : Nat} {d : DS} (h : steps[p]? = some d) : dstat ks steps b (p + 1) = d.ap ks (dstat ks steps b p) := by
  unfold dstat
  have hp := (List.getElem?_eq_some_iff.1 h).1
  rw [List.take_succ_eq_append_getElem hp, runD_append]
  rw [List.getElem?_eq_getElem hp] at h
  cases h
  rfl
def dEnv (ks : List Nat) (steps : List DS) (b : List Nat) : Nat → Nat := fun i => if i < 176 then at8 ks i else at8 (dstat ks steps b ((i - 176) / 16)) ((i - 176) % 16)
theorem dstat_ok {ks : List Nat} (hk : Byt ks) {steps : List DS} {b : List Nat} (hb : Byt b) (hbl : b.length = 16) (p : Nat) : (dstat ks steps b p).length = 16 ∧ Byt (dstat ks steps b p) := runD_ok hk _ b hbl hb
theorem dEnv_lt {ks : List Nat} (hk : Byt ks) {steps : List DS} {b : List Nat} (hb : Byt b) (hbl : b.length = 16) (i : Nat) : dEnv ks steps b i < 256 := by
  unfold dEnv
  split
  · exact byt_at hk i
  · exact byt_at (dstat_ok hk hb hbl _).2 _
theorem dname_inst {ks : List Nat} (hk : Byt ks) {steps : List DS} {b : List Nat} (hb : Byt b) (hbl : b.length = 16) (ms : List Nat) (p : Nat) : (TV.agg (nameOf p)).inst (envB (dEnv ks steps b)) ms = some (.agg (cells8 (dstat ks steps b p))) :=
  vars_inst (dEnv_lt hk hb hbl) ms _ 16 _ (dstat_ok hk hb hbl p).1 fun i hi => by
    unfold dEnv
    rw [if_neg (by omega), show (176 + 16 * p + i - 176) / 16 = p by omega, show (176 + 16 * p + i - 176) % 16 = i by omega]
    rfl
theorem dkey_inst {ks : List Nat} (hk : Byt ks) (hkl : ks.length = 176) {steps : List DS} {b : List Nat} (hb : Byt b) (hbl : b.length = 16) (ms : List Nat) (n : Nat) (hn : n ≤ 10) : (TV.agg (vars (16 * n) 16)).inst (envB (dEnv ks steps b)) ms = some (.agg (cells8 (keyAt ks n))) :=
  vars_inst (dEnv_lt hk hb hbl) ms _ 16 _ (by simp [keyAt]; omega) fun i hi => by
    unfold dEnv
    rw [if_pos (by omega)]
    simp only [at8, keyAt, List.getD, List.getElem?_take, List.getElem?_drop]
    rw [if_pos hi]
def DS.hits (g : Nat) (rest : List AV) : DS → Bool
  | .st .spread => decide (g = 59) && decide (rest = [])
  | .st .gather => decide (g = 62) && decide (rest = [])
  | .st .sub => decide (g = 58) && decide (rest = [])
  | .st .shift => decide (g = 60) && decide (rest = [])
  | .st .mix => decide (g = 61) && decide (rest = [])
  | .bx n => decide (g = 57) && decide (rest = [.tv (.agg (vars (16 * n) 16))]) && decide (n ≤ 10)
  | .st (.key _) => false
  | .st .unsub => false
  | .st .unshift => false
  | .st .unmix => false
def dCon (steps : List DS) : ConF := fun g xs _ =>
  match xs with
  | .tv (.agg l) :: rest =>
    match steps[pOf l]? with
    | some d => if decide (l = nameOf (pOf l)) && d.hits g rest then some (.tv (.agg (nameOf (pOf l + 1)))) else none
    | none => none
  | _ => none
theorem dCon_ok {ks : List Nat} (hk : Byt ks) (hkl : ks.length = 176) {steps : List DS} {b : List Nat} (hb : Byt b) (hbl : b.length = 16) : ConOk Try.prog (envB (dEnv ks steps b)) (dCon steps) := by
  intro g xs H v h ms B w args ha hH
  unfold dCon at h
  split at h
  case h_2 => cases h
  rename_i l rest
  split at h
  case h_2 => cases h
  rename_i d hd
  split at h
  case isFalse => cases h
  rename_i hc
  rw [Bool.and_eq_true, decide_eq_true_eq] at hc
  simp only [Option.some.injEq] at h
  subst h
  obtain ⟨hl, hh⟩ := hc
  generalize pOf l = p at *
  subst hl
  obtain ⟨hsl, hsb⟩ := dstat_ok (steps := steps) hk hb hbl p
  have hout : (AV.tv (.agg (nameOf (p + 1)))).inst (envB (dEnv ks steps b)) ms = some (.agg (cells8 (d.ap ks (dstat ks steps b p)))) := by
    rw [← dstat_succ hd]
    exact dname_inst hk hb hbl ms (p + 1)
  have h1 : rest = [] → args = #[.agg (cells8 (dstat ks steps b p))] := fun hr => by
    subst hr
    obtain ⟨al⟩ := args
    have hlen : al.length = 1 := by have := congrArg List.length ha; simpa using this.symm
    match al, hlen, ha with
    | [u], _, ha =>
      simp only [List.map_cons, List.map_nil, List.cons.injEq, and_true, AV.inst, dname_inst hk hb hbl, Option.some.injEq] at ha
      subst ha
      rfl
  have h2 : ∀ (x : TV) (t : List Nat), rest = [.tv x] → x.inst (envB (dEnv ks steps b)) ms = some (.agg (cells8 t)) → args = #[.agg (cells8 (dstat ks steps b p)), .agg (cells8 t)] := fun x t hr hx => by
    subst hr
    obtain ⟨al⟩ := args
    have hlen : al.length = 2 := by have := congrArg List.length ha; simpa using this.symm
    match al, hlen, ha with
    | [u, u'], _, ha =>
      simp only [List.map_cons, List.map_nil, List.cons.injEq, and_true, AV.inst, dname_inst hk hb hbl, hx, Option.some.injEq] at ha
      obtain ⟨rfl, rfl⟩ := ha
      rfl
  have fin : ∀ (Cl : Calls Try.prog g args w fun e w' => e = .returned (.agg (cells8 (d.ap ks (dstat ks steps b p)))) ∧ Below w.heap.size w w'), Calls Try.prog g args w fun e w' => ∃ u, e = .returned u ∧ (AV.tv (.agg (nameOf (p + 1)))).inst (envB (dEnv ks steps b)) ms = some u ∧ Below w.heap.size w w' := fun Cl =>
    Cl.mono fun e w' ⟨q1, q2⟩ => ⟨_, q1, hout, q2⟩
  refine fin ?_
  clear fin hout
  cases d with
  | bx n =>
    simp only [DS.hits, Bool.and_eq_true, decide_eq_true_eq] at hh
    obtain ⟨⟨rfl, hr⟩, hn⟩ := hh
    rw [h2 _ _ hr (dkey_inst hk hkl hb hbl ms n hn)]
    exact fun2 rxor_ev bxE_ok.1 w _ _ hsl (by simp [keyAt]; omega) hsb (byt_keyAt hk n)
  | st s =>
    cases s <;> simp only [DS.hits, Bool.and_eq_true, decide_eq_true_eq, Bool.false_eq_true] at hh
    case spread => obtain ⟨rfl, hr⟩ := hh; rw [h1 hr]; exact funR rspread_ev (St.out_ok .spread).1 w _ hsl hsb
    case gather => obtain ⟨rfl, hr⟩ := hh; rw [h1 hr]; exact funR rgather_ev (St.out_ok .gather).1 w _ hsl hsb
    case sub => obtain ⟨rfl, hr⟩ := hh; rw [h1 hr]; exact funR rsubAll_ev (St.out_ok .sub).1 w _ hsl hsb
    case shift => obtain ⟨rfl, hr⟩ := hh; rw [h1 hr]; exact funR rshift_ev (St.out_ok .shift).1 w _ hsl hsb
    case mix =>
      obtain ⟨rfl, hr⟩ := hh
      rw [h1 hr]
      have := funR rmix_ev (by decide +kernel) w _ hsl hsb
      rw [rmix_mix hsb] at this
      exact this
def dround (n : Nat) : List DS := [.st .spread, .st .sub, .st .shift] ++ (if n < 10 then [.st .mix] else []) ++ [.st .gather, .bx n]
def docSt (r : Nat) : List DS := [.bx 0] ++ (List.range r).flatMap (fun n => dround (n + 1))
def schedTab : List (Nat × List AV × AV) := [(56, [V 0 16], V 0 176)]
theorem rbehind_ev : (List.range 11).all (fun r => decide (evCallF Try.prog noLore (conOr (dCon (docSt r)) (tabCon schedTab)) 100 43 [V 0 16, .tv (.agg (nameOf 0)), N64 (r : Int)] [] = some (.tv (.agg (nameOf (docSt r).length)), []))) = true := by kernel_rfl

/- The document's steps come to the program's. -/
theorem bx_gather {ks s : List Nat} (h : s.length = 16) (n : Nat) : DS.ap ks (.bx n) s = St.gather.ap ks ((St.key n).ap ks (St.spread.ap ks s)) := by
  obtain ⟨x0, x1, x2, x3, x4, x5, x6, x7, x8, x9, x10, x11, x12, x13, x14, x15, rfl⟩ := list16 h
  rfl
theorem bx_of_gather {ks s : List Nat} (hk : Byt ks) (h : s.length = 16) (hb : Byt s) (n : Nat) : DS.ap ks (.bx n) (St.gather.ap ks s) = St.gather.ap ks ((St.key n).ap ks s) := by
  rw [bx_gather (St.ap_ok hk hb .gather).1, spread_gather h]
theorem dround_ap {ks s : List Nat} (hk : Byt ks) (h : s.length = 16) (hb : Byt s) (n : Nat) : runD ks (dround n) (St.gather.ap ks s) = St.gather.ap ks (runSt ks (roundSt n) s) := by
  have g1 := St.ap_ok hk hb .sub
  have g2 := St.ap_ok hk g1.2 .shift
  have g3 := St.ap_ok hk g2.2 .mix
  unfold dround roundSt
  by_cases hn : n < 10
  · rw [if_pos hn, if_pos hn]
    show DS.ap ks (.bx n) (St.gather.ap ks (St.mix.ap ks (St.shift.ap ks (St.sub.ap ks (St.spread.ap ks (St.gather.ap ks s)))))) = _
    rw [spread_gather h, bx_of_gather hk g3.1 g3.2]
    rfl
  · rw [if_neg hn, if_neg hn]
    show DS.ap ks (.bx n) (St.gather.ap ks (St.shift.ap ks (St.sub.ap ks (St.spread.ap ks (St.gather.ap ks s))))) = _
    rw [spread_gather h, bx_of_gather hk g2.1 g2.2]
    rfl
theorem rounds_ap {ks : List Nat} (hk : Byt ks) : ∀ (l : List Nat) (s : List Nat), s.length = 16 → Byt s → runD ks (l.flatMap fun n => dround (n + 1)) (St.gather.ap ks s) = St.gather.ap ks (runSt ks (l.flatMap fun n => roundSt (n + 1)) s)
  | [], _, _, _ => rfl
  | n :: l, s, h1, h2 => by
    rw [List.flatMap_cons, List.flatMap_cons, runD_append, runSt_append, dround_ap hk h1 h2]
    have := runSt_ok hk (roundSt (n + 1)) s h1 h2
    exact rounds_ap hk l _ this.1 this.2
theorem doc_forth {ks b : List Nat} (hk : Byt ks) (h : b.length = 16) (hb : Byt b) (r : Nat) : runD ks (docSt r) b = forthL ks b r := by
  unfold docSt forthL forthSt
  have g1 := St.ap_ok hk hb .spread
  have g2 := St.ap_ok hk g1.2 (.key 0)
  rw [runD_append, runSt_append, runSt_append]
  show runD ks _ (DS.ap ks (.bx 0) b) = St.gather.ap ks (runSt ks _ ((St.key 0).ap ks (St.spread.ap ks b)))
  rw [bx_gather h, rounds_ap hk _ _ g2.1 g2.2]
theorem rbehind_any (w : World) (k b : List Nat) (hk : Byt k) (hkl : k.length = 16) (hb : Byt b) (hbl : b.length = 16) (r : Nat) (hr : r ≤ 10) :
    Calls Try.prog 43 #[.agg (cells8 k), .agg (cells8 b), .int .i64 (r : Int)] w fun e w' => e = .returned (.agg (cells8 (forthL (schedL k) b r))) ∧ Below w.heap.size w w' := by
  obtain ⟨s1, s2, s3⟩ := schedL_ok hkl hk
  have hev := List.all_eq_true.1 rbehind_ev r (List.mem_range.2 (by omega))
  rw [decide_eq_true_eq] at hev
  have hlt := dEnv_lt (steps := docSt r) s2 hb hbl
  have n1 : named (dEnv (schedL k) (docSt r) b) 0 16 = k := by
    refine Eq.trans (List.map_congr_left fun i hi => ?_) (sched_named hkl hk).1
    have hi2 : i < 16 := by simpa using hi
    unfold dEnv
    rw [Nat.zero_add, if_pos (by omega), ← s3 i (by omega)]
  have n2 : named (dEnv (schedL k) (docSt r) b) 0 176 = schedL k := by
    refine Eq.trans (List.map_congr_left fun i hi => ?_) (sched_named hkl hk).2
    have hi2 : i < 176 := by simpa using hi
    unfold dEnv
    rw [Nat.zero_add, if_pos hi2, ← s3 i hi2]
  refine (calls_of_evF (noLore_ok (envB (dEnv (schedL k) (docSt r) b))) (conOr_ok (dCon_ok s2 s1 hb hbl) (tabCon_ok ?_)) mixedOrders 100 hev (args := #[.agg (cells8 k), .agg (cells8 b), .int .i64 (r : Int)]) w ?_).mono ?_
  · intro e he
    simp only [schedTab, List.mem_cons, List.not_mem_nil, or_false] at he
    subst he
    exact ent1 hlt fun w => by rw [n1, n2]; exact rsched_any w k hk hkl
  · have e2 : (AV.tv (.agg (nameOf 0))).inst (envB (dEnv (schedL k) (docSt r) b)) [] = some (.agg (cells8 b)) := by simp only [AV.inst]; exact dname_inst s2 hb hbl [] 0
    have e3 : (N64 (r : Int)).inst (envB (dEnv (schedL k) (docSt r) b)) [] = some (.int .i64 (r : Int)) := rfl
    simp only [List.map_cons, List.map_nil, V_inst hlt, n1, e2, e3]
  · rintro e w' ⟨ms, u, rfl, h1, h2, h3⟩
    simp only [AV.inst, dname_inst s2 hb hbl, Option.some.injEq] at h1
    rw [← h1]
    refine ⟨?_, h3⟩
    unfold dstat
    rw [List.take_length, doc_forth s2 hbl hb]
end Go.Proofs.Ytbafegpiipkmbaa
