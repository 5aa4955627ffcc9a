/- aes.forth and aes.back: the steps one behind the other, by the evaluator; each state goes by a name. -/
import Derived.Test.YtbafegpiipkmbaaAesFun
namespace Go.Proofs.Ytbafegpiipkmbaa
open Go Go.RowKit Ev

inductive St where
  | spread | gather | key (n : Nat) | sub | shift | mix | unsub | unshift | unmix
  deriving DecidableEq, Repr
def St.out : St → List Ex
  | .spread => spreadE
  | .gather => gatherE
  | .key _ => keyE
  | .sub => subE
  | .shift => shiftE
  | .mix => mixE
  | .unsub => unsubE
  | .unshift => unshiftE
  | .unmix => unmixE
theorem St.out_ok (st : St) : st.out.all okB = true ∧ st.out.length = 16 := by
  cases st
  case key => show keyE.all okB = true ∧ keyE.length = 16; decide +kernel
  all_goals decide +kernel
/-- A round's key. -/
def keyAt (ks : List Nat) (n : Nat) : List Nat := (ks.drop (16 * n)).take 16
def St.env (ks : List Nat) : St → List Nat → Nat → Nat
  | .key n, s => at8 (s ++ keyAt ks n)
  | _, s => at8 s
/-- What a step makes of a state. -/
def St.ap (ks : List Nat) (st : St) (s : List Nat) : List Nat := st.out.map (nden (st.env ks s))
theorem byt_app {a b : List Nat} (ha : Byt a) (hb : Byt b) : Byt (a ++ b) := fun x hx => by rcases List.mem_append.1 hx with h | h; exact ha x h; exact hb x h
theorem byt_keyAt {ks : List Nat} (h : Byt ks) (n : Nat) : Byt (keyAt ks n) := fun x hx => h x (List.mem_of_mem_drop (List.mem_of_mem_take hx))
theorem byt_at {s : List Nat} (h : Byt s) (i : Nat) : at8 s i < 256 := byt_get h i
theorem St.env_lt {ks s : List Nat} (hk : Byt ks) (hs : Byt s) (st : St) (i : Nat) : st.env ks s i < 256 := by
  cases st <;> first | exact byt_at hs i | exact byt_at (byt_app hs (byt_keyAt hk _)) i
theorem St.ap_ok {ks s : List Nat} (hk : Byt ks) (hs : Byt s) (st : St) : (st.ap ks s).length = 16 ∧ Byt (st.ap ks s) := by
  refine ⟨by simp [St.ap, st.out_ok.2], fun x hx => ?_⟩
  obtain ⟨e, he, rfl⟩ := List.mem_map.1 hx
  exact (nden_ok (st.env_lt hk hs) e (List.all_eq_true.1 st.out_ok.1 e he)).2
def runSt (ks : List Nat) : List St → List Nat → List Nat
  | [], s => s
  | st :: r, s => runSt ks r (st.ap ks s)
def stat (ks : List Nat) (steps : List St) (b : List Nat) (p : Nat) : List Nat := runSt ks (steps.take p) b
theorem runSt_ok {ks : List Nat} (hk : Byt ks) : ∀ (l : List St) (s : List Nat), s.length = 16 → Byt s → (runSt ks l s).length = 16 ∧ Byt (runSt ks l s)
  | [], _, h1, h2 => ⟨h1, h2⟩
  | st :: l, _, _, h2 => runSt_ok hk l _ (st.ap_ok hk h2).1 (st.ap_ok hk h2).2
theorem runSt_byt {ks : List Nat} (hk : Byt ks) : ∀ (l : List St) (s : List Nat), Byt s → Byt (runSt ks l s)
  | [], _, h2 => h2
  | st :: l, _, h2 => runSt_byt hk l _ (st.ap_ok hk h2).2
theorem runSt_append (ks : List Nat) : ∀ (l m : List St) (s : List Nat), runSt ks (l ++ m) s = runSt ks m (runSt ks l s)
  | [], _, _ => rfl
  | _ :: l, m, _ => runSt_append ks l m _
theorem stat_succ {ks : List Nat} {steps : List St} {b : List Nat} {p : Nat} {st : St} (h : steps[p]? = some st) : stat ks steps b (p + 1) = st.ap ks (stat ks steps b p) := by
  unfold stat
  have hp := (List.getElem?_eq_some_iff.1 h).1
  rw [List.take_succ_eq_append_getElem hp, runSt_append]
  rw [List.getElem?_eq_getElem hp] at h
  cases h
  rfl

/-- What is given to a run: the keys; the block, and each state behind it. -/
def chEnv (ks : List Nat) (steps : List St) (b : List Nat) : Nat → Nat := fun i => if i < 176 then at8 ks i else at8 (stat ks steps b ((i - 176) / 16)) ((i - 176) % 16)
def nameOf (p : Nat) : List SV := vars (176 + 16 * p) 16
def pOf : List SV → Nat
  | .int .u8 (.var x) :: _ => (x - 176) / 16
  | _ => 0
def St.hits (g : Nat) (rest : List AV) : St → Bool
  | .spread => decide (g = 50) && decide (rest = [])
  | .gather => decide (g = 54) && decide (rest = [])
  | .key n => decide (g = 49) && decide (rest = [.tv (.agg (vars (16 * n) 16))]) && decide (n ≤ 10)
  | .sub => decide (g = 52) && decide (rest = [.tv (.agg tabSV)])
  | .shift => decide (g = 51) && decide (rest = [])
  | .mix => decide (g = 53) && decide (rest = [])
  | .unsub => false
  | .unshift => false
  | .unmix => false
def chCon (steps : List St) : ConF := fun g xs _ =>
  match xs with
  | .tv (.agg l) :: rest =>
    match steps[pOf l]? with
    | some st => if decide (l = nameOf (pOf l)) && st.hits g rest then some (.tv (.agg (nameOf (pOf l + 1)))) else none
    | none => none
  | _ => none

theorem chEnv_lt {ks : List Nat} (hk : Byt ks) {steps : List St} {b : List Nat} (hb : Byt b) (i : Nat) : chEnv ks steps b i < 256 := by
  unfold chEnv
  split
  · exact byt_at hk i
  · exact byt_at (runSt_byt hk _ b hb) _
theorem stat_ok {ks : List Nat} (hk : Byt ks) {steps : List St} {b : List Nat} (hb : Byt b) (hbl : b.length = 16) (p : Nat) : (stat ks steps b p).length = 16 ∧ Byt (stat ks steps b p) := runSt_ok hk _ b hbl hb
theorem name_inst {ks : List Nat} (hk : Byt ks) {steps : List St} {b : List Nat} (hb : Byt b) (hbl : b.length = 16) (ms : List Nat) (p : Nat) : (TV.agg (nameOf p)).inst (envB (chEnv ks steps b)) ms = some (.agg (cells8 (stat ks steps b p))) :=
  vars_inst (chEnv_lt hk hb) ms _ 16 _ (stat_ok hk hb hbl p).1 fun i hi => by
    unfold chEnv
    rw [if_neg (by omega), show (176 + 16 * p + i - 176) / 16 = p by omega, show (176 + 16 * p + i - 176) % 16 = i by omega]
    rfl
theorem key_inst {ks : List Nat} (hk : Byt ks) (hkl : ks.length = 176) {steps : List St} {b : List Nat} (hb : Byt b) (ms : List Nat) (n : Nat) (hn : n ≤ 10) : (TV.agg (vars (16 * n) 16)).inst (envB (chEnv ks steps b)) ms = some (.agg (cells8 (keyAt ks n))) :=
  vars_inst (chEnv_lt hk hb) ms _ 16 _ (by simp [keyAt]; omega) fun i hi => by
    unfold chEnv
    rw [if_pos (by omega)]
    simp only [at8, keyAt, List.getD, List.getElem?_take, List.getElem?_drop]
    rw [if_pos hi]
theorem keys_inst {ks : List Nat} (hk : Byt ks) (hkl : ks.length = 176) {steps : List St} {b : List Nat} (hb : Byt b) (ms : List Nat) : (TV.agg (vars 0 176)).inst (envB (chEnv ks steps b)) ms = some (.agg (cells8 ks)) :=
  vars_inst (chEnv_lt hk hb) ms _ 176 _ hkl fun i hi => by
    unfold chEnv
    rw [if_pos (by omega), Nat.zero_add]
    rfl
theorem chCon_ok {ks : List Nat} (hk : Byt ks) (hkl : ks.length = 176) {steps : List St} {b : List Nat} (hb : Byt b) (hbl : b.length = 16) : ConOk Try.prog (envB (chEnv ks steps b)) (chCon steps) := by
  intro g xs H v h ms B w args ha hH
  unfold chCon at h
  split at h
  case h_2 => cases h
  rename_i l rest
  split at h
  case h_2 => cases h
  rename_i st hst
  split at h
  case isFalse => cases h
  rename_i hc
  rw [Bool.and_eq_true, decide_eq_true_eq] at hc
  simp only [Option.some.injEq] at h
  subst h
  obtain ⟨hl, hh⟩ := hc
  generalize pOf l = p at *
  subst hl
  obtain ⟨hsl, hsb⟩ := stat_ok (steps := steps) hk hb hbl p
  have hout : (AV.tv (.agg (nameOf (p + 1)))).inst (envB (chEnv ks steps b)) ms = some (.agg (cells8 (st.ap ks (stat ks steps b p)))) := by
    rw [← stat_succ hst]
    exact name_inst hk hb hbl ms (p + 1)
  have h1 : rest = [] → args = #[.agg (cells8 (stat ks steps b p))] := fun hr => by
    subst hr
    obtain ⟨al⟩ := args
    have hlen : al.length = 1 := by have := congrArg List.length ha; simpa using this.symm
    match al, hlen, ha with
    | [u], _, ha =>
      simp only [List.map_cons, List.map_nil, List.cons.injEq, and_true, AV.inst, name_inst hk hb hbl, Option.some.injEq] at ha
      subst ha
      rfl
  have h2 : ∀ (x : TV) (t : List Nat), rest = [.tv x] → x.inst (envB (chEnv ks steps b)) ms = some (.agg (cells8 t)) → args = #[.agg (cells8 (stat ks steps b p)), .agg (cells8 t)] := fun x t hr hx => by
    subst hr
    obtain ⟨al⟩ := args
    have hlen : al.length = 2 := by have := congrArg List.length ha; simpa using this.symm
    match al, hlen, ha with
    | [u, u'], _, ha =>
      simp only [List.map_cons, List.map_nil, List.cons.injEq, and_true, AV.inst, name_inst hk hb hbl, hx, Option.some.injEq] at ha
      obtain ⟨rfl, rfl⟩ := ha
      rfl
  have fin : ∀ (Cl : Calls Try.prog g args w fun e w' => e = .returned (.agg (cells8 (st.ap ks (stat ks steps b p)))) ∧ Below w.heap.size w w'), Calls Try.prog g args w fun e w' => ∃ u, e = .returned u ∧ (AV.tv (.agg (nameOf (p + 1)))).inst (envB (chEnv ks steps b)) ms = some u ∧ Below w.heap.size w w' := fun Cl =>
    Cl.mono fun e w' ⟨q1, q2⟩ => ⟨_, q1, hout, q2⟩
  refine fin ?_
  clear fin hout
  have htab : (TV.agg tabSV).inst (envB (chEnv ks steps b)) ms = some (.agg (cells8 invLit)) := tabSV_instT _ ms
  cases st <;> simp only [St.hits, Bool.and_eq_true, decide_eq_true_eq, Bool.false_eq_true] at hh
  case spread => obtain ⟨rfl, hr⟩ := hh; rw [h1 hr]; exact fun1 spread_ev (St.out_ok .spread).1 w _ hsl hsb
  case gather => obtain ⟨rfl, hr⟩ := hh; rw [h1 hr]; exact fun1 gather_ev (St.out_ok .gather).1 w _ hsl hsb
  case key n =>
    obtain ⟨⟨rfl, hr⟩, hn⟩ := hh
    rw [h2 _ _ hr (key_inst hk hkl hb ms n hn)]
    exact fun2 key_ev (St.out_ok (.key n)).1 w _ _ hsl (by simp [keyAt]; omega) hsb (byt_keyAt hk n)
  case sub => obtain ⟨rfl, hr⟩ := hh; rw [h2 _ _ hr htab]; exact funT subbed_ev (St.out_ok .sub).1 w _ hsl hsb
  case shift => obtain ⟨rfl, hr⟩ := hh; rw [h1 hr]; exact fun1 shift_ev (St.out_ok .shift).1 w _ hsl hsb
  case mix => obtain ⟨rfl, hr⟩ := hh; rw [h1 hr]; exact fun1 mix_ev (St.out_ok .mix).1 w _ hsl hsb

def roundSt (n : Nat) : List St := [.sub, .shift] ++ (if n < 10 then [.mix] else []) ++ [.key n]
def forthSt (r : Nat) : List St := [.spread, .key 0] ++ (List.range r).flatMap (fun n => roundSt (n + 1)) ++ [.gather]
def unroundSt (n : Nat) : List St := [.key n] ++ (if n < 10 then [.unmix] else []) ++ [.unshift, .unsub]
def backSt : List St := [.spread] ++ (List.range 10).flatMap (fun n => unroundSt (10 - n)) ++ [.key 0, .gather]
def forthL (ks b : List Nat) (r : Nat) : List Nat := runSt ks (forthSt r) b
def backL (ks b : List Nat) : List Nat := runSt ks backSt b
def chAll (steps : List St) : ConF := conOr (chCon steps) (conInvs 45)
theorem forth_ev : (List.range 11).all (fun r => decide (evCall Try.prog noLore (chAll (forthSt r)) 100 41 [.tv (.agg (vars 0 176)), .tv (.agg (nameOf 0)), .tv (.sc (.int .i64 (.lit (r : Int))))] [] = some (.tv (.agg (nameOf (forthSt r).length)), []))) = true := by kernel_rfl
theorem forth_any (w : World) (ks b : List Nat) (hk : Byt ks) (hkl : ks.length = 176) (hb : Byt b) (hbl : b.length = 16) (r : Nat) (hr : r ≤ 10) :
    Calls Try.prog 41 #[.agg (cells8 ks), .agg (cells8 b), .int .i64 (r : Int)] w fun e w' => e = .returned (.agg (cells8 (forthL ks b r))) ∧ Below w.heap.size w w' := by
  have hev := List.all_eq_true.1 forth_ev r (List.mem_range.2 (by omega))
  rw [decide_eq_true_eq] at hev
  refine (calls_of_ev (noLore_ok (envB (chEnv ks (forthSt r) b))) (conOr_ok (chCon_ok hk hkl hb hbl) (conInvs_ok _)) mixedOrders 100 hev (args := #[.agg (cells8 ks), .agg (cells8 b), .int .i64 (r : Int)]) w ?_).mono ?_
  · have e1 : (AV.tv (.agg (vars 0 176))).inst (envB (chEnv ks (forthSt r) b)) [] = some (.agg (cells8 ks)) := by simp only [AV.inst]; exact keys_inst hk hkl hb []
    have e2 : (AV.tv (.agg (nameOf 0))).inst (envB (chEnv ks (forthSt r) b)) [] = some (.agg (cells8 b)) := by simp only [AV.inst]; exact name_inst hk hb hbl [] 0
    have e3 : (AV.tv (.sc (.int .i64 (.lit (r : Int))))).inst (envB (chEnv ks (forthSt r) b)) [] = some (.int .i64 (r : Int)) := rfl
    simp only [List.map_cons, List.map_nil, e1, e2, e3]
  · rintro e w' ⟨ms, u, rfl, h1, h2, h3⟩
    simp only [AV.inst, name_inst hk hb hbl, Option.some.injEq] at h1
    rw [← h1]
    refine ⟨?_, h3⟩
    unfold stat forthL
    rw [List.take_length]
end Go.Proofs.Ytbafegpiipkmbaa
