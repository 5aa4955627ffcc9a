/- What a round does to a state, by the evaluator: each function's answer, of whatever bytes. -/
import Derived.Test.YtbafegpiipkmbaaEvBytes
namespace Go.Proofs.Ytbafegpiipkmbaa
open Go Go.RowKit Ev

/-- The table of inverses lies at g. -/
def TabAt (w : World) (g : Nat) : Prop := ∀ i, i < 256 → w.cell? ⟨g, i, none⟩ = some (.int .u8 ((inv i : Nat) : Int))

set_option maxHeartbeats 1000000 in
theorem csub (w : World) (g : Nat) (hW : TabAt w g) (r c : Value) (a : Nat) (ha : a < 256) : Calls Try.prog 71 #[r, c, .int .u8 (a : Int), .pointer (some ⟨g, 0, none⟩)] w fun e w' => e = .returned (.int .u8 ((sub a : Nat) : Int)) ∧ w' = w := by
  have h1 := hW a ha
  have hx := inv_lt a
  have HX2 : Hid (sub a = blend (inv a)) := rfl
  obtain ⟨x, HX⟩ : ∃ x, Hid (inv a = x) := ⟨_, rfl⟩
  rw [HX.out] at h1 hx HX2
  rw [HX2.out]
  have C := hid (blend_any w x hx)
  clear hW HX HX2
  go_enter Try.func71, Try.ntmps71
  go_wp2_with fail
  refine C.out.mono ?_
  rintro e w1 ⟨rfl, hw⟩
  subst hw
  go_wp2
  go_ret
  exact ⟨rfl, rfl⟩
set_option maxHeartbeats 1000000 in
theorem csched (w : World) (g : Nat) (hW : TabAt w g) (a : Nat) (ha : a < 256) : Calls Try.prog 46 #[.int .u8 (a : Int), .pointer (some ⟨g, 0, none⟩)] w fun e w' => e = .returned (.int .u8 ((sub a : Nat) : Int)) ∧ w' = w := by
  have h1 := hW a ha
  have hx := inv_lt a
  have HX2 : Hid (sub a = blend (inv a)) := rfl
  obtain ⟨x, HX⟩ : ∃ x, Hid (inv a = x) := ⟨_, rfl⟩
  rw [HX.out] at h1 hx HX2
  rw [HX2.out]
  have C := hid (blend_any w x hx)
  clear hW HX HX2
  go_enter Try.func46, Try.ntmps46
  go_wp2_with fail
  refine C.out.mono ?_
  rintro e w1 ⟨rfl, hw⟩
  subst hw
  go_wp2
  go_ret
  exact ⟨rfl, rfl⟩

def mkApp (f : Nat) : Ex → Ex → Ex
  | .lit x, .lit y => .lit ((nfn f x.toNat y.toNat : Nat) : Int)
  | a, b => .app f a b
theorem mkApp_den {s : Nat → Nat} (f : Nat) (a b : Ex) : (mkApp f a b).den (envB s) = (Ex.app f a b).den (envB s) := by
  unfold mkApp
  split
  · simp [Ex.den, envB]
  · rfl
def tabIn (H : List Blk) (n : Nat) : Bool := match H[n]? with | some k => decide (k.cells = lits invLit) | none => false
def conOr (a b : ConF) : ConF := fun g xs H => match a g xs H with | some v => some v | none => b g xs H
theorem conOr_ok {P : Program} {ρ : Env} {a b : ConF} (ha : ConOk P ρ a) (hb : ConOk P ρ b) : ConOk P ρ (conOr a b) := by
  intro g xs H v h
  unfold conOr at h
  split at h
  · rename_i h1
    simp only [Option.some.injEq] at h
    subst h
    exact ha g xs H _ h1
  · exact hb g xs H v h
/-- A byte by the table. -/
def conTab (f fn : Nat) : ConF := fun g xs H =>
  if g = f then
    match xs with
    | [_, _, .tv (.sc (.int .u8 a)), .tv (.sc (.ptr n 0))] => if okB a && tabIn H n then some (.tv (.sc (.int .u8 (mkApp fn a (.lit 0))))) else none
    | _ => none
  else none
def conTab1 (f fn : Nat) : ConF := fun g xs H =>
  if g = f then
    match xs with
    | [.tv (.sc (.int .u8 a)), .tv (.sc (.ptr n 0))] => if okB a && tabIn H n then some (.tv (.sc (.int .u8 (mkApp fn a (.lit 0))))) else none
    | _ => none
  else none
/-- A function of two bytes. -/
def conTwo (f fn : Nat) : ConF := fun g xs _ =>
  if g = f then
    match xs with
    | [.tv (.sc (.int .u8 a)), .tv (.sc (.int .u8 b))] => if okB a && okB b then some (.tv (.sc (.int .u8 (mkApp fn a b)))) else none
    | _ => none
  else none
/-- A function of one byte. -/
def conOne (f fn : Nat) : ConF := fun g xs _ =>
  if g = f then
    match xs with
    | [.tv (.sc (.int .u8 a))] => if okB a then some (.tv (.sc (.int .u8 (mkApp fn a (.lit 0))))) else none
    | _ => none
  else none
def tabSV : List SV := lits invLit
def conInvs (f : Nat) : ConF := fun g xs _ => if g = f then (match xs with | [] => some (.tv (.agg tabSV)) | _ => none) else none

set_option maxRecDepth 100000 in
theorem tabAt_of {ρ : Env} {ms : List Nat} {H : List Blk} {B : Nat} {w : World} (hH : Holds ρ ms H B w) {n b : Nat} (h : tabIn H n = true) (hb : ms[n]? = some b) : TabAt w b := by
  unfold tabIn at h
  split at h
  case h_2 => cases h
  rename_i k hk
  simp only [decide_eq_true_eq] at h
  intro i hi
  have hl : invLit.length = 256 := by decide +kernel
  obtain ⟨v, h1, h2, _⟩ := hH.cell n b k hb hk i (.int .u8 (.lit ((invLit.getD i 0 : Nat) : Int))) (by rw [h]; simp [lits, List.getD, List.getElem?_eq_getElem (show i < invLit.length by omega)])
  simp only [SV.inst, Ex.den, Option.some.injEq] at h1
  rw [h2, ← h1]
  unfold inv
  rw [invT_lit]
theorem args4 {ρ : Env} {ms : List Nat} {x y : AV} {a : Ex} {n : Nat} {args : Array Value} (h : [x, y, .tv (.sc (.int .u8 a)), .tv (.sc (.ptr n 0))].map (AV.inst ρ ms) = args.toList.map some) :
    ∃ r c b, ms[n]? = some b ∧ args = #[r, c, .int .u8 (a.den ρ), .pointer (some ⟨b, 0, none⟩)] := by
  obtain ⟨l⟩ := args
  have hlen : l.length = 4 := by have := congrArg List.length h; simpa using this.symm
  match l, hlen, h with
  | [r, c, u, p], _, h =>
    simp only [List.map_cons, List.map_nil, List.cons.injEq, and_true, AV.inst, TV.inst, SV.inst, addr, Option.some.injEq, Option.map_eq_some_iff] at h
    obtain ⟨_, _, rfl, b, hb, rfl⟩ := h
    exact ⟨r, c, b, hb, rfl⟩
theorem args2 {ρ : Env} {ms : List Nat} {a : Ex} {n : Nat} {args : Array Value} (h : [.tv (.sc (.int .u8 a)), .tv (.sc (.ptr n 0))].map (AV.inst ρ ms) = args.toList.map some) :
    ∃ b, ms[n]? = some b ∧ args = #[.int .u8 (a.den ρ), .pointer (some ⟨b, 0, none⟩)] := by
  obtain ⟨l⟩ := args
  have hlen : l.length = 2 := by have := congrArg List.length h; simpa using this.symm
  match l, hlen, h with
  | [u, p], _, h =>
    simp only [List.map_cons, List.map_nil, List.cons.injEq, and_true, AV.inst, TV.inst, SV.inst, addr, Option.some.injEq, Option.map_eq_some_iff] at h
    obtain ⟨rfl, b, hb, rfl⟩ := h
    exact ⟨b, hb, rfl⟩
theorem argsB {ρ : Env} {ms : List Nat} {a b : Ex} {args : Array Value} (h : [.tv (.sc (.int .u8 a)), .tv (.sc (.int .u8 b))].map (AV.inst ρ ms) = args.toList.map some) :
    args = #[.int .u8 (a.den ρ), .int .u8 (b.den ρ)] := by
  obtain ⟨l⟩ := args
  have hlen : l.length = 2 := by have := congrArg List.length h; simpa using this.symm
  match l, hlen, h with
  | [u, p], _, h =>
    simp only [List.map_cons, List.map_nil, List.cons.injEq, and_true, AV.inst, TV.inst, SV.inst, Option.some.injEq] at h
    obtain ⟨rfl, rfl⟩ := h
    rfl

theorem conTab_ok {s : Nat → Nat} (hs : ∀ i, s i < 256) {f fn : Nat} (hf : ∀ (w : World) (g : Nat), TabAt w g → ∀ (r c : Value) (a : Nat), a < 256 → Calls Try.prog f #[r, c, .int .u8 (a : Int), .pointer (some ⟨g, 0, none⟩)] w fun e w' => e = .returned (.int .u8 ((nfn fn a 0 : Nat) : Int)) ∧ w' = w) :
    ConOk Try.prog (envB s) (conTab f fn) := by
  intro g xs H v h ms B w args ha hH
  unfold conTab at h
  split at h
  case isFalse => cases h
  rename_i hg
  subst hg
  split at h
  case h_2 => cases h
  rename_i x y a n
  split at h
  case isFalse => cases h
  rename_i hc
  rw [Bool.and_eq_true] at hc
  simp only [Option.some.injEq] at h
  subst h
  obtain ⟨r, c, b, hb, rfl⟩ := args4 ha
  obtain ⟨e1, l1⟩ := nden_ok hs a hc.1
  rw [e1]
  refine (hf w b (tabAt_of hH hc.2 hb) r c _ l1).mono ?_
  rintro e w' ⟨rfl, rfl⟩
  refine ⟨_, rfl, ?_, Below.refl _ _⟩
  simp only [AV.inst, TV.inst, SV.inst, mkApp_den, Ex.den, e1]
  simp [envB]
theorem conTab1_ok {s : Nat → Nat} (hs : ∀ i, s i < 256) {f fn : Nat} (hf : ∀ (w : World) (g : Nat), TabAt w g → ∀ (a : Nat), a < 256 → Calls Try.prog f #[.int .u8 (a : Int), .pointer (some ⟨g, 0, none⟩)] w fun e w' => e = .returned (.int .u8 ((nfn fn a 0 : Nat) : Int)) ∧ w' = w) :
    ConOk Try.prog (envB s) (conTab1 f fn) := by
  intro g xs H v h ms B w args ha hH
  unfold conTab1 at h
  split at h
  case isFalse => cases h
  rename_i hg
  subst hg
  split at h
  case h_2 => cases h
  rename_i a n
  split at h
  case isFalse => cases h
  rename_i hc
  rw [Bool.and_eq_true] at hc
  simp only [Option.some.injEq] at h
  subst h
  obtain ⟨b, hb, rfl⟩ := args2 ha
  obtain ⟨e1, l1⟩ := nden_ok hs a hc.1
  rw [e1]
  refine (hf w b (tabAt_of hH hc.2 hb) _ l1).mono ?_
  rintro e w' ⟨rfl, rfl⟩
  refine ⟨_, rfl, ?_, Below.refl _ _⟩
  simp only [AV.inst, TV.inst, SV.inst, mkApp_den, Ex.den, e1]
  simp [envB]
theorem conTwo_ok {s : Nat → Nat} (hs : ∀ i, s i < 256) {f fn : Nat} (hf : ∀ (w : World) (a b : Nat), a < 256 → b < 256 → Calls Try.prog f #[.int .u8 (a : Int), .int .u8 (b : Int)] w fun e w' => e = .returned (.int .u8 ((nfn fn a b : Nat) : Int)) ∧ Below w.heap.size w w') :
    ConOk Try.prog (envB s) (conTwo f fn) := by
  intro g xs H v h ms B w args ha hH
  unfold conTwo at h
  split at h
  case isFalse => cases h
  rename_i hg
  subst hg
  split at h
  case h_2 => cases h
  rename_i a b
  split at h
  case isFalse => cases h
  rename_i hc
  rw [Bool.and_eq_true] at hc
  simp only [Option.some.injEq] at h
  subst h
  obtain rfl := argsB ha
  obtain ⟨e1, l1⟩ := nden_ok hs a hc.1
  obtain ⟨e2, l2⟩ := nden_ok hs b hc.2
  rw [e1, e2]
  refine (hf w _ _ l1 l2).mono ?_
  rintro e w' ⟨rfl, hb⟩
  refine ⟨_, rfl, ?_, hb⟩
  simp only [AV.inst, TV.inst, SV.inst, mkApp_den, Ex.den, e1, e2]
  simp [envB]
theorem conOne_ok {s : Nat → Nat} (hs : ∀ i, s i < 256) {f fn : Nat} (hf : ∀ (w : World) (a : Nat), a < 256 → Calls Try.prog f #[.int .u8 (a : Int)] w fun e w' => e = .returned (.int .u8 ((nfn fn a 0 : Nat) : Int)) ∧ Below w.heap.size w w') :
    ConOk Try.prog (envB s) (conOne f fn) := by
  intro g xs H v h ms B w args ha hH
  unfold conOne at h
  split at h
  case isFalse => cases h
  rename_i hg
  subst hg
  split at h
  case h_2 => cases h
  rename_i a
  split at h
  case isFalse => cases h
  rename_i hc
  simp only [Option.some.injEq] at h
  subst h
  have ea : args = #[.int .u8 (a.den (envB s))] := by
    obtain ⟨l⟩ := args
    have hlen : l.length = 1 := by have := congrArg List.length ha; simpa using this.symm
    match l, hlen, ha with
    | [u], _, ha =>
      simp only [List.map_cons, List.map_nil, List.cons.injEq, and_true, AV.inst, TV.inst, SV.inst, Option.some.injEq] at ha
      subst ha
      rfl
  subst ea
  obtain ⟨e1, l1⟩ := nden_ok hs a hc
  rw [e1]
  refine (hf w _ l1).mono ?_
  rintro e w' ⟨rfl, hb⟩
  refine ⟨_, rfl, ?_, hb⟩
  simp only [AV.inst, TV.inst, SV.inst, mkApp_den, Ex.den, e1]
  simp [envB]
theorem tabSV_instT (ρ : Env) (ms : List Nat) : (TV.agg tabSV).inst ρ ms = some (.agg (cells8 invLit)) := by
  unfold tabSV
  exact lits_inst ρ ms invLit
theorem tabSV_inst (ρ : Env) (ms : List Nat) : (AV.tv (.agg tabSV)).inst ρ ms = some (.agg (cells8 invLit)) := by
  unfold tabSV
  simp only [AV.inst]
  exact lits_inst ρ ms invLit
theorem inverses_lit (w : World) : Calls Try.prog 45 #[] w fun e w' => e = .returned (.agg (cells8 invLit)) ∧ Below w.heap.size w w' := invT_lit ▸ inverses_any w
theorem conInvs_ok (ρ : Env) : ConOk Try.prog ρ (conInvs 45) := by
  intro g xs H v h ms B w args ha hH
  unfold conInvs at h
  split at h
  case isFalse => cases h
  rename_i hg
  subst hg
  split at h
  case h_2 => cases h
  simp only [Option.some.injEq] at h
  subst h
  have : args = #[] := by cases args; simp_all
  subst this
  refine (inverses_lit w).mono ?_
  rintro e w' ⟨he, hb⟩
  exact ⟨_, he, tabSV_inst _ ms, hb⟩
/-- The leaves' contracts. -/
def conC : ConF :=
  conOr (conTab 71 1) <|
  conOr (conTab1 46 1) (conInvs 45)
theorem conC_ok {s : Nat → Nat} (hs : ∀ i, s i < 256) : ConOk Try.prog (envB s) conC :=
  conOr_ok (conTab_ok hs csub) <|
  conOr_ok (conTab1_ok hs csched) (conInvs_ok _)

theorem mixedOrders : Try.prog.follows .mixedOrders = true := by kernel_rfl
/-- A function of a row of n bytes that the evaluator answers by symbols. -/
theorem fun1 {g fuel n : Nat} {out : List Ex} (h : evCall Try.prog noLore conC fuel g [.tv (.agg (vars 0 n))] [] = some (.tv (.agg (bytesE out)), [])) (hok : out.all okB = true) (w : World) (s : List Nat) (hl : s.length = n) (hb : Byt s) :
    Calls Try.prog g #[.agg (cells8 s)] w fun e w' => e = .returned (.agg (cells8 (out.map (nden (at8 s))))) ∧ Below w.heap.size w w' := by
  have hs := byt_get hb
  refine (calls_of_ev (noLore_ok (envB (at8 s))) (conC_ok hs) mixedOrders fuel h (args := #[.agg (cells8 s)]) w ?_).mono ?_
  · simp only [List.map_cons, List.map_nil, AV.inst]
    rw [vars_inst hs [] 0 n s hl (fun i _ => by rw [Nat.zero_add]; rfl)]
  · rintro e w' ⟨ms, u, rfl, h1, h2, h3⟩
    simp only [AV.inst, bytesE_inst hs ms hok, Option.some.injEq] at h1
    rw [← h1]
    exact ⟨rfl, h3⟩
/-- Likewise of two rows. -/
theorem fun2 {g fuel n m : Nat} {out : List Ex} (h : evCall Try.prog noLore conC fuel g [.tv (.agg (vars 0 n)), .tv (.agg (vars n m))] [] = some (.tv (.agg (bytesE out)), [])) (hok : out.all okB = true) (w : World) (s t : List Nat) (hl : s.length = n) (hl2 : t.length = m) (hb : Byt s) (hb2 : Byt t) :
    Calls Try.prog g #[.agg (cells8 s), .agg (cells8 t)] w fun e w' => e = .returned (.agg (cells8 (out.map (nden (at8 (s ++ t)))))) ∧ Below w.heap.size w w' := by
  have hs : ∀ i, at8 (s ++ t) i < 256 := byt_get (fun x hx => by rcases List.mem_append.1 hx with h | h; exact hb x h; exact hb2 x h)
  refine (calls_of_ev (noLore_ok (envB (at8 (s ++ t)))) (conC_ok hs) mixedOrders fuel h (args := #[.agg (cells8 s), .agg (cells8 t)]) w ?_).mono ?_
  · simp only [List.map_cons, List.map_nil, AV.inst]
    rw [vars_inst hs [] 0 n s hl (fun i hi => by rw [Nat.zero_add]; simp [at8, List.getD, List.getElem?_append, hl, hi]), vars_inst hs [] n m t hl2 (fun i hi => by simp only [at8, List.getD]; rw [List.getElem?_append_right (by omega), hl, Nat.add_sub_cancel_left])]
  · rintro e w' ⟨ms, u, rfl, h1, h2, h3⟩
    simp only [AV.inst, bytesE_inst hs ms hok, Option.some.injEq] at h1
    rw [← h1]
    exact ⟨rfl, h3⟩
/-- Likewise of a row and the table. -/
theorem funT {g fuel n : Nat} {out : List Ex} (h : evCall Try.prog noLore conC fuel g [.tv (.agg (vars 0 n)), .tv (.agg (lits invLit))] [] = some (.tv (.agg (bytesE out)), [])) (hok : out.all okB = true) (w : World) (s : List Nat) (hl : s.length = n) (hb : Byt s) :
    Calls Try.prog g #[.agg (cells8 s), .agg (cells8 invLit)] w fun e w' => e = .returned (.agg (cells8 (out.map (nden (at8 s))))) ∧ Below w.heap.size w w' := by
  have hs := byt_get hb
  refine (calls_of_ev (noLore_ok (envB (at8 s))) (conC_ok hs) mixedOrders fuel h (args := #[.agg (cells8 s), .agg (cells8 invLit)]) w ?_).mono ?_
  · simp only [List.map_cons, List.map_nil, AV.inst]
    rw [vars_inst hs [] 0 n s hl (fun i _ => by rw [Nat.zero_add]; rfl), lits_inst]
  · rintro e w' ⟨ms, u, rfl, h1, h2, h3⟩
    simp only [AV.inst, bytesE_inst hs ms hok, Option.some.injEq] at h1
    rw [← h1]
    exact ⟨rfl, h3⟩

def xorE (a b : Ex) : Ex := .bit .xor .u8 a b
def dblE (a : Ex) : Ex := xorE (.shl .u8 a 1) (.ari .mul .u8 (.shr a 7) (.lit 27))
def row (f : Nat → Nat → Ex) : List Ex := (List.range 16).map fun i => f (i / 4) (i % 4)
def spreadE : List Ex := row fun r c => .var (4 * c + r)
def gatherE : List Ex := (List.range 16).map fun i => .var (i % 4 * 4 + i / 4)
def shiftE : List Ex := row fun r c => .var (4 * r + (c + r) % 4)
def unshiftE : List Ex := row fun r c => .var (4 * r + (c + 4 - r) % 4)
def keyE : List Ex := row fun r c => xorE (.var (4 * r + c)) (.var (16 + (4 * c + r)))
def subE : List Ex := (List.range 16).map fun i => .app 1 (.var i) (.lit 0)
def unsubE : List Ex := (List.range 16).map fun i => .app 2 (.var i) (.lit 0)
def mixOf (v : Nat → Nat → Ex) : List Ex := row fun r c => xorE (xorE (dblE (xorE (v r c) (v ((r + 1) % 4) c))) (v r c)) (xorE (xorE (xorE (v 0 c) (v 1 c)) (v 2 c)) (v 3 c))
def mixE : List Ex := mixOf fun r c => .var (4 * r + c)
def unmixE : List Ex := mixOf fun r c => xorE (.var (4 * r + c)) (.app 0 (xorE (.var (4 * r + c)) (.var (4 * ((r + 2) % 4) + c))) (.lit 4))
theorem spread_ev : evCall Try.prog noLore conC 100 50 [.tv (.agg (vars 0 16))] [] = some (.tv (.agg (bytesE spreadE)), []) := by kernel_rfl
theorem gather_ev : evCall Try.prog noLore conC 100 54 [.tv (.agg (vars 0 16))] [] = some (.tv (.agg (bytesE gatherE)), []) := by kernel_rfl
theorem shift_ev : evCall Try.prog noLore conC 100 51 [.tv (.agg (vars 0 16))] [] = some (.tv (.agg (bytesE shiftE)), []) := by kernel_rfl
theorem mix_ev : evCall Try.prog noLore conC 100 53 [.tv (.agg (vars 0 16))] [] = some (.tv (.agg (bytesE mixE)), []) := by kernel_rfl
theorem key_ev : evCall Try.prog noLore conC 100 49 [.tv (.agg (vars 0 16)), .tv (.agg (vars 16 16))] [] = some (.tv (.agg (bytesE keyE)), []) := by kernel_rfl
theorem subbed_ev : evCall Try.prog noLore conC 100 52 [.tv (.agg (vars 0 16)), .tv (.agg (lits invLit))] [] = some (.tv (.agg (bytesE subE)), []) := by kernel_rfl
end Go.Proofs.Ytbafegpiipkmbaa
