/- Of the road to shareOneCard_holds: CutShp, CutRef, CutAg, CutSz, ShLay, ShPlace, ShFr, OpensSr, RegInv, RegRel, RegLow, Lists, Frames. -/
import Derived.Test.YtdgollnapbonjaaGreatDoorG13
import Derived.Test.YtdgollnapbonjaaGreatDoorG12
import Derived.Test.YtdgollnapbonjaaGreatDoorG10
import Derived.Deep.MidRow
import Derived.Test.YtdgollnapbonjaaGreatDoorG01
import Derived.Test.YtdgollnapbonjaaGreatDoorG00
import Derived.RegionTactic
import Derived.Orders
import Derived.Deep.RegionHeld
import Derived.Test.YtdgollnapbonjaaGreatDoorG05
import Derived.Test.YtdgollnapbonjaaGreatDoorG09
set_option linter.unusedVariables false
set_option linter.unusedSimpArgs false
set_option maxRecDepth 100000
set_option maxHeartbeats 16000000
namespace Go.Proofs.YtdgollnapbonjaaGreatDoor
open Go Go.RowKit Ev
def shV (l : List Int) : Value := .agg (ints l)
theorem all1 {α : Type} {p : α -> Prop} {a : α} (h : p a) : ∀ e ∈ [a], p e := fun e he => by
 simp only [List.mem_cons, List.not_mem_nil, or_false] at he; subst he; exact h
theorem allc {α : Type} {p : α -> Prop} {a : α} {l : List α} (h : p a) (hl : ∀ e ∈ l, p e) : ∀ e ∈ a :: l, p e := fun e he => by
 rcases List.mem_cons.1 he with rfl | he
 ·exact h
 ·exact hl e he
theorem alln {α : Type} {p : α -> Prop} : ∀ e ∈ ([] : List α), p e := fun e he => by simp at he
theorem row_den (ρ : Env) (ms : List Nat) (l : List Ex) : (rw64 l).inst ρ ms = some (shV (l.map (Ex.den ρ))) := by
 have : ∀ l : List Ex, seqO ((l.map (SV.int .i64)).map (SV.inst ρ ms)) = some ((l.map (Ex.den ρ)).map (Value.int .i64)) := by
  intro l
  rw [seqO_iff]
  simp [SV.inst]
 simp only [rw64, TV.inst, this, Option.map_some, shV, ints]
def tailX : Ex := .ari .sub .i64 (.var 3) (.ari .mul .i64 (.ari .sub .i64 (.var 4) (.lit 1)) (.var 2))
def tShaped : List (Nat × List AV × AV) := [(96, [B64 3, B64 2], B64 4), (96, [E64 tailX, B64 0], B64 5)]
def cShaped : List (BinOp × Ex × Ex × Bool) := [(.neq, .var 0, .lit 0, true)]
theorem shaped_ev : (evCallF Tryz.prog (tabLore cShaped []) (tabCon tShaped) 100 83 [B64 0, B64 1, B64 2, B64 3] H0).map (·.1) = some (.tv (rw64 [.var 0, .var 1, .var 2, .var 3, .var 4, tailX, .ari .quo .i64 (.var 2) (.var 0), .var 5])) := by kernel_rfl
theorem wrap64 {x : Int} (h1 : -9223372036854775808 <= x) (h2 : x <= 9223372036854775807) : IntKind.i64.wrap x = x := by rw [IntKind.wrap_i64]; omega
theorem shaped_any (w : World) (k n g z : Int) (hk : 1 <= k) (hk2 : k <= 255) (hg : 1 <= g) (hg2 : g <= 65790) (hz : 1 <= z) (hz2 : z <= 16777216) : Calls Tryz.prog 83 #[.int .i64 k, .int .i64 n, .int .i64 g, .int .i64 z] w fun e w' => e = .returned (shV (shR k n g z)) /\ Below w.heap.size w w' := by
 have s1 := upI_pos hz hg
 have s2 := upI_le hz hg
 have t1 := tlI_pos (x := z) hg
 have t2 := tlI_le (x := z) hg
 have te := tail_eq z g
 have hm : (upI z g - 1) * g <= z := by have := up_split z g; omega
 have hm0 : 0 <= (upI z g - 1) * g := Int.mul_nonneg (by omega) (by omega)
 let ρ := envI [k, n, g, z, upI z g, upI (tlI z g) k] (.tuple #[])
 have hT : Ex.den ρ tailX = tlI z g := by
  show IntKind.i64.wrap (z - IntKind.i64.wrap (IntKind.i64.wrap (upI z g - 1) * g)) = tlI z g
  rw [wrap64 (x := upI z g - 1) (by omega) (by omega), wrap64 (x := (upI z g - 1) * g) (by omega) (by omega), te, wrap64 (by omega) (by omega)]
 have hq : IntKind.i64.wrap (g.tdiv k) = g / k := by
  rw [Int.tdiv_eq_ediv_of_nonneg (by omega)]
  have a := Int.ediv_nonneg (show 0 <= g by omega) (show 0 <= k by omega)
  have b := Int.ediv_le_self k (show 0 <= g by omega)
  exact wrap64 (by omega) (by omega)
 refine ev_row (ρ := ρ) (c := cShaped) (r := []) (t := tShaped) ?_ alln ?_ shaped_ev [.int .i64 k, .int .i64 n, .int .i64 g, .int .i64 z] (shV (shR k n g z)) rfl ?_ w
 ·exact all1 (show some (k != 0) = some true by rw [bne_iff_ne.2 (show k ≠ 0 by omega)])
 ·refine allc (ent [.int .i64 z, .int .i64 g] (.int .i64 (upI z g)) (fun _ => rfl) (fun _ => rfl) fun w => still (upward_any w z g hz (by omega) hg)) (all1 ?_)
  exact ent [.int .i64 (tlI z g), .int .i64 k] (.int .i64 (upI (tlI z g) k)) (fun _ => by simp only [List.map_cons, List.map_nil, E64_inst, hT, B64]; rfl) (fun _ => rfl) fun w => still (upward_any w _ k t1 (by omega) hk)
 ·intro ms
  simp only [AV.inst]
  rw [row_den]
  simp only [List.map_cons, List.map_nil, hT]
  show some (shV [k, n, g, z, upI z g, tlI z g, IntKind.i64.wrap (g.tdiv k), upI (tlI z g) k]) = _
  rw [hq]; rfl
theorem tup2 (ρ : Env) (ms : List Nat) (l : List Ex) (e : Ex) : (AV.tup [rw64 l, e64 e]).inst ρ ms = some (.tuple #[shV (l.map (Ex.den ρ)), .int .i64 (e.den ρ)]) := by
 simp only [AV.inst, List.map_cons, List.map_nil, row_den, e64_inst, seqO, Option.map_some]
theorem zs_den (ρ : Env) : zs64.map (Ex.den ρ) = sh0 := rfl
def bX (b : Bool) : AV := .tv (.sc (.bool b))
def remX : Ex := .ari .rem .i64 (.var 2) (.var 0)
def agXs : List AV := [B64 0, B64 1, B64 2, B64 3]
def agRow : List Ex := [.var 0, .var 1, .var 2, .var 3, .var 5, .var 6, .var 7, .var 8]
def cn_t (b : Bool) : Nat × List AV × AV := (80, [B64 0, B64 1], bX b)
def mo_t : Nat × List AV × AV := (81, [B64 0], B64 4)
def sz_t (b : Bool) : Nat × List AV × AV := (82, [B64 3], bX b)
def sp_t : Nat × List AV × AV := (83, agXs, .tv (rw64 agRow))
def c_ls (b : Bool) : BinOp × Ex × Ex × Bool := (.lss, .var 2, .lit 1, b)
def c_gt (b : Bool) : BinOp × Ex × Ex × Bool := (.gtr, .var 2, .var 4, b)
def c_n0 : BinOp × Ex × Ex × Bool := (.neq, .var 0, .lit 0, true)
def c_rm (b : Bool) : BinOp × Ex × Ex × Bool := (.neq, remX, .lit 0, b)
def c_sg (b : Bool) : BinOp × Ex × Ex × Bool := (.gtr, .var 5, .lit 512, b)
noncomputable def evAg (c : List (BinOp × Ex × Ex × Bool)) (t : List (Nat × List AV × AV)) : Option AV := (evCallF Tryz.prog (tabLore c []) (tabCon t) 100 64 agXs H0).map (·.1)
def agBad : AV := .tup [rw64 zs64, e64 (.lit 92)]
theorem again_ev1 : evAg [] [cn_t false] = some agBad := by kernel_rfl
theorem again_ev2 : evAg [c_ls true] [cn_t true] = some agBad := by kernel_rfl
theorem again_ev3 : evAg [c_ls false, c_gt true] [cn_t true, mo_t] = some agBad := by kernel_rfl
theorem again_ev4 : evAg [c_ls false, c_gt false, c_n0, c_rm true] [cn_t true, mo_t] = some agBad := by kernel_rfl
theorem again_ev5 : evAg [c_ls false, c_gt false, c_n0, c_rm false] [cn_t true, mo_t, sz_t false] = some agBad := by kernel_rfl
theorem again_ev6 : evAg [c_ls false, c_gt false, c_n0, c_rm false, c_sg true] [cn_t true, mo_t, sz_t true, sp_t] = some agBad := by kernel_rfl
theorem again_ev7 : evAg [c_ls false, c_gt false, c_n0, c_rm false, c_sg false] [cn_t true, mo_t, sz_t true, sp_t] = some (.tup [rw64 agRow, e64 (.lit 0)]) := by kernel_rfl
theorem again_any (w : World) (k n g z : Int) : Calls Tryz.prog 64 #[.int .i64 k, .int .i64 n, .int .i64 g, .int .i64 z] w fun e w' => e = .returned (.tuple #[shV (agT k n g z), .int .i64 (agE k n g z)]) /\ Below w.heap.size w w' := by
 let ρ := envI [k, n, g, z, k * upI 65536 k, upI z g, tlI z g, g / k, upI (tlI z g) k] (.tuple #[])
 have hbad : ∀ c t, (¬ OkS k n g z) -> (∀ e ∈ c, CmpOk ρ e) -> (∀ e ∈ t, EntOk ρ e) -> evAg c t = some agBad -> Calls Tryz.prog 64 #[.int .i64 k, .int .i64 n, .int .i64 g, .int .i64 z] w fun e w' => e = .returned (.tuple #[shV (agT k n g z), .int .i64 (agE k n g z)]) /\ Below w.heap.size w w' := by
  intro c t hn hc ht he
  rw [agT, agE, if_neg hn, if_neg hn]
  exact ev_row (ρ := ρ) hc alln ht he [.int .i64 k, .int .i64 n, .int .i64 g, .int .i64 z] _ rfl (fun ms => by rw [agBad, tup2, zs_den]; rfl) w
 have Ecn : ∀ b, cntB k n = b -> EntOk ρ (cn_t b) := fun b hb => ent [.int .i64 k, .int .i64 n] (.bool b) (fun _ => rfl) (fun _ => rfl) fun w => by rw [<- hb]; exact still (counts_any w k n)
 by_cases hc : 1 <= k /\ k <= n /\ n <= 255
 ·have E1 := Ecn true (decide_eq_true hc)
  obtain ⟨h1, h2, h3⟩ := hc
  by_cases h4 : g < 1
  ·exact hbad [c_ls true] [cn_t true] (fun h => by have := h.2.2.2.1; omega) (all1 (show some (decide (g < 1)) = some true by rw [decide_eq_true h4])) (all1 E1) again_ev2
  have F1 : CmpOk ρ (c_ls false) := show some (decide (g < 1)) = some false by rw [decide_eq_false h4]
  have E2 : EntOk ρ mo_t := ent [.int .i64 k] (.int .i64 (k * upI 65536 k)) (fun _ => rfl) (fun _ => rfl) fun w => still (most_any w k h1 (by omega))
  by_cases h5 : g > k * upI 65536 k
  ·exact hbad [c_ls false, c_gt true] [cn_t true, mo_t] (fun h => by have := h.2.2.2.2.1; omega) (allc F1 (all1 (show some (decide (g > k * upI 65536 k)) = some true by rw [decide_eq_true h5]))) (allc E1 (all1 E2)) again_ev3
  have F2 : CmpOk ρ (c_gt false) := show some (decide (g > k * upI 65536 k)) = some false by rw [decide_eq_false h5]
  have F3 : CmpOk ρ c_n0 := show some (k != 0) = some true by rw [bne_iff_ne.2 (show k ≠ 0 by omega)]
  have hrem : Ex.den ρ remX = g % k := show g.tmod k = g % k from Int.tmod_eq_emod_of_nonneg (by omega)
  by_cases h6 : g % k = 0
  ·have F4 : CmpOk ρ (c_rm false) := by
    show some (Ex.den ρ remX != 0) = some false
    rw [hrem, h6]; rfl
   by_cases h7 : 33 <= z /\ z <= 16777216
   ·have E3 : EntOk ρ (sz_t true) := ent [.int .i64 z] (.bool true) (fun _ => rfl) (fun _ => rfl) fun w => by rw [<- show szB z = true from decide_eq_true h7]; exact still (shared_any w z)
    have ml := most_lt h1 (show k <= 255 by omega)
    have E4 : EntOk ρ sp_t := ent [.int .i64 k, .int .i64 n, .int .i64 g, .int .i64 z] (shV (shR k n g z)) (fun _ => rfl) (fun ms => by simp only [AV.inst]; rw [row_den]; rfl) fun w => shaped_any w k n g z h1 (by omega) (by omega) (by omega) (by omega) h7.2
    by_cases h9 : upI z g <= 512
    ·have hok : OkS k n g z := ⟨h1, h2, h3, by omega, by omega, h6, h7.1, h7.2, h9⟩
     rw [agT, agE, if_pos hok, if_pos hok]
     have F5 : CmpOk ρ (c_sg false) := show some (decide (upI z g > 512)) = some false by rw [decide_eq_false (by omega)]
     exact ev_row (ρ := ρ) (allc F1 (allc F2 (allc F3 (allc F4 (all1 F5))))) alln (allc E1 (allc E2 (allc E3 (all1 E4)))) again_ev7 [.int .i64 k, .int .i64 n, .int .i64 g, .int .i64 z] _ rfl (fun ms => by rw [tup2]; rfl) w
    ·have F5 : CmpOk ρ (c_sg true) := show some (decide (upI z g > 512)) = some true by rw [decide_eq_true (by omega)]
     exact hbad _ _ (fun h => h9 h.2.2.2.2.2.2.2.2) (allc F1 (allc F2 (allc F3 (allc F4 (all1 F5))))) (allc E1 (allc E2 (allc E3 (all1 E4)))) again_ev6
   ·have E3 : EntOk ρ (sz_t false) := ent [.int .i64 z] (.bool false) (fun _ => rfl) (fun _ => rfl) fun w => by rw [<- show szB z = false from decide_eq_false h7]; exact still (shared_any w z)
    exact hbad _ _ (fun h => h7 ⟨h.2.2.2.2.2.2.1, h.2.2.2.2.2.2.2.1⟩) (allc F1 (allc F2 (allc F3 (all1 F4)))) (allc E1 (allc E2 (all1 E3))) again_ev5
  ·have F4 : CmpOk ρ (c_rm true) := by
    show some (Ex.den ρ remX != 0) = some true
    rw [hrem, bne_iff_ne.2 h6]
   exact hbad _ _ (fun h => h6 h.2.2.2.2.2.1) (allc F1 (allc F2 (allc F3 (all1 F4)))) (allc E1 (all1 E2)) again_ev4
 ·exact hbad _ _ (fun h => hc ⟨h.1, h.2.1, h.2.2.1⟩) alln (all1 (Ecn false (decide_eq_false hc))) again_ev1
def Ft (a b c d e f g h : Int) : Prop := OkS a b c d /\ [a, b, c, d, e, f, g, h] = shR a b c d
instance (a b c d e f g h : Int) : Decidable (Ft a b c d e f g h) := by unfold Ft; infer_instance
def ftB (a b c d e f g h : Int) : Bool := decide (Ft a b c d e f g h)
theorem agT_len (k n g z : Int) : ∃ b0 b1 b2 b3 b4 b5 b6 b7, agT k n g z = [b0, b1, b2, b3, b4, b5, b6, b7] := by
 unfold agT; split
 ·exact ⟨_, _, _, _, _, _, _, _, rfl⟩
 ·exact ⟨_, _, _, _, _, _, _, _, rfl⟩
def shX (o : Nat) : AV := .tv (rw64 (vs64 o 8))
def fits_t (e : Int) : List (Nat × List AV × AV) := [(64, [B64 0, B64 1, B64 2, B64 3], .tup [rw64 (vs64 8 8), e64 (.lit e)])]
noncomputable def fits_ev (e : Int) (r : List (List Ex × List Ex × Bool)) : Option AV := (evCallF Tryz.prog (tabLore [] r) (tabCon (fits_t e)) 100 50 [shX 0] H0).map (·.1)
theorem fits_ev1 : fits_ev 92 [] = some (bX false) := by kernel_rfl
theorem fits_ev2 : fits_ev 0 [(vs64 8 8, vs64 0 8, true)] = some (bX true) := by kernel_rfl
theorem fits_ev3 : fits_ev 0 [(vs64 8 8, vs64 0 8, false)] = some (bX false) := by kernel_rfl
theorem fits_any (w : World) (a b c d e f g h : Int) : Calls Tryz.prog 50 #[shV [a, b, c, d, e, f, g, h]] w fun r w' => r = .returned (.bool (ftB a b c d e f g h)) /\ Below w.heap.size w w' := by
 obtain ⟨b0, b1, b2, b3, b4, b5, b6, b7, hT⟩ := agT_len a b c d
 let ρ := envI [a, b, c, d, e, f, g, h, b0, b1, b2, b3, b4, b5, b6, b7] (.tuple #[])
 have hx : [shX 0].map (AV.inst ρ ms0) = [shV [a, b, c, d, e, f, g, h]].map some := by
  simp only [List.map_cons, List.map_nil, shX, AV.inst]; rw [row_den]; rfl
 have hent : ∀ q, agE a b c d = q -> ∀ x ∈ fits_t q, EntOk ρ x := fun q hq => all1 (ent [.int .i64 a, .int .i64 b, .int .i64 c, .int .i64 d] (.tuple #[shV [b0, b1, b2, b3, b4, b5, b6, b7], .int .i64 q]) (fun _ => rfl) (fun ms => by rw [tup2]; rfl) fun w => by rw [<- hT, <- hq]; exact again_any w a b c d)
 by_cases hok : OkS a b c d
 ·have e1 : agE a b c d = 0 := if_pos hok
  have e2 : agT a b c d = shR a b c d := if_pos hok
  by_cases hr : [a, b, c, d, e, f, g, h] = shR a b c d
  ·have hb : ftB a b c d e f g h = true := decide_eq_true ⟨hok, hr⟩
   rw [hb]
   refine ev_row (ρ := ρ) alln (all1 ⟨rfl, ?_⟩) (hent 0 e1) fits_ev2 [shV [a, b, c, d, e, f, g, h]] _ hx (fun _ => rfl) w
   have hq : [b0, b1, b2, b3, b4, b5, b6, b7] = [a, b, c, d, e, f, g, h] := by rw [<- hT, e2, <- hr]
   first
   | exact decide_eq_true (show [b0, b1, b2, b3, b4, b5, b6, b7] = [a, b, c, d, e, f, g, h] from hq)
   | exact decide_eq_true (show [a, b, c, d, e, f, g, h] = [b0, b1, b2, b3, b4, b5, b6, b7] from hq.symm)
  ·have hb : ftB a b c d e f g h = false := decide_eq_false fun q => hr q.2
   rw [hb]
   refine ev_row (ρ := ρ) alln (all1 ⟨rfl, ?_⟩) (hent 0 e1) fits_ev3 [shV [a, b, c, d, e, f, g, h]] _ hx (fun _ => rfl) w
   have hq : ¬ [b0, b1, b2, b3, b4, b5, b6, b7] = [a, b, c, d, e, f, g, h] := by rw [<- hT, e2]; exact fun q => hr q.symm
   first
   | exact decide_eq_false (show ¬ [b0, b1, b2, b3, b4, b5, b6, b7] = [a, b, c, d, e, f, g, h] from hq)
   | exact decide_eq_false (show ¬ [a, b, c, d, e, f, g, h] = [b0, b1, b2, b3, b4, b5, b6, b7] from fun q => hq q.symm)
 ·have e1 : agE a b c d = 92 := if_neg hok
  have hb : ftB a b c d e f g h = false := decide_eq_false fun q => hok q.1
  rw [hb]
  exact ev_row (ρ := ρ) alln alln (hent 92 e1) fits_ev1 [shV [a, b, c, d, e, f, g, h]] _ hx (fun _ => rfl) w
theorem Ft.segs {a b c d e f g h : Int} (q : Ft a b c d e f g h) : e = upI d c /\ f = tlI d c /\ g = c / a /\ h = upI (tlI d c) a /\ 1 <= e /\ e <= 512 := by
 obtain ⟨q1, q2⟩ := q
 simp only [shR, List.cons.injEq, and_true, true_and] at q2
 obtain ⟨rfl, rfl, rfl, rfl⟩ := q2
 exact ⟨rfl, rfl, rfl, rfl, upI_pos (by have := q1.2.2.2.2.2.2.1; omega) q1.2.2.2.1, q1.2.2.2.2.2.2.2.2⟩
def szE (t : Bool) (segs j : Int) : Int := if t = true then (if 0 <= j /\ j < segs then 0 else 90) else 92
def szV (t : Bool) (segs j size last : Int) : Int := if t = true then (if 0 <= j /\ j < segs then (if j = segs - 1 then last else size) else 0) else 0
def ft_t (F : Nat) (b : Bool) : Nat × List AV × AV := (F, [shX 0], bX b)
def c_j0 (b : Bool) : BinOp × Ex × Ex × Bool := (.lss, .var 8, .lit 0, b)
def c_js (b : Bool) : BinOp × Ex × Ex × Bool := (.geq, .var 8, .var 4, b)
def c_jl (b : Bool) : BinOp × Ex × Ex × Bool := (.eql, .var 8, .ari .sub .i64 (.var 4) (.lit 1), b)
theorem c_jl_ok {ρ : Env} {e j : Int} {b : Bool} (h4 : Ex.den ρ (.var 4) = e) (h8 : Ex.den ρ (.var 8) = j) (h1 : 1 <= e) (h2 : e <= 512) (hb : (j == e - 1) = b) : CmpOk ρ (c_jl b) := by
 show some (Ex.den ρ (.var 8) == IntKind.i64.wrap (Ex.den ρ (.var 4) - 1)) = some b
 rw [h4, h8, wrap64 (by omega) (by omega), hb]
theorem ft_ent {ρ : Env} {a b c d e f g h : Int} {r : Bool} (hx : (vs64 0 8).map (Ex.den ρ) = [a, b, c, d, e, f, g, h]) {F : Nat} (hF : ∀ w, Calls Tryz.prog F #[shV [a, b, c, d, e, f, g, h]] w fun r w' => r = .returned (.bool (ftB a b c d e f g h)) /\ Below w.heap.size w w') (hb : ftB a b c d e f g h = r) : EntOk ρ (ft_t F r) :=
 ent [shV [a, b, c, d, e, f, g, h]] (.bool r) (fun ms => by simp only [List.map_cons, List.map_nil, shX, AV.inst]; rw [row_den, hx]) (fun _ => rfl) fun w => by rw [<- hb]; exact hF w
noncomputable def blocksize_ev (c : List (BinOp × Ex × Ex × Bool)) (b : Bool) : Option AV := (evCallF Tryz.prog (tabLore c []) (tabCon [ft_t 50 b]) 100 32 [shX 0, B64 8] H0).map (·.1)
theorem blocksize_ev1 : blocksize_ev [] false = some (.tup [e64 (.lit 0), e64 (.lit 92)]) := by kernel_rfl
theorem blocksize_ev2 : blocksize_ev [c_j0 true] true = some (.tup [e64 (.lit 0), e64 (.lit 90)]) := by kernel_rfl
theorem blocksize_ev3 : blocksize_ev [c_j0 false, c_js true] true = some (.tup [e64 (.lit 0), e64 (.lit 90)]) := by kernel_rfl
theorem blocksize_ev4 : blocksize_ev [c_j0 false, c_js false, c_jl true] true = some (.tup [e64 (.var 7), e64 (.lit 0)]) := by kernel_rfl
theorem blocksize_ev5 : blocksize_ev [c_j0 false, c_js false, c_jl false] true = some (.tup [e64 (.var 6), e64 (.lit 0)]) := by kernel_rfl
theorem blocksize_any (w : World) (a b c d e f g h j : Int) : Calls Tryz.prog 32 #[shV [a, b, c, d, e, f, g, h], .int .i64 j] w fun r w' => r = .returned (.tuple #[.int .i64 (szV (ftB a b c d e f g h) e j g h), .int .i64 (szE (ftB a b c d e f g h) e j)]) /\ Below w.heap.size w w' := by
 let ρ := envI [a, b, c, d, e, f, g, h, j] (.tuple #[])
 have hx : [shX 0, B64 8].map (AV.inst ρ ms0) = [shV [a, b, c, d, e, f, g, h], .int .i64 j].map some := by
  simp only [List.map_cons, List.map_nil, shX, AV.inst]; rw [row_den]; rfl
 have hent : ∀ r, ftB a b c d e f g h = r -> ∀ x ∈ [ft_t 50 r], EntOk ρ x := fun r hr => all1 (ft_ent rfl (fun w => fits_any w a b c d e f g h) hr)
 by_cases hf : Ft a b c d e f g h
 ·have hb : ftB a b c d e f g h = true := decide_eq_true hf
  obtain ⟨_, _, _, _, s1, s2⟩ := hf.segs
  by_cases h0 : j < 0
  ·have hj : ¬ (0 <= j /\ j < e) := by omega
   have z1 : szV true e j g h = 0 := by unfold szV; rw [if_pos rfl, if_neg hj]
   have z2 : szE true e j = 90 := by unfold szE; rw [if_pos rfl, if_neg hj]
   rw [hb, z1, z2]
   exact ev_row (ρ := ρ) (c := [c_j0 true]) (all1 (show some (decide (j < 0)) = some true by rw [decide_eq_true h0])) alln (hent true hb) blocksize_ev2 [shV [a, b, c, d, e, f, g, h], .int .i64 j] _ hx (fun _ => rfl) w
  have F1 : CmpOk ρ (c_j0 false) := show some (decide (j < 0)) = some false by rw [decide_eq_false h0]
  by_cases h1 : j ≥ e
  ·have hj : ¬ (0 <= j /\ j < e) := by omega
   have z1 : szV true e j g h = 0 := by unfold szV; rw [if_pos rfl, if_neg hj]
   have z2 : szE true e j = 90 := by unfold szE; rw [if_pos rfl, if_neg hj]
   rw [hb, z1, z2]
   exact ev_row (ρ := ρ) (c := [c_j0 false, c_js true]) (allc F1 (all1 (show some (decide (j ≥ e)) = some true by rw [decide_eq_true h1]))) alln (hent true hb) blocksize_ev3 [shV [a, b, c, d, e, f, g, h], .int .i64 j] _ hx (fun _ => rfl) w
  have F2 : CmpOk ρ (c_js false) := show some (decide (j ≥ e)) = some false by rw [decide_eq_false h1]
  by_cases h2 : j = e - 1
  ·have hj : 0 <= j /\ j < e := ⟨by omega, by omega⟩
   have z1 : szV true e j g h = h := by unfold szV; rw [if_pos rfl, if_pos hj, if_pos h2]
   have z2 : szE true e j = 0 := by unfold szE; rw [if_pos rfl, if_pos hj]
   rw [hb, z1, z2]
   exact ev_row (ρ := ρ) (allc F1 (allc F2 (all1 (c_jl_ok rfl rfl s1 s2 (beq_iff_eq.2 h2))))) alln (hent true hb) blocksize_ev4 [shV [a, b, c, d, e, f, g, h], .int .i64 j] _ hx (fun _ => rfl) w
  ·have hj : 0 <= j /\ j < e := ⟨by omega, by omega⟩
   have z1 : szV true e j g h = g := by unfold szV; rw [if_pos rfl, if_pos hj, if_neg h2]
   have z2 : szE true e j = 0 := by unfold szE; rw [if_pos rfl, if_pos hj]
   rw [hb, z1, z2]
   exact ev_row (ρ := ρ) (allc F1 (allc F2 (all1 (c_jl_ok rfl rfl s1 s2 (beq_false_of_ne h2))))) alln (hent true hb) blocksize_ev5 [shV [a, b, c, d, e, f, g, h], .int .i64 j] _ hx (fun _ => rfl) w
 ·have hb : ftB a b c d e f g h = false := decide_eq_false hf
  rw [hb, szV, szE, if_neg (by decide), if_neg (by decide)]
  exact ev_row (ρ := ρ) alln alln (hent false hb) blocksize_ev1 [shV [a, b, c, d, e, f, g, h], .int .i64 j] _ hx (fun _ => rfl) w
def cvO (t : Bool) (z p n : Int) : Prop := t = true /\ 0 <= p /\ 1 <= n /\ n <= z - p
instance (t : Bool) (z p n : Int) : Decidable (cvO t z p n) := by unfold cvO; infer_instance
end Go.Proofs.YtdgollnapbonjaaGreatDoor
namespace Go.Proofs.YtdgollnapbonjaaGreatDoor
open Go Go.RowKit
def plF (k n g z : Int) (j : Nat) : Int := match j with | 0 => 36 | 1 => p1 k n g z | 2 => p2 k n g z | 3 => p3 k n g z | 4 => p4 k n g z | _ => p5 k n g z
def tab6 (f : Nat -> Int) : Array Value := #[.int .i64 (f 0), .int .i64 (f 1), .int .i64 (f 2), .int .i64 (f 3), .int .i64 (f 4), .int .i64 (f 5)]
def KF (k n g z : Int) (i j : Nat) : Int := if j <= i then plF k n g z j else 0
theorem set_z (k n g z : Int) : (((Tryz.zeroCells25.setIfInBounds 0 (Value.int .i64 k)).setIfInBounds 1 (Value.int .i64 n)).setIfInBounds 2 (Value.int .i64 g)).setIfInBounds 3 (Value.int .i64 z) = ubA (ubZ k n g z) := by rfl
theorem tab6_store {w : World} {g : Nat} {f f' : Nat -> Int} {i : Nat} {v : Int} (h : w.heap[g]? = some (.cells (tab6 f) 86 (0, 0))) (hi : (tab6 f).setIfInBounds i (.int .i64 v) = tab6 f') (hc : (tab6 f)[i]? = some (.int .i64 (f i))) :
  w.cell? ⟨g, i, none⟩ = some (.int .i64 (f i)) /\ w.frozen? ⟨g, i, none⟩ = false /\ (w.setCell ⟨g, i, none⟩ (.int .i64 v)).heap[g]? = some (.cells (tab6 f') 86 (0, 0)) := by
 refine ⟨(cell_of_row w g i _ _ _ h).trans hc, by simp [World.frozen?, h], ?_⟩
 rw [<- hi]
 exact heap_setCell_same w g i _ _ _ h
theorem part_i64 (w : World) (cs : Array Value) (i : Nat) (x : Int) (h : cs[i]? = some (.int .i64 x)) : (part 3 cs i).run Tryz.prog w = .ok (.int .i64 x) w := by
 simp [part, h]
theorem run_idxI (w : World) {t : TypeId} {n : Nat} (ht : Tryz.prog.underlying t = some (.array n 3)) (cs : Array Value) (i : Nat) (hi : i < n) (x : Int) (h : cs[i]? = some (.int .i64 x)) : (Instr.index t (.agg cs) (.int .i64 (i : Int))).run Tryz.prog w = .ok (.int .i64 x) w := by
 have h1 := part_i64 w cs i x h
 simp [Instr.index, run_underlying ht, asIntOf, h1, hi]
theorem run_idx5 (W : World) (a0 a1 a2 a3 a4 : Int) (i : Nat) (x : Int) (h : ([a0, a1, a2, a3, a4] : List Int)[i]? = some x) : (Instr.index 111 (.agg #[.int .i64 a0, .int .i64 a1, .int .i64 a2, .int .i64 a3, .int .i64 a4]) (.int .i64 (i : Int))).run Tryz.prog W = .ok (.int .i64 x) W := by
 have hi : i < 5 := (List.getElem?_eq_some_iff.1 h).1
 refine run_idxI W Tryz.underlying111 _ i hi x ?_
 have e : (([a0, a1, a2, a3, a4] : List Int).map (Value.int .i64))[i]? = some (.int .i64 x) := by rw [List.getElem?_map, h]; rfl
 simpa using e
theorem size_pl : (Tryz.prog.info? 86).map (·.size) = some 6 := by kernel_rfl
theorem layout_any (w : World) (k n g z : Int) (h : OkS k n g z) (hkp : KP w) : Calls Tryz.prog 51 #[shV (shR k n g z)] w fun e w' => e = .returned (.agg (tab6 (plF k n g z))) /\ Below w.heap.size w w' := by
 have hu := h.blocks
 have hn1 : 1 <= n /\ n <= 255 := by obtain ⟨h1, h2, h3, _⟩ := h; omega
 have hw0 := wdN_le n.toNat
 have hw1 := wdN_le (upI z g).toNat
 have hpl := p_le k n g z
 have hdt := dt_le h
 have CL := hid fun w => length_any w (ubZ k n g z) (ubZ_ok k n g z)
 have e0 : chE (ubZ k n g z) = 0 := by unfold chE; rw [if_pos (show OkS (ubZ k n g z).k (ubZ k n g z).n (ubZ k n g z).g (ubZ k n g z).z from h)]
 rw [e0, show (wrL (ubZ k n g z)).length = uL k n g z from rfl] at CL
 have CC := hid fun w => chain_ok w n.toNat 0 (lgN n.toNat) (by omega) (by omega) (by omega) (lgN_is n.toNat).1 (lgN_is n.toNat).2
 rw [show ((n.toNat : Nat) : Int) = n by omega] at CC
 have CW := hid fun w => width_ok w (upI z g).toNat (by omega) (by omega)
 rw [show (((upI z g).toNat : Nat) : Int) = upI z g by omega] at CW
 have SZ := hid (set_z k n g z)
 rw [show shV (shR k n g z) = .agg #[.int .i64 k, .int .i64 n, .int .i64 g, .int .i64 z, .int .i64 (upI z g), .int .i64 (tlI z g), .int .i64 (g / k), .int .i64 (upI (tlI z g) k)] from rfl]
 have P0 : Hid (plF k n g z 0 = 36) := rfl
 have P1 : Hid (plF k n g z 1 = plF k n g z 0 + uL k n g z) := rfl
 have P2 : Hid (plF k n g z 2 = plF k n g z 1 + (lgN n.toNat : Int) * 32) := rfl
 have P3 : Hid (plF k n g z 3 = plF k n g z 2 + (2 * (wdN (upI z g).toNat : Int) - 1) * 32) := rfl
 have P4 : Hid (plF k n g z 4 = plF k n g z 3 + (2 * (wdN (upI z g).toNat : Int) - 1) * 32) := rfl
 have P5 : Hid (plF k n g z 5 = plF k n g z 4 + ((upI z g - 1) * (g / k) + upI (tlI z g) k)) := rfl
 have HKP := hid hkp
 clear hkp
 obtain ⟨W0, HW0⟩ : ∃ W0, Hid ((w.alloc (.cells #[.int .i64 k, .int .i64 n, .int .i64 g, .int .i64 z, .int .i64 (upI z g), .int .i64 (tlI z g), .int .i64 (g / k), .int .i64 (upI (tlI z g) k)] 48)).alloc (.cells #[.int .i64 0, .int .i64 0, .int .i64 0, .int .i64 0, .int .i64 0, .int .i64 0] 86) = W0) := ⟨_, rfl⟩
 have HS0 : Hid (W0.heap[w.heap.size]? = some (.cells #[.int .i64 k, .int .i64 n, .int .i64 g, .int .i64 z, .int .i64 (upI z g), .int .i64 (tlI z g), .int .i64 (g / k), .int .i64 (upI (tlI z g) k)] 48 (0, 0))) := by
  refine hid ?_
  rw [<- HW0.out]
  exact (heap_alloc_old _ _ (by simp)).trans (heap_alloc_new w _)
 have HR0 : Hid (W0.heap[w.heap.size + 1]? = some (.cells #[.int .i64 0, .int .i64 0, .int .i64 0, .int .i64 0, .int .i64 0, .int .i64 0] 86 (0, 0))) := by
  refine hid ?_
  rw [<- HW0.out]
  have := heap_alloc_new (w.alloc (.cells #[.int .i64 k, .int .i64 n, .int .i64 g, .int .i64 z, .int .i64 (upI z g), .int .i64 (tlI z g), .int .i64 (g / k), .int .i64 (upI (tlI z g) k)] 48)) (.cells #[.int .i64 0, .int .i64 0, .int .i64 0, .int .i64 0, .int .i64 0, .int .i64 0] 86)
  simpa using this
 have HB0 : Hid (Below w.heap.size w W0) := by
  refine hid ?_
  rw [<- HW0.out]
  exact ((Below.refl w.heap.size w).alloc (Nat.le_refl _) _).alloc (by simp) _
 have HZ0 : Hid (W0.heap.size = w.heap.size + 2) := by refine hid ?_; rw [<- HW0.out]; simp
 go_enter Tryz.func51, Tryz.ntmps51
 go_wp2_with fail
 rw [SZ.out, HW0.out]
 refine (CL.out W0 (HKP.out.below HB0.out)).mono ?_
 rintro e w1 ⟨rfl, hb1⟩
 have B1 := hid hb1
 have hS1 := hid ((hb1.block w.heap.size (by rw [HZ0.out]; omega)).trans HS0.out)
 have c1 : w1.cell? ⟨w.heap.size, 1, none⟩ = some (.int .i64 n) := cell_of_row _ _ _ _ _ _ hS1.out
 clear hb1 CL
 go_wp2_with fail
 refine (CC.out w1).mono ?_
 rintro e w2 ⟨v2, rfl, hv2, _, hb2⟩
 have B2 := hid (B1.out.trans (hb2.mono B1.out.size))
 have hS2 := hid ((hb2.block w.heap.size (by have := B1.out.size; rw [HZ0.out] at this; omega)).trans hS1.out)
 have c4 : w2.cell? ⟨w.heap.size, 4, none⟩ = some (.int .i64 (upI z g)) := cell_of_row _ _ _ _ _ _ hS2.out
 obtain ⟨pc, cc, rfl, _⟩ := hv2
 rw [chL_length]
 clear hb2 CC c1
 go_wp2_with fail
 refine (CW.out w2).mono ?_
 rintro e w3 ⟨rfl, hb3⟩
 have B3 := hid (B2.out.trans (hb3.mono B2.out.size))
 have hS3 := hid ((hb3.block w.heap.size (by have := B2.out.size; rw [HZ0.out] at this; omega)).trans hS2.out)
 clear hb3 CW c4
 have hz3 := B3.out.size
 rw [HZ0.out] at hz3
 have HR3 := hid ((B3.out.block (w.heap.size + 1) (by rw [HZ0.out]; omega)).trans HR0.out)
 have a4 : (w3.alloc (.cells #[.int .i64 36, .int .i64 0, .int .i64 0, .int .i64 0, .int .i64 0, .int .i64 0] 86)).cell? ⟨w.heap.size, 4, none⟩ = some (.int .i64 (upI z g)) := cell_of_row _ _ _ _ _ _ ((heap_alloc_old w3 _ (by omega)).trans hS3.out)
 have a6 : (w3.alloc (.cells #[.int .i64 36, .int .i64 0, .int .i64 0, .int .i64 0, .int .i64 0, .int .i64 0] 86)).cell? ⟨w.heap.size, 6, none⟩ = some (.int .i64 (g / k)) := cell_of_row _ _ _ _ _ _ ((heap_alloc_old w3 _ (by omega)).trans hS3.out)
 have a7 : (w3.alloc (.cells #[.int .i64 36, .int .i64 0, .int .i64 0, .int .i64 0, .int .i64 0, .int .i64 0] 86)).cell? ⟨w.heap.size, 7, none⟩ = some (.int .i64 (upI (tlI z g) k)) := cell_of_row _ _ _ _ _ _ ((heap_alloc_old w3 _ (by omega)).trans hS3.out)
 have HA := hid (heap_alloc_new w3 (.cells #[.int .i64 36, .int .i64 0, .int .i64 0, .int .i64 0, .int .i64 0, .int .i64 0] 86))
 have HAR := hid ((heap_alloc_old w3 (.cells #[.int .i64 36, .int .i64 0, .int .i64 0, .int .i64 0, .int .i64 0, .int .i64 0] 86) (show w.heap.size + 1 < w3.heap.size by omega)).trans HR3.out)
 have HAB : Hid (Below w.heap.size w (w3.alloc (.cells #[.int .i64 36, .int .i64 0, .int .i64 0, .int .i64 0, .int .i64 0, .int .i64 0] 86))) := hid ((HB0.out.trans (B3.out.mono (by rw [HZ0.out]; omega))).alloc (by omega) _)
 have lg10 := (lgN_is n.toNat).2
 have ul := uL_le k n g z
 obtain ⟨Wd, HWd⟩ : ∃ x, Hid (wdN (upI z g).toNat = x) := ⟨_, rfl⟩
 have k1 : IntKind.i64.wrap (2 * (wdN (upI z g).toNat : Int)) = 2 * (wdN (upI z g).toNat : Int) := by rw [IntKind.wrap_i64]; omega
 have k2 : IntKind.i64.wrap (2 * (wdN (upI z g).toNat : Int) - 1) = 2 * (wdN (upI z g).toNat : Int) - 1 := by rw [IntKind.wrap_i64]; omega
 have k3 : IntKind.i64.wrap ((2 * (wdN (upI z g).toNat : Int) - 1) * 32) = (2 * (wdN (upI z g).toNat : Int) - 1) * 32 := by rw [IntKind.wrap_i64]; omega
 have k4 : IntKind.i64.wrap ((lgN n.toNat : Int) * 32) = (lgN n.toNat : Int) * 32 := by rw [IntKind.wrap_i64]; omega
 have k5 : IntKind.i64.wrap (upI z g - 1) = upI z g - 1 := by rw [IntKind.wrap_i64]; omega
 have k6 : IntKind.i64.wrap ((upI z g - 1) * (g / k)) = (upI z g - 1) * (g / k) := by rw [IntKind.wrap_i64]; omega
 have k7 : IntKind.i64.wrap ((upI z g - 1) * (g / k) + upI (tlI z g) k) = (upI z g - 1) * (g / k) + upI (tlI z g) k := by rw [IntKind.wrap_i64]; omega
 have HPB : Hid (∀ j, j <= 5 -> 0 <= plF k n g z j /\ plF k n g z j <= 20000000) := by
  refine hid fun j hj => ?_
  have e5 : p5 k n g z = p4 k n g z + dtN k n g z := rfl
  match j, hj with
  | 0, _ => show 0 <= (36 : Int) /\ (36 : Int) <= 20000000; omega
  | 1, _ => show 0 <= p1 k n g z /\ p1 k n g z <= 20000000; omega
  | 2, _ => show 0 <= p2 k n g z /\ p2 k n g z <= 20000000; omega
  | 3, _ => show 0 <= p3 k n g z /\ p3 k n g z <= 20000000; omega
  | 4, _ => show 0 <= p4 k n g z /\ p4 k n g z <= 20000000; omega
  | 5, _ => show 0 <= p5 k n g z /\ p5 k n g z <= 20000000; omega
  | j + 6, h => omega
 have HZI := hid size_pl
 clear hu hn1 hw0 hw1 hpl hdt e0 lg10 ul HWd
 obtain ⟨y5, HY5⟩ : ∃ y : Array Value, Hid (#[.int .i64 (uL k n g z : Int), .int .i64 ((lgN n.toNat : Int) * 32), .int .i64 ((2 * (wdN (upI z g).toNat : Int) - 1) * 32), .int .i64 ((2 * (wdN (upI z g).toNat : Int) - 1) * 32), .int .i64 ((upI z g - 1) * (g / k) + upI (tlI z g) k)] = y) := ⟨_, rfl⟩
 have HX0 : Hid (∀ W, (Instr.index 111 (.agg y5) (.int .i64 0)).run Tryz.prog W = .ok (.int .i64 ((uL k n g z : Int))) W) := by refine hid fun W => ?_; rw [<- HY5.out]; exact run_idx5 W _ _ _ _ _ 0 _ rfl
 have HX1 : Hid (∀ W, (Instr.index 111 (.agg y5) (.int .i64 1)).run Tryz.prog W = .ok (.int .i64 ((lgN n.toNat : Int) * 32)) W) := by refine hid fun W => ?_; rw [<- HY5.out]; exact run_idx5 W _ _ _ _ _ 1 _ rfl
 have HX2 : Hid (∀ W, (Instr.index 111 (.agg y5) (.int .i64 2)).run Tryz.prog W = .ok (.int .i64 ((2 * (wdN (upI z g).toNat : Int) - 1) * 32)) W) := by refine hid fun W => ?_; rw [<- HY5.out]; exact run_idx5 W _ _ _ _ _ 2 _ rfl
 have HX3 : Hid (∀ W, (Instr.index 111 (.agg y5) (.int .i64 3)).run Tryz.prog W = .ok (.int .i64 ((2 * (wdN (upI z g).toNat : Int) - 1) * 32)) W) := by refine hid fun W => ?_; rw [<- HY5.out]; exact run_idx5 W _ _ _ _ _ 3 _ rfl
 have HX4 : Hid (∀ W, (Instr.index 111 (.agg y5) (.int .i64 4)).run Tryz.prog W = .ok (.int .i64 ((upI z g - 1) * (g / k) + upI (tlI z g) k)) W) := by refine hid fun W => ?_; rw [<- HY5.out]; exact run_idx5 W _ _ _ _ _ 4 _ rfl
 go_wp2
 rw [HY5.out]
 go_loopw [59] (fun ii wr => ∃ I : Nat, I <= 5 /\ ii = .int .i64 (I : Int) /\ Hid (wr.heap[w.heap.size + 1]? = some (.cells #[.int .i64 0, .int .i64 0, .int .i64 0, .int .i64 0, .int .i64 0, .int .i64 0] 86 (0, 0))) /\ Hid (wr.heap[w3.heap.size]? = some (.cells (tab6 (KF k n g z I)) 86 (0, 0))) /\ Hid (Below w.heap.size w wr)) (fun ii _ => 5 - (intOf ii).toNat)
 case atStart => exact ⟨0, by omega, rfl, HAR, HA, HAB⟩
 case round =>
  clear HAR HA HAB a4 a6 a7
  obtain ⟨I, hI, rfl, H0, H1, B⟩ := hrel
  by_cases hlt : I < 5
  ·rcases (by omega : I = 0 \/ I = 1 \/ I = 2 \/ I = 3 \/ I = 4) with rfl | rfl | rfl | rfl | rfl
   ·obtain ⟨hl0, -, -⟩ := tab6_store (i := 0) (f' := KF k n g z 0) (v := KF k n g z 0 0) H1.out rfl rfl
    obtain ⟨hc, hf, hs⟩ := tab6_store (i := 1) (f' := KF k n g z 1) (v := plF k n g z 1) H1.out rfl rfl
    have hl : wr.cell? ⟨w3.heap.size, 0, none⟩ = some (.int .i64 (plF k n g z 0)) := hl0
    clear hl0
    have HSS := hid hs
    have H02 := hid ((heap_setCell_other wr ⟨w3.heap.size, 1, none⟩ (w.heap.size + 1) (.int .i64 (plF k n g z 1)) (by show w.heap.size + 1 ≠ w3.heap.size; omega)).trans H0.out)
    have B2 := hid (B.out.setCell (p := ⟨w3.heap.size, 1, none⟩) (show w.heap.size <= w3.heap.size by omega) (.int .i64 (plF k n g z 1)))
    have HP := hid P1.out
    have hix := HX0.out
    have ks : IntKind.i64.wrap (plF k n g z 0 + (uL k n g z : Int)) = plF k n g z 1 := by rw [<- HP.out, IntKind.wrap_i64]; have := HPB.out 1 (by omega); omega
    clear hs
    go_wp2
    exact ⟨⟨1, by omega, by go_num, H02, HSS, B2⟩, by simp [intOf]⟩
   ·obtain ⟨hl0, -, -⟩ := tab6_store (i := 1) (f' := KF k n g z 1) (v := KF k n g z 1 1) H1.out rfl rfl
    obtain ⟨hc, hf, hs⟩ := tab6_store (i := 2) (f' := KF k n g z 2) (v := plF k n g z 2) H1.out rfl rfl
    have hl : wr.cell? ⟨w3.heap.size, 1, none⟩ = some (.int .i64 (plF k n g z 1)) := hl0
    clear hl0
    have HSS := hid hs
    have H02 := hid ((heap_setCell_other wr ⟨w3.heap.size, 2, none⟩ (w.heap.size + 1) (.int .i64 (plF k n g z 2)) (by show w.heap.size + 1 ≠ w3.heap.size; omega)).trans H0.out)
    have B2 := hid (B.out.setCell (p := ⟨w3.heap.size, 2, none⟩) (show w.heap.size <= w3.heap.size by omega) (.int .i64 (plF k n g z 2)))
    have HP := hid P2.out
    have hix := HX1.out
    have ks : IntKind.i64.wrap (plF k n g z 1 + (lgN n.toNat : Int) * 32) = plF k n g z 2 := by rw [<- HP.out, IntKind.wrap_i64]; have := HPB.out 2 (by omega); omega
    clear hs
    go_wp2
    exact ⟨⟨2, by omega, by go_num, H02, HSS, B2⟩, by simp [intOf]⟩
   ·obtain ⟨hl0, -, -⟩ := tab6_store (i := 2) (f' := KF k n g z 2) (v := KF k n g z 2 2) H1.out rfl rfl
    obtain ⟨hc, hf, hs⟩ := tab6_store (i := 3) (f' := KF k n g z 3) (v := plF k n g z 3) H1.out rfl rfl
    have hl : wr.cell? ⟨w3.heap.size, 2, none⟩ = some (.int .i64 (plF k n g z 2)) := hl0
    clear hl0
    have HSS := hid hs
    have H02 := hid ((heap_setCell_other wr ⟨w3.heap.size, 3, none⟩ (w.heap.size + 1) (.int .i64 (plF k n g z 3)) (by show w.heap.size + 1 ≠ w3.heap.size; omega)).trans H0.out)
    have B2 := hid (B.out.setCell (p := ⟨w3.heap.size, 3, none⟩) (show w.heap.size <= w3.heap.size by omega) (.int .i64 (plF k n g z 3)))
    have HP := hid P3.out
    have hix := HX2.out
    have ks : IntKind.i64.wrap (plF k n g z 2 + (2 * (wdN (upI z g).toNat : Int) - 1) * 32) = plF k n g z 3 := by rw [<- HP.out, IntKind.wrap_i64]; have := HPB.out 3 (by omega); omega
    clear hs
    go_wp2
    exact ⟨⟨3, by omega, by go_num, H02, HSS, B2⟩, by simp [intOf]⟩
   ·obtain ⟨hl0, -, -⟩ := tab6_store (i := 3) (f' := KF k n g z 3) (v := KF k n g z 3 3) H1.out rfl rfl
    obtain ⟨hc, hf, hs⟩ := tab6_store (i := 4) (f' := KF k n g z 4) (v := plF k n g z 4) H1.out rfl rfl
    have hl : wr.cell? ⟨w3.heap.size, 3, none⟩ = some (.int .i64 (plF k n g z 3)) := hl0
    clear hl0
    have HSS := hid hs
    have H02 := hid ((heap_setCell_other wr ⟨w3.heap.size, 4, none⟩ (w.heap.size + 1) (.int .i64 (plF k n g z 4)) (by show w.heap.size + 1 ≠ w3.heap.size; omega)).trans H0.out)
    have B2 := hid (B.out.setCell (p := ⟨w3.heap.size, 4, none⟩) (show w.heap.size <= w3.heap.size by omega) (.int .i64 (plF k n g z 4)))
    have HP := hid P4.out
    have hix := HX3.out
    have ks : IntKind.i64.wrap (plF k n g z 3 + (2 * (wdN (upI z g).toNat : Int) - 1) * 32) = plF k n g z 4 := by rw [<- HP.out, IntKind.wrap_i64]; have := HPB.out 4 (by omega); omega
    clear hs
    go_wp2
    exact ⟨⟨4, by omega, by go_num, H02, HSS, B2⟩, by simp [intOf]⟩
   ·obtain ⟨hl0, -, -⟩ := tab6_store (i := 4) (f' := KF k n g z 4) (v := KF k n g z 4 4) H1.out rfl rfl
    obtain ⟨hc, hf, hs⟩ := tab6_store (i := 5) (f' := KF k n g z 5) (v := plF k n g z 5) H1.out rfl rfl
    have hl : wr.cell? ⟨w3.heap.size, 4, none⟩ = some (.int .i64 (plF k n g z 4)) := hl0
    clear hl0
    have HSS := hid hs
    have H02 := hid ((heap_setCell_other wr ⟨w3.heap.size, 5, none⟩ (w.heap.size + 1) (.int .i64 (plF k n g z 5)) (by show w.heap.size + 1 ≠ w3.heap.size; omega)).trans H0.out)
    have B2 := hid (B.out.setCell (p := ⟨w3.heap.size, 5, none⟩) (show w.heap.size <= w3.heap.size by omega) (.int .i64 (plF k n g z 5)))
    have HP := hid P5.out
    have hix := HX4.out
    have ks : IntKind.i64.wrap (plF k n g z 4 + ((upI z g - 1) * (g / k) + upI (tlI z g) k)) = plF k n g z 5 := by rw [<- HP.out, IntKind.wrap_i64]; have := HPB.out 5 (by omega); omega
    clear hs
    go_wp2
    exact ⟨⟨5, by omega, by go_num, H02, HSS, B2⟩, by simp [intOf]⟩
  ·have hI' : I = 5 := by omega
   subst hI'
   obtain ⟨m, Hm⟩ : ∃ m, Hid (tab6 (plF k n g z) = m) := ⟨_, rfl⟩
   rw [show tab6 (KF k n g z 5) = tab6 (plF k n g z) from rfl, Hm.out] at H1
   have hms : m.size = 6 := by rw [<- Hm.out]; rfl
   have HIm : Hid ((Tryz.prog.info? 86).map (·.size) = some m.size) := by rw [hms]; exact size_pl
   have H1m : Hid (m.all (·.oneCell') = true) := by refine hid ?_; rw [<- Hm.out]; simp [tab6, Value.oneCell']
   have HZM : Hid ((#[.int .i64 0, .int .i64 0, .int .i64 0, .int .i64 0, .int .i64 0, .int .i64 0] : Array Value).size = m.size) := by rw [hms]; exact hid rfl
   have HBF := hid (bel_setRow B.out (g := w.heap.size + 1) (by omega) m)
   clear hms
   go_wp2_with (first | (refine wpList_load_row rfl 86 _ rfl w3.heap.size rfl 86 m (0, 0) _ H1.out Tryz.underlying86 rfl HIm.out ?_) | (refine wpList_store_row rfl 86 _ _ rfl (w.heap.size + 1) m rfl rfl 86 _ H0.out HIm.out HZM.out H1m.out ?_))
   refine bodyPost_ret (v := .agg m) (results_cell_row (p := 2) (ty := 86) rfl _ _ (w.heap.size + 1) 86 m (0, 0) _ rfl (setRow_heap _ _ _ _ _ _ H0.out) Tryz.underlying86 rfl HIm.out) rfl ?_
   exact ⟨by rw [Hm.out], HBF.out⟩
theorem ft_of {k n g z : Int} (h : OkS k n g z) : ftB k n g z (upI z g) (tlI z g) (g / k) (upI (tlI z g) k) = true := by
 unfold ftB
 exact decide_eq_true ⟨h, rfl⟩
theorem tab6_get (f : Nat -> Int) (i : Nat) (h : i < 6) : (tab6 f)[i]? = some (.int .i64 (f i)) := by
 match i, h with
 | 0, _ => rfl
 | 1, _ => rfl
 | 2, _ => rfl
 | 3, _ => rfl
 | 4, _ => rfl
 | 5, _ => rfl
theorem run_idx6 (W : World) (f : Nat -> Int) (i : Nat) (h : i < 6) : (Instr.index 86 (.agg (tab6 f)) (.int .i64 (i : Int))).run Tryz.prog W = .ok (.int .i64 (f i)) W :=
 run_idxI W Tryz.underlying86 _ i h _ (tab6_get f i h)
theorem shV_size (l : List Int) (h : l.length = 8) : (Tryz.prog.info? 48).map (·.size) = some (ints l).size := by
 rw [show (ints l).size = 8 by simp [ints, h]]; exact size_shape
theorem placeIn_ok (w : World) (k n g z : Int) (h : OkS k n g z) (j : Nat) (hj : j < 6) (hkp : KP w) : Calls Tryz.prog 31 #[shV (shR k n g z), .int .i64 (j : Int)] w fun e w' => e = .returned (.tuple #[.int .i64 (plF k n g z j), .int .i64 0]) /\ Below w.heap.size w w' := by
 have C1 := hid fun w => fits_any w k n g z (upI z g) (tlI z g) (g / k) (upI (tlI z g) k)
 rw [ft_of h, show [k, n, g, z, upI z g, tlI z g, g / k, upI (tlI z g) k] = shR k n g z from rfl] at C1
 have C2 := hid fun w => layout_any w k n g z h
 have HS := hid (shV_size (shR k n g z) rfl)
 have HX := hid fun W => run_idx6 W (plF k n g z) j hj
 unfold shV at C1 C2
 unfold shV
 obtain ⟨m, Hm⟩ : ∃ m, Hid (ints (shR k n g z) = m) := ⟨_, rfl⟩
 rw [Hm.out] at C1 C2 HS
 rw [Hm.out]
 obtain ⟨t, Ht⟩ : ∃ t, Hid (tab6 (plF k n g z) = t) := ⟨_, rfl⟩
 rw [Ht.out] at C2 HX
 have HK := hid hkp
 clear hkp
 have B0 := hid ((Below.refl w.heap.size w).alloc (Nat.le_refl _) (.cells m 48))
 obtain ⟨w0, HW0⟩ : ∃ x, Hid (w.alloc (.cells m 48) = x) := ⟨_, rfl⟩
 have H0 := hid (heap_alloc_new w (.cells m 48))
 have Z0 : Hid (w0.heap.size = w.heap.size + 1) := by refine hid ?_; rw [<- HW0.out]; simp
 rw [HW0.out] at B0 H0
 go_enter Tryz.func31, Tryz.ntmps31
 go_wp2_with (first | (rw [HW0.out]; refine wpList_load_row rfl 48 _ rfl w.heap.size rfl 48 m (0, 0) _ H0.out Tryz.underlying48 rfl HS.out ?_) | fail)
 refine (C1.out w0).mono ?_
 rintro e w1 ⟨rfl, hb1⟩
 have B1 := hid hb1
 have H1 := hid ((hb1.block w.heap.size (by rw [Z0.out]; omega)).trans H0.out)
 have K1 := hid ((HK.out.below B0.out).below hb1)
 clear hb1 C1
 go_wp2_with (first | (refine wpList_load_row rfl 48 _ rfl w.heap.size rfl 48 m (0, 0) _ H1.out Tryz.underlying48 rfl HS.out ?_) | fail)
 refine (C2.out w1 K1.out).mono ?_
 rintro e w2 ⟨rfl, hb2⟩
 have B2 := hid (B0.out.trans ((B1.out.trans (hb2.mono B1.out.size)).mono B0.out.size))
 have hix := HX.out
 clear hb2 C2
 go_wp2
 go_ret2
 exact ⟨rfl, B2.out⟩
theorem frontLen_of (w : World) (m : Array Value) (hm : (Tryz.prog.info? 48).map (·.size) = some m.size) (x e : Int) (h : ∀ w', Below w.heap.size w w' -> Calls Tryz.prog 31 #[.agg m, .int .i64 4] w' fun r w'' => r = .returned (.tuple #[.int .i64 x, .int .i64 e]) /\ Below w'.heap.size w' w'') :
  Calls Tryz.prog 13 #[.agg m] w fun r w' => r = .returned (.tuple #[.int .i64 x, .int .i64 e]) /\ Below w.heap.size w w' := by
 have C1 := hid h
 have HS := hid hm
 have B0 := hid ((Below.refl w.heap.size w).alloc (Nat.le_refl _) (.cells m 48))
 obtain ⟨w0, HW0⟩ : ∃ x, Hid (w.alloc (.cells m 48) = x) := ⟨_, rfl⟩
 have H0 := hid (heap_alloc_new w (.cells m 48))
 rw [HW0.out] at B0 H0
 clear h hm
 go_enter Tryz.func13, Tryz.ntmps13
 go_wp2_with (first | (rw [HW0.out]; refine wpList_load_row rfl 48 _ rfl w.heap.size rfl 48 m (0, 0) _ H0.out Tryz.underlying48 rfl HS.out ?_) | fail)
 refine (C1.out w0 B0.out).mono ?_
 rintro e w1 ⟨rfl, hb1⟩
 have B1 := hid (B0.out.trans (hb1.mono B0.out.size))
 clear hb1 C1
 go_wp2
 go_ret2
 exact ⟨rfl, B1.out⟩
theorem frontLen_ok (w : World) (k n g z : Int) (h : OkS k n g z) (hkp : KP w) : Calls Tryz.prog 13 #[shV (shR k n g z)] w fun e w' => e = .returned (.tuple #[.int .i64 (plF k n g z 4), .int .i64 0]) /\ Below w.heap.size w w' :=
 frontLen_of w _ (shV_size (shR k n g z) rfl) _ _ fun w' hb => placeIn_ok w' k n g z h 4 (by omega) (hkp.below hb)
theorem len_of (w : World) (m : Array Value) (hm : (Tryz.prog.info? 48).map (·.size) = some m.size) (x e : Int) (h : ∀ w', Below w.heap.size w w' -> Calls Tryz.prog 31 #[.agg m, .int .i64 5] w' fun r w'' => r = .returned (.tuple #[.int .i64 x, .int .i64 e]) /\ Below w'.heap.size w' w'') :
  Calls Tryz.prog 15 #[.agg m] w fun r w' => r = .returned (.tuple #[.int .i64 x, .int .i64 e]) /\ Below w.heap.size w w' := by
 have C1 := hid h
 have HS := hid hm
 have B0 := hid ((Below.refl w.heap.size w).alloc (Nat.le_refl _) (.cells m 48))
 obtain ⟨w0, HW0⟩ : ∃ x, Hid (w.alloc (.cells m 48) = x) := ⟨_, rfl⟩
 have H0 := hid (heap_alloc_new w (.cells m 48))
 rw [HW0.out] at B0 H0
 clear h hm
 go_enter Tryz.func15, Tryz.ntmps15
 go_wp2_with (first | (rw [HW0.out]; refine wpList_load_row rfl 48 _ rfl w.heap.size rfl 48 m (0, 0) _ H0.out Tryz.underlying48 rfl HS.out ?_) | fail)
 refine (C1.out w0 B0.out).mono ?_
 rintro e w1 ⟨rfl, hb1⟩
 have B1 := hid (B0.out.trans (hb1.mono B0.out.size))
 clear hb1 C1
 go_wp2
 go_ret2
 exact ⟨rfl, B1.out⟩
theorem len_ok (w : World) (k n g z : Int) (h : OkS k n g z) (hkp : KP w) : Calls Tryz.prog 15 #[shV (shR k n g z)] w fun e w' => e = .returned (.tuple #[.int .i64 (plF k n g z 5), .int .i64 0]) /\ Below w.heap.size w w' :=
 len_of w _ (shV_size (shR k n g z) rfl) _ _ fun w' hb => placeIn_ok w' k n g z h 5 (by omega) (hkp.below hb)
def bkN (k n g z j : Int) : Int := if j = upI z g - 1 then upI (tlI z g) k else g / k
def plE (z g j : Int) : Int := if 0 <= j /\ j < upI z g then 0 else 2
def plV (k n g z j : Int) : Int := if 0 <= j /\ j < upI z g then p4 k n g z + j * (g / k) else 0
def plN2 (k n g z j : Int) : Int := if 0 <= j /\ j < upI z g then bkN k n g z j else 0
theorem place_ok (w : World) (k n g z : Int) (h : OkS k n g z) (j : Int) (hkp : KP w) : Calls Tryz.prog 16 #[shV (shR k n g z), .int .i64 j] w fun e w' => e = .returned (.tuple #[.int .i64 (plV k n g z j), .int .i64 (plN2 k n g z j), .int .i64 (plE z g j)]) /\ Below w.heap.size w w' := by
 have hbl := h.blocks
 have hp4 := p_le k n g z
 have C1 := hid fun w => frontLen_ok w k n g z h
 have C2 := hid fun w => blocksize_any w k n g z (upI z g) (tlI z g) (g / k) (upI (tlI z g) k) j
 rw [ft_of h, show [k, n, g, z, upI z g, tlI z g, g / k, upI (tlI z g) k] = shR k n g z from rfl] at C2
 rw [show plF k n g z 4 = p4 k n g z from rfl] at C1
 have HS := hid (shV_size (shR k n g z) rfl)
 have H6 : Hid ((ints (shR k n g z))[6]? = some (.int .i64 (g / k))) := rfl
 unfold shV at C1 C2
 unfold shV
 obtain ⟨m, Hm⟩ : ∃ m, Hid (ints (shR k n g z) = m) := ⟨_, rfl⟩
 rw [Hm.out] at C1 C2 HS H6
 rw [Hm.out]
 have HK := hid hkp
 clear hkp
 have B0 := hid ((Below.refl w.heap.size w).alloc (Nat.le_refl _) (.cells m 48))
 obtain ⟨w0, HW0⟩ : ∃ x, Hid (w.alloc (.cells m 48) = x) := ⟨_, rfl⟩
 have H0 := hid (heap_alloc_new w (.cells m 48))
 have Z0 : Hid (w0.heap.size = w.heap.size + 1) := by refine hid ?_; rw [<- HW0.out]; simp
 rw [HW0.out] at B0 H0
 go_enter Tryz.func16, Tryz.ntmps16
 go_wp2_with (first | (rw [HW0.out]; refine wpList_load_row rfl 48 _ rfl w.heap.size rfl 48 m (0, 0) _ H0.out Tryz.underlying48 rfl HS.out ?_) | fail)
 refine (C1.out w0 (HK.out.below B0.out)).mono ?_
 rintro e w1 ⟨rfl, hb1⟩
 have B1 := hid hb1
 have H1 := hid ((hb1.block w.heap.size (by rw [Z0.out]; omega)).trans H0.out)
 clear hb1 C1
 go_wp2_with (first | (refine wpList_load_row rfl 48 _ rfl w.heap.size rfl 48 m (0, 0) _ H1.out Tryz.underlying48 rfl HS.out ?_) | fail)
 refine (C2.out w1).mono ?_
 rintro e w2 ⟨rfl, hb2⟩
 have H2 := hid ((hb2.block w.heap.size (by have := B1.out.size; rw [Z0.out] at this; omega)).trans H1.out)
 have B2 := hid (B0.out.trans ((B1.out.trans (hb2.mono B1.out.size)).mono B0.out.size))
 have c6 : w2.cell? ⟨w.heap.size, 6, none⟩ = some (.int .i64 (g / k)) := (cell_of_row _ _ _ _ _ _ H2.out).trans H6.out
 unfold szE szV
 clear hb2 C2
 by_cases hj : 0 <= j /\ j < upI z g
 ·have E1 : Hid (plV k n g z j = p4 k n g z + j * (g / k)) := hid (if_pos hj)
  have E2 : Hid (plN2 k n g z j = bkN k n g z j) := hid (if_pos hj)
  have E3 : Hid (plE z g j = 0) := hid (if_pos hj)
  rw [if_pos rfl, if_pos rfl, if_pos hj, if_pos hj]
  have hm : 0 <= j * (g / k) := Int.mul_nonneg hj.1 (by omega)
  have hm2 : j * (g / k) <= (upI z g - 1) * (g / k) := Int.mul_le_mul_of_nonneg_right (by omega) (by omega)
  have k1 : IntKind.i64.wrap (j * (g / k)) = j * (g / k) := by rw [IntKind.wrap_i64]; omega
  have k2 : IntKind.i64.wrap (p4 k n g z + j * (g / k)) = p4 k n g z + j * (g / k) := by rw [IntKind.wrap_i64]; omega
  rw [show (if j = upI z g - 1 then upI (tlI z g) k else g / k) = bkN k n g z j from rfl]
  clear hbl hp4 hm hm2 hj
  go_wp2
  go_ret3
  exact ⟨by rw [E1.out, E2.out, E3.out]; rfl, B2.out⟩
 ·have E1 : Hid (plV k n g z j = 0) := hid (if_neg hj)
  have E2 : Hid (plN2 k n g z j = 0) := hid (if_neg hj)
  have E3 : Hid (plE z g j = 2) := hid (if_neg hj)
  rw [if_pos rfl, if_pos rfl, if_neg hj, if_neg hj]
  clear hbl hp4 hj
  go_wp2
  go_ret3
  exact ⟨by rw [E1.out, E2.out, E3.out]; rfl, B2.out⟩
def frL (s : Sr) (vc vb vs : Value) : List Value := .int .i64 s.num :: (ubL s.u ++ [vc, vb, vs])
def frA (s : Sr) (vc vb vs : Value) : Array Value := (frL s vc vb vs).toArray
def srL (s : Sr) (vc vb vs vd : Value) : List Value := frL s vc vb vs ++ [vd]
def srA (s : Sr) (vc vb vs vd : Value) : Array Value := (srL s vc vb vs vd).toArray
theorem frL_length {s : Sr} (h : s.u.ok) (vc vb vs : Value) : (frL s vc vb vs).length = 72 := by simp [frL, ubL_length h]
theorem srL_length {s : Sr} (h : s.u.ok) (vc vb vs vd : Value) : (srL s vc vb vs vd).length = 73 := by simp [srL, frL_length h]
theorem size_front : (Tryz.prog.info? 28).map (·.size) = some 72 := by kernel_rfl
theorem size_share : (Tryz.prog.info? 31).map (·.size) = some 73 := by kernel_rfl
structure HFr (w : World) (s : Sr) (vc vb vs : Value) : Prop where
 u : s.u.ok
 ch : HDs w vc s.ch
 bl : HDs w vb s.bl
 sg : HDs w vs s.sg
 lc : s.ch.length <= 140737488355328
 lb : s.bl.length <= 140737488355328
 ls : s.sg.length <= 140737488355328
structure HSr (w : World) (s : Sr) (vc vb vs vd : Value) : Prop where
 fr : HFr w s vc vb vs
 dt : HL w vd s.dt
theorem HFr.below {w w' : World} {s : Sr} {vc vb vs : Value} (h : HFr w s vc vb vs) (hB : Below w.heap.size w w') : HFr w' s vc vb vs := ⟨h.u, h.ch.below hB, h.bl.below hB, h.sg.below hB, h.lc, h.lb, h.ls⟩
theorem HSr.below {w w' : World} {s : Sr} {vc vb vs vd : Value} (h : HSr w s vc vb vs vd) (hB : Below w.heap.size w w') : HSr w' s vc vb vs vd := ⟨h.fr.below hB, h.dt.below hB⟩
theorem frA_num (s : Sr) (vc vb vs : Value) : (frA s vc vb vs)[0]? = some (.int .i64 s.num) := rfl
theorem frA_ub {s : Sr} (h : s.u.ok) (vc vb vs : Value) (j : Nat) (hj : j < 68) : (frA s vc vb vs)[1 + j]? = (ubL s.u)[j]? := by
 unfold frA frL
 rw [List.getElem?_toArray, show 1 + j = j + 1 by omega, List.getElem?_cons_succ, List.getElem?_append_left (by rw [ubL_length h]; exact hj)]
theorem frA_ch {s : Sr} (h : s.u.ok) (vc vb vs : Value) : (frA s vc vb vs)[69]? = some vc := by
 unfold frA frL
 rw [List.getElem?_toArray, show (69 : Nat) = (68 + 0) + 1 by omega, List.getElem?_cons_succ, List.getElem?_append_right (by rw [ubL_length h]; omega), ubL_length h]
 rfl
theorem frA_bl {s : Sr} (h : s.u.ok) (vc vb vs : Value) : (frA s vc vb vs)[70]? = some vb := by
 unfold frA frL
 rw [List.getElem?_toArray, show (70 : Nat) = (68 + 1) + 1 by omega, List.getElem?_cons_succ, List.getElem?_append_right (by rw [ubL_length h]; omega), ubL_length h]
 rfl
theorem frA_sg {s : Sr} (h : s.u.ok) (vc vb vs : Value) : (frA s vc vb vs)[71]? = some vs := by
 unfold frA frL
 rw [List.getElem?_toArray, show (71 : Nat) = (68 + 2) + 1 by omega, List.getElem?_cons_succ, List.getElem?_append_right (by rw [ubL_length h]; omega), ubL_length h]
 rfl
theorem srA_fr {s : Sr} (h : s.u.ok) (vc vb vs vd : Value) (j : Nat) (hj : j < 72) : (srA s vc vb vs vd)[j]? = (frA s vc vb vs)[j]? := by
 unfold srA srL frA
 rw [List.getElem?_toArray, List.getElem?_toArray, List.getElem?_append_left (by rw [frL_length h]; exact hj)]
theorem srA_dt {s : Sr} (h : s.u.ok) (vc vb vs vd : Value) : (srA s vc vb vs vd)[72]? = some vd := by
 unfold srA srL
 rw [List.getElem?_toArray, List.getElem?_append_right (by rw [frL_length h]; omega), frL_length h]
 rfl
theorem shapeOf_any (w : World) (u : Ub) (hu : u.ok) : Calls Tryz.prog 39 #[.agg (ubA u)] w fun e w' => e = .returned (.tuple #[shV (agT u.k u.n u.g u.z), .int .i64 (agE u.k u.n u.g u.z)]) /\ Below w.heap.size w w' := by
 have C1 := hid fun w => again_any w u.k u.n u.g u.z
 have HS := hid (size_ub hu)
 have g0 : Hid ((ubA u)[0]? = some (.int .i64 u.k)) := rfl
 have g1 : Hid ((ubA u)[1]? = some (.int .i64 u.n)) := rfl
 have g2 : Hid ((ubA u)[2]? = some (.int .i64 u.g)) := rfl
 have g3 : Hid ((ubA u)[3]? = some (.int .i64 u.z)) := rfl
 obtain ⟨m, Hm⟩ : ∃ x, Hid (ubA u = x) := ⟨_, rfl⟩
 rw [Hm.out] at HS g0 g1 g2 g3
 rw [Hm.out]
 have hl8 : (agT u.k u.n u.g u.z).length = 8 := by obtain ⟨b0, b1, b2, b3, b4, b5, b6, b7, e⟩ := agT_len u.k u.n u.g u.z; rw [e]; rfl
 have SY := hid (shV_size (agT u.k u.n u.g u.z) hl8)
 have OY : Hid ((ints (agT u.k u.n u.g u.z)).all (·.oneCell') = true) := by refine hid ?_; obtain ⟨b0, b1, b2, b3, b4, b5, b6, b7, e⟩ := agT_len u.k u.n u.g u.z; rw [e]; simp [ints, Value.oneCell']
 unfold shV at C1
 unfold shV
 obtain ⟨y, Hy⟩ : ∃ x, Hid (ints (agT u.k u.n u.g u.z) = x) := ⟨_, rfl⟩
 rw [Hy.out] at C1 SY OY
 rw [Hy.out]
 have SY8 : Hid (y.size = 8) := by refine hid ?_; rw [<- Hy.out]; simp [ints, hl8]
 obtain ⟨k, n, g, z, a, b⟩ := u
 dsimp only at C1 g0 g1 g2 g3
 dsimp only
 obtain ⟨ee, He⟩ : ∃ x, Hid (agE k n g z = x) := ⟨_, rfl⟩
 rw [He.out] at C1
 rw [He.out]
 clear hl8 hu
 obtain ⟨w0, HW0⟩ : ∃ x, Hid ((w.alloc (.cells m 25)).alloc (.cells #[.int .i64 0, .int .i64 0, .int .i64 0, .int .i64 0, .int .i64 0, .int .i64 0, .int .i64 0, .int .i64 0] 48) = x) := ⟨_, rfl⟩
 have H0 : Hid (w0.heap[w.heap.size]? = some (.cells m 25 (0, 0))) := by refine hid ?_; rw [<- HW0.out]; exact (heap_alloc_old _ _ (by simp)).trans (heap_alloc_new w _)
 have R0 : Hid (w0.heap[w.heap.size + 1]? = some (.cells #[.int .i64 0, .int .i64 0, .int .i64 0, .int .i64 0, .int .i64 0, .int .i64 0, .int .i64 0, .int .i64 0] 48 (0, 0))) := by
  refine hid ?_
  rw [<- HW0.out]
  have := heap_alloc_new (w.alloc (.cells m 25)) (.cells #[.int .i64 0, .int .i64 0, .int .i64 0, .int .i64 0, .int .i64 0, .int .i64 0, .int .i64 0, .int .i64 0] 48)
  simpa using this
 have B0 : Hid (Below w.heap.size w w0) := by refine hid ?_; rw [<- HW0.out]; exact ((Below.refl w.heap.size w).alloc (Nat.le_refl _) _).alloc (by simp) _
 have Z0 : Hid (w0.heap.size = w.heap.size + 2) := by refine hid ?_; rw [<- HW0.out]; simp
 have c0 : w0.cell? ⟨w.heap.size, 0, none⟩ = some (.int .i64 k) := (cell_of_row _ _ _ _ _ _ H0.out).trans g0.out
 have c1 : w0.cell? ⟨w.heap.size, 1, none⟩ = some (.int .i64 n) := (cell_of_row _ _ _ _ _ _ H0.out).trans g1.out
 have c2 : w0.cell? ⟨w.heap.size, 2, none⟩ = some (.int .i64 g) := (cell_of_row _ _ _ _ _ _ H0.out).trans g2.out
 have c3 : w0.cell? ⟨w.heap.size, 3, none⟩ = some (.int .i64 z) := (cell_of_row _ _ _ _ _ _ H0.out).trans g3.out
 go_enter Tryz.func39, Tryz.ntmps39
 refine wp_seq_k fun K1 h1 => ?_
 have HK1 := hid h1
 clear h1
 go_wp2
 rw [HW0.out]
 refine HK1.out _ _ ?_
 clear HK1 K1
 go_wp2_with fail
 refine (C1.out w0).mono ?_
 rintro e w1 ⟨rfl, hb1⟩
 have B1 := hid (B0.out.trans (hb1.mono B0.out.size))
 have R1 := hid ((hb1.block (w.heap.size + 1) (by rw [Z0.out]; omega)).trans R0.out)
 clear hb1 C1 c0 c1 c2 c3
 go_wp2_with (first | (refine wpList_store_row rfl 48 _ _ rfl (w.heap.size + 1) y rfl rfl 48 _ R1.out SY.out (by rw [SY8.out]; rfl) OY.out ?_) | fail)
 refine bodyPost_ret (v := .tuple #[.agg y, .int .i64 ee]) (results_cellT (p := 2) (u := 3) (ty := 48) rfl _ _ (w.heap.size + 1) 48 y (0, 0) _ rfl (setRow_heap _ _ _ _ _ _ R1.out) Tryz.underlying48 rfl SY.out _ rfl) rfl ?_
 exact ⟨rfl, bel_setRow B1.out (by omega) _⟩
section
open Ev
theorem psz_ev1 : (evCallF Tryz.prog (tabLore [] []) (tabCon []) 100 56 [.tv (rw64 (vs64 0 6)), E64 (.lit 1)] H0).map (·.1) = some (E64 (.ari .sub .i64 (.var 2) (.var 1))) := by kernel_rfl
theorem partSize1 (w : World) (f : Nat -> Int) (hb : ∀ i, i <= 5 -> 0 <= f i /\ f i <= 20000000) : Calls Tryz.prog 56 #[.agg (tab6 f), .int .i64 1] w fun e w' => e = .returned (.int .i64 (f 2 - f 1)) /\ Below w.heap.size w w' := by
 let ρ := envI [f 0, f 1, f 2, f 3, f 4, f 5] (.tuple #[])
 have hx : [AV.tv (rw64 (vs64 0 6)), E64 (.lit 1)].map (AV.inst ρ ms0) = [Value.agg (tab6 f), .int .i64 1].map some := by
  simp only [List.map_cons, List.map_nil, AV.inst]; rw [row_den]; rfl
 have h1 := hb 1 (by omega)
 have h2 := hb 2 (by omega)
 have e : IntKind.i64.wrap (f 2 - f 1) = f 2 - f 1 := by rw [IntKind.wrap_i64]; omega
 refine ev_row (ρ := ρ) (c := []) alln alln alln psz_ev1 [Value.agg (tab6 f), .int .i64 1] _ hx (fun ms => ?_) w
 rw [E64_inst]
 show some (Value.int .i64 (IntKind.i64.wrap (f 2 - f 1))) = _
 rw [e]
theorem psz_ev2 : (evCallF Tryz.prog (tabLore [] []) (tabCon []) 100 56 [.tv (rw64 (vs64 0 6)), E64 (.lit 2)] H0).map (·.1) = some (E64 (.ari .sub .i64 (.var 3) (.var 2))) := by kernel_rfl
theorem partSize2 (w : World) (f : Nat -> Int) (hb : ∀ i, i <= 5 -> 0 <= f i /\ f i <= 20000000) : Calls Tryz.prog 56 #[.agg (tab6 f), .int .i64 2] w fun e w' => e = .returned (.int .i64 (f 3 - f 2)) /\ Below w.heap.size w w' := by
 let ρ := envI [f 0, f 1, f 2, f 3, f 4, f 5] (.tuple #[])
 have hx : [AV.tv (rw64 (vs64 0 6)), E64 (.lit 2)].map (AV.inst ρ ms0) = [Value.agg (tab6 f), .int .i64 2].map some := by
  simp only [List.map_cons, List.map_nil, AV.inst]; rw [row_den]; rfl
 have h1 := hb 2 (by omega)
 have h2 := hb 3 (by omega)
 have e : IntKind.i64.wrap (f 3 - f 2) = f 3 - f 2 := by rw [IntKind.wrap_i64]; omega
 refine ev_row (ρ := ρ) (c := []) alln alln alln psz_ev2 [Value.agg (tab6 f), .int .i64 2] _ hx (fun ms => ?_) w
 rw [E64_inst]
 show some (Value.int .i64 (IntKind.i64.wrap (f 3 - f 2))) = _
 rw [e]
theorem psz_ev3 : (evCallF Tryz.prog (tabLore [] []) (tabCon []) 100 56 [.tv (rw64 (vs64 0 6)), E64 (.lit 3)] H0).map (·.1) = some (E64 (.ari .sub .i64 (.var 4) (.var 3))) := by kernel_rfl
theorem partSize3 (w : World) (f : Nat -> Int) (hb : ∀ i, i <= 5 -> 0 <= f i /\ f i <= 20000000) : Calls Tryz.prog 56 #[.agg (tab6 f), .int .i64 3] w fun e w' => e = .returned (.int .i64 (f 4 - f 3)) /\ Below w.heap.size w w' := by
 let ρ := envI [f 0, f 1, f 2, f 3, f 4, f 5] (.tuple #[])
 have hx : [AV.tv (rw64 (vs64 0 6)), E64 (.lit 3)].map (AV.inst ρ ms0) = [Value.agg (tab6 f), .int .i64 3].map some := by
  simp only [List.map_cons, List.map_nil, AV.inst]; rw [row_den]; rfl
 have h1 := hb 3 (by omega)
 have h2 := hb 4 (by omega)
 have e : IntKind.i64.wrap (f 4 - f 3) = f 4 - f 3 := by rw [IntKind.wrap_i64]; omega
 refine ev_row (ρ := ρ) (c := []) alln alln alln psz_ev3 [Value.agg (tab6 f), .int .i64 3] _ hx (fun ms => ?_) w
 rw [E64_inst]
 show some (Value.int .i64 (IntKind.i64.wrap (f 4 - f 3))) = _
 rw [e]
end
end Go.Proofs.YtdgollnapbonjaaGreatDoor
namespace Go.Proofs.YtdgollnapbonjaaGreatDoor
open Go.ChangeShapes Go.WideShapes Go.ChangeAt Go.RowKit
variable {H : Type} {enc : TypeId × Value -> H} {W : World}
theorem Opn.cells_front : Tryz.prog.cellsOf 28 = 72 := by kernel_rfl
theorem Opn.cells_share : Tryz.prog.cellsOf 31 = 73 := by kernel_rfl
theorem Opn.cells_digs : Tryz.prog.cellsOf 26 = 1 := by kernel_rfl
theorem Opn.cells_lists : Tryz.prog.cellsOf 29 = 1 := by kernel_rfl
theorem Opn.bytes_dig : Tryz.prog.bytesOf 23 = 32 := by kernel_rfl
theorem open_digsW {fuel : Nat} {cs : List Value} {x : DataW H × List MemPlace} (h : DataW.trod enc Tryz.prog W 0 (fun _ => true) true fuel 26 cs = some x) (hw : ∀ n ∈ x.1.weights Tryz.prog 26, n <= reachBytes) : ∃ v ds, cs = [v] /\ HDs W v ds /\ ds.length <= 140737488355328 := by
 have hv : ∃ a n c, cs = [Value.slice a n c] /\ n <= 140737488355328 := by
  rcases Go.Deep.open_slice Tryz.underlying26 h with ⟨hcs, hx⟩ | ⟨a, len, cap, m, n, D, Pl, hcs, hb, hl, hm, hmm, hx, hel⟩
  ·exact ⟨none, 0, 0, hcs, by omega⟩
  ·refine ⟨some a, len, cap, hcs, ?_⟩
   rw [hx] at hw
   have := hw _ (by simp only [DataW.weights, Tryz.underlying26]; exact List.mem_cons_self)
   rw [Opn.bytes_dig] at this
   simp only [List.length_map, List.length_range, reachBytes] at this
   omega
 obtain ⟨a, n, c, rfl, hn⟩ := hv
 obtain ⟨ds, hd⟩ := open_HDs (v := .slice a n c) (d := x.1) (p := x.2) ⟨fuel, h⟩ ⟨a, n, c, rfl⟩
 obtain ⟨p, c', e, _, _⟩ := hd.open
 simp only [Value.slice.injEq] at e
 exact ⟨_, ds, rfl, hd, by omega⟩
theorem open_listsW {fuel : Nat} {cs : List Value} {x : DataW H × List MemPlace} (h : DataW.trod enc Tryz.prog W 0 (fun _ => true) true fuel 29 cs = some x) : ∃ v ls, cs = [v] /\ HL W v ls := by
 have hv : ∃ a n c, cs = [Value.slice a n c] := by
  rcases Go.Deep.open_slice Tryz.underlying29 h with ⟨hcs, hx⟩ | ⟨a, len, cap, m, n, D, Pl, hcs, hb, hl, hm, hmm, hx, hel⟩
  ·exact ⟨none, 0, 0, hcs⟩
  ·exact ⟨some a, len, cap, hcs⟩
 obtain ⟨a, n, c, rfl⟩ := hv
 obtain ⟨ls, hl, _⟩ := open_HL (v := .slice a n c) (d := x.1) (p := x.2) ⟨fuel, h⟩ ⟨a, n, c, rfl⟩
 exact ⟨_, ls, rfl, hl⟩
theorem open_ubL {fuel : Nat} {cs : List Value} {x : DataW H × List MemPlace} (hm : DataW.trod enc Tryz.prog W 0 (fun _ => true) true fuel 25 cs = some x) : ∃ u : Ub, u.ok /\ cs = ubL u := by
 obtain ⟨xs, n, rfl, _, hl, hxl, g⟩ := DataW.trod_struct Tryz.underlying25 hm
 rw [Opn.cells_ueb] at hl
 have hx : ∀ i, i < 6 -> ∃ x, xs[i]? = some x := fun i hi => ⟨_, List.getElem?_eq_getElem (by rw [hxl]; exact hi)⟩
 obtain ⟨x0, e0⟩ := hx 0 (by omega)
 have f0 : DataW.trod enc Tryz.prog W 0 (fun _ => true) true n 3 ((cs.drop 0).take (Tryz.prog.cellsOf 3)) = xs[0]? := g 0 _ rfl
 obtain ⟨x1, e1⟩ := hx 1 (by omega)
 have f1 : DataW.trod enc Tryz.prog W 0 (fun _ => true) true n 3 ((cs.drop 1).take (Tryz.prog.cellsOf 3)) = xs[1]? := g 1 _ rfl
 obtain ⟨x2, e2⟩ := hx 2 (by omega)
 have f2 : DataW.trod enc Tryz.prog W 0 (fun _ => true) true n 3 ((cs.drop 2).take (Tryz.prog.cellsOf 3)) = xs[2]? := g 2 _ rfl
 obtain ⟨x3, e3⟩ := hx 3 (by omega)
 have f3 : DataW.trod enc Tryz.prog W 0 (fun _ => true) true n 3 ((cs.drop 3).take (Tryz.prog.cellsOf 3)) = xs[3]? := g 3 _ rfl
 obtain ⟨x4, e4⟩ := hx 4 (by omega)
 have f4 : DataW.trod enc Tryz.prog W 0 (fun _ => true) true n 23 ((cs.drop 4).take (Tryz.prog.cellsOf 23)) = xs[4]? := g 4 _ rfl
 obtain ⟨x5, e5⟩ := hx 5 (by omega)
 have f5 : DataW.trod enc Tryz.prog W 0 (fun _ => true) true n 23 ((cs.drop 36).take (Tryz.prog.cellsOf 23)) = xs[5]? := g 5 _ rfl
 rw [e0, Opn.cells_intU] at f0
 rw [e1, Opn.cells_intU] at f1
 rw [e2, Opn.cells_intU] at f2
 rw [e3, Opn.cells_intU] at f3
 rw [e4, Opn.cells_digU] at f4
 rw [e5, Opn.cells_digU] at f5
 obtain ⟨k, q0⟩ := open_intU f0
 obtain ⟨nn, q1⟩ := open_intU f1
 obtain ⟨gg, q2⟩ := open_intU f2
 obtain ⟨z, q3⟩ := open_intU f3
 obtain ⟨a, a1, q4⟩ := open_digU f4
 obtain ⟨b, b1, q5⟩ := open_digU f5
 refine ⟨⟨k, nn, gg, z, a, b⟩, ⟨a1, b1⟩, ?_⟩
 have h6 : cs.drop 68 = [] := List.drop_eq_nil_of_le (by omega)
 have h5 := part_of q5 (by simp [b1.1]) _ h6
 have h4 := part_of q4 (by simp [a1.1]) _ h5
 have h3 := part_of q3 rfl _ h4
 have h2 := part_of q2 rfl _ h3
 have h1 := part_of q1 rfl _ h2
 have h0 := part_of q0 rfl _ h1
 rw [List.drop_zero] at h0
 rw [h0]
 simp [ubL]
theorem weights_agg {t : TypeId} {fs : Array Field} {xs : List (DataW H × List MemPlace)} {R : Nat} (hu : Tryz.prog.underlying t = some (.struct fs)) (hw : ∀ n ∈ (DataW.agg (xs.map (·.1))).weights Tryz.prog t, n <= R) (i : Nat) (f : Field) (x : DataW H × List MemPlace) (hf : fs[i]? = some f) (hx : xs[i]? = some x) : ∀ n ∈ x.1.weights Tryz.prog f.type, n <= R := fun n hn => by
 refine hw n ?_
 simp only [DataW.weights, hu]
 exact DataW.weights_mem_each (j := i) (t := f.type) (d := x.1) (by rw [List.getElem?_map, Array.getElem?_toList, hf]; rfl) (by rw [List.getElem?_map, hx]; rfl) n hn
theorem open_frL {fuel : Nat} {cs : List Value} {x : DataW H × List MemPlace} (hm : DataW.trod enc Tryz.prog W 0 (fun _ => true) true fuel 28 cs = some x) (hw : ∀ n ∈ x.1.weights Tryz.prog 28, n <= reachBytes) (dt : List (List Int)) :
  ∃ (s : Sr) (vc vb vs : Value), cs = frL s vc vb vs /\ HFr W s vc vb vs /\ s.dt = dt := by
 obtain ⟨xs, n, rfl, ex, hl, hxl, g⟩ := DataW.trod_struct Tryz.underlying28 hm
 rw [ex] at hw
 rw [Opn.cells_front] at hl
 have hx : ∀ i, i < 5 -> ∃ x, xs[i]? = some x := fun i hi => ⟨_, List.getElem?_eq_getElem (by rw [hxl]; exact hi)⟩
 obtain ⟨x0, e0⟩ := hx 0 (by omega)
 have f0 : DataW.trod enc Tryz.prog W 0 (fun _ => true) true n 3 ((cs.drop 0).take (Tryz.prog.cellsOf 3)) = xs[0]? := g 0 _ rfl
 have w0 : ∀ n ∈ x0.1.weights Tryz.prog 3, n <= reachBytes := weights_agg Tryz.underlying28 hw 0 _ x0 rfl e0
 obtain ⟨x1, e1⟩ := hx 1 (by omega)
 have f1 : DataW.trod enc Tryz.prog W 0 (fun _ => true) true n 25 ((cs.drop 1).take (Tryz.prog.cellsOf 25)) = xs[1]? := g 1 _ rfl
 have w1 : ∀ n ∈ x1.1.weights Tryz.prog 25, n <= reachBytes := weights_agg Tryz.underlying28 hw 1 _ x1 rfl e1
 obtain ⟨x2, e2⟩ := hx 2 (by omega)
 have f2 : DataW.trod enc Tryz.prog W 0 (fun _ => true) true n 26 ((cs.drop 69).take (Tryz.prog.cellsOf 26)) = xs[2]? := g 2 _ rfl
 have w2 : ∀ n ∈ x2.1.weights Tryz.prog 26, n <= reachBytes := weights_agg Tryz.underlying28 hw 2 _ x2 rfl e2
 obtain ⟨x3, e3⟩ := hx 3 (by omega)
 have f3 : DataW.trod enc Tryz.prog W 0 (fun _ => true) true n 26 ((cs.drop 70).take (Tryz.prog.cellsOf 26)) = xs[3]? := g 3 _ rfl
 have w3 : ∀ n ∈ x3.1.weights Tryz.prog 26, n <= reachBytes := weights_agg Tryz.underlying28 hw 3 _ x3 rfl e3
 obtain ⟨x4, e4⟩ := hx 4 (by omega)
 have f4 : DataW.trod enc Tryz.prog W 0 (fun _ => true) true n 26 ((cs.drop 71).take (Tryz.prog.cellsOf 26)) = xs[4]? := g 4 _ rfl
 have w4 : ∀ n ∈ x4.1.weights Tryz.prog 26, n <= reachBytes := weights_agg Tryz.underlying28 hw 4 _ x4 rfl e4
 rw [e0, Opn.cells_intU] at f0
 rw [e1, Opn.cells_ueb] at f1
 rw [e2, Opn.cells_digs] at f2
 rw [e3, Opn.cells_digs] at f3
 rw [e4, Opn.cells_digs] at f4
 obtain ⟨k, q0⟩ := open_intU f0
 obtain ⟨u, u1, q1⟩ := open_ubL f1
 obtain ⟨vc, ch, q2, c1, c2⟩ := open_digsW f2 w2
 obtain ⟨vb, bl, q3, b1, b2⟩ := open_digsW f3 w3
 obtain ⟨vs, sg, q4, s1, s2⟩ := open_digsW f4 w4
 refine ⟨⟨k, u, ch, bl, sg, dt⟩, vc, vb, vs, ?_, ⟨u1, c1, b1, s1, c2, b2, s2⟩, rfl⟩
 have h5 : cs.drop 72 = [] := List.drop_eq_nil_of_le (by omega)
 have h4 := part_of q4 rfl _ h5
 have h3 := part_of q3 rfl _ h4
 have h2 := part_of q2 rfl _ h3
 have h1 := part_of q1 (ubL_length u1) _ h2
 have h0 := part_of q0 rfl _ h1
 rw [List.drop_zero] at h0
 rw [h0]
 simp [frL]
theorem open_sr {base : Nat} {v : Value} {d : DataW H} {p : List MemPlace} (hv : Value.okWide Tryz.prog W .any base 31 v) (h : DataW.Trod enc Tryz.prog W 0 (fun _ => true) true 31 v d p) (hw : ∀ n ∈ d.weights Tryz.prog 31, n <= reachBytes) :
  ∃ (s : Sr) (vc vb vs vd : Value), HSr W s vc vb vs vd /\ v = .agg (srA s vc vb vs vd) := by
 simp only [Value.okWide, Tryz.underlying31] at hv
 obtain ⟨ca, rfl, _⟩ := hv
 obtain ⟨m, hm⟩ := h
 obtain ⟨xs, n, rfl, ex, hl, hxl, hf⟩ := DataW.trod_struct Tryz.underlying31 hm
 have ex : d = .agg (xs.map (·.1)) := congrArg Prod.fst ex
 rw [ex] at hw
 rw [Opn.cells_share] at hl
 obtain ⟨cs, hcs⟩ : ∃ cs : List Value, ca.toList = cs := ⟨_, rfl⟩
 have hl : cs.length = 73 := by rw [<- hcs]; exact hl
 have g : ∀ (i : Nat) (f : Field), _ -> DataW.trod enc Tryz.prog W 0 (fun _ => true) true n f.type ((cs.drop f.offset).take (Tryz.prog.cellsOf f.type)) = xs[i]? := fun i f hi => by rw [<- hcs]; exact hf i f hi
 have hx : ∀ i, i < 2 -> ∃ x, xs[i]? = some x := fun i hi => ⟨_, List.getElem?_eq_getElem (by rw [hxl]; exact hi)⟩
 obtain ⟨x0, e0⟩ := hx 0 (by omega)
 have f0 : DataW.trod enc Tryz.prog W 0 (fun _ => true) true n 28 ((cs.drop 0).take (Tryz.prog.cellsOf 28)) = xs[0]? := g 0 _ rfl
 have w0 : ∀ n ∈ x0.1.weights Tryz.prog 28, n <= reachBytes := weights_agg Tryz.underlying31 hw 0 _ x0 rfl e0
 obtain ⟨x1, e1⟩ := hx 1 (by omega)
 have f1 : DataW.trod enc Tryz.prog W 0 (fun _ => true) true n 29 ((cs.drop 72).take (Tryz.prog.cellsOf 29)) = xs[1]? := g 1 _ rfl
 have w1 : ∀ n ∈ x1.1.weights Tryz.prog 29, n <= reachBytes := weights_agg Tryz.underlying31 hw 1 _ x1 rfl e1
 rw [e0, Opn.cells_front] at f0
 rw [e1, Opn.cells_lists] at f1
 obtain ⟨vd, dt, q1, d1⟩ := open_listsW f1
 obtain ⟨s, vc, vb, vs, q0, s1, s2⟩ := open_frL f0 w0 dt
 refine ⟨s, vc, vb, vs, vd, ⟨s1, by rw [s2]; exact d1⟩, ?_⟩
 have h2 : cs.drop 73 = [] := List.drop_eq_nil_of_le (by omega)
 have h1 := part_of q1 rfl _ h2
 have h0 := part_of q0 (frL_length s1.u _ _ _) _ h1
 rw [List.drop_zero] at h0
 congr 1
 apply Array.ext'
 rw [hcs, h0]
 simp [srA, srL]
end Go.Proofs.YtdgollnapbonjaaGreatDoor
namespace Go.Proofs.YtdgollnapbonjaaGreatDoor
open Go Go.RowKit
def undone (L : Array Bool) : Nat := (L.toList.filter fun b => !b).length
theorem undone_set {L : Array Bool} {i : Nat} (h : L[i]? = some false) : undone L = undone (L.setIfInBounds i true) + 1 := by
 obtain ⟨l⟩ := L
 unfold undone
 simp only [List.getElem?_toArray, List.setIfInBounds_toArray] at h ⊢
 induction l generalizing i with
 | nil => simp at h
 | cons x l ih =>
  cases i with
  | zero =>
   simp at h
   subst h
   simp
  | succ i =>
   have := ih (by simpa using h)
   rw [List.set_cons_succ, List.filter_cons, List.filter_cons]
   split <;> simp [this]
theorem undone_ex {L : Array Bool} (h : undone L ≠ 0) : ∃ i : Nat, L[i]? = some false /\ ∀ j : Nat, j < i -> L[j]? = some true := by
 obtain ⟨l⟩ := L
 unfold undone at h
 simp only [List.getElem?_toArray] at h ⊢
 induction l with
 | nil => exact absurd rfl h
 | cons x l ih =>
  cases x with
  | false => exact ⟨0, rfl, fun j hj => absurd hj (Nat.not_lt_zero _)⟩
  | true =>
   obtain ⟨i, h1, h2⟩ := ih (by simpa using h)
   refine ⟨i + 1, by simpa using h1, fun j hj => ?_⟩
   cases j with
   | zero => rfl
   | succ j => simpa using h2 j (by omega)
theorem undone_none {L : Array Bool} (h : undone L = 0) (i : Nat) (hi : i < L.size) : L[i]? = some true := by
 obtain ⟨l⟩ := L
 unfold undone at h
 simp only [List.getElem?_toArray, List.size_toArray] at h hi ⊢
 have hn := List.filter_eq_nil_iff.1 (List.length_eq_zero_iff.1 h)
 have := hn l[i] (List.getElem_mem hi)
 rw [List.getElem?_eq_getElem hi]
 cases hx : l[i] with
 | true => rfl
 | false => rw [hx] at this; simp at this
theorem wpAny_inv {P : Program} {ops : Array Oper} {Q : Exit -> Act -> World -> Prop} (hg : ∀ (i : Nat) (o : Oper), ops[i]? = some o -> o.guard = none /\ ∀ e ∈ o.after, e.on < i)
  (I : Array Bool -> Act -> World -> Prop)
  (hstep : ∀ (L : Array Bool) (i : Nat) (o : Oper) (a : Act) (w : World) (K : Act -> World -> Prop), ops[i]? = some o -> L.size = ops.size -> L[i]? = some false -> (∀ e ∈ o.after, Region.binds .any e = true -> L[e.on]? = some true) -> I L a w -> (∀ a' w', I (L.setIfInBounds i true) a' w' -> K a' w') -> o.wp P a w K Q)
  (hend : ∀ (L : Array Bool) (a : Act) (w : World), L.size = ops.size -> (∀ i, i < ops.size -> L[i]? = some true) -> I L a w -> Q .normal a w) :
  ∀ (n : Nat) (L : Array Bool) (a : Act) (w : World), L.size = ops.size -> undone L = n -> I L a w -> wpAny P .any ops Q n L a w := by
 intro n
 induction n with
 | zero =>
  intro L a w hs hu hI
  have hall : ∀ i, i < ops.size -> L[i]? = some true := fun i hi => undone_none hu i (by omega)
  refine wpAny_done ?_ (hend L a w hs hall hI) 0
  refine List.eq_nil_iff_forall_not_mem.2 fun i hi => ?_
  obtain ⟨h1, o, h2, _⟩ := mem_ready.1 hi
  have hlt := (Array.getElem?_eq_some_iff.1 h2).1
  have := hall i hlt
  simp [Array.getD_eq_getD_getElem?, this] at h1
 | succ n ih =>
  intro L a w hs hu hI
  obtain ⟨i0, q1, q2⟩ := undone_ex (L := L) (by omega)
  have hne : i0 ∈ Region.ready .any ops L := by
   have hlt := (Array.getElem?_eq_some_iff.1 q1).1
   obtain ⟨o, ho⟩ : ∃ o, ops[i0]? = some o := ⟨_, Array.getElem?_eq_getElem (by omega)⟩
   refine mem_ready.2 ⟨by simp [Array.getD_eq_getD_getElem?, q1], o, ho, fun e he _ => ?_⟩
   have := q2 e.on ((hg i0 o ho).2 e he)
   simp [Array.getD_eq_getD_getElem?, this]
  refine ⟨fun h => by rw [h] at hne; exact absurd hne List.not_mem_nil, fun i hi => ?_⟩
  obtain ⟨h1, o, h2, h3⟩ := mem_ready.1 hi
  have hlt := (Array.getElem?_eq_some_iff.1 h2).1
  have hLi : L[i]? = some false := by
   rw [Array.getElem?_eq_getElem (by omega)]
   have : L.getD i true = L[i]'(by omega) := by simp [Array.getD, show i < L.size by omega]
   rw [this] at h1
   rw [h1]
  refine wpOp_step h2 fun K hK => ?_
  have hw : Region.wanted o (yielded ops a.tmps) = true := by unfold Region.wanted; rw [(hg i o h2).1]
  rw [if_pos hw]
  refine hstep L i o a w K h2 hs hLi (fun e he hb => ?_) hI fun a' w' hI' => hK _ _ (ih _ a' w' (by simpa using hs) (by have := undone_set hLi; omega) hI')
  have := h3 e he hb
  cases hx : L[e.on]? with
  | none => simp [Array.getD_eq_getD_getElem?, hx] at this
  | some x => simp [Array.getD_eq_getD_getElem?, hx] at this; rw [this]
structure RelI (N : Nat) (dst : Nat -> Nat) (a0 : Act) (w0 : World) (L0 : Array Bool) (Φ : Nat -> World -> Value -> Prop) (L : Array Bool) (a : Act) (w : World) (vals : Nat -> Value) : Prop where
 size : a.tmps.size = a0.tmps.size
 defers : a.defers = a0.defers
 ge : ∀ i : Nat, L0[i]? = some true -> L[i]? = some true
 done : ∀ i, i < N -> L0[i]? = some false -> L[i]? = some true -> a.tmps[dst i]? = some (vals i) /\ Φ i w (vals i)
 rest : ∀ s, (∀ i, i < N -> L0[i]? = some false -> dst i ≠ s) -> a.tmps[s]? = a0.tmps[s]?
 bel : Below w0.heap.size w0 w
theorem wpAny_rel {P : Program} {ops : Array Oper} {Q : Exit -> Act -> World -> Prop} (hg : ∀ (i : Nat) (o : Oper), ops[i]? = some o -> o.guard = none /\ ∀ e ∈ o.after, e.on < i)
  {dst : Nat -> Nat} {a0 : Act} {w0 : World} {Φ : Nat -> World -> Value -> Prop} (L0 : Array Bool) (hL0 : L0.size = ops.size)
  (hdst : ∀ i j, i < ops.size -> j < ops.size -> L0[i]? = some false -> L0[j]? = some false -> dst i = dst j -> i = j)
  (hops : ∀ i o, ops[i]? = some o -> L0[i]? = some false -> o.dst = some (dst i)) (hin : ∀ i, i < ops.size -> L0[i]? = some false -> dst i < a0.tmps.size)
  (hΦ : ∀ i w w' v, Φ i w v -> Below w.heap.size w w' -> Φ i w' v)
  (hstep : ∀ i o, ops[i]? = some o -> L0[i]? = some false -> ∀ (a : Act) (w : World) (K : Act -> World -> Prop) (vals : Nat -> Value) (L : Array Bool), RelI ops.size dst a0 w0 L0 Φ L a w vals -> (∀ e ∈ o.after, Region.binds .any e = true -> L[e.on]? = some true) →
   (∀ v w', Φ i w' v -> Below w.heap.size w w' -> K (a.put o.dst v) w') -> o.wp P a w K Q)
  (hend : ∀ (a : Act) (w : World) (vals : Nat -> Value), a.defers = a0.defers /\ a.tmps.size = a0.tmps.size /\ (∀ s, (∀ i, i < ops.size -> L0[i]? = some false -> dst i ≠ s) -> a.tmps[s]? = a0.tmps[s]?) -> (∀ i, i < ops.size -> L0[i]? = some false -> a.tmps[dst i]? = some (vals i) /\ Φ i w (vals i)) -> Below w0.heap.size w0 w -> Q .normal a w) :
  ∀ n, undone L0 = n -> wpAny P .any ops Q n L0 a0 w0 := by
 intro n hu
 refine wpAny_inv hg (fun L a w => ∃ vals, RelI ops.size dst a0 w0 L0 Φ L a w vals) ?_ ?_ n L0 a0 w0 hL0 hu ⟨fun _ => undef, rfl, rfl, (fun i h => h), (fun i _ h1 h2 => by rw [h1] at h2; cases h2), (fun s _ => rfl), Below.refl _ _⟩
 ·intro L i o a w K ho hs hL hd hI hK
  obtain ⟨vals, hR⟩ := hI
  have hi : i < ops.size := (Array.getElem?_eq_some_iff.1 ho).1
  have hL0i : L0[i]? = some false := by
   cases h : L0[i]? with
   | none => rw [Array.getElem?_eq_none_iff] at h; omega
   | some b =>
    cases b with
    | false => rfl
    | true => rw [hR.ge i h] at hL; cases hL
  refine hstep i o ho hL0i a w K vals L hR hd fun v w' q1 q2 => hK _ _ ⟨fun j => if j = i then v else vals j, ?_⟩
  rw [hops i o ho hL0i]
  have hds : dst i < a.tmps.size := by rw [hR.size]; exact hin i hi hL0i
  refine ⟨by show (a.tmps.setIfInBounds (dst i) v).size = _; rw [Array.size_setIfInBounds]; exact hR.size, hR.defers, fun j hj => ?_, fun j hj h0 h1 => ?_, fun s hs' => ?_, hR.bel.trans (q2.mono hR.bel.size)⟩
  ·by_cases e : i = j
   ·subst e; simp [show i < L.size by omega]
   ·rw [Array.getElem?_setIfInBounds_ne e]; exact hR.ge j hj
  ·show (a.tmps.setIfInBounds (dst i) v)[dst j]? = _ /\ _
   by_cases e : j = i
   ·subst e
    simp only [if_pos]
    exact ⟨by simp [hds], q1⟩
   ·rw [Array.getElem?_setIfInBounds_ne (fun h => e (hdst i j hi hj hL0i h0 h).symm), if_neg e]
    rw [Array.getElem?_setIfInBounds_ne (fun h => e h.symm)] at h1
    obtain ⟨r1, r2⟩ := hR.done j hj h0 h1
    exact ⟨r1, hΦ j w w' _ r2 q2⟩
  ·show (a.tmps.setIfInBounds (dst i) v)[s]? = _
   rw [Array.getElem?_setIfInBounds_ne (hs' i hi hL0i)]
   exact hR.rest s hs'
 ·intro L a w hs hall hI
  obtain ⟨vals, hR⟩ := hI
  exact hend a w vals ⟨hR.defers, hR.size, hR.rest⟩ (fun i hi h0 => hR.done i hi h0 (hall i hi)) hR.bel
theorem tmps_lay {a a0 : Act} {N base : Nat} {vals : Nat -> Value} (hs0 : a0.tmps.size = base + N) (hs : a.tmps.size = a0.tmps.size) (h1 : ∀ s, s < base -> a.tmps[s]? = a0.tmps[s]?) (h2 : ∀ i, i < N -> a.tmps[base + i]? = some (vals i)) : a.tmps = (a0.tmps.toList.take base ++ (List.range N).map vals).toArray := by
 have hl0 : a0.tmps.toList.length = base + N := by rw [Array.length_toList]; exact hs0
 have key : a.tmps.toList = a0.tmps.toList.take base ++ (List.range N).map vals := by
  refine List.ext_getElem? fun s => ?_
  rw [Array.getElem?_toList]
  by_cases hb : s < base
  ·rw [List.getElem?_append_left (by rw [List.length_take]; omega), List.getElem?_take, if_pos hb, h1 s hb, Array.getElem?_toList]
  ·by_cases hn : s < base + N
   ·have e := h2 (s - base) (by omega)
    rw [show base + (s - base) = s by omega] at e
    rw [e, List.getElem?_append_right (by rw [List.length_take]; omega), List.length_take, Nat.min_eq_left (by omega), List.getElem?_map, List.getElem?_range (by omega)]
    rfl
   ·rw [Array.getElem?_eq_none (by omega), List.getElem?_eq_none (by rw [List.length_append, List.length_take, List.length_map, List.length_range]; omega)]
 rw [<- key]
def lowB (ops : Array Oper) : Bool := (List.range ops.size).all fun i => match ops[i]? with | some o => o.guard.isNone && o.after.all (fun e => decide (e.on < i)) | none => true
theorem low_of {ops : Array Oper} (h : lowB ops = true) : ∀ (i : Nat) (o : Oper), ops[i]? = some o -> o.guard = none /\ ∀ e ∈ o.after, e.on < i := by
 intro i o ho
 have hi := (Array.getElem?_eq_some_iff.1 ho).1
 have h1 := List.all_eq_true.1 h i (List.mem_range.2 hi)
 rw [ho] at h1
 simp only [Bool.and_eq_true, Option.isNone_iff_eq_none] at h1
 refine ⟨h1.1, fun e he => ?_⟩
 have := Array.all_eq_true'.1 h1.2 e he
 simpa using this
theorem held_true {P : Program} {md : Region.Mode} {ops : Array Oper} {Q : Exit -> Act -> World -> Prop} : ∀ (fuel : Nat) (L : Array Bool) (a : Act) (w : World), wpAny P md ops Q fuel L a w -> wpAnyH P md ops Q (fun _ => True) fuel L a w
 | 0, _, _, _, h => h
 | fuel + 1, _, _, _, h => ⟨h.1, fun i hi => wpOp_mono (fun a' w' h' => ⟨trivial, held_true fuel _ a' w' h'⟩) (h.2 i hi)⟩
end Go.Proofs.YtdgollnapbonjaaGreatDoor
namespace Go.Proofs.YtdgollnapbonjaaGreatDoor
open Go.RowKit
theorem info_bytes : (Tryz.prog.info? 34).map (fun i => (i.zero, i.size, i.bytes)) = some (some (.slice none 0 0), 1, 24) := by kernel_rfl
def BytI (l : List Int) : Prop := ∀ x ∈ l, 0 <= x /\ x < 256
def EL (w0 w : World) (u : Value) (l : List Int) : Prop :=
 (w.ownsRow w0.heap.size 5 1 u l.length (l.map (Value.int .u8)) /\ BytI l) \/ HB w0 u l
def OWL (w0 w : World) (v : Value) (ls : List (List Int)) : Prop :=
 ∃ xs, w.ownsRow w0.heap.size 34 1 v ls.length xs /\ ∀ j, j < ls.length -> EL w0 w (xs.getD j undef) (ls.getD j [])
theorem EL.hb {w0 w : World} {u : Value} {l : List Int} (h : EL w0 w u l) (hb : Below w0.heap.size w0 w) : HB w u l := by
 rcases h with ⟨h, hx⟩ | h
 ·exact HB.of_own h hx
 ·exact h.below hb
theorem own_block_ne {w : World} {B e n : Nat} {v : Value} {xs : List Value} (h : w.ownsRow B e 1 v n xs) {g : Nat} {cur : Array Value} {e' : TypeId} {fz : Nat × Nat} (hg : w.heap[g]? = some (.cells cur e' fz)) (hne : e ≠ e') : v.ownBlock ≠ some g := by
 intro hv
 rcases h.2 with ⟨rfl, _⟩ | ⟨g', cap, cur', rfl, _, hh, _⟩
 ·simp [Value.ownBlock] at hv
 ·simp only [Value.ownBlock, Option.some.injEq] at hv
  subst hv
  rw [hh] at hg
  simp only [Option.some.injEq, Obj.cells.injEq] at hg
  exact hne hg.2.1
theorem EL.grown {w0 w w' : World} {u : Value} {l : List Int} {row : Option Nat} (h : EL w0 w u l) (hg : w.grownBy w' row) (hr : ∀ g, row = some g -> ∃ cur e fz, w.heap[g]? = some (.cells cur e fz) /\ 5 ≠ e) : EL w0 w' u l := by
 rcases h with ⟨h, hx⟩ | h
 ·refine .inl ⟨h.kept hg ?_, hx⟩
  cases hrow : row with
  | none =>
   cases hv : u.ownBlock with
   | none => exact .inl rfl
   | some k => exact .inr (by simp)
  | some g =>
   obtain ⟨cur, e, fz, hh, hne⟩ := hr g hrow
   exact .inr (own_block_ne h hh hne)
 ·exact .inr h
theorem OWL.grown {w0 w w' : World} {v : Value} {ls : List (List Int)} {row : Option Nat} (h : OWL w0 w v ls) (hg : w.grownBy w' row) (hr : ∀ g, row = some g -> ∃ cur e fz, w.heap[g]? = some (.cells cur e fz) /\ 5 ≠ e /\ 34 ≠ e) : OWL w0 w' v ls := by
 obtain ⟨xs, h1, h2⟩ := h
 refine ⟨xs, h1.kept hg ?_, fun j hj => (h2 j hj).grown hg fun g e => ?_⟩
 ·cases hrow : row with
  | none =>
   cases hv : v.ownBlock with
   | none => exact .inl rfl
   | some k => exact .inr (by simp)
  | some g =>
   obtain ⟨cur, e, fz, hh, _, hne⟩ := hr g hrow
   exact .inr (own_block_ne h1 hh hne)
 ·obtain ⟨cur, e', fz, hh, hne, _⟩ := hr g e
  exact ⟨cur, e', fz, hh, hne⟩
theorem OWL.below {w0 w w' : World} {v : Value} {ls : List (List Int)} (h : OWL w0 w v ls) (hb : Below w.heap.size w w') : OWL w0 w' v ls :=
 h.grown (row := none) ⟨hb.os, hb.tape, hb.output, hb.size, fun k hk _ => hb.block k hk⟩ (fun g e => by cases e)
theorem OWL.hl {w0 w : World} {v : Value} {ls : List (List Int)} (h : OWL w0 w v ls) (hb : Below w0.heap.size w0 w) : HL w v ls := by
 obtain ⟨xs, h1, h2⟩ := h
 by_cases h0 : 0 < ls.length
 ·obtain ⟨g, cap, rfl, _, hn, hm, hc⟩ := ownsRow_cells h1 h0
  refine ⟨_, cap, rfl, hn, hm, (fun e => by cases e), fun _ => ⟨g, 0, rfl, fun j hj => ⟨xs.getD j undef, ?_, (h2 j hj).hb hb⟩⟩⟩
  have hx : xs.length = ls.length := by have := h1.1; omega
  exact hc j _ (by simp [List.getD, List.getElem?_eq_getElem (show j < xs.length by omega)])
 ·have e : ls = [] := List.length_eq_zero_iff.1 (by omega)
  subst e
  rcases h1.2 with ⟨rfl, _⟩ | ⟨g, cap, cur, rfl, _, _, hn, hm, _⟩
  ·exact HL.nil _
  ·exact ⟨_, cap, rfl, hn, hm, (fun e => by cases e), fun h => absurd rfl h⟩
theorem getD_app {α : Type} (l m : List α) (d : α) (j : Nat) : (l ++ m).getD j d = if j < l.length then l.getD j d else m.getD (j - l.length) d := by
 simp only [List.getD, List.getElem?_append]
 split <;> rfl
theorem wpList_append_OWL {w0 w : World} {ops : Array Oper} {rest : List Oper} {o : Oper} {a : Act} {Q : Exit -> Act -> World -> Prop} (hgd : o.guard = none) (s x : Operand)
  (ho : o.op = .call { callee := .builtin .append, args := #[s, x], argTypes := #[29, 29] })
  (v : Value) (ls : List (List Int)) (hs : a.eval s = v) (hown : OWL w0 w v ls)
  (ad : Addr) (m c : Nat) (us : List Value) (ns : List (List Int)) (hx : a.eval x = .slice (some ad) m c) (hl : us.length = m) (hn : ns.length = m) (hcell : ∀ j u, us[j]? = some u -> w.cell? (ad.add j) = some u)
  (hu : ∀ j, j < m -> EL w0 w (us.getD j undef) (ns.getD j [])) (h1 : ∀ u ∈ us, u.oneCell' = true)
  (hbytes : (ls.length + m) * 24 <= 140737488355328) (hbase : w0.heap.size <= w.heap.size)
  (h : ∀ v' w', OWL w0 w' v' (ls ++ ns) -> w.grownBy w' v.ownBlock -> (∀ g, v.ownBlock = some g -> w0.heap.size <= g /\ BT w g 34) -> wpList Tryz.prog ops Q rest (a.put o.dst v') w') : wpList Tryz.prog ops Q (o :: rest) a w := by
 obtain ⟨i0, hi, hz0, hz1, hz2⟩ := info_parts info_bytes
 obtain ⟨xs, hrow, hel⟩ := hown
 have hblk : ∀ g, v.ownBlock = some g -> w0.heap.size <= g /\ BT w g 34 := by
  intro g hg
  refine ⟨(hrow.lt g hg).1, ?_⟩
  rcases hrow.2 with ⟨rfl, _⟩ | ⟨g', cap, cur, rfl, _, hh, _⟩
  ·simp [Value.ownBlock] at hg
  ·simp only [Value.ownBlock, Option.some.injEq] at hg
   subst hg
   exact ⟨cur, _, hh⟩
 refine wpList_append_own w hgd s x 29 ho w0.heap.size 34 i0 (.slice none 0 0) 1 24 Tryz.underlying29 hi hz0 hz1 hz2 rfl (by decide) v ls.length xs hs hrow ad m c us hx (by omega) hcell h1 (by unfold maxLen; omega) hbytes hbase (fun v' w' h2 h3 _ => h v' w' ?_ h3 hblk)
 refine ⟨xs ++ us, by rw [List.length_append, hn]; exact h2, fun j hj => ?_⟩
 have key : ∀ u l, EL w0 w u l -> EL w0 w' u l := fun u l he => he.grown h3 fun g hg => by
  obtain ⟨_, cur, fz, hh⟩ := hblk g hg
  exact ⟨cur, _, fz, hh, by decide⟩
 have hxl : xs.length = ls.length := by have := hrow.1; omega
 rw [getD_app, getD_app, hxl]
 rw [List.length_append] at hj
 split
 ·exact key _ _ (hel j ‹_›)
 ·exact key _ _ (hu _ (by omega))
theorem EL.below {w0 w w' : World} {u : Value} {l : List Int} (h : EL w0 w u l) (hb : Below w.heap.size w w') : EL w0 w' u l :=
 h.grown (row := none) ⟨hb.os, hb.tape, hb.output, hb.size, fun k hk _ => hb.block k hk⟩ (fun g e => by cases e)
theorem framed_any (w : World) (v : Value) (ls : List (List Int)) (h : HL w v ls) (hbig : ls.flatten.length + ls.length <= 1100000) :
  Calls Tryz.prog 100 #[v] w fun e w' => ∃ v', e = .returned v' /\ w'.ownsRow w.heap.size 5 1 v' (framed ls).length ((framed ls).map (Value.int .u8)) /\ HB w' v' (framed ls) /\ Below w.heap.size w w' := by
 obtain ⟨i0, hi, hz0, hz1, hz2⟩ := info_parts info_bytes
 obtain ⟨p, c, e, hlc, hm⟩ := h.open
 unfold maxLen at hm
 have A : Hid (0 < ls.length -> ∃ b off, p = some ⟨b, off, none⟩ /\ ∀ j, j < ls.length -> ∃ u, w.cell? ⟨b, off + j, none⟩ = some u /\ HB w u (ls.getD j [])) := by
  intro h0
  obtain ⟨b, off, c', e', _, _, hh⟩ := h.ne h0
  rw [e] at e'
  simp only [Value.slice.injEq, true_and] at e'
  exact ⟨b, off, e'.1, hh⟩
 clear h
 subst e
 obtain ⟨w1, hmk, hown, hgr⟩ := run_make_own (P := Tryz.prog) w w.heap.size 29 34 i0 (.slice none 0 0) 1 Tryz.underlying29 hi hz0 hz1 .i64 .i64 (2 * ls.length) (by rw [hz2]; omega) (by unfold maxLen; omega) (Nat.le_refl _)
 rw [show ((2 * ls.length : Nat) : Int) = 2 * (ls.length : Int) by omega] at hmk
 have HB1 := hid ((Below.refl _ w).grown hgr (Nat.le_refl _) (fun k e => by cases e))
 have HO1 : Hid (OWL w w1 _ []) := ⟨[], hown, fun j hj => by simp at hj⟩
 clear hown hgr
 go_enter Tryz.func100, Tryz.ntmps100
 go_wp2
 go_loopw [3, 12] (fun o i wr => ∃ k : Nat, k <= ls.length /\ i = .int .i64 k /\ Hid (OWL w wr o (pcsTo ls k)) /\ Hid (Below w.heap.size w wr)) (fun _ i _ => ls.length - (intOf i).toNat)
 case atStart => exact ⟨0, Nat.zero_le _, rfl, HO1, HB1⟩
 case round =>
  clear HO1 HB1 hmk
  obtain ⟨k, hk, rfl, HO, HBw⟩ := hrel
  by_cases hlt : k < ls.length
  ·obtain ⟨b, off, rfl, hh⟩ := A.out (by omega)
   obtain ⟨u, hu0, hb⟩ := hh k hlt
   have hu : wr.cell? ⟨b, off + k, none⟩ = some u := (HBw.out.cell (World.block_lt_of_cell? w _ hu0)).trans hu0
   have HS := hid (pcs_snoc ls k hlt)
   have hlen : (ls.getD k []).length <= 1100000 := by
    have h1 := flat_snoc ls k hlt
    have h2 := flat_take_le ls (k + 1)
    rw [h1, List.length_append] at h2
    omega
   obtain ⟨l, HLk⟩ : ∃ l, Hid (l = ls.getD k []) := ⟨_, rfl⟩
   rw [<- HLk.out] at hb HS hlen
   have HU := hid hb
   obtain ⟨p2, c2, hu2, _, _⟩ := hb.open
   subst hu2
   clear hh hu0 hb
   go_wp2_with fail
   refine (big_uint64 l.length (by omega) wr).mono ?_
   rintro e w2 ⟨v2, rfl, hown2, hB2⟩
   have hO2 := HO.out.below hB2
   have hel : EL w w2 v2 (bigL 8 l.length) := .inl ⟨by rw [bigL_length]; exact own_mono hown2 HBw.out.size, bigL_byt _ _⟩
   have hBw2 : Below w.heap.size w w2 := HBw.out.trans (hB2.mono HBw.out.size)
   obtain ⟨p3, c3, e3, _, _⟩ := (hel.hb hBw2).open
   rw [bigL_length] at e3
   obtain ⟨W3, hW3⟩ : ∃ W3, W3 = w2.alloc (.cells #[v2, .slice p2 l.length c2] 34) := ⟨_, rfl⟩
   have hal : Below w2.heap.size w2 W3 := by rw [hW3]; exact (Below.refl _ _).alloc (Nat.le_refl _) _
   have HO3 := hid (hO2.below hal)
   have HE3 := hid (hel.below hal)
   have HB3 := hid (hBw2.trans (hal.mono hBw2.size))
   rw [hW3] at HO3 HE3 HB3
   clear hO2 hel hBw2 hown2 hal hW3 W3 hB2
   subst e3
   go_wp2_with (at_builtin; refine wpList_append_OWL (w0 := w) rfl _ _ rfl _ _ rfl HO3.out ⟨w2.heap.size, 0, none⟩ 2 2 [_, _] [bigL 8 l.length, l] rfl rfl rfl (cell_two_new _ _ _ _) ?q1 ?q2 ?q3 ?q4 ?_)
   case q1 =>
    intro j hj
    match j, hj with
    | 0, _ => exact HE3.out
    | 1, _ => exact .inr HU.out
   case q2 =>
    intro u hu
    simp only [List.mem_cons, List.not_mem_nil, or_false] at hu
    rcases hu with rfl | rfl <;> rfl
   case q3 => have := pcsTo_length ls k; omega
   case q4 => exact HB3.out.size
   intro v' w4 hO4 hg4 hbk
   have HO4 : Hid (OWL w w4 v' (pcsTo ls (k + 1))) := by rw [HS.out]; exact hO4
   have HB4 := hid (HB3.out.grown hg4 HB3.out.size (fun k e => (hbk k e).1))
   clear hO4 hg4 hbk
   go_wp2
   exact ⟨⟨k + 1, by omega, by go_num, HO4, HB4⟩, by simp [intOf]; omega⟩
  ·have HP : Hid (pcsTo ls k = pcs ls) := by
    show _ = _
    unfold pcsTo
    rw [List.take_of_length_le (by omega)]
   have HO2 : Hid (OWL w wr u3 (pcs ls)) := by rw [<- HP.out]; exact HO
   have HFl := hid (framed_length ls)
   obtain ⟨fl, HF⟩ : ∃ fl, Hid (framed ls = fl) := ⟨_, rfl⟩
   rw [HF.out] at HFl
   go_wp2_with fail
   have hHL := HO2.out.hl HBw.out
   refine (join_any wr _ (pcs ls) hHL (by have := HFl.out; rw [<- HF.out] at this; unfold framed at this; omega)).mono ?_
   rintro e w2 ⟨v2, rfl, hown2, hB2⟩
   have hbt := hHL.byt
   rw [show (pcs ls).flatten = fl from HF.out] at hown2 hbt
   have H2 := hid hown2
   have Hb := hid hbt
   have HB3 := hid (HBw.out.trans (hB2.mono HBw.out.size))
   have hsz := HBw.out.size
   clear hHL hown2 hB2 hbt
   go_wp2
   go_ret
   refine ⟨_, rfl, ?_, ?_, HB3.out⟩
   ·rw [HF.out]; exact own_mono H2.out hsz
   ·rw [HF.out]; exact HB.of_own H2.out Hb.out
end Go.Proofs.YtdgollnapbonjaaGreatDoor
