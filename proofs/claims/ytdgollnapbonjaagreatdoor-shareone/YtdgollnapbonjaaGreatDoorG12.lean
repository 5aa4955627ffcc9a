/- Of the road to shareOneCard_holds: TrWid, ShM, EvIn, EvRange, EvMarks. -/
import Derived.Test.YtdgollnapbonjaaGreatDoorG09
import Derived.Test.YtdgollnapbonjaaGreatDoorG11
import Derived.Test.YtdgollnapbonjaaGreatDoorG08
import Derived.TacticsIn
import Derived.OrdersIn
import Derived.ControlIn
import Derived.RangeFuncLeaves
import Derived.RangeFuncNested
set_option linter.unusedVariables false
set_option linter.unusedSimpArgs false
set_option maxRecDepth 100000
set_option maxHeartbeats 16000000
namespace Go.Proofs.YtdgollnapbonjaaGreatDoor
open Go Go.RowKit Ev
def wdN (n : Nat) : Nat := if n <= 1 then 1 else if n <= 2 then 2 else if n <= 4 then 4 else if n <= 8 then 8 else if n <= 16 then 16 else if n <= 32 then 32 else if n <= 64 then 64 else if n <= 128 then 128 else if n <= 256 then 256 else 512
noncomputable def widOk (n : Nat) : Bool := decide (evCallF Tryz.prog noLore noCon 100 60 [.tv (.sc (.int .i64 (.lit ((n + 1 : Nat) : Int))))] H0 = some (.tup [.sc (.int .i64 (.lit (wdN (n + 1) : Nat))), .sc (.int .i64 (.lit 0))], H0))
def uptoB (f : Nat -> Bool) (b : Nat) : Nat -> Bool
 | 0 => true
 | n + 1 => f (b + n) && uptoB f b n
theorem uptoB_ok {f : Nat -> Bool} {b : Nat} : ∀ n, uptoB f b n = true -> ∀ i, i < n -> f (b + i) = true
 | n + 1, h, i, hi => by
  simp only [uptoB, Bool.and_eq_true] at h
  rcases Nat.lt_or_ge i n with h1 | h1
  ·exact uptoB_ok n h.2 i h1
  ·rw [show i = n by omega]; exact h.1
theorem wid_ev0 : uptoB widOk 0 128 = true := by kernel_rfl
theorem wid_ev1 : uptoB widOk 128 128 = true := by kernel_rfl
theorem wid_ev2 : uptoB widOk 256 128 = true := by kernel_rfl
theorem wid_ev3 : uptoB widOk 384 128 = true := by kernel_rfl
theorem wid_all (n : Nat) (h : n < 512) : widOk n = true := by
 rcases Nat.lt_or_ge n 128 with h1 | h1
 ·have := uptoB_ok 128 wid_ev0 n h1; rwa [Nat.zero_add] at this
 rcases Nat.lt_or_ge n 256 with h2 | h2
 ·have := uptoB_ok 128 wid_ev1 (n - 128) (by omega); rwa [show 128 + (n - 128) = n by omega] at this
 rcases Nat.lt_or_ge n 384 with h3 | h3
 ·have := uptoB_ok 128 wid_ev2 (n - 256) (by omega); rwa [show 256 + (n - 256) = n by omega] at this
 ·have := uptoB_ok 128 wid_ev3 (n - 384) (by omega); rwa [show 384 + (n - 384) = n by omega] at this
def noEnvW : Env := ⟨fun _ => 0, fun _ => .tuple #[], fun _ _ _ => 0⟩
theorem width_ok (w : World) (n : Nat) (h1 : 1 <= n) (h2 : n <= 512) : Calls Tryz.prog 60 #[.int .i64 (n : Int)] w fun e w' => e = .returned (.tuple #[.int .i64 (wdN n : Nat), .int .i64 0]) /\ Below w.heap.size w w' := by
 have h := wid_all (n - 1) (by omega)
 unfold widOk at h
 rw [decide_eq_true_eq, show n - 1 + 1 = n by omega] at h
 refine (calls_of_evF (noLore_ok noEnvW) (noCon_ok _ noEnvW) mixedOrders 100 h w (args := #[.int .i64 (n : Int)]) ?_).mono ?_
 ·simp [AV.inst, TV.inst, SV.inst, Ex.den]
 ·rintro e w' ⟨ms, u, rfl, h3, _, h5⟩
  refine ⟨?_, h5⟩
  have e1 : (AV.tup [.sc (.int .i64 (.lit (wdN n : Nat))), .sc (.int .i64 (.lit 0))]).inst noEnvW ms = some (.tuple #[.int .i64 (wdN n : Nat), .int .i64 0]) := by
   simp only [AV.inst]
   rw [(seqO_iff _ [.int .i64 (wdN n : Nat), .int .i64 0]).2 (by simp [TV.inst, SV.inst, Ex.den])]
   rfl
  rw [e1] at h3
  rw [Option.some.inj h3]
theorem size_w (w : World) (n : Nat) (h : n <= 512) : Calls Tryz.prog 61 #[.int .i64 (n : Int)] w fun e w' => e = .returned (.int .i64 (2 * (n : Int) - 1)) /\ w' = w := by
 go_enter Tryz.func61, Tryz.ntmps61
 go_wp2
 go_ret
 refine ⟨?_, rfl⟩
 try go_num
theorem wdN_ge (n : Nat) (h : n <= 512) : n <= wdN n := by
 unfold wdN
 repeat' split
 all_goals omega
theorem wdN_le (n : Nat) : wdN n <= 512 /\ 1 <= wdN n := by
 unfold wdN
 repeat' split
 all_goals omega
end Go.Proofs.YtdgollnapbonjaaGreatDoor
namespace Go.Proofs.YtdgollnapbonjaaGreatDoor
open Go Go.RowKit
def lgN (n : Nat) : Nat := if n <= 1 then 0 else if n <= 2 then 1 else if n <= 4 then 2 else if n <= 8 then 3 else if n <= 16 then 4 else if n <= 32 then 5 else if n <= 64 then 6 else if n <= 128 then 7 else if n <= 256 then 8 else 9
theorem lgN_is (n : Nat) : wdN n = 2 ^ lgN n /\ lgN n < 10 := by
 unfold wdN lgN
 repeat' (split <;> simp_all)
def ubZ (k n g z : Int) : Ub := ⟨k, n, g, z, zeros32', zeros32'⟩
theorem ubZ_ok (k n g z : Int) : (ubZ k n g z).ok := ub0_ok
def uL (k n g z : Int) : Nat := (wrL (ubZ k n g z)).length
theorem wrL_len {u : Ub} (hu : u.ok) : (wrL u).length = uL u.k u.n u.g u.z := by
 unfold uL wrL
 have : chE (ubZ u.k u.n u.g u.z) = chE u := rfl
 rw [this]
 split
 ·have e1 : (packL (ubRows u)).length = (packL (ubRows (ubZ u.k u.n u.g u.z))).length := by
   simp [ubRows, packL, rowL, fld_len, hu.1.1, hu.2.1, ubZ, show zeros32'.length = 32 from rfl]
  exact e1
 ·rfl
theorem dg_len10 (x : Int) (h : x <= 2147483647) : (dgL x.toNat).length <= 10 := by
 rw [dgL_length]
 have := dec_len_mono 2147483647 x.toNat (by omega)
 have h2 : (Lib.decDigits 2147483647).length = 10 := by decide +kernel
 omega
theorem dg_len2 (x : Nat) (h : x <= 99) : (dgL x).length <= 2 := by
 rw [dgL_length]
 have := dec_len_mono 99 x (by omega)
 have h2 : (Lib.decDigits 99).length = 2 := by decide +kernel
 omega
theorem fld_le (l : List Int) (a : Nat) (h : l.length <= a) (ha : a <= 90) : (fld l).length <= a + 4 := by
 rw [fld_len]
 have := dg_len2 l.length (by omega)
 omega
theorem rowL_le (nm : ByteArray) (v : List Int) (a b : Nat) (h1 : (sB nm).length <= a) (h2 : v.length <= b) (ha : a <= 90) (hb : b <= 90) : (rowL (nm, v)).length <= a + b + 8 := by
 unfold rowL
 rw [List.length_append]
 have q1 := fld_le (sB nm) a h1 ha
 have q2 := fld_le v b h2 hb
 exact Nat.le_trans (Nat.add_le_add q1 q2) (by omega)
theorem six_le {x1 x2 x3 x4 x5 x6 a1 a2 a3 a4 a5 a6 : Nat} (h1 : x1 <= a1) (h2 : x2 <= a2) (h3 : x3 <= a3) (h4 : x4 <= a4) (h5 : x5 <= a5) (h6 : x6 <= a6) (h : a1 + a2 + a3 + a4 + a5 + a6 <= 1000) : x1 + (x2 + (x3 + (x4 + (x5 + (x6 + 0))))) <= 1000 := by omega
theorem packL_six (r1 r2 r3 r4 r5 r6 : Rw) : (packL [r1, r2, r3, r4, r5, r6]).length = (rowL r1).length + ((rowL r2).length + ((rowL r3).length + ((rowL r4).length + ((rowL r5).length + ((rowL r6).length + 0))))) := by
 simp only [packL, List.length_append, List.length_nil]
theorem uL_le (k n g z : Int) : uL k n g z <= 1000 := by
 unfold uL wrL
 split
 ·rename_i h
  obtain ⟨q1, q2, q3, q4⟩ := (ch_ok h).le
  rw [ubRows, packL_six]
  exact six_le (rowL_le nmK _ 1 10 (by decide +kernel) (dg_len10 _ q1.2) (by omega) (by omega)) (rowL_le nmN _ 1 10 (by decide +kernel) (dg_len10 _ q2.2) (by omega) (by omega)) (rowL_le nmSeg _ 3 10 (by decide +kernel) (dg_len10 _ q3.2) (by omega) (by omega)) (rowL_le nmSegs _ 8 32 (by decide +kernel) (Nat.le_refl _) (by omega) (by omega)) (rowL_le nmShares _ 6 32 (by decide +kernel) (Nat.le_refl _) (by omega) (by omega)) (rowL_le nmSize _ 4 10 (by decide +kernel) (dg_len10 _ q4.2) (by omega) (by omega)) (by omega)
 ·exact Nat.zero_le _
def ndN (s : Int) : Int := 2 * (wdN s.toNat : Int) - 1
theorem ndN_le (s : Int) : 1 <= ndN s /\ ndN s <= 1023 := by
 unfold ndN
 have := wdN_le s.toNat
 omega
def p1 (k n g z : Int) : Int := 36 + uL k n g z
def p2 (k n g z : Int) : Int := p1 k n g z + (lgN n.toNat : Int) * 32
def p3 (k n g z : Int) : Int := p2 k n g z + ndN (upI z g) * 32
def p4 (k n g z : Int) : Int := p3 k n g z + ndN (upI z g) * 32
def dtN (k n g z : Int) : Int := (upI z g - 1) * (g / k) + upI (tlI z g) k
def p5 (k n g z : Int) : Int := p4 k n g z + dtN k n g z
theorem p_le (k n g z : Int) : 36 <= p1 k n g z /\ p1 k n g z <= p2 k n g z /\ p2 k n g z <= p3 k n g z /\ p3 k n g z <= p4 k n g z /\ p4 k n g z < 100000 := by
 have := uL_le k n g z
 have := (lgN_is n.toNat).2
 have := ndN_le (upI z g)
 unfold p4 p3 p2 p1
 omega
theorem OkS.blocks {k n g z : Int} (h : OkS k n g z) : 1 <= g / k /\ g / k <= 65790 /\ 1 <= upI z g /\ upI z g <= 512 /\ 1 <= tlI z g /\ 1 <= upI (tlI z g) k /\ upI (tlI z g) k <= g / k /\ (upI z g - 1) * (g / k) <= 16777216 /\ 0 <= (upI z g - 1) * (g / k) := by
 obtain ⟨h1, h2, h3, h4, h5, h6, h7, h8, h9⟩ := h
 have ml := most_lt h1 (show k <= 255 by omega)
 have e : k * (g / k) = g := by have := Int.mul_ediv_add_emod g k; omega
 have hp : 1 <= g / k := by
  rcases Int.lt_or_le (g / k) 1 with h | h
  ·have : g / k <= 0 := by omega
   have := Int.mul_le_mul_of_nonneg_left this (show 0 <= k by omega)
   omega
  ·exact h
 have hle : g / k <= g := Int.ediv_le_self _ (by omega)
 have t1 := tlI_pos (x := z) h4
 have t2 := tlI_le (x := z) h4
 have u1 := upI_pos (show 1 <= z by omega) h4
 have b1 := upI_pos t1 h1
 have b2 : upI (tlI z g) k <= g / k := by
  have m := up_mono (x := tlI z g) (z := g) h1 t2
  have := up_mult h1 h6
  have e2 : k * upI g k = k * (g / k) := by omega
  have := Int.eq_of_mul_eq_mul_left (by omega) e2
  omega
 have hs := up_split z g
 have hm : (upI z g - 1) * (g / k) <= (upI z g - 1) * g := Int.mul_le_mul_of_nonneg_left hle (by omega)
 have hn : 0 <= (upI z g - 1) * (g / k) := Int.mul_nonneg (by omega) (by omega)
 exact ⟨hp, by omega, u1, h9, t1, b1, b2, by omega, hn⟩
theorem dt_le {k n g z : Int} (h : OkS k n g z) : 1 <= dtN k n g z /\ dtN k n g z <= 16843006 := by
 have := h.blocks
 unfold dtN
 omega
end Go.Proofs.YtdgollnapbonjaaGreatDoor
namespace Go.Proofs.YtdgollnapbonjaaGreatDoor.Ev
open Go Go.RowKit
def calmO (o : Oper) : Bool := match o.op with | .defer _ => false | _ => true
theorem calmO_spec {o : Oper} (h : calmO o = true) : ∀ c, o.op ≠ .defer c := fun c e => by simp [calmO, e] at h
def wideR (ro : Option Nat) : Fence := { Fence.wide with round := ro }
def Ys (Y : List Nat) (yv : Value) (tm : Array Value) : Prop := ∀ y ∈ Y, tm[y]? = some yv
def dstFree (Y : List Nat) (o : Oper) : Bool := match o.dst with | some d => !Y.contains d | none => true
theorem Ys.put {Y : List Nat} {yv : Value} {a : Act} (h : Ys Y yv a.tmps) {o : Oper} (hd : dstFree Y o = true) (v : Value) : Ys Y yv (a.put o.dst v).tmps := by
 unfold dstFree at hd
 cases ho : o.dst with
 | none => exact h
 | some d =>
  rw [ho] at hd
  intro y hy
  simp only [Act.put]
  rw [Array.getElem?_setIfInBounds]
  have : d ≠ y := fun e => by subst e; simp [hy] at hd
  rw [if_neg this]
  exact h y hy
theorem op_in {P : Program} {ro : Option Nat} {n : Nat} {o : Oper} {a : Act} {w : World} {K K' : Act -> World -> Prop} {Q Q' : Exit -> Act -> World -> Prop}
  (h : o.wp P a w K Q) (hd : calmO o = true) (hQ : ∀ e a w, Q e a w -> e = .normal) (hK : ∀ a' w', K a' w' -> (∃ v, a'.tmps = (a.put o.dst v).tmps) -> K' a' w') : o.wpIn (wideR ro) n P a w K' Q' := by
 refine ⟨fun f _ => trivial, ?_⟩
 rw [Oper.semAt_eq _ _ _ (calmO_spec hd)]
 unfold Oper.wp at h
 generalize (execOp a.eval o).run P w = r at h ⊢
 cases r with
 | ok x w' =>
  cases x with
  | value v => exact hK _ _ h ⟨v, rfl⟩
  | skip => exact hK _ _ h ⟨undef, rfl⟩
  | defer d => exact hK _ _ h ⟨undef, by cases o.dst <;> rfl⟩
  | enter f args =>
   refine ⟨(fun e => by cases e), ?_⟩
   show CallsIn Fence.wide (n - 1) P f args w' _
   refine callsIn_wide.2 (Calls.mono h ?_)
   intro e w'' he
   cases e with
   | returned v => exact hK _ _ he ⟨v, rfl⟩
   | panicked ch => cases hQ _ _ _ he
   | outgrown => obtain ⟨a0, w0, q⟩ := he; cases hQ _ _ _ q
  | row row args =>
   refine ⟨(fun e => by cases e), fun c cs _ => ?_⟩
   obtain ⟨v, w2, r, s⟩ := h c cs
   exact ⟨v, w2, hK _ _ r ⟨v, rfl⟩, stepsIn_wide.2 s⟩
  | round => exact h.elim
  | _ => exact h.elim
 | halt x w' =>
  cases x with
  | panic v => cases hQ _ _ _ h
  | _ => exact h.elim
theorem list_in {P : Program} {ro : Option Nat} {n : Nat} {ops : Array Oper} {Q : Exit -> Act -> World -> Prop} (hQ : ∀ e a w, Q e a w -> e = .normal) {Y : List Nat} {yv : Value} : ∀ (l : List Oper) (a : Act) (w : World),
  wpList P ops Q l a w -> l.all (fun o => calmO o && dstFree Y o) = true -> Ys Y yv a.tmps -> wpListIn (wideR ro) n P ops (fun e a w => Q e a w /\ Ys Y yv a.tmps) l a w
 | [], a, w, h, _, hy => ⟨h, hy⟩
 | o :: r, a, w, h, hc, hy => by
  simp only [List.all_cons, Bool.and_eq_true] at hc
  unfold wpList at h
  unfold wpListIn
  split at h
  ·rename_i hw
   rw [if_pos hw]
   rcases h with h | ⟨_, a0, w0, q⟩
   ·refine op_in h hc.1.1 hQ fun a' w' hk ⟨v, hv⟩ => ?_
    exact list_in hQ r a' w' hk hc.2 (by rw [hv]; exact hy.put hc.1.2 v)
   ·cases hQ _ _ _ q
  ·rename_i hw
   rw [if_neg hw]
   exact ⟨fun _ _ => trivial, list_in hQ r _ w h hc.2 (hy.put hc.1.2 _)⟩
theorem any_in {P : Program} {ro : Option Nat} {n : Nat} {md : Region.Mode} {ops : Array Oper} {Q : Exit -> Act -> World -> Prop} (hQ : ∀ e a w, Q e a w -> e = .normal) {Y : List Nat} {yv : Value} (hc : ops.all (fun o => calmO o && dstFree Y o) = true) : ∀ (fuel : Nat) (listed : Array Bool) (a : Act) (w : World),
  wpAny P md ops Q fuel listed a w -> Ys Y yv a.tmps -> wpAnyIn (wideR ro) n P md ops (fun e a w => Q e a w /\ Ys Y yv a.tmps) fuel listed a w
 | 0, listed, a, w, h, hy => ⟨h.1, h.2, hy⟩
 | fuel + 1, listed, a, w, h, hy => by
  refine ⟨fun e => ⟨h.1 e, hy⟩, fun i hi => ?_⟩
  have h1 := h.2 i hi
  unfold wpOp at h1
  unfold wpOpIn
  cases ho : ops[i]? with
  | none =>
   rw [ho] at h1
   exact any_in hQ hc fuel _ a w h1 hy
  | some o =>
   rw [ho] at h1
   have hco : calmO o = true /\ dstFree Y o = true := by
    obtain ⟨hi2, e⟩ := Array.getElem?_eq_some_iff.1 ho
    have := (Array.all_eq_true.1 hc) i hi2
    rw [e] at this
    simpa using this
   simp only at h1 ⊢
   split at h1
   ·rename_i hw
    rw [if_pos hw]
    rcases h1 with h1 | ⟨_, a0, w0, q⟩
    ·refine op_in h1 hco.1 hQ fun a' w' hk ⟨v, hv⟩ => ?_
     exact any_in hQ hc fuel _ a' w' hk (by rw [hv]; exact hy.put hco.2 v)
    ·cases hQ _ _ _ q
   ·rename_i hw
    rw [if_neg hw]
    exact ⟨fun _ _ => trivial, any_in hQ hc fuel _ _ w h1 (hy.put hco.2 _)⟩
def calm : Code -> Bool
 | .skip => true
 | .region _ ops _ => ops.all fun o => calmO o && dstFree [] o
 | .seq a b => calm a && calm b
 | .cond _ x y => calm x && calm y
 | .block _ c => calm c
 | .loop c => calm c
 | .exit _ => true
 | .ret => true
 | .label _ => true
 | _ => false
def CodeOkG (P : Program) (ρ : Env) (self : CodeF) : Prop :=
 ∀ c t H o t' H', self c t H = some (o, t', H') -> ∀ (ro : Option Nat), (ro = none \/ calm c = true) -> ∀ (n : Nat) (ms : List Nat) (B : Nat) (a : Act) (w : World) (Q : Exit -> Act -> World -> Prop), RelT ρ ms t a.tmps -> Holds ρ ms H B w →
  (∀ ms' a' w', ms <+: ms' -> RelT ρ ms' t' a'.tmps -> a'.defers = a.defers -> Holds ρ ms' H' B w' -> Bel B w w' -> Q o.to a' w') -> c.wpIn (wideR ro) n P Q a w
theorem CodeOkG.plain {P : Program} {ρ : Env} {self : CodeF} (h : CodeOkG P ρ self) : CodeOk P ρ self :=
 fun c t H o t' H' hs ms B a w Q hT hH hQ => (wpIn_wide (n := 0)).1 (h c t H o t' H' hs none (.inl rfl) 0 ms B a w Q hT hH hQ)
theorem evG_gen {P : Program} {ρ : Env} {L : Lore} (hL : LoreOk ρ L) {mk : CodeF -> CallF} (hm : P.follows .mixedOrders = true) : ∀ n, (∀ k, k < n -> CallOk P ρ (mk (evG P L mk k))) -> CodeOkG P ρ (evG P L mk n) := by
 intro n
 induction n using Nat.strongRecOn with
 | _ n ih =>
  intro hcalls
  cases n with
  | zero => intro c t H o t' H' h; simp [evG] at h
  | succ n =>
   have ihn := ih n (by omega) (fun k hk => hcalls k (by omega))
   have hcall : CallOk P ρ (mk (evG P L mk n)) := hcalls n (by omega)
   intro c t H o t' H' h ro hro nn ms B a w Q hT hH hQ
   have sub : ∀ {c' : Code}, (calm c = true -> calm c' = true) -> (ro = none \/ calm c' = true) := fun f => hro.imp id f
   rw [evG] at h
   unfold codeStep at h
   split at h
   ·-- skip
    simp only [Option.some.injEq, Prod.mk.injEq] at h
    obtain ⟨rfl, rfl, rfl⟩ := h
    exact wpIn_skip (hQ ms a w (List.prefix_refl _) hT rfl hH (Bel.refl _ _))
   ·-- a region
    rename_i id ops
    rw [Option.map_eq_some_iff] at h
    obtain ⟨r, h1, h2⟩ := h
    simp only [Prod.mk.injEq] at h2
    obtain ⟨rfl, rfl, rfl⟩ := h2
    have key := evOps_ok (Q := fun e a w => e = .normal /\ Q .normal a w) hL hcall _ ms t H a w r.1 r.2 hT hH h1 fun ms' a' w' q1 q2 q3 q4 q5 => ⟨rfl, hQ ms' a' w' q1 q2 q3 q4 q5⟩
    rcases hro with rfl | hcm
    ·exact wpIn_wide.2 (Code.wp_mono (fun e a w q => by rw [q.1]; exact q.2) (wp_region_list (id := id) key))
    ·have hl : ops.toList.all (fun o => calmO o && dstFree [] o) = true := by simpa [calm] using hcm
     refine wpIn_mono (wpIn_region_list (list_in (Y := []) (yv := undef) (fun e a w q => q.1) _ a w key hl (fun y hy => by cases hy))) fun e a w q => ?_
     rw [q.1.1]; exact q.1.2
   ·-- a region whose order is open
    rename_i id ops
    rw [Option.map_eq_some_iff] at h
    obtain ⟨r, h1, h2⟩ := h
    simp only [Prod.mk.injEq] at h2
    obtain ⟨rfl, rfl, rfl⟩ := h2
    rcases hro with rfl | hcm
    ·exact wpIn_wide.2 (evPlan_ok hL hcall hm _ hT hH h1 fun ms' a' w' q1 q2 q3 q4 q5 => hQ ms' a' w' q1 q2 q3 q4 q5)
    ·have key := evPlan_any (Q := Q) hL hcall hT hH h1 fun ms' a' w' q1 q2 q3 q4 q5 => hQ ms' a' w' q1 q2 q3 q4 q5
     refine wpIn_mono (wpIn_region_any hm (any_in (Y := []) (yv := undef) (fun e a w q => q.1) (by simpa [calm] using hcm) _ _ a _ key (fun y hy => by cases hy))) fun e a w q => ?_
     rw [q.1.1]; exact q.1.2
   ·-- one behind the other
    rename_i x y
    have cx := sub (c' := x) (fun e => by simp only [calm, Bool.and_eq_true] at e; exact e.1)
    have cy := sub (c' := y) (fun e => by simp only [calm, Bool.and_eq_true] at e; exact e.2)
    split at h
    ·rename_i t1 H1 h1
     refine wpIn_seq (ihn x t H .normal t1 H1 h1 ro cx nn ms B a w _ hT hH fun ms1 a1 w1 q1 q2 q3 q4 q5 => ?_)
     exact ihn y t1 H1 o t' H' h ro cy nn ms1 B a1 w1 Q q2 q4 fun ms2 a2 w2 r1 r2 r3 r4 r5 => hQ ms2 a2 w2 (q1.trans r1) r2 (r3.trans q3) r4 (q5.trans r5)
    ·rename_i hne
     have hno : o ≠ .normal := fun e => by subst e; exact hne t' H' h
     refine wpIn_seq (ihn x t H o t' H' h ro cx nn ms B a w _ hT hH fun ms1 a1 w1 q1 q2 q3 q4 q5 => ?_)
     have := hQ ms1 a1 w1 q1 q2 q3 q4 q5
     cases o with
     | normal => exact absurd rfl hno
     | exit i => exact this
     | ret => exact this
   ·-- a choice
    rename_i cc x y
    have cx := sub (c' := x) (fun e => by simp only [calm, Bool.and_eq_true] at e; exact e.1)
    have cy := sub (c' := y) (fun e => by simp only [calm, Bool.and_eq_true] at e; exact e.2)
    split at h
    ·rename_i hc
     have e := evGet_ok hT hc
     simp only [AV.inst, TV.inst, SV.inst, Option.some.injEq] at e
     exact wpIn_cond_true e.symm (ihn x t H o t' H' h ro cx nn ms B a w Q hT hH hQ)
    ·rename_i hc
     have e := evGet_ok hT hc
     simp only [AV.inst, TV.inst, SV.inst, Option.some.injEq] at e
     exact wpIn_cond_false e.symm (ihn y t H o t' H' h ro cy nn ms B a w Q hT hH hQ)
    ·cases h
   ·-- a block
    rename_i id x
    have cx := sub (c' := x) (fun e => by simpa only [calm] using e)
    split at h
    ·rename_i i t1 H1 h1
     refine wpIn_block (ihn x t H (.exit i) t1 H1 h1 ro cx nn ms B a w _ hT hH fun ms1 a1 w1 q1 q2 q3 q4 q5 => ?_)
     simp only [Out.to, Exit.inBlock]
     split at h
     ·rename_i e
      rw [if_pos e]
      simp only [Option.some.injEq, Prod.mk.injEq] at h
      obtain ⟨rfl, rfl, rfl⟩ := h
      exact hQ ms1 a1 w1 q1 q2 q3 q4 q5
     ·rename_i e
      rw [if_neg e]
      simp only [Option.some.injEq, Prod.mk.injEq] at h
      obtain ⟨rfl, rfl, rfl⟩ := h
      exact hQ ms1 a1 w1 q1 q2 q3 q4 q5
    ·rename_i hne
     refine wpIn_block (ihn x t H o t' H' h ro cx nn ms B a w _ hT hH fun ms1 a1 w1 q1 q2 q3 q4 q5 => ?_)
     have := hQ ms1 a1 w1 q1 q2 q3 q4 q5
     cases o with
     | normal => exact this
     | exit i => exact absurd h (hne i t' H')
     | ret => exact this
   ·-- a loop
    rename_i x
    have cx := sub (c' := x) (fun e => by simpa only [calm] using e)
    have start : evG P L mk (n + 1) (.loop x) t H = some (o, t', H') := by rw [evG]; exact h
    let R : Nat -> Act -> World -> Prop := fun k a1 w1 => k <= n + 1 /\ ∃ ms1 t1 H1, evG P L mk k (.loop x) t1 H1 = some (o, t', H') /\ ms <+: ms1 /\ RelT ρ ms1 t1 a1.tmps /\ a1.defers = a.defers /\ Holds ρ ms1 H1 B w1 /\ Bel B w w1
    classical
    refine wpIn_loop (fun a1 w1 => ∃ k, R k a1 w1) (fun a1 w1 => if hx : ∃ k, R k a1 w1 then Classical.choose (has_least hx) else 0) ⟨n + 1, Nat.le_refl _, ms, t, H, start, List.prefix_refl _, hT, rfl, hH, Bel.refl _ _⟩ ?_
    intro a1 w1 hI
    have hmin := (Classical.choose_spec (has_least hI)).1
    have hall := (Classical.choose_spec (has_least hI)).2
    generalize hk : Classical.choose (has_least hI) = k at hmin hall
    obtain ⟨hle, ms1, t1, H1, hev, p1, p2, p3, p4, p5⟩ := hmin
    cases k with
    | zero => simp [evG] at hev
    | succ k =>
     have ihk := ih k (by omega) (fun j hj => hcalls j (by omega))
     rw [evG] at hev
     simp only [codeStep] at hev
     split at hev
     ·rename_i t2 H2 h2
      refine ihk x t1 H1 .normal t2 H2 h2 ro cx nn ms1 B a1 w1 _ p2 p4 fun ms2 a2 w2 q1 q2 q3 q4 q5 => ?_
      have hR : R k a2 w2 := ⟨by omega, ms2, t2, H2, hev, p1.trans q1, q2, q3.trans p3, q4, p5.trans q5⟩
      have hE : ∃ j, R j a2 w2 := ⟨k, hR⟩
      refine ⟨hE, ?_⟩
      rw [dif_pos hE, dif_pos hI, hk]
      exact Nat.lt_succ_of_le ((Classical.choose_spec (has_least hE)).2 k hR)
     ·rename_i hne
      refine ihk x t1 H1 o t' H' hev ro cx nn ms1 B a1 w1 _ p2 p4 fun ms2 a2 w2 q1 q2 q3 q4 q5 => ?_
      have := hQ ms2 a2 w2 (p1.trans q1) q2 (q3.trans p3) q4 (p5.trans q5)
      cases o with
      | normal => exact absurd hev (hne t' H')
      | exit i => exact this
      | ret => exact this
   ·simp only [Option.some.injEq, Prod.mk.injEq] at h
    obtain ⟨rfl, rfl, rfl⟩ := h
    exact wpIn_exit (hQ ms a w (List.prefix_refl _) hT rfl hH (Bel.refl _ _))
   ·simp only [Option.some.injEq, Prod.mk.injEq] at h
    obtain ⟨rfl, rfl, rfl⟩ := h
    exact wpIn_ret (hQ ms a w (List.prefix_refl _) hT rfl hH (Bel.refl _ _))
   ·simp only [Option.some.injEq, Prod.mk.injEq] at h
    obtain ⟨rfl, rfl, rfl⟩ := h
    exact wpIn_label (hQ ms a w (List.prefix_refl _) hT rfl hH (Bel.refl _ _))
   ·rename_i x
    rcases hro with rfl | hcm
    ·refine wpIn_wide.2 (wp_scope_straight ((wpIn_wide (n := nn)).1 (ihn _ t H o t' H' h none (.inl rfl) nn ms B a w _ hT hH fun ms2 a2 w2 q1 q2 q3 q4 q5 => ?_)))
     have := hQ ms2 a2 w2 q1 q2 q3 q4 q5
     cases o <;> exact this
    ·simp [calm] at hcm
   ·cases h
theorem evG_both {P : Program} {ρ : Env} {L : Lore} (hL : LoreOk ρ L) {mk : CodeF -> CallF} (hmk : ∀ self, CodeOkG P ρ self -> CallOk P ρ (mk self)) (hm : P.follows .mixedOrders = true) : ∀ n, CodeOkG P ρ (evG P L mk n) := by
 intro n
 induction n using Nat.strongRecOn with
 | _ n ih => exact evG_gen hL hm n fun k hk => hmk _ (ih k hk)
theorem cells_of_cell {w : World} {b j : Nat} {v : Value} (h : (w.cell? ⟨b, j, none⟩) = some v) {o : Obj} (ho : w.heap[b]? = some o) : o.isCells = true := by
 unfold World.cell? at h
 rw [ho] at h
 cases o <;> simp_all [Obj.isCells]
theorem Holds.put {ρ : Env} {ms : List Nat} {H : List Blk} {B : Nat} {w : World} (h : Holds ρ ms H B w) {l : Nat} {o : Obj} (ho : w.heap[l]? = some o) (hc : o.isCells = false) (o' : Obj) : Holds ρ ms H B (w.putObj l o') where
 len := h.len
 gl := h.gl
 inj := h.inj
 low := h.low
 bnd := fun i b k hi hk hne => by simpa using h.bnd i b k hi hk hne
 big := by simpa using h.big
 plain := h.plain
 cell := fun i b k hi hk j s hs => by
  obtain ⟨v, h1, h2, h3⟩ := h.cell i b k hi hk j s hs
  have hbl : b ≠ l := fun e => by
   subst e
   have := cells_of_cell h2 ho
   rw [this] at hc; cases hc
  refine ⟨v, h1, ?_, fun hr => ?_⟩
  ·rw [<- h2]; unfold World.cell?; rw [World.putObj_heap_other hbl]
  ·rw [<- h3 hr]; unfold World.frozen?; rw [World.putObj_heap_other hbl]
 room := fun i b c k0 k hi hc' hk0 hr0 hn0 hk hcap j hj => by
  obtain ⟨e1, e2⟩ := h.room i b c k0 k hi hc' hk0 hr0 hn0 hk hcap j hj
  have hbl : b ≠ l := fun e => by
   subst e
   cases hx : w.cell? ⟨b, j, none⟩ with
   | none => rw [hx] at e1; simp at e1
   | some x =>
    have := cells_of_cell hx ho
    rw [this] at hc; cases hc
  refine ⟨?_, ?_⟩
  ·rw [<- e1]; unfold World.cell?; rw [World.putObj_heap_other hbl]
  ·rw [<- e2]; unfold World.frozen?; rw [World.putObj_heap_other hbl]
structure BelX (l B : Nat) (w w' : World) : Prop extends Below B w w' where
 kept : ∀ (i : Nat) (o : Obj), i ≠ l -> w.heap[i]? = some o -> o.isCells = false -> w'.heap[i]? = some o
theorem BelX.refl (l B : Nat) (w : World) : BelX l B w w := ⟨Below.refl B w, fun _ _ _ h _ => h⟩
theorem BelX.trans {l B : Nat} {a b c : World} (h : BelX l B a b) (k : BelX l B b c) : BelX l B a c := ⟨h.toBelow.trans k.toBelow, fun i o hl hi hc => k.kept i o hl (h.kept i o hl hi hc) hc⟩
theorem Bel.x {l B : Nat} {w w' : World} (h : Bel B w w') : BelX l B w w' := ⟨h.toBelow, fun i o _ hi hc => h.kept i o hi hc⟩
theorem BelX.put {l B : Nat} (hl : B <= l) (w : World) (o : Obj) : BelX l B w (w.putObj l o) :=
 ⟨⟨rfl, rfl, rfl, by simp, fun k hk => World.putObj_heap_other (by omega)⟩, fun i o' hi h _ => (World.putObj_heap_other hi).trans h⟩
def Out.code : Out -> Code
 | .normal => .skip
 | .exit i => .exit i
 | .ret => .ret
def pendOf : Out -> Option Out
 | .normal => none
 | o => some o
def isN : Out -> Bool
 | .normal => true
 | _ => false
def RecP (mkL : LoopState -> Option Code -> Loop) (l : Nat) (p : Option Out) (w : World) : Prop := w.heap[l]? = some (.loop (match p with | none => mkL .ready none | some o => mkL .done (some o.code)))
theorem RecP.bel {mkL : LoopState -> Option Code -> Loop} {l : Nat} {p : Option Out} {B : Nat} {w w' : World} (h : RecP mkL l p w) (hb : Bel B w w') : RecP mkL l p w' := hb.kept l _ h rfl
abbrev YF := List AV -> List Blk -> Option (Out × List Blk)
def yv (l : Nat) : Value := .func (.yield l) #[] #[]
def YOk (P : Program) (ρ : Env) (m0 : List Nat) (l B : Nat) (mkL : LoopState -> Option Code -> Loop) (yh : YF) : Prop :=
 ∀ aas H o H', yh aas H = some (o, H') -> ∀ (n : Nat) (ms : List Nat) (w : World) (args : Array Value), m0 <+: ms -> aas.map (AV.inst ρ ms) = args.toList.map some -> Holds ρ ms H B w -> RecP mkL l none w -> ∀ (R : Ending -> World -> Prop),
  (∀ ms' w', ms <+: ms' -> Holds ρ ms' H' B w' -> RecP mkL l (pendOf o) w' -> BelX l B w w' -> R (.returned (.bool (isN o))) w') -> YieldAt Fence.wide n P l args w R
def setL : List (Nat × AV) -> Tm -> Tm
 | [], t => t
 | p :: r, t => setL r (t.set p.1 p.2)
theorem relT_zip {ρ : Env} {ms : List Nat} : ∀ (ps : List Nat) (aas : List AV) (args : List Value) (t : Tm) (tmps : Array Value), aas.map (AV.inst ρ ms) = args.map some -> RelT ρ ms t tmps →
  RelT ρ ms (setL (ps.zip aas) t) ((ps.zip args).foldl (fun (tm : Array Value) (p : Nat × Value) => tm.setIfInBounds p.1 p.2) tmps)
 | [], _, _, _, _, _, h => by simpa [setL] using h
 | p :: ps, [], [], t, tmps, _, h => by simpa [setL] using h
 | p :: ps, [], _ :: _, _, _, e, _ => by simp at e
 | p :: ps, _ :: _, [], _, _, e, _ => by simp at e
 | p :: ps, x :: aas, v :: args, t, tmps, e, h => by
  simp only [List.map_cons, List.cons.injEq] at e
  simp only [List.zip_cons_cons, setL, List.foldl_cons]
  exact relT_zip ps aas args _ _ e.2 (RelT.put (a := { tmps := tmps, defers := [] }) h p e.1)
def yhOf (self : CodeF) (ps : Array Tmp) (assign body : Code) (t0 : Tm) : YF := fun aas H =>
 match Nat.beq aas.length ps.size with
 | true =>
  match self assign (setL (ps.toList.zip aas) t0) H with
  | some (.normal, t2, H2) =>
   match self body t2 H2 with
   | some (o, _, H3) => some (o, H3)
   | none => none
  | _ => none
 | false => none
theorem yh_ok {P : Program} {ρ : Env} {self : CodeF} (hs : CodeOkG P ρ self) {fnn : FuncId} {tmps0 : Array Value} {ps : Array Tmp} {assign body : Code} {dd l B : Nat} (ha : calm assign = true) (hb : calm body = true) {m0 : List Nat} {t0 : Tm} (hT0 : RelT ρ m0 t0 tmps0) (hBl : B <= l) :
  YOk P ρ m0 l B (fun st pe => { state := st, pending := pe, fn := fnn, tmps := tmps0, params := ps, assign, body, defers := dd }) (yhOf self ps assign body t0) := by
 intro aas H o H' h n ms w args hms hargs hH hR R hK
 unfold yhOf at h
 split at h
 case h_2 => cases h
 rename_i hlen
 split at h
 case h_2 => cases h
 rename_i t2 H2 h1
 split at h
 case h_2 => cases h
 rename_i o' t3 H3 h2
 simp only [Option.some.injEq, Prod.mk.injEq] at h
 obtain ⟨rfl, rfl⟩ := h
 have hsz : args.size = ps.size := by
  have e1 := congrArg List.length hargs
  have e2 := Nat.eq_of_beq_eq_true hlen
  simp at e1
  omega
 unfold RecP at hR
 simp only at hR
 refine ⟨fnn, _, assign, body, run_yield (P := P) hR hsz, roundIn_of_wpIn (F := Fence.wide) trivial ?_⟩
 have hRel : RelT ρ ms (setL (ps.toList.zip aas) t0) ((ps.zip args).foldl (fun (tm : Array Value) (p : Nat × Value) => tm.setIfInBounds p.1 p.2) tmps0) := by
  have := relT_zip ps.toList aas args.toList t0 tmps0 hargs (hT0.mono hms)
  rw [<- Array.foldl_toList, Array.toList_zip]
  exact this
 refine hs assign _ H .normal t2 H2 h1 (some l) (.inr ha) n ms B _ w _ hRel hH fun ms1 a1 w1 q1 q2 q3 q4 q5 => ?_
 have hR1 := q5.kept l _ hR rfl
 refine ⟨_, run_beginRound hR1 rfl, ?_⟩
 have hR2 := World.putObj_heap_same (o := Obj.loop { state := .busy, pending := none, fn := fnn, tmps := tmps0, params := ps, assign := assign, body := body, defers := dd }) (Array.getElem?_eq_some_iff.1 hR1).1
 refine hs body t2 H2 o' t3 H3 h2 (some l) (.inr hb) n ms1 B a1 _ _ q2 (q4.put hR1 rfl _) fun ms3 a3 w3 r1 r2 r3 r4 r5 => ?_
 have hR3 := r5.kept l _ hR2 rfl
 have hlt := (Array.getElem?_eq_some_iff.1 hR3).1
 have hB : ∀ o4, BelX l B w (w3.putObj l o4) := fun o4 => ((q5.x.trans (BelX.put hBl _ _)).trans r5.x).trans (BelX.put hBl _ _)
 cases o' with
 | normal => exact ⟨_, _, run_endRound (P := P) none hR3, hK ms3 _ (q1.trans r1) (r4.put hR3 rfl _) (World.putObj_heap_same hlt) (hB _)⟩
 | exit i => exact ⟨_, _, run_endRound (P := P) (some (.exit i)) hR3, hK ms3 _ (q1.trans r1) (r4.put hR3 rfl _) (World.putObj_heap_same hlt) (hB _)⟩
 | ret => exact ⟨_, _, run_endRound (P := P) (some .ret) hR3, hK ms3 _ (q1.trans r1) (r4.put hR3 rfl _) (World.putObj_heap_same hlt) (hB _)⟩
def yCall (Y : List Nat) (o : Oper) : Option (List Operand) :=
 match o.guard with
 | none =>
  match o.op with
  | .call c =>
   match c.callee with
   | .value (.tmp y) => if Y.contains y then some c.args.toList else none
   | _ => none
  | _ => none
 | some _ => none
def yMove (Y : List Nat) (t : Tm) (o : Oper) : Option Nat :=
 match o.guard with
 | none =>
  match o.op with
  | .move (.tmp y) =>
   match o.dst with
   | some d => if Y.contains y && (t.get d).isNone && Nat.blt d t.n then some d else none
   | none => none
  | _ => none
 | some _ => none
noncomputable def evIOps (yh : YF) (call : CallF) (P : Program) (L : Lore) (ops : Array Oper) : List Oper -> List Nat -> Tm -> Option Out -> List Blk -> Option (Tm × Option Out × List Blk)
 | [], _, t, p, H => some (t, p, H)
 | o :: r, Y, t, p, H =>
  match yCall Y o with
  | some xs =>
   match p with
   | none =>
    match seqO (xs.map (evGet t)) with
    | some aas =>
     match dstFree Y o with
     | true =>
      match yh aas H with
      | some (out, H') => evIOps yh call P L ops r Y (putA t o.dst (.tv (.sc (.bool (isN out))))) (pendOf out) H'
      | none => none
     | false => none
    | none => none
   | some _ => none
  | none =>
   match yMove Y t o with
   | some d => evIOps yh call P L ops r (d :: Y) t p H
   | none =>
    match calmO o && dstFree Y o with
    | true =>
     match opsF call P L ops [o] t H with
     | some (t', H') => evIOps yh call P L ops r Y t' p H'
     | none => none
    | false => none
theorem wanted_none {o : Oper} (h : o.guard = none) (ops : Array Oper) (tm : Array Value) : Region.wanted o (yielded ops tm) = true := by
 unfold Region.wanted
 rw [h]
theorem evIOps_ok {P : Program} {ρ : Env} {L : Lore} (hL : LoreOk ρ L) {call : CallF} (hc : CallOk P ρ call) {m0 : List Nat} {l B : Nat} {mkL : LoopState -> Option Code -> Loop} {yh : YF} (hy : YOk P ρ m0 l B mkL yh) {ops : Array Oper} {n : Nat} {Q : Exit -> Act -> World -> Prop} :
  ∀ (lst : List Oper) (Y : List Nat) (t : Tm) (p : Option Out) (H : List Blk) (t' : Tm) (p' : Option Out) (H' : List Blk), evIOps yh call P L ops lst Y t p H = some (t', p', H') →
  ∀ (ms : List Nat) (a : Act) (w : World), m0 <+: ms -> RelT ρ ms t a.tmps -> Ys Y (yv l) a.tmps -> 0 ∈ Y -> Holds ρ ms H B w -> RecP mkL l p w →
  (∀ ms' a' w', ms <+: ms' -> RelT ρ ms' t' a'.tmps -> a'.tmps[0]? = some (yv l) -> a'.defers = a.defers -> Holds ρ ms' H' B w' -> RecP mkL l p' w' -> BelX l B w w' -> Q .normal a' w') -> wpListIn Fence.wide n P ops Q lst a w
 | [], Y, t, p, H, t', p', H', h, ms, a, w, hms, hT, hY, h0, hH, hR, hQ => by
  simp only [evIOps, Option.some.injEq, Prod.mk.injEq] at h
  obtain ⟨rfl, rfl, rfl⟩ := h
  exact hQ ms a w (List.prefix_refl _) hT (hY 0 h0) rfl hH hR (BelX.refl _ _ _)
 | o :: r, Y, t, p, H, t', p', H', h, ms, a, w, hms, hT, hY, h0, hH, hR, hQ => by
  simp only [evIOps] at h
  unfold wpListIn
  split at h
  ·-- the yield
   rename_i xs hx
   unfold yCall at hx
   split at hx
   case h_2 => cases hx
   rename_i hg
   split at hx
   case h_2 => cases hx
   rename_i c hop
   split at hx
   case h_2 => cases hx
   rename_i y hcal
   split at hx
   case isFalse => cases hx
   rename_i hyY
   simp only [Option.some.injEq] at hx
   subst hx
   split at h
   case h_2 => cases h
   split at h
   case h_2 => cases h
   rename_i aas has
   split at h
   case h_2 => cases h
   rename_i hdf
   split at h
   case h_2 => cases h
   rename_i out H1 hyh
   rw [wanted_none hg, if_pos rfl]
   have hyv : a.eval (.tmp y) = yv l := by
    have := hY y (by simpa using hyY)
    simp [Act.eval, Array.getD_eq_getD_getElem?, this]
   have hargs : aas.map (AV.inst ρ ms) = (c.args.map a.eval).toList.map some := by
    rw [seqO_iff] at has
    have key : ∀ (xs : List Operand) (aas : List AV), xs.map (evGet t) = aas.map some -> aas.map (AV.inst ρ ms) = (xs.map a.eval).map some := by
     intro xs
     induction xs with
     | nil => intro aas h; cases aas <;> simp at h ⊢
     | cons x xs ih =>
      intro aas h
      cases aas with
      | nil => simp at h
      | cons p aas =>
       simp only [List.map_cons, List.cons.injEq] at h ⊢
       exact ⟨evGet_ok hT h.1, ih aas h.2⟩
    have := key _ _ has
    rw [this]; simp
   obtain ⟨fnn, tm, as1, bd, hrun, hround⟩ := hy aas H out H1 hyh (n - 1) ms w (c.args.map a.eval) hms hargs hH hR (fun e w'' => match e with
    | .returned v => wpListIn Fence.wide n P ops Q r (a.put o.dst v) w''
    | .panicked chain => Q (.panic chain) a w''
    | .outgrown => LetsOut Q) (by
     intro ms1 w1 q1 q2 q3 q4
     have hT1 := (hT.mono q1).putA o.dst (x := .tv (.sc (.bool (isN out)))) (v := .bool (isN out)) rfl
     refine evIOps_ok hL hc hy r Y _ _ H1 t' p' H' h ms1 _ w1 (hms.trans q1) hT1 (hY.put hdf _) h0 q2 q3 fun ms2 a2 w2 r1 r2 r3 r4 r5 r6 r7 => ?_
     exact hQ ms2 a2 w2 (q1.trans r1) r2 r3 (r4.trans (put_defers _ _ _)) r5 r6 (q4.trans r7))
   refine ⟨fun f _ => trivial, ?_⟩
   rw [Oper.semAt_eq _ _ _ (fun c' e => by rw [hop] at e; cases e)]
   have hex : (execOp a.eval o).run P w = .ok (.round l fnn tm as1 bd) w := by
    simp only [execOp, hop, resolve, hcal, hyv, yv, Deferred.ofValue, Sem.run_bind, Sem.run_pure, Result.andThen_ok, invoke]
    simpa using hrun
   rw [hex]
   exact ⟨(fun e => by cases e), hround.mono fun e w1 he => by cases e <;> exact he⟩
  ·split at h
   ·-- the yield moved
    rename_i d hx
    unfold yMove at hx
    split at hx
    case h_2 => cases hx
    rename_i hg
    split at hx
    case h_2 => cases hx
    rename_i y hop
    split at hx
    case h_2 => cases hx
    rename_i d' hdst
    split at hx
    case isFalse => cases hx
    rename_i hcond
    simp only [Option.some.injEq] at hx
    subst hx
    simp only [Bool.and_eq_true] at hcond
    obtain ⟨⟨hyY, hnone⟩, hlt⟩ := hcond
    rw [wanted_none hg, if_pos rfl]
    have hyv : a.eval (.tmp y) = yv l := by
     have := hY y (by simpa using hyY)
     simp [Act.eval, Array.getD_eq_getD_getElem?, this]
    refine ⟨fun f _ => trivial, ?_⟩
    rw [Oper.semAt_eq _ _ _ (fun c' e => by rw [hop] at e; cases e)]
    have hex : (execOp a.eval o).run P w = .ok (.value (yv l)) w := by
     simp only [execOp, hop, hyv, Sem.run_pure]
    rw [hex]
    show wpListIn Fence.wide n P ops Q r (a.put o.dst (yv l)) w
    rw [hdst]
    have hdlt : d' < a.tmps.size := by rw [<- hT.sz]; exact Nat.le_of_ble_eq_true hlt
    refine evIOps_ok hL hc hy r (d' :: Y) t p H t' p' H' h ms _ w hms ⟨?_, hT.le, fun i x hi => ?_, hT.gl⟩ ?_ (List.mem_cons_of_mem _ h0) hH hR fun ms2 a2 w2 r1 r2 r3 r4 r5 r6 r7 => hQ ms2 a2 w2 r1 r2 r3 r4 r5 r6 r7
    ·simp [Act.put, hT.sz]
    ·obtain ⟨v, h1, h2⟩ := hT.val i x hi
     refine ⟨v, ?_, h2⟩
     simp only [Act.put]
     rw [Array.getElem?_setIfInBounds, if_neg (fun e => by subst e; rw [hi] at hnone; cases hnone)]
     exact h1
    ·intro z hz
     simp only [Act.put]
     rw [Array.getElem?_setIfInBounds]
     rcases List.mem_cons.1 hz with rfl | hz
     ·rw [if_pos rfl, if_pos hdlt]
     ·by_cases e : d' = z
      ·rw [if_pos e, if_pos hdlt]
      ·rw [if_neg e]; exact hY z hz
   ·split at h
    case h_2 => cases h
    rename_i hcd
    rw [Bool.and_eq_true] at hcd
    split at h
    case h_2 => cases h
    rename_i t1 H1 h1
    rw [opsF_eq] at h1
    have key : wpList P ops (fun e a' w' => e = .normal /\ ∃ ms', ms <+: ms' /\ RelT ρ ms' t1 a'.tmps /\ a'.defers = a.defers /\ Holds ρ ms' H1 B w' /\ Bel B w w') [o] a w :=
     evOps_ok hL hc [o] ms t H a w t1 H1 hT hH h1 fun ms' a' w' q1 q2 q3 q4 q5 => ⟨rfl, ms', q1, q2, q3, q4, q5⟩
    have go : ∀ a' w', (∃ ms', ms <+: ms' /\ RelT ρ ms' t1 a'.tmps /\ a'.defers = a.defers /\ Holds ρ ms' H1 B w' /\ Bel B w w') -> (∃ v, a'.tmps = (a.put o.dst v).tmps) -> wpListIn Fence.wide n P ops Q r a' w' := by
     rintro a' w' ⟨ms', q1, q2, q3, q4, q5⟩ ⟨v, hv⟩
     refine evIOps_ok hL hc hy r Y t1 p H1 t' p' H' h ms' a' w' (hms.trans q1) q2 (by rw [hv]; exact hY.put hcd.2 v) h0 q4 (hR.bel q5) fun ms2 a2 w2 r1 r2 r3 r4 r5 r6 r7 => ?_
     exact hQ ms2 a2 w2 (q1.trans r1) r2 r3 (r4.trans q3) r5 r6 (q5.x.trans r7)
    unfold wpList at key
    split at key
    ·rename_i hw
     rw [if_pos hw]
     rcases key with key | ⟨_, a0, w0, q⟩
     ·exact op_in (ro := none) key hcd.1 (fun e a w q => q.1) fun a' w' hk hv => go a' w' hk.2 hv
     ·cases q.1
    ·rename_i hw
     rw [if_neg hw]
     exact ⟨fun _ _ => trivial, go _ _ key.2 ⟨undef, rfl⟩⟩
noncomputable def evI (yh : YF) (call : CallF) (P : Program) (L : Lore) : Nat -> Code -> Tm -> Option Out -> List Blk -> Option (Out × Tm × Option Out × List Blk)
 | 0, _, _, _, _ => none
 | n + 1, c, t, p, H =>
  match c with
  | .skip => some (.normal, t, p, H)
  | .region _ ops false => (evIOps yh call P L ops ops.toList [0] t p H).map fun r => (.normal, r.1, r.2.1, r.2.2)
  | .region _ ops true =>
   match ops.all fun o => calmO o && dstFree [0] o with
   | true => (evPlanF call P L ops t H).map fun r => (.normal, r.1, p, r.2)
   | false => none
  | .seq x y =>
   match evI yh call P L n x t p H with
   | some (.normal, t', p', H') => evI yh call P L n y t' p' H'
   | r => r
  | .cond c x y =>
   match evGet t c with
   | some (.tv (.sc (.bool true))) => evI yh call P L n x t p H
   | some (.tv (.sc (.bool false))) => evI yh call P L n y t p H
   | _ => none
  | .block id c =>
   match evI yh call P L n c t p H with
   | some (.exit i, t', p', H') => if i = id then some (.normal, t', p', H') else some (.exit i, t', p', H')
   | r => r
  | .loop c =>
   match evI yh call P L n c t p H with
   | some (.normal, t', p', H') => evI yh call P L n (.loop c) t' p' H'
   | r => r
  | .exit id => some (.exit id, t, p, H)
  | .ret => some (.ret, t, p, H)
  | .label _ => some (.normal, t, p, H)
  | _ => none
theorem evI_ok {P : Program} {ρ : Env} {L : Lore} (hL : LoreOk ρ L) (hm : P.follows .mixedOrders = true) {call : CallF} (hc : CallOk P ρ call) {m0 : List Nat} {l B : Nat} {mkL : LoopState -> Option Code -> Loop} {yh : YF} (hy : YOk P ρ m0 l B mkL yh) (nn : Nat) :
  ∀ (n : Nat) (c : Code) (t : Tm) (p : Option Out) (H : List Blk) (o : Out) (t' : Tm) (p' : Option Out) (H' : List Blk), evI yh call P L n c t p H = some (o, t', p', H') →
  ∀ (ms : List Nat) (a : Act) (w : World) (Q : Exit -> Act -> World -> Prop), m0 <+: ms -> RelT ρ ms t a.tmps -> a.tmps[0]? = some (yv l) -> Holds ρ ms H B w -> RecP mkL l p w →
  (∀ ms' a' w', ms <+: ms' -> RelT ρ ms' t' a'.tmps -> a'.tmps[0]? = some (yv l) -> a'.defers = a.defers -> Holds ρ ms' H' B w' -> RecP mkL l p' w' -> BelX l B w w' -> Q o.to a' w') -> c.wpIn Fence.wide nn P Q a w := by
 intro n
 induction n using Nat.strongRecOn with
 | _ n ih =>
  cases n with
  | zero => intro c t p H o t' p' H' h; simp [evI] at h
  | succ n =>
   have ihn := ih n (by omega)
   intro c t p H o t' p' H' h ms a w Q hms hT h0 hH hR hQ
   have hstart := h
   unfold evI at h
   split at h
   ·simp only [Option.some.injEq, Prod.mk.injEq] at h
    obtain ⟨rfl, rfl, rfl, rfl⟩ := h
    exact wpIn_skip (hQ ms a w (List.prefix_refl _) hT h0 rfl hH hR (BelX.refl _ _ _))
   ·rw [Option.map_eq_some_iff] at h
    obtain ⟨r, h1, h2⟩ := h
    simp only [Prod.mk.injEq] at h2
    obtain ⟨rfl, rfl, rfl, rfl⟩ := h2
    exact wpIn_region_list (evIOps_ok hL hc hy _ [0] t p H r.1 r.2.1 r.2.2 h1 ms a w hms hT (fun y hy => by simp at hy; subst hy; exact h0) (by simp) hH hR hQ)
   ·rename_i id ops
    split at h
    case h_2 => cases h
    rename_i hcm
    rw [Option.map_eq_some_iff] at h
    obtain ⟨r, h1, h2⟩ := h
    simp only [Prod.mk.injEq] at h2
    obtain ⟨rfl, rfl, rfl, rfl⟩ := h2
    rw [evPlanF_eq] at h1
    have key := evPlan_any (Q := fun e a' w' => ∃ ms', ms <+: ms' /\ RelT ρ ms' r.1 a'.tmps /\ a'.defers = a.defers /\ Holds ρ ms' r.2 B w' /\ Bel B w w') hL hc hT hH h1 fun ms' a' w' q1 q2 q3 q4 q5 => ⟨ms', q1, q2, q3, q4, q5⟩
    refine wpIn_mono (wpIn_region_any hm (any_in (ro := none) (Y := [0]) (yv := yv l) (fun e a w q => q.1) hcm _ _ a _ key (fun y hy => by simp at hy; subst hy; exact h0))) fun e a1 w1 q => ?_
    obtain ⟨⟨rfl, ms', q1, q2, q3, q4, q5⟩, q6⟩ := q
    exact hQ ms' a1 w1 q1 q2 (q6 0 (by simp)) q3 q4 (hR.bel q5) q5.x
   ·rename_i x y
    split at h
    ·rename_i t1 p1 H1 h1
     refine wpIn_seq (ihn x t p H .normal t1 p1 H1 h1 ms a w _ hms hT h0 hH hR fun ms1 a1 w1 q1 q2 q3 q4 q5 q6 q7 => ?_)
     exact ihn y t1 p1 H1 o t' p' H' h ms1 a1 w1 Q (hms.trans q1) q2 q3 q5 q6 fun ms2 a2 w2 r1 r2 r3 r4 r5 r6 r7 => hQ ms2 a2 w2 (q1.trans r1) r2 r3 (r4.trans q4) r5 r6 (q7.trans r7)
    ·rename_i hne
     have hno : o ≠ .normal := fun e => by subst e; exact hne t' p' H' h
     refine wpIn_seq (ihn x t p H o t' p' H' h ms a w _ hms hT h0 hH hR fun ms1 a1 w1 q1 q2 q3 q4 q5 q6 q7 => ?_)
     have := hQ ms1 a1 w1 q1 q2 q3 q4 q5 q6 q7
     cases o with
     | normal => exact absurd rfl hno
     | exit i => exact this
     | ret => exact this
   ·rename_i cc x y
    split at h
    ·rename_i hcc
     have e := evGet_ok hT hcc
     simp only [AV.inst, TV.inst, SV.inst, Option.some.injEq] at e
     exact wpIn_cond_true e.symm (ihn x t p H o t' p' H' h ms a w Q hms hT h0 hH hR hQ)
    ·rename_i hcc
     have e := evGet_ok hT hcc
     simp only [AV.inst, TV.inst, SV.inst, Option.some.injEq] at e
     exact wpIn_cond_false e.symm (ihn y t p H o t' p' H' h ms a w Q hms hT h0 hH hR hQ)
    ·cases h
   ·rename_i id x
    split at h
    ·rename_i i t1 p1 H1 h1
     refine wpIn_block (ihn x t p H (.exit i) t1 p1 H1 h1 ms a w _ hms hT h0 hH hR fun ms1 a1 w1 q1 q2 q3 q4 q5 q6 q7 => ?_)
     simp only [Out.to, Exit.inBlock]
     split at h
     ·rename_i e
      rw [if_pos e]
      simp only [Option.some.injEq, Prod.mk.injEq] at h
      obtain ⟨rfl, rfl, rfl, rfl⟩ := h
      exact hQ ms1 a1 w1 q1 q2 q3 q4 q5 q6 q7
     ·rename_i e
      rw [if_neg e]
      simp only [Option.some.injEq, Prod.mk.injEq] at h
      obtain ⟨rfl, rfl, rfl, rfl⟩ := h
      exact hQ ms1 a1 w1 q1 q2 q3 q4 q5 q6 q7
    ·rename_i hne
     refine wpIn_block (ihn x t p H o t' p' H' h ms a w _ hms hT h0 hH hR fun ms1 a1 w1 q1 q2 q3 q4 q5 q6 q7 => ?_)
     have := hQ ms1 a1 w1 q1 q2 q3 q4 q5 q6 q7
     cases o with
     | normal => exact this
     | exit i => exact absurd h (hne i t' p' H')
     | ret => exact this
   ·rename_i x
    let R : Nat -> Act -> World -> Prop := fun k a1 w1 => k <= n + 1 /\ ∃ ms1 t1 p1 H1, evI yh call P L k (.loop x) t1 p1 H1 = some (o, t', p', H') /\ ms <+: ms1 /\ RelT ρ ms1 t1 a1.tmps /\ a1.tmps[0]? = some (yv l) /\ a1.defers = a.defers /\ Holds ρ ms1 H1 B w1 /\ RecP mkL l p1 w1 /\ BelX l B w w1
    classical
    refine wpIn_loop (fun a1 w1 => ∃ k, R k a1 w1) (fun a1 w1 => if hx : ∃ k, R k a1 w1 then Classical.choose (has_least hx) else 0) ⟨n + 1, Nat.le_refl _, ms, t, p, H, hstart, List.prefix_refl _, hT, h0, rfl, hH, hR, BelX.refl _ _ _⟩ ?_
    intro a1 w1 hI
    have hmin := (Classical.choose_spec (has_least hI)).1
    have hall := (Classical.choose_spec (has_least hI)).2
    generalize hk : Classical.choose (has_least hI) = k at hmin hall
    obtain ⟨hle, ms1, t1, p1, H1, hev, s1, s2, s3, s4, s5, s6, s7⟩ := hmin
    cases k with
    | zero => simp [evI] at hev
    | succ k =>
     have ihk := ih k (by omega)
     simp only [evI] at hev
     split at hev
     ·rename_i t2 p2 H2 h2
      refine ihk x t1 p1 H1 .normal t2 p2 H2 h2 ms1 a1 w1 _ (hms.trans s1) s2 s3 s5 s6 fun ms2 a2 w2 q1 q2 q3 q4 q5 q6 q7 => ?_
      have hRk : R k a2 w2 := ⟨by omega, ms2, t2, p2, H2, hev, s1.trans q1, q2, q3, q4.trans s4, q5, q6, s7.trans q7⟩
      have hE : ∃ j, R j a2 w2 := ⟨k, hRk⟩
      refine ⟨hE, ?_⟩
      rw [dif_pos hE, dif_pos hI, hk]
      exact Nat.lt_succ_of_le ((Classical.choose_spec (has_least hE)).2 k hRk)
     ·rename_i hne
      refine ihk x t1 p1 H1 o t' p' H' hev ms1 a1 w1 _ (hms.trans s1) s2 s3 s5 s6 fun ms2 a2 w2 q1 q2 q3 q4 q5 q6 q7 => ?_
      have := hQ ms2 a2 w2 (s1.trans q1) q2 q3 (q4.trans s4) q5 q6 (s7.trans q7)
      cases o with
      | normal => exact absurd hev (hne t' p' H')
      | exit i => exact this
      | ret => exact this
   ·simp only [Option.some.injEq, Prod.mk.injEq] at h
    obtain ⟨rfl, rfl, rfl, rfl⟩ := h
    exact wpIn_exit (hQ ms a w (List.prefix_refl _) hT h0 rfl hH hR (BelX.refl _ _ _))
   ·simp only [Option.some.injEq, Prod.mk.injEq] at h
    obtain ⟨rfl, rfl, rfl, rfl⟩ := h
    exact wpIn_ret (hQ ms a w (List.prefix_refl _) hT h0 rfl hH hR (BelX.refl _ _ _))
   ·simp only [Option.some.injEq, Prod.mk.injEq] at h
    obtain ⟨rfl, rfl, rfl, rfl⟩ := h
    exact wpIn_label (hQ ms a w (List.prefix_refl _) hT h0 rfl hH hR (BelX.refl _ _ _))
   ·cases h
def markD (d : Nat) : Deferred := { target := .collected d, args := #[] }
def Out.ends : Out -> Bool
 | .exit _ => false
 | _ => true
noncomputable def evRg (P : Program) (L : Lore) (call : CallF) (self : CodeF) (n : Nat) (g : Operand) (ps : Array Tmp) (assign body : Code) (t : Tm) (H : List Blk) : Option (Out × Tm × List Blk) :=
 match evGet t g with
 | some (.tv (.sc (.clo gi caps))) =>
  match canCall P gi && (calm assign && calm body) with
  | true =>
   match P.funcs[gi]? with
   | some fn =>
    match fn.body with
    | some c =>
     match Nat.ble fn.ntmps 512 && Nat.ble (caps.length + 1) fn.ntmps with
     | true =>
      match evI (yhOf self ps assign body t) call P L n c (Tm.fill 1 (ptrs caps) ⟨fn.ntmps, .emp⟩) none H with
      | some (o, t1, p1, H1) =>
       match o.ends with
       | true =>
        match evResults P fn t1 H1 with
        | some _ => some (match p1 with | none => .normal | some out => out, t, H1)
        | none => none
       | false => none
      | none => none
     | false => none
    | none => none
   | none => none
  | false => none
 | _ => none
theorem relT_iter {ρ : Env} {ms : List Nat} {caps : List (Nat × Nat)} {cvs : List Value} (e2 : caps.map (addr ms) = cvs.map some) {n : Nat} (hn : n <= 512) (hx : caps.length + 1 <= n) (hg : Gl ms) (y : Value) :
  RelT ρ ms (Tm.fill 1 (ptrs caps) ⟨n, .emp⟩) ((#[y] ++ cvs.toArray) ++ Array.replicate (n - (#[y] ++ cvs.toArray).size) undef) := by
 have hl : caps.length = cvs.length := by have := congrArg List.length e2; simpa using this
 refine ⟨by rw [Tm.fill_n]; simp; omega, by rw [Tm.fill_n]; exact hn, fun j x hj => ?_, hg⟩
 rcases Tm.get_fill (ptrs caps) 1 ⟨n, .emp⟩ hn j x hj with ⟨h1, h2⟩ | h1
 ·unfold ptrs at h2
  rw [List.getElem?_map, Option.map_eq_some_iff] at h2
  obtain ⟨p, hp, rfl⟩ := h2
  have h3 := congrArg (fun l => l[j - 1]?) e2
  simp only [List.getElem?_map, hp, Option.map_some] at h3
  obtain ⟨v, hv, hv2⟩ := Option.map_eq_some_iff.1 h3.symm
  have hlt := (List.getElem?_eq_some_iff.1 hv).1
  refine ⟨v, ?_, ?_⟩
  ·rw [Array.getElem?_append_left (by simp; omega), Array.getElem?_append_right (by simp; omega)]
   simpa using hv
  ·simp only [AV.inst, TV.inst, SV.inst]
   rw [<- hv2]
 ·unfold Tm.get at h1
  split at h1
  ·rw [Tr.law3.emp] at h1; cases h1
  ·cases h1
theorem evRg_ok {P : Program} {ρ : Env} {L : Lore} (hL : LoreOk ρ L) (hm : P.follows .mixedOrders = true) {call : CallF} (hc : CallOk P ρ call) {self : CodeF} (hs : CodeOkG P ρ self) {n : Nat} {g : Operand} {ps : Array Tmp} {assign body : Code} {t t' : Tm} {H H' : List Blk} {o : Out}
  (h : evRg P L call self n g ps assign body t H = some (o, t', H')) {ms : List Nat} {B : Nat} {a : Act} {w : World} {Q : Exit -> Act -> World -> Prop} (hT : RelT ρ ms t a.tmps) (hH : Holds ρ ms H B w)
  (hQ : ∀ ms' a' w' d, ms <+: ms' -> RelT ρ ms' t' a'.tmps -> a'.defers = markD d :: a.defers -> w'.heap[d]? = some (.deferred (some [])) -> w.heap.size <= d -> Holds ρ ms' H' B w' -> Bel B w w' -> Q o.to a' w') : (Code.rangeFunc g ps assign body).wp P Q a w := by
 unfold evRg at h
 split at h
 case h_2 => cases h
 rename_i gi caps hgv
 split at h
 case h_2 => cases h
 rename_i hcan
 simp only [Bool.and_eq_true] at hcan
 obtain ⟨hcan, hca, hcb⟩ := hcan
 split at h
 case h_2 => cases h
 rename_i fn hfn
 split at h
 case h_2 => cases h
 rename_i c hb
 split at h
 case h_2 => cases h
 rename_i hbd
 rw [Bool.and_eq_true] at hbd
 split at h
 case h_2 => cases h
 rename_i o1 t1 p1 H1 hev
 split at h
 case h_2 => cases h
 rename_i hends
 split at h
 case h_2 => cases h
 rename_i v1 hres
 simp only [Option.some.injEq, Prod.mk.injEq] at h
 obtain ⟨rfl, rfl, rfl⟩ := h
 have e0 := evGet_ok hT hgv
 simp only [AV.inst, TV.inst, SV.inst, Option.map_eq_some_iff] at e0
 obtain ⟨cvs, e2, e3⟩ := e0
 rw [seqO_iff] at e2
 unfold canCall at hcan
 rw [hfn] at hcan
 simp only [Bool.and_eq_true, bne_iff_ne, ne_eq] at hcan
 have eg : ∀ args w, (callFunc gi args).run P w = .ok (.enter gi args) w := fun args w => by
  have hn : (fn.name == "runtime.NumGoroutine") = false := by simpa using hcan.1
  simp [callFunc, program, Sem.run, hfn, hn, hb, go_sem]
  exact hcan.1
 refine (wpIn_wide (n := 1)).1 (wpIn_rangeFunc fun fnn hfnn => ?_)
 let R : LoopState -> Option Code -> Loop := fun st pe => { state := st, pending := pe, fn := fnn, tmps := a.tmps, params := ps, assign, body, defers := w.heap.size }
 obtain ⟨W1, hW1⟩ : ∃ W1, (w.alloc (.deferred (some []))).alloc (.loop (R .ready none)) = W1 := ⟨_, rfl⟩
 have hg1 : Bel w.heap.size w W1 := by
  rw [<- hW1]
  exact ((Bel.refl _ w).alloc (Nat.le_refl _) _).alloc (by simp) _
 have hl : RecP R (w.heap.size + 1) none W1 := by
  rw [<- hW1]
  have := World.alloc_heap_new (w.alloc (.deferred (some []))) (.loop (R .ready none))
  rwa [World.size_alloc] at this
 have hd : W1.heap[w.heap.size]? = some (.deferred (some [])) := by
  rw [<- hW1]
  exact (Below.heap_alloc _ _ _ (by simp)).trans (World.alloc_heap_new w _)
 have hBl : B <= w.heap.size + 1 := Nat.le_succ_of_le hH.big
 refine ⟨w.heap.size + 1, [markD w.heap.size], W1, { target := .fn (.func gi) cvs.toArray, args := #[yv (w.heap.size + 1)] }, W1, gi, #[yv (w.heap.size + 1)] ++ cvs.toArray, W1, ?_, ?_, ?_, ?_, fun _ => Nat.le_refl _, ?_⟩
 ·rw [<- hW1]; exact run_enterLoop_outer _ _ _ _ _
 ·simp only [resolve, <- e3]; simp [go_sem, yv]
 ·intro f' hf'; trivial
 ·simp [invoke, go_sem, eg, yv]
 ·refine callsIn_wide.2 (calls_of_wp hfn hb ((wpIn_wide (n := 0)).1 ?_))
  refine evI_ok hL hm hc (yh_ok hs hca hcb hT hBl) 0 n c _ none H o1 t1 p1 H1 hev ms _ W1 _ (List.prefix_refl _) (relT_iter e2 (Nat.le_of_ble_eq_true hbd.1) (Nat.le_of_ble_eq_true hbd.2) hT.gl _) ?_ (hH.below hg1.toBelow) hl fun ms' a' w' q1 q2 q3 q4 q5 q6 q7 => ?_
  ·simp [Array.getElem?_append]
  obtain ⟨u, e4, e5⟩ := evResults_ok q2 q5 hres
  have hBel : ∀ o4, Bel B w (w'.putObj (w.heap.size + 1) o4) := fun o4 => by
   have h1 := q7.trans (BelX.put hBl w' o4)
   refine ⟨(hg1.toBelow.mono hH.big).trans h1.toBelow, fun i o hi hcl => h1.kept i o ?_ (hg1.kept i o hi hcl) hcl⟩
   have := (Array.getElem?_eq_some_iff.1 hi).1
   omega
  have hmk : ∀ o4, (w'.putObj (w.heap.size + 1) o4).heap[w.heap.size]? = some (.deferred (some [])) := fun o4 => (World.putObj_heap_other (by omega)).trans (q7.kept _ _ (by omega) hd rfl)
  have fin : rangePost Fence.wide 1 P (w.heap.size + 1) Q { a with defers := [markD w.heap.size] ++ a.defers } (.returned u) w' := by
   unfold RecP at q6
   cases p1 with
   | none =>
    refine ⟨none, _, run_endLoop (P := P) q6 (by simp [R]), ?_⟩
    exact hQ ms' _ _ w.heap.size q1 (hT.mono q1) rfl (hmk _) (Nat.le_refl _) (q5.put q6 rfl _) (hBel _)
   | some out =>
    refine ⟨some out.code, _, run_endLoop (P := P) q6 (by simp [R]), ?_⟩
    have := hQ ms' { a with defers := [markD w.heap.size] ++ a.defers } _ w.heap.size q1 (hT.mono q1) rfl (hmk (.loop { R .done (some out.code) with state := .exhausted })) (Nat.le_refl _) (q5.put q6 rfl _) (hBel _)
    cases out with
    | normal => exact wpIn_skip this
    | exit i => exact wpIn_exit this
    | ret => exact wpIn_ret this
  cases o1 with
  | normal => exact ⟨q4, u, e5, fin⟩
  | exit i => cases hends
  | ret => exact ⟨q4, u, e5, fin⟩
def hasRange : Code -> Bool
 | .rangeFunc _ _ _ _ => true
 | .seq a b => hasRange a || hasRange b
 | .cond _ x y => hasRange x || hasRange y
 | .block _ c => hasRange c
 | .loop c => hasRange c
 | _ => false
noncomputable def evR (P : Program) (L : Lore) (call : CallF) (self : CodeF) : Nat -> CodeF
 | 0, _, _, _ => none
 | n + 1, c, t, H =>
  match hasRange c with
  | false => self c t H
  | true =>
   match c with
   | .seq x y =>
    match evR P L call self n x t H with
    | some (.normal, t', H') => evR P L call self n y t' H'
    | r => r
   | .cond c x y =>
    match evGet t c with
    | some (.tv (.sc (.bool true))) => evR P L call self n x t H
    | some (.tv (.sc (.bool false))) => evR P L call self n y t H
    | _ => none
   | .block id c =>
    match evR P L call self n c t H with
    | some (.exit i, t', H') => if i = id then some (.normal, t', H') else some (.exit i, t', H')
    | r => r
   | .loop c =>
    match evR P L call self n c t H with
    | some (.normal, t', H') => evR P L call self n (.loop c) t' H'
    | r => r
   | .rangeFunc g ps assign body => evRg P L call self n g ps assign body t H
   | _ => none
structure Marks (b : Nat) (ds : List Nat) (w : World) : Prop where
 nodup : ds.Nodup
 ok : ∀ d ∈ ds, w.heap[d]? = some (.deferred (some [])) /\ b <= d
theorem Marks.nil (b : Nat) (w : World) : Marks b [] w := ⟨List.nodup_nil, fun d hd => by cases hd⟩
theorem Marks.add {b B : Nat} {ds es : List Nat} {w1 w2 : World} (h : Marks b ds w1) (hb : b <= w1.heap.size) (hl : Bel B w1 w2) (k : Marks w1.heap.size es w2) : Marks b (es ++ ds) w2 := by
 refine ⟨List.nodup_append.2 ⟨k.nodup, h.nodup, fun x hx y hy e => ?_⟩, fun d hd => ?_⟩
 ·subst e
  have h1 := (k.ok x hx).2
  have h2 := (Array.getElem?_eq_some_iff.1 (h.ok x hy).1).1
  omega
 ·rcases List.mem_append.1 hd with hd | hd
  ·exact ⟨(k.ok d hd).1, Nat.le_trans hb (k.ok d hd).2⟩
  ·exact ⟨hl.kept d _ (h.ok d hd).1 rfl, (h.ok d hd).2⟩
theorem evR_ok {P : Program} {ρ : Env} {L : Lore} (hL : LoreOk ρ L) (hm : P.follows .mixedOrders = true) {call : CallF} (hc : CallOk P ρ call) {self : CodeF} (hs : CodeOkG P ρ self) :
  ∀ (n : Nat) (c : Code) (t : Tm) (H : List Blk) (o : Out) (t' : Tm) (H' : List Blk), evR P L call self n c t H = some (o, t', H') →
  ∀ (ms : List Nat) (B : Nat) (a : Act) (w : World) (Q : Exit -> Act -> World -> Prop), RelT ρ ms t a.tmps -> Holds ρ ms H B w →
  (∀ ms' a' w' ds, ms <+: ms' -> RelT ρ ms' t' a'.tmps -> a'.defers = ds.map markD ++ a.defers -> Marks w.heap.size ds w' -> Holds ρ ms' H' B w' -> Bel B w w' -> Q o.to a' w') -> c.wp P Q a w := by
 intro n
 induction n using Nat.strongRecOn with
 | _ n ih =>
  cases n with
  | zero => intro c t H o t' H' h; simp [evR] at h
  | succ n =>
   have ihn := ih n (by omega)
   intro c t H o t' H' h ms B a w Q hT hH hQ
   have hstart := h
   unfold evR at h
   split at h
   ·exact hs.plain c t H o t' H' h ms B a w Q hT hH fun ms' a' w' q1 q2 q3 q4 q5 => hQ ms' a' w' [] q1 q2 q3 (Marks.nil _ _) q4 q5
   rename_i hhas
   split at h
   ·rename_i x y
    split at h
    ·rename_i t1 H1 h1
     refine wp_seq (ihn x t H .normal t1 H1 h1 ms B a w _ hT hH fun ms1 a1 w1 ds1 q1 q2 q3 q4 q5 q6 => ?_)
     refine ihn y t1 H1 o t' H' h ms1 B a1 w1 Q q2 q5 fun ms2 a2 w2 ds2 r1 r2 r3 r4 r5 r6 => ?_
     exact hQ ms2 a2 w2 (ds2 ++ ds1) (q1.trans r1) r2 (by rw [r3, q3]; simp) (q4.add q6.size r6 r4) r5 (q6.trans r6)
    ·rename_i hne
     have hno : o ≠ .normal := fun e => by subst e; exact hne t' H' h
     refine wp_seq (ihn x t H o t' H' h ms B a w _ hT hH fun ms1 a1 w1 ds1 q1 q2 q3 q4 q5 q6 => ?_)
     have := hQ ms1 a1 w1 ds1 q1 q2 q3 q4 q5 q6
     cases o with
     | normal => exact absurd rfl hno
     | exit i => exact this
     | ret => exact this
   ·rename_i cc x y
    split at h
    ·rename_i hcc
     have e := evGet_ok hT hcc
     simp only [AV.inst, TV.inst, SV.inst, Option.some.injEq] at e
     exact wp_cond_true e.symm (ihn x t H o t' H' h ms B a w Q hT hH hQ)
    ·rename_i hcc
     have e := evGet_ok hT hcc
     simp only [AV.inst, TV.inst, SV.inst, Option.some.injEq] at e
     exact wp_cond_false e.symm (ihn y t H o t' H' h ms B a w Q hT hH hQ)
    ·cases h
   ·rename_i id x
    split at h
    ·rename_i i t1 H1 h1
     refine wp_block (ihn x t H (.exit i) t1 H1 h1 ms B a w _ hT hH fun ms1 a1 w1 ds1 q1 q2 q3 q4 q5 q6 => ?_)
     simp only [Out.to, Exit.inBlock]
     split at h
     ·rename_i e
      rw [if_pos e]
      simp only [Option.some.injEq, Prod.mk.injEq] at h
      obtain ⟨rfl, rfl, rfl⟩ := h
      exact hQ ms1 a1 w1 ds1 q1 q2 q3 q4 q5 q6
     ·rename_i e
      rw [if_neg e]
      simp only [Option.some.injEq, Prod.mk.injEq] at h
      obtain ⟨rfl, rfl, rfl⟩ := h
      exact hQ ms1 a1 w1 ds1 q1 q2 q3 q4 q5 q6
    ·rename_i hne
     refine wp_block (ihn x t H o t' H' h ms B a w _ hT hH fun ms1 a1 w1 ds1 q1 q2 q3 q4 q5 q6 => ?_)
     have := hQ ms1 a1 w1 ds1 q1 q2 q3 q4 q5 q6
     cases o with
     | normal => exact this
     | exit i => exact absurd h (hne i t' H')
     | ret => exact this
   ·rename_i x
    let R : Nat -> Act -> World -> Prop := fun k a1 w1 => k <= n + 1 /\ ∃ ms1 t1 H1 ds, evR P L call self k (.loop x) t1 H1 = some (o, t', H') /\ ms <+: ms1 /\ RelT ρ ms1 t1 a1.tmps /\ a1.defers = ds.map markD ++ a.defers /\ Marks w.heap.size ds w1 /\ Holds ρ ms1 H1 B w1 /\ Bel B w w1
    classical
    refine wp_loop (fun a1 w1 => ∃ k, R k a1 w1) (fun a1 w1 => if hx : ∃ k, R k a1 w1 then Classical.choose (has_least hx) else 0) ⟨n + 1, Nat.le_refl _, ms, t, H, [], hstart, List.prefix_refl _, hT, rfl, Marks.nil _ _, hH, Bel.refl _ _⟩ ?_
    intro a1 w1 hI
    have hmin := (Classical.choose_spec (has_least hI)).1
    have hall := (Classical.choose_spec (has_least hI)).2
    generalize hk : Classical.choose (has_least hI) = k at hmin hall
    obtain ⟨hle, ms1, t1, H1, ds, hev, s1, s2, s3, s4, s5, s6⟩ := hmin
    cases k with
    | zero => simp [evR] at hev
    | succ k =>
     have ihk := ih k (by omega)
     unfold evR at hev
     rw [hhas] at hev
     simp only at hev
     split at hev
     ·rename_i t2 H2 h2
      refine ihk x t1 H1 .normal t2 H2 h2 ms1 B a1 w1 _ s2 s5 fun ms2 a2 w2 ds2 q1 q2 q3 q4 q5 q6 => ?_
      have hRk : R k a2 w2 := ⟨by omega, ms2, t2, H2, ds2 ++ ds, hev, s1.trans q1, q2, by rw [q3, s3]; simp, s4.add s6.size q6 q4, q5, s6.trans q6⟩
      have hE : ∃ j, R j a2 w2 := ⟨k, hRk⟩
      refine ⟨hE, ?_⟩
      rw [dif_pos hE, dif_pos hI, hk]
      exact Nat.lt_succ_of_le ((Classical.choose_spec (has_least hE)).2 k hRk)
     ·rename_i hne
      refine ihk x t1 H1 o t' H' hev ms1 B a1 w1 _ s2 s5 fun ms2 a2 w2 ds2 q1 q2 q3 q4 q5 q6 => ?_
      have := hQ ms2 a2 w2 (ds2 ++ ds) (s1.trans q1) q2 (by rw [q3, s3]; simp) (s4.add s6.size q6 q4) q5 (s6.trans q6)
      cases o with
      | normal => exact absurd hev (hne t' H')
      | exit i => exact this
      | ret => exact this
   ·exact evRg_ok hL hm hc hs h hT hH fun ms' a' w' d q1 q2 q3 q4 q5 q6 q7 => hQ ms' a' w' [d] q1 q2 q3 ⟨by simp, fun e he => by simp at he; subst he; exact ⟨q4, q5⟩⟩ q6 q7
   ·cases h
theorem leave_all {P : Program} {ρ : Env} {fn : Func} {tmps : Array Value} {R : Ending -> World -> Prop} {ms : List Nat} {H : List Blk} {B : Nat} {w0 : World} (hB : B <= w0.heap.size) (hfin : ∀ w, Holds ρ ms H B w -> Bel B w0 w -> ∃ v, (results fn tmps).run P w = .ok v w /\ R (.returned v) w) :
  ∀ (ds : List Nat) (w : World), Marks w0.heap.size ds w -> Holds ρ ms H B w -> Bel B w0 w -> LeavesInM Fence.wide 1 P fn tmps R (ds.map markD) .returning w
 | [], w, _, hH, hb => hfin w hH hb
 | d :: ds, w, hm, hH, hb => by
  obtain ⟨h1, h2⟩ := hm.ok d (List.mem_cons_self ..)
  obtain ⟨n1, n2⟩ := List.nodup_cons.1 hm.nodup
  refine ⟨by simp, .inl ⟨d, _, rfl, run_takeDeferred h1, ?_⟩⟩
  refine leave_all hB hfin ds _ ⟨n2, fun e he => ?_⟩ (hH.put h1 rfl _) ?_
  ·obtain ⟨q1, q2⟩ := hm.ok e (List.mem_cons_of_mem _ he)
   exact ⟨(World.putObj_heap_other (show e ≠ d from fun h => n1 (h ▸ he))).trans q1, q2⟩
  ·refine ⟨⟨hb.os, hb.tape, hb.output, by simpa using hb.size, fun k hk => (World.putObj_heap_other (by omega)).trans (hb.block k hk)⟩, fun i o hi hc => ?_⟩
   have := (Array.getElem?_eq_some_iff.1 hi).1
   exact (World.putObj_heap_other (by omega)).trans (hb.kept i o hi hc)
noncomputable def callR (P : Program) (L : Lore) (base : CodeF -> CallF) (N : Nat) (self : CodeF) : CallF := fun g aas H =>
 match P.funcs[g]? with
 | some fn =>
  match fn.body with
  | some c =>
   match hasRange c with
   | true =>
    match Nat.ble fn.ntmps 512 && Nat.ble aas.length fn.ntmps with
    | true =>
     match evR P L (base self) self N c (Tm.make fn.ntmps aas) H with
     | some (o, t, H') =>
      match o.ends with
      | true => (evResults P fn t H').map fun v => (v, trim H.length v H')
      | false => none
     | none => none
    | false => none
   | false => base self g aas H
  | none => base self g aas H
 | none => none
theorem callR_ok {P : Program} {ρ : Env} {L : Lore} (hL : LoreOk ρ L) (hm : P.follows .mixedOrders = true) {base : CodeF -> CallF} (hbase : ∀ self, CodeOk P ρ self -> CallOk P ρ (base self)) (N : Nat) (self : CodeF) (hs : CodeOkG P ρ self) : CallOk P ρ (callR P L base N self) := by
 intro g aas H v H' h ms B w args hargs hH
 unfold callR at h
 split at h
 case h_2 => cases h
 rename_i fn hfn
 split at h
 case h_2 => exact hbase self hs.plain g aas H v H' h ms B w args hargs hH
 rename_i c hb
 split at h
 case h_2 => exact hbase self hs.plain g aas H v H' h ms B w args hargs hH
 split at h
 case h_2 => cases h
 rename_i hbd
 rw [Bool.and_eq_true] at hbd
 split at h
 case h_2 => cases h
 rename_i o t H1 hev
 split at h
 case h_2 => cases h
 rename_i hends
 rw [Option.map_eq_some_iff] at h
 obtain ⟨v', hr, hv⟩ := h
 simp only [Prod.mk.injEq] at hv
 obtain ⟨rfl, rfl⟩ := hv
 have hT : RelT ρ ms (Tm.make fn.ntmps aas) (args ++ Array.replicate (fn.ntmps - args.size) undef) := RelT.make hargs (Nat.le_of_ble_eq_true hbd.1) (Nat.le_of_ble_eq_true hbd.2) hH.gl
 refine (callsIn_wide (n := 1)).1 (callsIn_of_wp_marks hfn hb trivial (wpIn_wide.2 ?_) rfl)
 refine evR_ok hL hm (hbase self hs.plain) hs N c _ H o t H1 hev ms B _ w _ hT hH fun ms' a' w' ds q1 q2 q3 q4 q5 q6 => ?_
 have key : LeavesInM Fence.wide 1 P fn a'.tmps (fun e w' => ∃ ms' u, e = .returned u /\ ms <+: ms' /\ v'.inst ρ ms' = some u /\ Holds ρ ms' (trim H.length v' H1) B w' /\ Bel B w w') a'.defers .returning w' := by
  rw [q3, List.append_nil]
  refine leave_all hH.big (fun w2 hH2 hb2 => ?_) ds w' q4 q5 q6
  obtain ⟨u, e1, e2⟩ := evResults_ok q2 hH2 hr
  obtain ⟨ms2, r1, r2, r3⟩ := trim_ok q1 hH.gl hH.len e1 hH2
  exact ⟨u, e2, ms2, u, rfl, r1, r2, r3, hb2⟩
 cases o with
 | normal => exact key
 | exit i => cases hends
 | ret => exact key
noncomputable def evCallR (P : Program) (L : Lore) (base : CodeF -> CallF) (N n : Nat) : CallF := callR P L base N (evGF P L (callR P L base N) n)
theorem evCallR_ok {P : Program} {ρ : Env} {L : Lore} (hL : LoreOk ρ L) (hm : P.follows .mixedOrders = true) {base : CodeF -> CallF} (hbase : ∀ self, CodeOk P ρ self -> CallOk P ρ (base self)) (N n : Nat) : CallOk P ρ (evCallR P L base N n) := by
 unfold evCallR
 rw [evGF_eq]
 exact callR_ok hL hm hbase N _ (evG_both hL (callR_ok hL hm hbase N) hm n)
end Go.Proofs.YtdgollnapbonjaaGreatDoor.Ev
