/- Of the road to cutSegments_holds: CutRef, CutAg, CutSz, U8, Clone, Slices, Join, Owns, CutSeg, CutPc, CutSgs, RangeN, RangeD. -/
import Derived.Test.YtjfebbhnjcnepaaG04
import Derived.Test.YtjfebbhnjcnepaaG00
import Derived.Test.YtjfebbhnjcnepaaChecked
import Derived.Laws.AppendOwnNone
import Derived.Deep.RegionHeld
import Derived.Test.YtjfebbhnjcnepaaG03
import Derived.OrdersHeld
set_option linter.unusedVariables false
set_option linter.unusedSimpArgs false
namespace Go.Proofs.Ytjfebbhnjcnepaa
open Go Go.RowKit Ev
def upX : Ex := .ari .add .i64 (.ari .quo .i64 (.var 0) (.var 1)) (.ari .quo .i64 (.ari .sub .i64 (.ari .add .i64 (.ari .rem .i64 (.var 0) (.var 1)) (.var 1)) (.lit 1)) (.var 1))
theorem rup_ev : (evCallF Try.prog (tabLore [(.neq, .var 1, .lit 0, true)] []) (tabCon []) 100 38 [B64 0, B64 1] H0).map (·.1) = some (E64 upX) := by kernel_rfl
theorem rup_any (w : World) (x y : Int) (hx : 1 ≤ x) (hx2 : x ≤ 4611686018427387904) (hy : 1 ≤ y) (hy2 : y ≤ 1073741824) : Calls Try.prog 38 #[.int .i64 x, .int .i64 y] w fun e w' => e = .returned (.int .i64 (upI x y)) ∧ Below w.heap.size w w' := by
  refine ev_row (ρ := envI [x, y] (.tuple #[])) (c := [(.neq, .var 1, .lit 0, true)]) (all1 (show some (y != 0) = some true by rw [bne_iff_ne.2 (show y ≠ 0 by omega)])) alln alln rup_ev [.int .i64 x, .int .i64 y] _ rfl (fun ms => ?_) w
  have h2 := Int.emod_nonneg x (show y ≠ 0 by omega)
  have h3 := Int.emod_lt_of_pos x (show 0 < y by omega)
  have q1 := Int.ediv_nonneg (show 0 ≤ x by omega) (show 0 ≤ y by omega)
  have q2 := Int.ediv_le_self y (show 0 ≤ x by omega)
  have q3 := Int.ediv_nonneg (show 0 ≤ x % y + y - 1 by omega) (show 0 ≤ y by omega)
  have q4 := Int.ediv_le_self y (show 0 ≤ x % y + y - 1 by omega)
  rw [E64_inst]
  show some (Value.int .i64 (IntKind.i64.wrap (IntKind.i64.wrap (x.tdiv y) + IntKind.i64.wrap ((IntKind.i64.wrap (IntKind.i64.wrap (x.tmod y + y) - 1)).tdiv y)))) = _
  rw [Int.tdiv_eq_ediv_of_nonneg (by omega), Int.tmod_eq_emod_of_nonneg (by omega), wrap64 (x := x % y + y) (by omega) (by omega), wrap64 (x := x % y + y - 1) (by omega) (by omega), Int.tdiv_eq_ediv_of_nonneg (by omega), wrap64 (x := x / y) (by omega) (by omega), wrap64 (x := (x % y + y - 1) / y) (by omega) (by omega), wrap64 (by omega) (by omega), up_ref (by omega) hy]
set_option maxRecDepth 100000 in
set_option maxHeartbeats 8000000 in
theorem rcheck_any (w : World) (k n g h : Int) (p : Option Addr) (l c : Nat) : Calls Try.prog 36 #[prV k n g h (.slice p l c)] w fun e w' => e = .returned (.int .i64 (chkE k n g l)) ∧ Below w.heap.size w w' := by
  unfold prV
  go_enter Try.func36, Try.ntmps36
  by_cases h1 : n < 1
  · have F : Hid (chkE k n g l = 3) := if_neg fun h => by have := h.1; have := h.2.1; omega
    go_wp2; go_ret; rw [F.out]; exact ⟨rfl, below_alloc _ _⟩
  by_cases h2 : 255 < n
  · have F : Hid (chkE k n g l = 3) := if_neg fun h => by have := h.2.2.1; omega
    go_wp2; go_ret; rw [F.out]; exact ⟨rfl, below_alloc _ _⟩
  by_cases h3 : k < 1
  · have F : Hid (chkE k n g l = 3) := if_neg fun h => by have := h.1; omega
    go_wp2; go_ret; rw [F.out]; exact ⟨rfl, below_alloc _ _⟩
  by_cases h4 : n < k
  · have F : Hid (chkE k n g l = 3) := if_neg fun h => by have := h.2.1; omega
    go_wp2; go_ret; rw [F.out]; exact ⟨rfl, below_alloc _ _⟩
  by_cases h5 : g < 1
  · have F : Hid (chkE k n g l = 3) := if_neg fun h => by have := h.2.2.2.1; omega
    go_wp2; go_ret; rw [F.out]; exact ⟨rfl, below_alloc _ _⟩
  by_cases h6 : 65536 < g
  · have F : Hid (chkE k n g l = 3) := if_neg fun h => by have := h.2.2.2.2.1; omega
    go_wp2; go_ret; rw [F.out]; exact ⟨rfl, below_alloc _ _⟩
  by_cases h7 : (64 : Int) < (l : Int)
  · have F : Hid (chkE k n g l = 3) := if_neg fun h => by have := h.2.2.2.2.2; omega
    go_wp2; go_ret; rw [F.out]; exact ⟨rfl, below_alloc _ _⟩
  · have F : Hid (chkE k n g l = 0) := if_pos ⟨by omega, by omega, by omega, by omega, by omega, by omega⟩
    go_wp2; go_ret; rw [F.out]; exact ⟨rfl, below_alloc _ _⟩
def tLaid : List (Nat × List AV × AV) := [(38, [B64 3, B64 2], B64 4), (38, [E64 tailX, B64 0], B64 5)]
theorem laid_ev : (evCallF Try.prog (tabLore cShaped []) (tabCon tLaid) 100 37 [B64 0, B64 1, B64 2, B64 3] H0).map (·.1) = some (.tv (rw64 [.var 0, .var 1, .var 2, .var 3, .var 4, tailX, .ari .quo .i64 (.var 2) (.var 0), .var 5])) := by kernel_rfl
theorem laid_any (w : World) (k n g z : Int) (hk : 1 ≤ k) (hk2 : k ≤ 255) (hg : 1 ≤ g) (hg2 : g ≤ 65790) (hz : 1 ≤ z) (hz2 : z ≤ 16777216) : Calls Try.prog 37 #[.int .i64 k, .int .i64 n, .int .i64 g, .int .i64 z] w fun e w' => e = .returned (shV (shR k n g z)) ∧ Below w.heap.size w w' := by
  have s1 := upI_pos hz hg
  have s2 := upI_le hz hg
  have t1 := tlI_pos (x := z) hg
  have t2 := tlI_le (x := z) hg
  have te := tail_eq z g
  have hm : (upI z g - 1) * g ≤ z := by have := up_split z g; omega
  have hm0 : 0 ≤ (upI z g - 1) * g := Int.mul_nonneg (by omega) (by omega)
  let ρ := envI [k, n, g, z, upI z g, upI (tlI z g) k] (.tuple #[])
  have hT : Ex.den ρ tailX = tlI z g := by
    show IntKind.i64.wrap (z - IntKind.i64.wrap (IntKind.i64.wrap (upI z g - 1) * g)) = tlI z g
    rw [wrap64 (x := upI z g - 1) (by omega) (by omega), wrap64 (x := (upI z g - 1) * g) (by omega) (by omega), te, wrap64 (by omega) (by omega)]
  have hq : IntKind.i64.wrap (g.tdiv k) = g / k := by
    rw [Int.tdiv_eq_ediv_of_nonneg (by omega)]
    have a := Int.ediv_nonneg (show 0 ≤ g by omega) (show 0 ≤ k by omega)
    have b := Int.ediv_le_self k (show 0 ≤ g by omega)
    exact wrap64 (by omega) (by omega)
  refine ev_row (ρ := ρ) (c := cShaped) (r := []) (t := tLaid) ?_ alln ?_ laid_ev [.int .i64 k, .int .i64 n, .int .i64 g, .int .i64 z] (shV (shR k n g z)) rfl ?_ w
  · exact all1 (show some (k != 0) = some true by rw [bne_iff_ne.2 (show k ≠ 0 by omega)])
  · refine allc (ent [.int .i64 z, .int .i64 g] (.int .i64 (upI z g)) (fun _ => rfl) (fun _ => rfl) fun w => rup_any w z g hz (by omega) hg (by omega)) (all1 ?_)
    exact ent [.int .i64 (tlI z g), .int .i64 k] (.int .i64 (upI (tlI z g) k)) (fun _ => by simp only [List.map_cons, List.map_nil, E64_inst, hT, B64]; rfl) (fun _ => rfl) fun w => rup_any w _ k t1 (by omega) hk (by omega)
  · intro ms
    simp only [AV.inst]
    rw [row_den]
    simp only [List.map_cons, List.map_nil, hT]
    show some (shV [k, n, g, z, upI z g, tlI z g, IntKind.i64.wrap (g.tdiv k), upI (tlI z g) k]) = _
    rw [hq]; rfl
def c_lo (b : Bool) : BinOp × Ex × Ex × Bool := (.leq, .var 4, .lit 32, b)
def c_hi (b : Bool) : BinOp × Ex × Ex × Bool := (.gtr, .var 4, .lit 16777216, b)
noncomputable def rsh_ev (c : List (BinOp × Ex × Ex × Bool)) (t : List (Nat × List AV × AV)) : Option AV := (evCallF Try.prog (tabLore c []) (tabCon t) 100 35 [prX, B64 4] H0).map (·.1)
theorem rshape_ev1 : rsh_ev [] (rshape_t1 3) = some (.tup [rw64 zs64, e64 (.lit 3)]) := by kernel_rfl
theorem rshape_ev2 : rsh_ev [c_lo true] (rshape_t1 0) = some (.tup [rw64 zs64, e64 (.lit 4)]) := by kernel_rfl
theorem rshape_ev2' : rsh_ev [c_lo false, c_hi true] (rshape_t1 0) = some (.tup [rw64 zs64, e64 (.lit 4)]) := by kernel_rfl
theorem rshape_ev3 : rsh_ev [c_lo false, c_hi false, (.gtr, .var 6, .lit 512, true)] rshape_t2 = some (.tup [rw64 zs64, e64 (.lit 3)]) := by kernel_rfl
theorem rshape_ev4 : rsh_ev [c_lo false, c_hi false, (.gtr, .var 6, .lit 512, false)] rshape_t2 = some (.tup [rw64 [.var 0, .var 1, mulX, .var 4, .var 6, .var 7, .var 8, .var 9], e64 (.lit 0)]) := by kernel_rfl
theorem rshape_any (w : World) (k n g h z : Int) (p : Option Addr) (l c : Nat) : Calls Try.prog 35 #[prV k n g h (.slice p l c), .int .i64 z] w fun e w' => e = .returned (.tuple #[shV (shpT k n g l z), .int .i64 (shpE k n g l z)]) ∧ Below w.heap.size w w' := by
  have hs : (Value.slice p l c).oneCell' = true := rfl
  by_cases hp : OkP k n g l
  · have hch : ∀ w, Calls Try.prog 36 #[prV k n g h (.slice p l c)] w fun e w' => e = .returned (.int .i64 0) ∧ Below w.heap.size w w' := fun w => by
      have := rcheck_any w k n g h p l c
      rwa [chkE, if_pos hp] at this
    obtain ⟨h1, h2, h3, h4, h5, h6⟩ := id hp
    by_cases hz : 33 ≤ z ∧ z ≤ 16777216
    · have u1 := upI_pos h4 h1
      have u2 := up_ge (x := g) h1
      have u3 := up_lt (x := g) h1
      let ρ := envI [k, n, g, h, z, upI g k, upI z (k * upI g k), tlI z (k * upI g k), k * upI g k / k, upI (tlI z (k * upI g k)) k] (.slice p l c)
      have F1 : CmpOk ρ (c_lo false) := show some (decide (z ≤ 32)) = some false by rw [decide_eq_false (by omega)]
      have F2 : CmpOk ρ (c_hi false) := show some (decide (z > 16777216)) = some false by rw [decide_eq_false (by omega)]
      have hm : Ex.den ρ mulX = k * upI g k := wrap64 (x := k * upI g k) (by omega) (by omega)
      have hent : ∀ e ∈ rshape_t2, EntOk ρ e := by
        refine allc ?_ (allc ?_ (all1 ?_))
        · exact ent [prV k n g h (.slice p l c)] (.int .i64 0) (fun ms => by simp only [List.map_cons, List.map_nil]; rw [prX_inst hs]) (fun _ => rfl) hch
        · exact ent [.int .i64 g, .int .i64 k] (.int .i64 (upI g k)) (fun _ => rfl) (fun _ => rfl) fun w => rup_any w g k h4 (by omega) h1 (by omega)
        · refine ent [.int .i64 k, .int .i64 n, .int .i64 (k * upI g k), .int .i64 z] (shV (shR k n (k * upI g k) z)) (fun ms => by simp only [List.map_cons, List.map_nil, B64, E64_inst, hm]; rfl) (fun ms => ?_) fun w => laid_any w k n _ z h1 (by omega) (by omega) (by omega) (by omega) hz.2
          simp only [AV.inst]
          rw [row_den]
          simp only [List.map_cons, List.map_nil, hm]
          rfl
      by_cases h9 : upI z (k * upI g k) ≤ 512
      · have e1 : shpE k n g l z = 0 := by rw [shpE, if_pos hp, if_pos hz, if_pos h9]
        have e2 : shpT k n g l z = shR k n (k * upI g k) z := by rw [shpT, if_pos e1]
        rw [e1, e2]
        refine ev_row (ρ := ρ) (allc F1 (allc F2 (all1 ?_))) alln hent rshape_ev4 [prV k n g h (.slice p l c), .int .i64 z] _ ?_ (fun ms => ?_) w
        · show some (decide (upI z (k * upI g k) > 512)) = some false
          rw [decide_eq_false (by omega)]
        · simp only [List.map_cons, List.map_nil]; rw [prX_inst hs]; rfl
        · rw [tup2]
          simp only [List.map_cons, List.map_nil, hm]
          rfl
      · have e1 : shpE k n g l z = 3 := by rw [shpE, if_pos hp, if_pos hz, if_neg h9]
        have e2 : shpT k n g l z = sh0 := by rw [shpT, if_neg (by omega)]
        rw [e1, e2]
        refine ev_row (ρ := ρ) (allc F1 (allc F2 (all1 ?_))) alln hent rshape_ev3 [prV k n g h (.slice p l c), .int .i64 z] _ ?_ (fun ms => ?_) w
        · show some (decide (upI z (k * upI g k) > 512)) = some true
          rw [decide_eq_true (by omega)]
        · simp only [List.map_cons, List.map_nil]; rw [prX_inst hs]; rfl
        · rw [tup2, zs_den]; rfl
    · have e1 : shpE k n g l z = 4 := by rw [shpE, if_pos hp, if_neg hz]
      have e2 : shpT k n g l z = sh0 := by rw [shpT, if_neg (by omega)]
      rw [e1, e2]
      let ρ := envI [k, n, g, h, z] (.slice p l c)
      have E1 : EntOk ρ (36, [prX], E64 (.lit 0)) := ent [prV k n g h (.slice p l c)] (.int .i64 0) (fun ms => by simp only [List.map_cons, List.map_nil]; rw [prX_inst hs]) (fun _ => rfl) hch
      have hx : [prX, B64 4].map (AV.inst ρ ms0) = [prV k n g h (.slice p l c), .int .i64 z].map some := by simp only [List.map_cons, List.map_nil]; rw [prX_inst hs]; rfl
      by_cases hlo : z ≤ 32
      · exact ev_row (ρ := ρ) (c := [c_lo true]) (all1 (show some (decide (z ≤ 32)) = some true by rw [decide_eq_true hlo])) alln (all1 E1) rshape_ev2 [prV k n g h (.slice p l c), .int .i64 z] _ hx (fun ms => by rw [tup2, zs_den]; rfl) w
      · exact ev_row (ρ := ρ) (c := [c_lo false, c_hi true]) (allc (show some (decide (z ≤ 32)) = some false by rw [decide_eq_false hlo]) (all1 (show some (decide (z > 16777216)) = some true by rw [decide_eq_true (by omega)]))) alln (all1 E1) rshape_ev2' [prV k n g h (.slice p l c), .int .i64 z] _ hx (fun ms => by rw [tup2, zs_den]; rfl) w
  · have e1 : shpE k n g l z = 3 := by rw [shpE, if_neg hp]
    have e2 : shpT k n g l z = sh0 := by rw [shpT, if_neg (by omega)]
    rw [e1, e2]
    refine ev_row (ρ := envI [k, n, g, h, z] (.slice p l c)) alln alln (all1 ?_) rshape_ev1 [prV k n g h (.slice p l c), .int .i64 z] _ ?_ (fun ms => ?_) w
    · refine ent [prV k n g h (.slice p l c)] (.int .i64 3) (fun ms => by simp only [List.map_cons, List.map_nil]; rw [prX_inst hs]) (fun _ => rfl) fun w => ?_
      have := rcheck_any w k n g h p l c
      rwa [chkE, if_neg hp] at this
    · simp only [List.map_cons, List.map_nil]; rw [prX_inst hs]; rfl
    · rw [tup2, zs_den]; rfl
def pqX (e : Ex) : AV := .tv (.agg [.int .i64 (.var 0), .int .i64 (.var 1), .int .i64 e, .int .i64 (.lit 0), .nils 0 0])
def ra1 (e : Ex) : Nat × List AV × AV := (35, [pqX (.var 2), B64 3], .tup [rw64 (vs64 4 8), e64 e])
def ra2 (e : Ex) : Nat × List AV × AV := (35, [pqX (.lit 65536), B64 3], .tup [rw64 (vs64 12 8), e64 e])
def r_e (i : Nat) : BinOp × Ex × Ex × Bool := (.eql, .var i, .lit 0, false)
def r_g (i : Nat) (b : Bool) : BinOp × Ex × Ex × Bool := (.eql, .var i, .var 2, b)
noncomputable def ra_ev (c : List (BinOp × Ex × Ex × Bool)) (t : List (Nat × List AV × AV)) : Option AV := (evCallF Try.prog (tabLore c []) (tabCon t) 100 28 [B64 0, B64 1, B64 2, B64 3] H0).map (·.1)
theorem ra_ev1 : ra_ev [r_g 6 true] [ra1 (.lit 0)] = some (.tup [rw64 (vs64 4 8), e64 (.lit 0)]) := by kernel_rfl
theorem ra_ev2 : ra_ev [r_e 20, r_g 14 true] [ra1 (.var 20), ra2 (.lit 0)] = some (.tup [rw64 (vs64 12 8), e64 (.lit 0)]) := by kernel_rfl
theorem ra_ev2' : ra_ev [r_g 6 false, r_g 14 true] [ra1 (.lit 0), ra2 (.lit 0)] = some (.tup [rw64 (vs64 12 8), e64 (.lit 0)]) := by kernel_rfl
theorem ra_ev3 : ra_ev [r_e 20, r_e 21] [ra1 (.var 20), ra2 (.var 21)] = some (.tup [rw64 zs64, e64 (.lit 92)]) := by kernel_rfl
theorem ra_ev4 : ra_ev [r_e 20, r_g 14 false] [ra1 (.var 20), ra2 (.lit 0)] = some (.tup [rw64 zs64, e64 (.lit 92)]) := by kernel_rfl
theorem ra_ev5 : ra_ev [r_g 6 false, r_e 21] [ra1 (.lit 0), ra2 (.var 21)] = some (.tup [rw64 zs64, e64 (.lit 92)]) := by kernel_rfl
theorem ra_ev6 : ra_ev [r_g 6 false, r_g 14 false] [ra1 (.lit 0), ra2 (.lit 0)] = some (.tup [rw64 zs64, e64 (.lit 92)]) := by kernel_rfl
theorem shpT_len' (k n g l z : Int) : ∃ b0 b1 b2 b3 b4 b5 b6 b7, shpT k n g l z = [b0, b1, b2, b3, b4, b5, b6, b7] := by
  unfold shpT; split
  · exact ⟨_, _, _, _, _, _, _, _, rfl⟩
  · exact ⟨_, _, _, _, _, _, _, _, rfl⟩
theorem pqX_inst {ρ : Env} {k n g : Int} {e : Ex} (ms : List Nat) (h0 : Ex.den ρ (.var 0) = k) (h1 : Ex.den ρ (.var 1) = n) (h2 : Ex.den ρ e = g) : (pqX e).inst ρ ms = some (prV k n g 0 (.slice none 0 0)) := by
  simp only [pqX, AV.inst, TV.inst, SV.inst, seqO, List.map_cons, List.map_nil, h0, h1, h2, Option.map_some]
  rfl
theorem ragain_any (w : World) (k n g z : Int) : Calls Try.prog 28 #[.int .i64 k, .int .i64 n, .int .i64 g, .int .i64 z] w fun e w' => e = .returned (.tuple #[shV (agT k n g z), .int .i64 (agE k n g z)]) ∧ Below w.heap.size w w' := by
  obtain ⟨a0, a1, a2, a3, a4, a5, a6, a7, hA⟩ := shpT_len' k n g 0 z
  obtain ⟨b0, b1, b2, b3, b4, b5, b6, b7, hB⟩ := shpT_len' k n 65536 0 z
  let ρ := envI [k, n, g, z, a0, a1, a2, a3, a4, a5, a6, a7, b0, b1, b2, b3, b4, b5, b6, b7, shpE k n g 0 z, shpE k n 65536 0 z] (.tuple #[])
  have S1 : ∀ w, Calls Try.prog 35 #[prV k n g 0 (.slice none 0 0), .int .i64 z] w fun e w' => e = .returned (.tuple #[shV [a0, a1, a2, a3, a4, a5, a6, a7], .int .i64 (shpE k n g 0 z)]) ∧ Below w.heap.size w w' := fun w => by rw [← hA]; exact rshape_any w k n g 0 z none 0 0
  have S2 : ∀ w, Calls Try.prog 35 #[prV k n 65536 0 (.slice none 0 0), .int .i64 z] w fun e w' => e = .returned (.tuple #[shV [b0, b1, b2, b3, b4, b5, b6, b7], .int .i64 (shpE k n 65536 0 z)]) ∧ Below w.heap.size w w' := fun w => by rw [← hB]; exact rshape_any w k n 65536 0 z none 0 0
  have E1 : ∀ e, Ex.den ρ e = shpE k n g 0 z → EntOk ρ (ra1 e) := fun e he => ent [prV k n g 0 (.slice none 0 0), .int .i64 z] _ (fun ms => by simp only [List.map_cons, List.map_nil]; rw [pqX_inst ms (k := k) (n := n) (g := g) rfl rfl rfl]; rfl) (fun ms => by rw [tup2, he]; rfl) S1
  have E2 : ∀ e, Ex.den ρ e = shpE k n 65536 0 z → EntOk ρ (ra2 e) := fun e he => ent [prV k n 65536 0 (.slice none 0 0), .int .i64 z] _ (fun ms => by simp only [List.map_cons, List.map_nil]; rw [pqX_inst ms (k := k) (n := n) (g := 65536) rfl rfl rfl]; rfl) (fun ms => by rw [tup2, he]; rfl) S2
  have fin : ∀ cc t l e, (∀ x ∈ cc, CmpOk ρ x) → (∀ x ∈ t, EntOk ρ x) → ra_ev cc t = some (.tup [rw64 l, e64 e]) → l.map (Ex.den ρ) = agT k n g z → Ex.den ρ e = agE k n g z → Calls Try.prog 28 #[.int .i64 k, .int .i64 n, .int .i64 g, .int .i64 z] w fun e w' => e = .returned (.tuple #[shV (agT k n g z), .int .i64 (agE k n g z)]) ∧ Below w.heap.size w w' := fun cc t l e hc ht hv hl he => ev_row (ρ := ρ) hc alln ht hv [.int .i64 k, .int .i64 n, .int .i64 g, .int .i64 z] _ rfl (fun ms => by rw [tup2, hl, he]) w
  have hi := again_iff k n g z
  have Rg6 : ∀ b, (a2 == g) = b → CmpOk ρ (r_g 6 b) := fun b hb => show some (a2 == g) = some b by rw [hb]
  have Rg14 : ∀ b, (b2 == g) = b → CmpOk ρ (r_g 14 b) := fun b hb => show some (b2 == g) = some b by rw [hb]
  have Re20 : shpE k n g 0 z ≠ 0 → CmpOk ρ (r_e 20) := fun hne => show some (shpE k n g 0 z == 0) = some false by rw [beq_false_of_ne hne]
  have Re21 : shpE k n 65536 0 z ≠ 0 → CmpOk ρ (r_e 21) := fun hne => show some (shpE k n 65536 0 z == 0) = some false by rw [beq_false_of_ne hne]
  have hA2 : shpE k n g 0 z = 0 → [a0, a1, a2, a3, a4, a5, a6, a7] = shR k n (k * upI g k) z := fun he => by rw [← hA, shpT, if_pos he]
  have hB2 : shpE k n 65536 0 z = 0 → [b0, b1, b2, b3, b4, b5, b6, b7] = shR k n (k * upI 65536 k) z := fun he => by rw [← hB, shpT, if_pos he]
  have a2e : shpE k n g 0 z = 0 → a2 = k * upI g k := fun he => by have := hA2 he; simp only [shR, List.cons.injEq] at this; exact this.2.2.1
  have b2e : shpE k n 65536 0 z = 0 → b2 = k * upI 65536 k := fun he => by have := hB2 he; simp only [shR, List.cons.injEq] at this; exact this.2.2.1
  have okT : OkS k n g z → agT k n g z = shR k n g z ∧ agE k n g z = 0 := fun h => ⟨if_pos h, if_pos h⟩
  have noT : ¬ OkS k n g z → agT k n g z = sh0 ∧ agE k n g z = 92 := fun h => ⟨if_neg h, if_neg h⟩
  by_cases e1 : shpE k n g 0 z = 0
  · have hA3 := hA2 e1
    by_cases g1 : k * upI g k = g
    · obtain ⟨q1, q2⟩ := okT (hi.2 (.inl ⟨e1, g1⟩))
      rw [g1] at hA3
      exact fin [r_g 6 true] [ra1 (.lit 0)] (vs64 4 8) (.lit 0) (all1 (Rg6 true (beq_iff_eq.2 ((a2e e1).trans g1)))) (all1 (E1 _ e1.symm)) ra_ev1 (by rw [q1, ← hA3]; rfl) q2.symm
    · have G6 := Rg6 false (beq_false_of_ne (by rw [a2e e1]; exact g1))
      by_cases e2 : shpE k n 65536 0 z = 0
      · have hB3 := hB2 e2
        by_cases g2 : k * upI 65536 k = g
        · obtain ⟨q1, q2⟩ := okT (hi.2 (.inr ⟨e2, g2⟩))
          rw [g2] at hB3
          exact fin [r_g 6 false, r_g 14 true] [ra1 (.lit 0), ra2 (.lit 0)] (vs64 12 8) (.lit 0) (allc G6 (all1 (Rg14 true (beq_iff_eq.2 ((b2e e2).trans g2))))) (allc (E1 _ e1.symm) (all1 (E2 _ e2.symm))) ra_ev2' (by rw [q1, ← hB3]; rfl) q2.symm
        · obtain ⟨q1, q2⟩ := noT fun h => by rcases hi.1 h with h | h <;> omega
          exact fin [r_g 6 false, r_g 14 false] [ra1 (.lit 0), ra2 (.lit 0)] zs64 (.lit 92) (allc G6 (all1 (Rg14 false (beq_false_of_ne (by rw [b2e e2]; exact g2))))) (allc (E1 _ e1.symm) (all1 (E2 _ e2.symm))) ra_ev6 (by rw [q1]; rfl) q2.symm
      · obtain ⟨q1, q2⟩ := noT fun h => by rcases hi.1 h with h | h <;> omega
        exact fin [r_g 6 false, r_e 21] [ra1 (.lit 0), ra2 (.var 21)] zs64 (.lit 92) (allc G6 (all1 (Re21 e2))) (allc (E1 _ e1.symm) (all1 (E2 _ rfl))) ra_ev5 (by rw [q1]; rfl) q2.symm
  · by_cases e2 : shpE k n 65536 0 z = 0
    · have hB3 := hB2 e2
      by_cases g2 : k * upI 65536 k = g
      · obtain ⟨q1, q2⟩ := okT (hi.2 (.inr ⟨e2, g2⟩))
        rw [g2] at hB3
        exact fin [r_e 20, r_g 14 true] [ra1 (.var 20), ra2 (.lit 0)] (vs64 12 8) (.lit 0) (allc (Re20 e1) (all1 (Rg14 true (beq_iff_eq.2 ((b2e e2).trans g2))))) (allc (E1 _ rfl) (all1 (E2 _ e2.symm))) ra_ev2 (by rw [q1, ← hB3]; rfl) q2.symm
      · obtain ⟨q1, q2⟩ := noT fun h => by rcases hi.1 h with h | h <;> omega
        exact fin [r_e 20, r_g 14 false] [ra1 (.var 20), ra2 (.lit 0)] zs64 (.lit 92) (allc (Re20 e1) (all1 (Rg14 false (beq_false_of_ne (by rw [b2e e2]; exact g2))))) (allc (E1 _ rfl) (all1 (E2 _ e2.symm))) ra_ev4 (by rw [q1]; rfl) q2.symm
    · obtain ⟨q1, q2⟩ := noT fun h => by rcases hi.1 h with h | h <;> omega
      exact fin [r_e 20, r_e 21] [ra1 (.var 20), ra2 (.var 21)] zs64 (.lit 92) (allc (Re20 e1) (all1 (Re21 e2))) (allc (E1 _ rfl) (all1 (E2 _ rfl))) ra_ev3 (by rw [q1]; rfl) q2.symm
def remX : Ex := .ari .rem .i64 (.var 2) (.var 0)
def agXs : List AV := [B64 0, B64 1, B64 2, B64 3]
def agRow : List Ex := [.var 0, .var 1, .var 2, .var 3, .var 5, .var 6, .var 7, .var 8]
def cn_t (b : Bool) : Nat × List AV × AV := (33, [B64 0, B64 1], bX b)
def mo_t : Nat × List AV × AV := (32, [B64 0], B64 4)
def sz_t (b : Bool) : Nat × List AV × AV := (30, [B64 3], bX b)
def sp_t : Nat × List AV × AV := (31, agXs, .tv (rw64 agRow))
def c_ls (b : Bool) : BinOp × Ex × Ex × Bool := (.lss, .var 2, .lit 1, b)
def c_gt (b : Bool) : BinOp × Ex × Ex × Bool := (.gtr, .var 2, .var 4, b)
def c_n0 : BinOp × Ex × Ex × Bool := (.neq, .var 0, .lit 0, true)
def c_rm (b : Bool) : BinOp × Ex × Ex × Bool := (.neq, remX, .lit 0, b)
def c_sg (b : Bool) : BinOp × Ex × Ex × Bool := (.gtr, .var 5, .lit 512, b)
noncomputable def evAg (c : List (BinOp × Ex × Ex × Bool)) (t : List (Nat × List AV × AV)) : Option AV := (evCallF Try.prog (tabLore c []) (tabCon t) 100 23 agXs H0).map (·.1)
def agBad : AV := .tup [rw64 zs64, e64 (.lit 92)]
theorem again_ev1 : evAg [] [cn_t false] = some agBad := by kernel_rfl
theorem again_ev2 : evAg [c_ls true] [cn_t true] = some agBad := by kernel_rfl
theorem again_ev3 : evAg [c_ls false, c_gt true] [cn_t true, mo_t] = some agBad := by kernel_rfl
theorem again_ev4 : evAg [c_ls false, c_gt false, c_n0, c_rm true] [cn_t true, mo_t] = some agBad := by kernel_rfl
theorem again_ev5 : evAg [c_ls false, c_gt false, c_n0, c_rm false] [cn_t true, mo_t, sz_t false] = some agBad := by kernel_rfl
theorem again_ev6 : evAg [c_ls false, c_gt false, c_n0, c_rm false, c_sg true] [cn_t true, mo_t, sz_t true, sp_t] = some agBad := by kernel_rfl
theorem again_ev7 : evAg [c_ls false, c_gt false, c_n0, c_rm false, c_sg false] [cn_t true, mo_t, sz_t true, sp_t] = some (.tup [rw64 agRow, e64 (.lit 0)]) := by kernel_rfl
theorem again_any (w : World) (k n g z : Int) : Calls Try.prog 23 #[.int .i64 k, .int .i64 n, .int .i64 g, .int .i64 z] w fun e w' => e = .returned (.tuple #[shV (agT k n g z), .int .i64 (agE k n g z)]) ∧ Below w.heap.size w w' := by
  let ρ := envI [k, n, g, z, k * upI 65536 k, upI z g, tlI z g, g / k, upI (tlI z g) k] (.tuple #[])
  have hbad : ∀ c t, (¬ OkS k n g z) → (∀ e ∈ c, CmpOk ρ e) → (∀ e ∈ t, EntOk ρ e) → evAg c t = some agBad → Calls Try.prog 23 #[.int .i64 k, .int .i64 n, .int .i64 g, .int .i64 z] w fun e w' => e = .returned (.tuple #[shV (agT k n g z), .int .i64 (agE k n g z)]) ∧ Below w.heap.size w w' := by
    intro c t hn hc ht he
    rw [agT, agE, if_neg hn, if_neg hn]
    exact ev_row (ρ := ρ) hc alln ht he [.int .i64 k, .int .i64 n, .int .i64 g, .int .i64 z] _ rfl (fun ms => by rw [agBad, tup2, zs_den]; rfl) w
  have Ecn : ∀ b, cntB k n = b → EntOk ρ (cn_t b) := fun b hb => ent [.int .i64 k, .int .i64 n] (.bool b) (fun _ => rfl) (fun _ => rfl) fun w => by rw [← hb]; exact still (counts_any w k n)
  by_cases hc : 1 ≤ k ∧ k ≤ n ∧ n ≤ 255
  · have E1 := Ecn true (decide_eq_true hc)
    obtain ⟨h1, h2, h3⟩ := hc
    by_cases h4 : g < 1
    · exact hbad [c_ls true] [cn_t true] (fun h => by have := h.2.2.2.1; omega) (all1 (show some (decide (g < 1)) = some true by rw [decide_eq_true h4])) (all1 E1) again_ev2
    have F1 : CmpOk ρ (c_ls false) := show some (decide (g < 1)) = some false by rw [decide_eq_false h4]
    have E2 : EntOk ρ mo_t := ent [.int .i64 k] (.int .i64 (k * upI 65536 k)) (fun _ => rfl) (fun _ => rfl) fun w => still (most_any w k h1 (by omega))
    by_cases h5 : g > k * upI 65536 k
    · exact hbad [c_ls false, c_gt true] [cn_t true, mo_t] (fun h => by have := h.2.2.2.2.1; omega) (allc F1 (all1 (show some (decide (g > k * upI 65536 k)) = some true by rw [decide_eq_true h5]))) (allc E1 (all1 E2)) again_ev3
    have F2 : CmpOk ρ (c_gt false) := show some (decide (g > k * upI 65536 k)) = some false by rw [decide_eq_false h5]
    have F3 : CmpOk ρ c_n0 := show some (k != 0) = some true by rw [bne_iff_ne.2 (show k ≠ 0 by omega)]
    have hrem : Ex.den ρ remX = g % k := show g.tmod k = g % k from Int.tmod_eq_emod_of_nonneg (by omega)
    by_cases h6 : g % k = 0
    · have F4 : CmpOk ρ (c_rm false) := by
        show some (Ex.den ρ remX != 0) = some false
        rw [hrem, h6]; rfl
      by_cases h7 : 33 ≤ z ∧ z ≤ 16777216
      · have E3 : EntOk ρ (sz_t true) := ent [.int .i64 z] (.bool true) (fun _ => rfl) (fun _ => rfl) fun w => by rw [← show szB z = true from decide_eq_true h7]; exact still (shared_any w z)
        have ml := most_lt h1 (show k ≤ 255 by omega)
        have E4 : EntOk ρ sp_t := ent [.int .i64 k, .int .i64 n, .int .i64 g, .int .i64 z] (shV (shR k n g z)) (fun _ => rfl) (fun ms => by simp only [AV.inst]; rw [row_den]; rfl) fun w => shaped_any w k n g z h1 (by omega) (by omega) (by omega) (by omega) h7.2
        by_cases h9 : upI z g ≤ 512
        · have hok : OkS k n g z := ⟨h1, h2, h3, by omega, by omega, h6, h7.1, h7.2, h9⟩
          rw [agT, agE, if_pos hok, if_pos hok]
          have F5 : CmpOk ρ (c_sg false) := show some (decide (upI z g > 512)) = some false by rw [decide_eq_false (by omega)]
          exact ev_row (ρ := ρ) (allc F1 (allc F2 (allc F3 (allc F4 (all1 F5))))) alln (allc E1 (allc E2 (allc E3 (all1 E4)))) again_ev7 [.int .i64 k, .int .i64 n, .int .i64 g, .int .i64 z] _ rfl (fun ms => by rw [tup2]; rfl) w
        · have F5 : CmpOk ρ (c_sg true) := show some (decide (upI z g > 512)) = some true by rw [decide_eq_true (by omega)]
          exact hbad _ _ (fun h => h9 h.2.2.2.2.2.2.2.2) (allc F1 (allc F2 (allc F3 (allc F4 (all1 F5))))) (allc E1 (allc E2 (allc E3 (all1 E4)))) again_ev6
      · have E3 : EntOk ρ (sz_t false) := ent [.int .i64 z] (.bool false) (fun _ => rfl) (fun _ => rfl) fun w => by rw [← show szB z = false from decide_eq_false h7]; exact still (shared_any w z)
        exact hbad _ _ (fun h => h7 ⟨h.2.2.2.2.2.2.1, h.2.2.2.2.2.2.2.1⟩) (allc F1 (allc F2 (allc F3 (all1 F4)))) (allc E1 (allc E2 (all1 E3))) again_ev5
    · have F4 : CmpOk ρ (c_rm true) := by
        show some (Ex.den ρ remX != 0) = some true
        rw [hrem, bne_iff_ne.2 h6]
      exact hbad _ _ (fun h => h6 h.2.2.2.2.2.1) (allc F1 (allc F2 (allc F3 (all1 F4)))) (allc E1 (all1 E2)) again_ev4
  · exact hbad _ _ (fun h => hc ⟨h.1, h.2.1, h.2.2.1⟩) alln (all1 (Ecn false (decide_eq_false hc))) again_ev1
def Ft (a b c d e f g h : Int) : Prop := OkS a b c d ∧ [a, b, c, d, e, f, g, h] = shR a b c d
instance (a b c d e f g h : Int) : Decidable (Ft a b c d e f g h) := by unfold Ft; infer_instance
def ftB (a b c d e f g h : Int) : Bool := decide (Ft a b c d e f g h)
theorem agT_len (k n g z : Int) : ∃ b0 b1 b2 b3 b4 b5 b6 b7, agT k n g z = [b0, b1, b2, b3, b4, b5, b6, b7] := by
  unfold agT; split
  · exact ⟨_, _, _, _, _, _, _, _, rfl⟩
  · exact ⟨_, _, _, _, _, _, _, _, rfl⟩
def shX (o : Nat) : AV := .tv (rw64 (vs64 o 8))
def fits_t (e : Int) : List (Nat × List AV × AV) := [(23, [B64 0, B64 1, B64 2, B64 3], .tup [rw64 (vs64 8 8), e64 (.lit e)])]
noncomputable def fits_ev (e : Int) (r : List (List Ex × List Ex × Bool)) : Option AV := (evCallF Try.prog (tabLore [] r) (tabCon (fits_t e)) 100 12 [shX 0] H0).map (·.1)
theorem fits_ev1 : fits_ev 92 [] = some (bX false) := by kernel_rfl
theorem fits_ev2 : fits_ev 0 [(vs64 8 8, vs64 0 8, true)] = some (bX true) := by kernel_rfl
theorem fits_ev3 : fits_ev 0 [(vs64 8 8, vs64 0 8, false)] = some (bX false) := by kernel_rfl
def rfits_t (e : Int) : List (Nat × List AV × AV) := [(28, [B64 0, B64 1, B64 2, B64 3], .tup [rw64 (vs64 8 8), e64 (.lit e)])]
noncomputable def rfits_ev (e : Int) (r : List (List Ex × List Ex × Bool)) : Option AV := (evCallF Try.prog (tabLore [] r) (tabCon (rfits_t e)) 100 18 [shX 0] H0).map (·.1)
theorem rfits_ev1 : rfits_ev 92 [] = some (bX false) := by kernel_rfl
theorem rfits_ev2 : rfits_ev 0 [(vs64 0 8, vs64 8 8, true)] = some (bX true) := by kernel_rfl
theorem rfits_ev3 : rfits_ev 0 [(vs64 0 8, vs64 8 8, false)] = some (bX false) := by kernel_rfl
theorem fits_any (w : World) (a b c d e f g h : Int) : Calls Try.prog 12 #[shV [a, b, c, d, e, f, g, h]] w fun r w' => r = .returned (.bool (ftB a b c d e f g h)) ∧ Below w.heap.size w w' := by
  obtain ⟨b0, b1, b2, b3, b4, b5, b6, b7, hT⟩ := agT_len a b c d
  let ρ := envI [a, b, c, d, e, f, g, h, b0, b1, b2, b3, b4, b5, b6, b7] (.tuple #[])
  have hx : [shX 0].map (AV.inst ρ ms0) = [shV [a, b, c, d, e, f, g, h]].map some := by
    simp only [List.map_cons, List.map_nil, shX, AV.inst]; rw [row_den]; rfl
  have hent : ∀ q, agE a b c d = q → ∀ x ∈ fits_t q, EntOk ρ x := fun q hq => all1 (ent [.int .i64 a, .int .i64 b, .int .i64 c, .int .i64 d] (.tuple #[shV [b0, b1, b2, b3, b4, b5, b6, b7], .int .i64 q]) (fun _ => rfl) (fun ms => by rw [tup2]; rfl) fun w => by rw [← hT, ← hq]; exact again_any w a b c d)
  by_cases hok : OkS a b c d
  · have e1 : agE a b c d = 0 := if_pos hok
    have e2 : agT a b c d = shR a b c d := if_pos hok
    by_cases hr : [a, b, c, d, e, f, g, h] = shR a b c d
    · have hb : ftB a b c d e f g h = true := decide_eq_true ⟨hok, hr⟩
      rw [hb]
      refine ev_row (ρ := ρ) alln (all1 ⟨rfl, ?_⟩) (hent 0 e1) fits_ev2 [shV [a, b, c, d, e, f, g, h]] _ hx (fun _ => rfl) w
      have hq : [b0, b1, b2, b3, b4, b5, b6, b7] = [a, b, c, d, e, f, g, h] := by rw [← hT, e2, ← hr]
      first
      | exact decide_eq_true (show [b0, b1, b2, b3, b4, b5, b6, b7] = [a, b, c, d, e, f, g, h] from hq)
      | exact decide_eq_true (show [a, b, c, d, e, f, g, h] = [b0, b1, b2, b3, b4, b5, b6, b7] from hq.symm)
    · have hb : ftB a b c d e f g h = false := decide_eq_false fun q => hr q.2
      rw [hb]
      refine ev_row (ρ := ρ) alln (all1 ⟨rfl, ?_⟩) (hent 0 e1) fits_ev3 [shV [a, b, c, d, e, f, g, h]] _ hx (fun _ => rfl) w
      have hq : ¬ [b0, b1, b2, b3, b4, b5, b6, b7] = [a, b, c, d, e, f, g, h] := by rw [← hT, e2]; exact fun q => hr q.symm
      first
      | exact decide_eq_false (show ¬ [b0, b1, b2, b3, b4, b5, b6, b7] = [a, b, c, d, e, f, g, h] from hq)
      | exact decide_eq_false (show ¬ [a, b, c, d, e, f, g, h] = [b0, b1, b2, b3, b4, b5, b6, b7] from fun q => hq q.symm)
  · have e1 : agE a b c d = 92 := if_neg hok
    have hb : ftB a b c d e f g h = false := decide_eq_false fun q => hok q.1
    rw [hb]
    exact ev_row (ρ := ρ) alln alln (hent 92 e1) fits_ev1 [shV [a, b, c, d, e, f, g, h]] _ hx (fun _ => rfl) w
theorem rfits_any (w : World) (a b c d e f g h : Int) : Calls Try.prog 18 #[shV [a, b, c, d, e, f, g, h]] w fun r w' => r = .returned (.bool (ftB a b c d e f g h)) ∧ Below w.heap.size w w' := by
  obtain ⟨b0, b1, b2, b3, b4, b5, b6, b7, hT⟩ := agT_len a b c d
  let ρ := envI [a, b, c, d, e, f, g, h, b0, b1, b2, b3, b4, b5, b6, b7] (.tuple #[])
  have hx : [shX 0].map (AV.inst ρ ms0) = [shV [a, b, c, d, e, f, g, h]].map some := by
    simp only [List.map_cons, List.map_nil, shX, AV.inst]; rw [row_den]; rfl
  have hent : ∀ q, agE a b c d = q → ∀ x ∈ rfits_t q, EntOk ρ x := fun q hq => all1 (ent [.int .i64 a, .int .i64 b, .int .i64 c, .int .i64 d] (.tuple #[shV [b0, b1, b2, b3, b4, b5, b6, b7], .int .i64 q]) (fun _ => rfl) (fun ms => by rw [tup2]; rfl) fun w => by rw [← hT, ← hq]; exact ragain_any w a b c d)
  by_cases hok : OkS a b c d
  · have e1 : agE a b c d = 0 := if_pos hok
    have e2 : agT a b c d = shR a b c d := if_pos hok
    by_cases hr : [a, b, c, d, e, f, g, h] = shR a b c d
    · have hb : ftB a b c d e f g h = true := decide_eq_true ⟨hok, hr⟩
      rw [hb]
      refine ev_row (ρ := ρ) alln (all1 ⟨rfl, ?_⟩) (hent 0 e1) rfits_ev2 [shV [a, b, c, d, e, f, g, h]] _ hx (fun _ => rfl) w
      have hq : [b0, b1, b2, b3, b4, b5, b6, b7] = [a, b, c, d, e, f, g, h] := by rw [← hT, e2, ← hr]
      first
      | exact decide_eq_true (show [b0, b1, b2, b3, b4, b5, b6, b7] = [a, b, c, d, e, f, g, h] from hq)
      | exact decide_eq_true (show [a, b, c, d, e, f, g, h] = [b0, b1, b2, b3, b4, b5, b6, b7] from hq.symm)
    · have hb : ftB a b c d e f g h = false := decide_eq_false fun q => hr q.2
      rw [hb]
      refine ev_row (ρ := ρ) alln (all1 ⟨rfl, ?_⟩) (hent 0 e1) rfits_ev3 [shV [a, b, c, d, e, f, g, h]] _ hx (fun _ => rfl) w
      have hq : ¬ [b0, b1, b2, b3, b4, b5, b6, b7] = [a, b, c, d, e, f, g, h] := by rw [← hT, e2]; exact fun q => hr q.symm
      first
      | exact decide_eq_false (show ¬ [b0, b1, b2, b3, b4, b5, b6, b7] = [a, b, c, d, e, f, g, h] from hq)
      | exact decide_eq_false (show ¬ [a, b, c, d, e, f, g, h] = [b0, b1, b2, b3, b4, b5, b6, b7] from fun q => hq q.symm)
  · have e1 : agE a b c d = 92 := if_neg hok
    have hb : ftB a b c d e f g h = false := decide_eq_false fun q => hok q.1
    rw [hb]
    exact ev_row (ρ := ρ) alln alln (hent 92 e1) rfits_ev1 [shV [a, b, c, d, e, f, g, h]] _ hx (fun _ => rfl) w
theorem Ft.segs {a b c d e f g h : Int} (q : Ft a b c d e f g h) : e = upI d c ∧ f = tlI d c ∧ g = c / a ∧ h = upI (tlI d c) a ∧ 1 ≤ e ∧ e ≤ 512 := by
  obtain ⟨q1, q2⟩ := q
  simp only [shR, List.cons.injEq, and_true, true_and] at q2
  obtain ⟨rfl, rfl, rfl, rfl⟩ := q2
  exact ⟨rfl, rfl, rfl, rfl, upI_pos (by have := q1.2.2.2.2.2.2.1; omega) q1.2.2.2.1, q1.2.2.2.2.2.2.2.2⟩
def szE (t : Bool) (segs j : Int) : Int := if t = true then (if 0 ≤ j ∧ j < segs then 0 else 90) else 92
def szV (t : Bool) (segs j size last : Int) : Int := if t = true then (if 0 ≤ j ∧ j < segs then (if j = segs - 1 then last else size) else 0) else 0
def ft_t (F : Nat) (b : Bool) : Nat × List AV × AV := (F, [shX 0], bX b)
def c_j0 (b : Bool) : BinOp × Ex × Ex × Bool := (.lss, .var 8, .lit 0, b)
def c_js (b : Bool) : BinOp × Ex × Ex × Bool := (.geq, .var 8, .var 4, b)
def c_jl (b : Bool) : BinOp × Ex × Ex × Bool := (.eql, .var 8, .ari .sub .i64 (.var 4) (.lit 1), b)
theorem c_jl_ok {ρ : Env} {e j : Int} {b : Bool} (h4 : Ex.den ρ (.var 4) = e) (h8 : Ex.den ρ (.var 8) = j) (h1 : 1 ≤ e) (h2 : e ≤ 512) (hb : (j == e - 1) = b) : CmpOk ρ (c_jl b) := by
  show some (Ex.den ρ (.var 8) == IntKind.i64.wrap (Ex.den ρ (.var 4) - 1)) = some b
  rw [h4, h8, wrap64 (by omega) (by omega), hb]
theorem ft_ent {ρ : Env} {a b c d e f g h : Int} {r : Bool} (hx : (vs64 0 8).map (Ex.den ρ) = [a, b, c, d, e, f, g, h]) {F : Nat} (hF : ∀ w, Calls Try.prog F #[shV [a, b, c, d, e, f, g, h]] w fun r w' => r = .returned (.bool (ftB a b c d e f g h)) ∧ Below w.heap.size w w') (hb : ftB a b c d e f g h = r) : EntOk ρ (ft_t F r) :=
  ent [shV [a, b, c, d, e, f, g, h]] (.bool r) (fun ms => by simp only [List.map_cons, List.map_nil, shX, AV.inst]; rw [row_den, hx]) (fun _ => rfl) fun w => by rw [← hb]; exact hF w
theorem tupI2 (ρ : Env) (ms : List Nat) (e f : Ex) : (AV.tup [e64 e, e64 f]).inst ρ ms = some (.tuple #[.int .i64 (e.den ρ), .int .i64 (f.den ρ)]) := rfl
theorem tupI3 (ρ : Env) (ms : List Nat) (e f g : Ex) : (AV.tup [e64 e, e64 f, e64 g]).inst ρ ms = some (.tuple #[.int .i64 (e.den ρ), .int .i64 (f.den ρ), .int .i64 (g.den ρ)]) := rfl
noncomputable def rsegsize_ev (c : List (BinOp × Ex × Ex × Bool)) (b : Bool) : Option AV := (evCallF Try.prog (tabLore c []) (tabCon [ft_t 18 b]) 100 27 [shX 0, B64 8] H0).map (·.1)
theorem rsegsize_ev1 : rsegsize_ev [] false = some (.tup [e64 (.lit 0), e64 (.lit 92)]) := by kernel_rfl
theorem rsegsize_ev2 : rsegsize_ev [c_j0 true] true = some (.tup [e64 (.lit 0), e64 (.lit 90)]) := by kernel_rfl
theorem rsegsize_ev3 : rsegsize_ev [c_j0 false, c_js true] true = some (.tup [e64 (.lit 0), e64 (.lit 90)]) := by kernel_rfl
theorem rsegsize_ev4 : rsegsize_ev [c_j0 false, c_js false, c_jl true] true = some (.tup [e64 (.var 5), e64 (.lit 0)]) := by kernel_rfl
theorem rsegsize_ev5 : rsegsize_ev [c_j0 false, c_js false, c_jl false] true = some (.tup [e64 (.var 2), e64 (.lit 0)]) := by kernel_rfl
theorem rsegsize_any (w : World) (a b c d e f g h j : Int) : Calls Try.prog 27 #[shV [a, b, c, d, e, f, g, h], .int .i64 j] w fun r w' => r = .returned (.tuple #[.int .i64 (szV (ftB a b c d e f g h) e j c f), .int .i64 (szE (ftB a b c d e f g h) e j)]) ∧ Below w.heap.size w w' := by
  let ρ := envI [a, b, c, d, e, f, g, h, j] (.tuple #[])
  have hx : [shX 0, B64 8].map (AV.inst ρ ms0) = [shV [a, b, c, d, e, f, g, h], .int .i64 j].map some := by
    simp only [List.map_cons, List.map_nil, shX, AV.inst]; rw [row_den]; rfl
  have hent : ∀ r, ftB a b c d e f g h = r → ∀ x ∈ [ft_t 18 r], EntOk ρ x := fun r hr => all1 (ft_ent rfl (fun w => rfits_any w a b c d e f g h) hr)
  by_cases hf : Ft a b c d e f g h
  · have hb : ftB a b c d e f g h = true := decide_eq_true hf
    obtain ⟨_, _, _, _, s1, s2⟩ := hf.segs
    by_cases h0 : j < 0
    · have hj : ¬ (0 ≤ j ∧ j < e) := by omega
      have z1 : szV true e j c f = 0 := by unfold szV; rw [if_pos rfl, if_neg hj]
      have z2 : szE true e j = 90 := by unfold szE; rw [if_pos rfl, if_neg hj]
      rw [hb, z1, z2]
      exact ev_row (ρ := ρ) (c := [c_j0 true]) (all1 (show some (decide (j < 0)) = some true by rw [decide_eq_true h0])) alln (hent true hb) rsegsize_ev2 [shV [a, b, c, d, e, f, g, h], .int .i64 j] _ hx (fun _ => rfl) w
    have F1 : CmpOk ρ (c_j0 false) := show some (decide (j < 0)) = some false by rw [decide_eq_false h0]
    by_cases h1 : j ≥ e
    · have hj : ¬ (0 ≤ j ∧ j < e) := by omega
      have z1 : szV true e j c f = 0 := by unfold szV; rw [if_pos rfl, if_neg hj]
      have z2 : szE true e j = 90 := by unfold szE; rw [if_pos rfl, if_neg hj]
      rw [hb, z1, z2]
      exact ev_row (ρ := ρ) (c := [c_j0 false, c_js true]) (allc F1 (all1 (show some (decide (j ≥ e)) = some true by rw [decide_eq_true h1]))) alln (hent true hb) rsegsize_ev3 [shV [a, b, c, d, e, f, g, h], .int .i64 j] _ hx (fun _ => rfl) w
    have F2 : CmpOk ρ (c_js false) := show some (decide (j ≥ e)) = some false by rw [decide_eq_false h1]
    by_cases h2 : j = e - 1
    · have hj : 0 ≤ j ∧ j < e := ⟨by omega, by omega⟩
      have z1 : szV true e j c f = f := by unfold szV; rw [if_pos rfl, if_pos hj, if_pos h2]
      have z2 : szE true e j = 0 := by unfold szE; rw [if_pos rfl, if_pos hj]
      rw [hb, z1, z2]
      exact ev_row (ρ := ρ) (allc F1 (allc F2 (all1 (c_jl_ok rfl rfl s1 s2 (beq_iff_eq.2 h2))))) alln (hent true hb) rsegsize_ev4 [shV [a, b, c, d, e, f, g, h], .int .i64 j] _ hx (fun _ => rfl) w
    · have hj : 0 ≤ j ∧ j < e := ⟨by omega, by omega⟩
      have z1 : szV true e j c f = c := by unfold szV; rw [if_pos rfl, if_pos hj, if_neg h2]
      have z2 : szE true e j = 0 := by unfold szE; rw [if_pos rfl, if_pos hj]
      rw [hb, z1, z2]
      exact ev_row (ρ := ρ) (allc F1 (allc F2 (all1 (c_jl_ok rfl rfl s1 s2 (beq_false_of_ne h2))))) alln (hent true hb) rsegsize_ev5 [shV [a, b, c, d, e, f, g, h], .int .i64 j] _ hx (fun _ => rfl) w
  · have hb : ftB a b c d e f g h = false := decide_eq_false hf
    rw [hb, szV, szE, if_neg (by decide), if_neg (by decide)]
    exact ev_row (ρ := ρ) alln alln (hent false hb) rsegsize_ev1 [shV [a, b, c, d, e, f, g, h], .int .i64 j] _ hx (fun _ => rfl) w
def cvO (t : Bool) (z p n : Int) : Prop := t = true ∧ 0 ≤ p ∧ 1 ≤ n ∧ n ≤ z - p
instance (t : Bool) (z p n : Int) : Decidable (cvO t z p n) := by unfold cvO; infer_instance
def cvE (t : Bool) (z p n : Int) : Int := if t = true then (if cvO t z p n then 0 else 90) else 92
def cvA (t : Bool) (s z p n : Int) : Int := if cvO t z p n then p / s else 0
def cvZ (t : Bool) (s z p n : Int) : Int := if cvO t z p n then (p + n - 1) / s else 0
def c_a0 (b : Bool) : BinOp × Ex × Ex × Bool := (.lss, .var 8, .lit 0, b)
def c_n1 (b : Bool) : BinOp × Ex × Ex × Bool := (.lss, .var 9, .lit 1, b)
def c_az (b : Bool) : BinOp × Ex × Ex × Bool := (.gtr, .var 8, .var 3, b)
def c_nz (b : Bool) : BinOp × Ex × Ex × Bool := (.gtr, .var 9, .ari .sub .i64 (.var 3) (.var 8), b)
def c_s0 : BinOp × Ex × Ex × Bool := (.neq, .var 2, .lit 0, true)
def cvX : AV := .tup [e64 (.ari .quo .i64 (.var 8) (.var 2)), e64 (.ari .quo .i64 (.ari .sub .i64 (.ari .add .i64 (.var 8) (.var 9)) (.lit 1)) (.var 2)), e64 (.lit 0)]
def cvBad (e : Int) : AV := .tup [e64 (.lit 0), e64 (.lit 0), e64 (.lit e)]
end Go.Proofs.Ytjfebbhnjcnepaa
namespace Go.Proofs.Ytjfebbhnjcnepaa
open Go.RowKit
theorem info_u8 : (Try.prog.info? 5).map (fun i => (i.zero, i.size, i.bytes)) = some (some (.int .u8 0), 1, 1) := by kernel_rfl
theorem size_u8 : ∀ w, Sem.run Try.prog (Go.sizeOf 5) w = .ok 1 w := fun w => by
  obtain ⟨i0, hi, hz0, hz1, hz2⟩ := info_parts info_u8
  simp [Go.sizeOf, typeInfo, hi, hz1]
theorem eql_nil_bytes : ∀ (w : World) (a : Option Addr) (n c n' c' : Nat), (binOp .eql 24 (.slice a n c) (.slice none n' c')).run Try.prog w = .ok (.bool a.isNone) w :=
  fun w a n c n' c' => Lib.run_eql_slice_nil w _ _ a n c n' c' Try.underlying24
set_option maxHeartbeats 1000000 in
theorem clone_any (w : World) (v : Value) (l : List Int) (h : HB w v l) (hbig : l.length ≤ 140737488355328) :
    Calls Try.prog 15 #[v] w fun e w' => ∃ v', e = .returned v' ∧ w'.ownsRow w.heap.size 5 1 v' l.length (l.map (Value.int .u8)) ∧ Below w.heap.size w w' := by
  obtain ⟨i0, hi, hz0, hz1, hz2⟩ := info_parts info_u8
  have q22 := eql_nil_bytes
  obtain ⟨⟨p, c, rfl, hlc, hm, _, hcell⟩, hby⟩ := h
  cases p with
  | none =>
    have e : l = [] := by
      apply Classical.byContradiction
      intro hne
      obtain ⟨b, off, e, _⟩ := hcell hne
      cases e
    subst e
    go_enter Try.func15, Try.ntmps15
    go_wp2
    go_ret
    exact ⟨_, rfl, World.ownsRow_nil _ _ _ _, Below.refl _ _⟩
  | some a =>
    have A : Hid (l ≠ [] → ∃ b off, some a = some ⟨b, off, none⟩ ∧ ∀ j, j < l.length → w.cell? ⟨b, off + j, none⟩ = some (.int .u8 (l.getD j 0))) := hcell
    clear hcell
    go_enter Try.func15, Try.ntmps15
    go_wp2_with (at_builtin; refine wpList_append_own _ rfl _ _ 24 rfl w.heap.size 5 i0 (.int .u8 0) 1 1 Try.underlying24 hi hz0 hz1 hz2 rfl (by decide) _ _ _ rfl (World.ownsRow_made w #[] 0 (Nat.le_refl _) (Nat.zero_le _) rfl) a l.length c (l.map (Value.int .u8)) rfl ?qc1 ?qc2 ?qc3 ?qc4 ?qc5 ?qc6 ?_)
    case qc1 => simp
    case qc2 =>
      intro j u hj
      have hjn : j < l.length := by
        have := (List.getElem?_eq_some_iff.1 hj).1
        simpa using this
      refine Lib.cell?_alloc_some _ ?_
      obtain ⟨b, off, e, hh⟩ := A.out (by intro e; subst e; simp at hjn)
      cases e
      rw [Go.WideShapes.add_plain, hh j hjn]
      have e : (l.map (Value.int .u8))[j]? = some (Value.int .u8 (l.getD j 0)) := by simp [List.getD, List.getElem?_eq_getElem hjn]
      rw [e] at hj
      exact hj
    case qc3 => intro u hu; obtain ⟨x, _, rfl⟩ := List.mem_map.1 hu; rfl
    case qc4 => unfold maxLen; omega
    case qc5 => omega
    case qc6 => simp
    intro v' w1 hown hgrow hnil
    go_wp2
    go_ret
    exact ⟨v', rfl, by simpa using hown, ((Below.refl _ w).alloc (Nat.le_refl _) _).grown hgrow (by simp) (by intro k hk; simp [Value.ownBlock] at hk; omega)⟩
theorem grown_set (w : World) (g o : Nat) (u : Value) : w.grownBy (w.setCell ⟨g, o, none⟩ u) (some g) :=
  ⟨rfl, rfl, rfl, by simp, fun k _ hk => heap_setCell_other w ⟨g, o, none⟩ k u (fun e => hk (by simp [e]))⟩
theorem grown_trans {a b c : World} {r : Option Nat} (h : a.grownBy b r) (k : b.grownBy c r) : a.grownBy c r :=
  ⟨k.os.trans h.os, k.tape.trans h.tape, k.output.trans h.output, Nat.le_trans h.size k.size, fun i hi hr => (k.block i (Nat.lt_of_lt_of_le hi h.size) hr).trans (h.block i hi hr)⟩
theorem grown_below {a b : World} {r : Option Nat} (h : Below a.heap.size a b) : a.grownBy b r :=
  ⟨h.os, h.tape, h.output, h.size, fun i hi _ => h.block i hi⟩
theorem HB.sliced {w : World} {p : Option Addr} {c : Nat} {l : List Int} (h : HB w (.slice p l.length c) l) (lo hi m : Nat) (h1 : lo ≤ hi) (h2 : hi ≤ l.length) (h3 : hi ≤ m) (h4 : m ≤ c) : HB w (.slice (if m = lo then p else p.map (·.add lo)) (hi - lo) (m - lo)) ((l.take hi).drop lo) := by
  obtain ⟨⟨p', c', e, hc, hm, hpc, hcell⟩, hby⟩ := h
  simp only [Value.slice.injEq, true_and] at e
  obtain ⟨rfl, rfl⟩ := e
  have hlen : ((l.take hi).drop lo).length = hi - lo := by simp; omega
  refine ⟨⟨_, m - lo, by rw [hlen], by omega, by omega, fun e => ?_, fun hne => ?_⟩, fun x hx => hby x (List.mem_of_mem_take (List.mem_of_mem_drop hx))⟩
  · have : p = none := by
      split at e
      · exact e
      · cases p <;> simp_all
    have := hpc this
    omega
  have hlt : lo < hi := by
    apply Classical.byContradiction
    intro hn
    exact hne (List.length_eq_zero_iff.1 (by omega))
  obtain ⟨b, off, rfl, hk⟩ := hcell (by intro e; subst e; simp at h2; omega)
  rw [if_neg (by omega)]
  refine ⟨b, off + lo, by simp [Go.WideShapes.add_plain], fun j hj => ?_⟩
  rw [hlen] at hj
  have := hk (lo + j) (by omega)
  rw [show off + lo + j = off + (lo + j) by omega, this]
  have e1 : ((l.take hi).drop lo).getD j 0 = l.getD (lo + j) 0 := by
    simp only [List.getD, List.getElem?_drop, List.getElem?_take]
    rw [if_pos (by omega)]
  rw [e1]
theorem HB.pre {w : World} {p : Option Addr} {c : Nat} {l : List Int} (h : HB w (.slice p l.length c) l) (n : Nat) (hn : n ≤ l.length) : HB w (.slice p n n) (l.take n) := by
  obtain ⟨p', c', e, hc, _⟩ := h.open
  simp only [Value.slice.injEq, true_and] at e
  obtain ⟨rfl, rfl⟩ := e
  have := h.sliced 0 n n (Nat.zero_le _) hn (Nat.le_refl _) (by omega)
  have e : (if n = 0 then p else p.map (·.add 0)) = p := by
    split
    · rfl
    · cases p <;> simp [Addr.add]
  simpa [e] using this
theorem HB.suf {w : World} {p : Option Addr} {c : Nat} {l : List Int} (h : HB w (.slice p l.length c) l) (n : Nat) (hn : n ≤ l.length) : HB w (.slice (if c = n then p else p.map (·.add n)) (l.length - n) (c - n)) (l.drop n) := by
  obtain ⟨p', c', e, hc, _⟩ := h.open
  simp only [Value.slice.injEq, true_and] at e
  obtain ⟨rfl, rfl⟩ := e
  have := h.sliced n l.length c hn (Nat.le_refl _) hc (Nat.le_refl _)
  rwa [List.take_of_length_le (Nat.le_refl _)] at this
theorem HB.slice_form {w : World} {v : Value} {l : List Int} (h : HB w v l) : ∃ p c, v = .slice p l.length c := by
  obtain ⟨p, c, e, _⟩ := h.open
  exact ⟨p, c, e⟩
theorem wpList_append_HB {w : World} {ops : Array Oper} {rest : List Oper} {o : Oper} {a : Act} {Q : Exit → Act → World → Prop} (hgd : o.guard = none) (s x : Operand)
    (ho : o.op = .call { callee := .builtin .append, args := #[s, x], argTypes := #[24, 24] })
    (base : Nat) (v : Value) (n : Nat) (xs : List Value) (hs : a.eval s = v) (hown : w.ownsRow base 5 1 v n xs)
    (u : Value) (l : List Int) (hx : a.eval x = u) (hu : HB w u l) (hbytes : n + l.length ≤ 140737488355328) (hbase : base ≤ w.heap.size)
    (h : ∀ v' w', w'.ownsRow base 5 1 v' (n + l.length) (xs ++ l.map (Value.int .u8)) → w.grownBy w' v.ownBlock → wpList Try.prog ops Q rest (a.put o.dst v') w') : wpList Try.prog ops Q (o :: rest) a w := by
  obtain ⟨i0, hi, hz0, hz1, hz2⟩ := info_parts info_u8
  obtain ⟨⟨p, c, rfl, hlc, hm, hpc, hcell⟩, hby⟩ := hu
  cases p with
  | none =>
    have e : l = [] := by
      apply Classical.byContradiction
      intro hne
      obtain ⟨b, off, e, _⟩ := hcell hne
      cases e
    subst e
    have := hpc rfl
    subst this
    refine wpList_append_own_none hgd s x 24 ho base 5 i0 1 Try.underlying24 hi v n xs hs hown hx ?_
    exact h v w (by simpa using hown) ⟨rfl, rfl, rfl, Nat.le_refl _, fun _ _ _ => rfl⟩
  | some ad =>
    refine wpList_append_own w hgd s x 24 ho base 5 i0 (.int .u8 0) 1 1 Try.underlying24 hi hz0 hz1 hz2 rfl (by decide) v n xs hs hown ad l.length c (l.map (Value.int .u8)) hx (by simp) ?_ ?_ (by unfold maxLen; omega) (by omega) hbase (fun v' w' h1 h2 _ => h v' w' h1 h2)
    · intro j y hj
      have hjn : j < l.length := by
        have := (List.getElem?_eq_some_iff.1 hj).1
        simpa using this
      obtain ⟨b, off, e, hh⟩ := hcell (by intro e; subst e; simp at hjn)
      cases e
      rw [Go.WideShapes.add_plain, hh j hjn]
      have e : (l.map (Value.int .u8))[j]? = some (Value.int .u8 (l.getD j 0)) := by simp [List.getD, List.getElem?_eq_getElem hjn]
      rw [e] at hj
      exact hj
    · intro u hu; obtain ⟨x, _, rfl⟩ := List.mem_map.1 hu; rfl
theorem flat_snoc (ls : List (List Int)) (k : Nat) (hk : k < ls.length) : (ls.take (k + 1)).flatten = (ls.take k).flatten ++ ls.getD k [] := by
  rw [List.take_succ_eq_append_getElem hk, List.flatten_append]
  simp [List.getD, List.getElem?_eq_getElem hk]
theorem flat_take_le (ls : List (List Int)) (k : Nat) : (ls.take k).flatten.length ≤ ls.flatten.length := by
  conv => rhs; rw [← List.take_append_drop k ls, List.flatten_append, List.length_append]
  omega
def lensTo (ls : List (List Int)) (k : Nat) : Nat := (ls.take k).flatten.length
def flatTo (ls : List (List Int)) (k : Nat) : List Int := (ls.take k).flatten
theorem own_mono {w : World} {B B' e n : Nat} {v : Value} {xs : List Value} (h : w.ownsRow B e 1 v n xs) (hb : B' ≤ B) : w.ownsRow B' e 1 v n xs := by
  refine ⟨h.1, ?_⟩
  rcases h.2 with h2 | ⟨g, cap, cur, h1, h2, h3⟩
  · exact .inl h2
  · exact .inr ⟨g, cap, cur, h1, Nat.le_trans hb h2, h3⟩
theorem own_slc {w : World} {B n : Nat} {e : TypeId} {v : Value} {xs : List Value} (h : w.ownsRow B e 1 v n xs) : ∃ p c, v = .slice p n c := by
  rcases h.2 with ⟨rfl, rfl⟩ | ⟨g, cap, cur, rfl, _⟩
  · exact ⟨none, 0, rfl⟩
  · exact ⟨_, _, rfl⟩
theorem none_or (z : Option Nat) : z = none ∨ z ≠ none := by cases z <;> simp
theorem own_below {w w' : World} {B n : Nat} {e : TypeId} {v : Value} {xs : List Value} (h : w.ownsRow B e 1 v n xs) (hb : Below w.heap.size w w') : w'.ownsRow B e 1 v n xs :=
  h.kept ⟨hb.os, hb.tape, hb.output, hb.size, fun k hk _ => hb.block k hk⟩ (none_or _)
theorem own_ne {w w' : World} {B B' n n' : Nat} {e e' : TypeId} {v v' : Value} {xs xs' : List Value} (h : w.ownsRow B e 1 v n xs) (h' : w'.ownsRow B' e' 1 v' n' xs') (hb : w.heap.size ≤ B') :
    (v.ownBlock = none ∨ v.ownBlock ≠ v'.ownBlock) ∧ (v'.ownBlock = none ∨ v'.ownBlock ≠ v.ownBlock) := by
  constructor
  · rcases none_or v.ownBlock with q | q
    · exact .inl q
    · refine .inr fun e => ?_
      obtain ⟨k, hk⟩ := Option.ne_none_iff_exists'.1 q
      have h1 := h.lt k hk
      have h2 := h'.lt k (e ▸ hk)
      omega
  · rcases none_or v'.ownBlock with q | q
    · exact .inl q
    · refine .inr fun e => ?_
      obtain ⟨k, hk⟩ := Option.ne_none_iff_exists'.1 q
      have h1 := h'.lt k hk
      have h2 := h.lt k (e ▸ hk)
      omega
end Go.Proofs.Ytjfebbhnjcnepaa
namespace Go.Proofs.Ytjfebbhnjcnepaa
open Go Go.RowKit
theorem take_drop_len {l : List Int} {i n : Nat} (h : i + n ≤ l.length) : ((l.take (i + n)).drop i).length = n := by simp; omega
set_option maxRecDepth 100000 in
set_option maxHeartbeats 2000000 in
theorem piece_any (w : World) (v : Value) (l : List Int) (i n : Nat) (h : HB w v l) (hn1 : 1 ≤ n) (hle : i + n ≤ l.length) (hbig : l.length ≤ 140737488355328) :
    Calls Try.prog 26 #[v, .int .i64 i, .int .i64 n] w fun e w' => ∃ v', e = .returned v' ∧ w'.ownsRow w.heap.size 5 1 v' n (((l.take (i + n)).drop i).map (Value.int .u8)) ∧ Below w.heap.size w w' := by
  obtain ⟨p, c, rfl, hlc, hcm⟩ := h.open
  unfold maxLen at hcm
  have hs := h.sliced i (i + n) (i + n) (by omega) hle (Nat.le_refl _) (by omega)
  have C := hid (clone_any w _ _ hs (by rw [take_drop_len hle]; omega))
  have L := hid (take_drop_len hle)
  have sz := size_u8
  clear h hs
  obtain ⟨N, HN⟩ : ∃ N, Hid (i + n = N) := ⟨_, rfl⟩
  have hN : (i : Int) + (n : Int) = (N : Int) := by have := HN.out; omega
  have hN2 : N ≤ c := by have := HN.out; omega
  have hN3 : i < N := by have := HN.out; omega
  have hNi : ¬ N = i := by omega
  have hN4 : N ≤ 140737488355328 := by have := HN.out; omega
  rw [HN.out, if_neg hNi] at C
  rw [HN.out] at L
  rw [HN.out]
  go_enter Try.func26, Try.ntmps26
  go_wp2_with fail
  refine C.out.mono ?_
  rintro e w' ⟨v', rfl, ho, hB⟩
  rw [L.out] at ho
  have HO := hid ho
  have HBl := hid hB
  clear ho hB C
  go_wp2
  go_ret
  exact ⟨_, rfl, HO.out, HBl.out⟩
def sgE (t : Bool) (n : Nat) (d e j : Int) : Int := if t = true then (if (n : Int) = d then szE t e j else 91) else 92
def sgL (t : Bool) (l : List Int) (c d e f j : Int) : List Int := if sgE t l.length d e j = 0 then (l.take ((j * c).toNat + (szV t e j c f).toNat)).drop (j * c).toNat else []
theorem sgL_byt {t : Bool} {l : List Int} {c d e f j : Int} (h : ∀ x ∈ l, 0 ≤ x ∧ x < 256) : ∀ x ∈ sgL t l c d e f j, 0 ≤ x ∧ x < 256 := by
  unfold sgL
  split
  · exact fun x hx => h x (List.mem_of_mem_take (List.mem_of_mem_drop hx))
  · simp
theorem sgL_le (t : Bool) (l : List Int) (c d e f j : Int) : (sgL t l c d e f j).length ≤ l.length := by
  unfold sgL
  split
  · simp; omega
  · simp
theorem seg_fit {a b c d e f g h j : Int} {n : Nat} (hf : Ft a b c d e f g h) (hn : (n : Int) = d) (hj : 0 ≤ j ∧ j < e) :
    ∃ i m : Nat, j * c = (i : Int) ∧ szV true e j c f = (m : Int) ∧ 1 ≤ m ∧ i + m ≤ n ∧ n ≤ 16777216 := by
  obtain ⟨he, hff, _, _, s1, s2⟩ := hf.segs
  obtain ⟨⟨h1, h2, h3, h4, h5, h6, h7, h8, h9⟩, _⟩ := hf
  have us := up_split d c
  have tp := tlI_pos (x := d) h4
  have tl := tlI_le (x := d) h4
  have j0 : 0 ≤ j * c := Int.mul_nonneg hj.1 (by omega)
  have z1 : szV true e j c f = if j = e - 1 then f else c := by unfold szV; rw [if_pos rfl, if_pos hj]
  rw [← he] at us
  by_cases hl : j = e - 1
  · rw [if_pos hl] at z1
    rw [← hff] at us tp tl
    rw [← hl] at us
    refine ⟨(j * c).toNat, f.toNat, by omega, by omega, by omega, by omega, by omega⟩
  · rw [if_neg hl] at z1
    have hm : (j + 1) * c ≤ (e - 1) * c := Int.mul_le_mul_of_nonneg_right (by omega) (by omega)
    rw [Int.add_mul] at hm
    refine ⟨(j * c).toNat, c.toNat, by omega, by omega, by omega, by omega, by omega⟩
theorem shV8 (a b c d e f g h : Int) : shV [a, b, c, d, e, f, g, h] = .agg #[.int .i64 a, .int .i64 b, .int .i64 c, .int .i64 d, .int .i64 e, .int .i64 f, .int .i64 g, .int .i64 h] := rfl
theorem below_in {w w1 w2 : World} {o : Obj} (h : Below (w.alloc o).heap.size (w.alloc o) w1) : Below w.heap.size w w1 := (below_alloc w o).trans (h.mono (by simp))
set_option maxRecDepth 100000 in
set_option maxHeartbeats 4000000 in
theorem rsegment_any (w : World) (a b c d e f g h j : Int) (v : Value) (l : List Int) (hv : HB w v l) :
    Calls Try.prog 17 #[shV [a, b, c, d, e, f, g, h], v, .int .i64 j] w fun r w' => ∃ v', r = .returned (.tuple #[v', .int .i64 (sgE (ftB a b c d e f g h) l.length d e j)]) ∧ w'.ownsRow w.heap.size 5 1 v' (sgL (ftB a b c d e f g h) l c d e f j).length ((sgL (ftB a b c d e f g h) l c d e f j).map (Value.int .u8)) ∧ Below w.heap.size w w' := by
  have HV := hid hv
  obtain ⟨p, cc, rfl, hlc, hcm⟩ := hv.open
  unfold maxLen at hcm
  clear hv
  have CF : ∀ w, Hid (Calls Try.prog 18 #[.agg #[.int .i64 a, .int .i64 b, .int .i64 c, .int .i64 d, .int .i64 e, .int .i64 f, .int .i64 g, .int .i64 h]] w fun r w' => r = .returned (.bool (ftB a b c d e f g h)) ∧ Below w.heap.size w w') := fun w => rfits_any w a b c d e f g h
  have CS : ∀ w, Hid (Calls Try.prog 27 #[.agg #[.int .i64 a, .int .i64 b, .int .i64 c, .int .i64 d, .int .i64 e, .int .i64 f, .int .i64 g, .int .i64 h], .int .i64 j] w fun r w' => r = .returned (.tuple #[.int .i64 (szV (ftB a b c d e f g h) e j c f), .int .i64 (szE (ftB a b c d e f g h) e j)]) ∧ Below w.heap.size w w') := fun w => rsegsize_any w a b c d e f g h j
  rw [shV8]
  go_enter Try.func17, Try.ntmps17
  go_wp2_with fail
  obtain ⟨W0, HW0⟩ : ∃ W0, Hid (w.alloc (.cells #[.int .i64 a, .int .i64 b, .int .i64 c, .int .i64 d, .int .i64 e, .int .i64 f, .int .i64 g, .int .i64 h] 23) = W0) := ⟨_, rfl⟩
  rw [HW0.out]
  have hS0 : W0.heap.size = w.heap.size + 1 := by rw [← HW0.out]; simp
  have HS0 := hid hS0
  have B0 : Hid (Below w.heap.size w W0) := by rw [← HW0.out]; exact below_alloc _ _
  have K0 : Hid (∀ i v, #[Value.int .i64 a, .int .i64 b, .int .i64 c, .int .i64 d, .int .i64 e, .int .i64 f, .int .i64 g, .int .i64 h][i]? = some v → W0.cell? ⟨w.heap.size, i, none⟩ = some v) := fun i v hi => by rw [← HW0.out, cell_of_row _ _ _ _ _ _ (heap_alloc_new w _)]; exact hi
  clear hS0
  refine (CF W0).out.mono ?_
  rintro e1 w1 ⟨rfl, hB1⟩
  have B1 := hid hB1
  have hS1 := hid hB1.size
  clear hB1
  have K1 : Hid (∀ i v, #[Value.int .i64 a, .int .i64 b, .int .i64 c, .int .i64 d, .int .i64 e, .int .i64 f, .int .i64 g, .int .i64 h][i]? = some v → w1.cell? ⟨w.heap.size, i, none⟩ = some v) := fun i v hi => (B1.out.cell (by have := HS0.out; show w.heap.size < _; omega)).trans (K0.out i v hi)
  have B01 : Hid (Below w.heap.size w w1) := B0.out.trans (B1.out.mono (by have := HS0.out; omega))
  by_cases hf : Ft a b c d e f g h
  case neg =>
    have hb : ftB a b c d e f g h = false := decide_eq_false hf
    have E1 : Hid (sgE false l.length d e j = 92) := if_neg (by decide)
    have E2 : Hid (sgL false l c d e f j = []) := if_neg (by rw [E1.out]; decide)
    have HBB := hid hb
    rw [hb]
    clear hb hf
    go_wp2
    go_ret2
    rw [HBB.out, E1.out, E2.out]
    exact ⟨_, rfl, World.ownsRow_nil _ _ _ _, B01.out⟩
  case pos =>
    have HF := hid hf
    have hb : ftB a b c d e f g h = true := decide_eq_true hf
    have HBB := hid hb
    rw [hb] at CS
    rw [hb]
    clear hb hf
    have c3 := K1.out 3 _ rfl
    by_cases hd : (l.length : Int) = d
    case neg =>
      have E1 : Hid (sgE true l.length d e j = 91) := by show _ = _; unfold sgE; rw [if_pos rfl, if_neg hd]
      have E2 : Hid (sgL true l c d e f j = []) := if_neg (by rw [E1.out]; decide)
      go_wp2
      go_ret2
      rw [HBB.out, E1.out, E2.out]
      exact ⟨_, rfl, World.ownsRow_nil _ _ _ _, B01.out⟩
    case pos =>
      have HD := hid hd
      have c0 := K1.out 0 _ rfl
      have c1 := K1.out 1 _ rfl
      have c2 := K1.out 2 _ rfl
      have c4 := K1.out 4 _ rfl
      have c5 := K1.out 5 _ rfl
      have c6 := K1.out 6 _ rfl
      have c7 := K1.out 7 _ rfl
      go_wp2_with fail
      refine (CS w1).out.mono ?_
      rintro e2 w2 ⟨rfl, hB2⟩
      have B2 := hid hB2
      have K2 : Hid (w2.cell? ⟨w.heap.size, 2, none⟩ = some (.int .i64 c)) := (B2.out.cell (by have := HS0.out; have := hS1.out; show w.heap.size < _; omega)).trans (K1.out 2 _ rfl)
      have B02 : Hid (Below w.heap.size w w2) := B01.out.trans (B2.out.mono (by have := HS0.out; have := hS1.out; omega))
      clear hB2 c0 c1 c2 c3 c4 c5 c6 c7
      by_cases hj : 0 ≤ j ∧ j < e
      case neg =>
        have E0 : szE true e j = 90 := by unfold szE; rw [if_pos rfl, if_neg hj]
        have E1 : Hid (sgE true l.length d e j = 90) := by show _ = _; unfold sgE; rw [if_pos rfl, if_pos HD.out, E0]
        have E2 : Hid (sgL true l c d e f j = []) := if_neg (by rw [E1.out]; decide)
        rw [E0]
        clear E0 hj
        go_wp2
        go_ret2
        rw [HBB.out, E1.out, E2.out]
        exact ⟨_, rfl, World.ownsRow_nil _ _ _ _, B02.out⟩
      case pos =>
        have E0 : szE true e j = 0 := by unfold szE; rw [if_pos rfl, if_pos hj]
        have E1 : Hid (sgE true l.length d e j = 0) := by show _ = _; unfold sgE; rw [if_pos rfl, if_pos HD.out, E0]
        obtain ⟨i, m, q1, q2, q3, q4, q5⟩ := seg_fit HF.out HD.out hj
        have E2 : Hid (sgL true l c d e f j = (l.take (i + m)).drop i) := by
          show _ = _
          unfold sgL
          rw [if_pos E1.out, q1, q2, Int.toNat_natCast, Int.toNat_natCast]
        rw [E0, q2]
        have L := hid (take_drop_len q4)
        have hw : IntKind.i64.wrap (i : Int) = (i : Int) := wrap64 (by omega) (by omega)
        have k2 := K2.out
        have hs := (HV.out.below B02.out).sliced i (i + m) cc (by omega) q4 (by omega) (Nat.le_refl _)
        obtain ⟨N, HN⟩ : ∃ N, Hid (i + m = N) := ⟨_, rfl⟩
        have hN : (i : Int) + (m : Int) = (N : Int) := by have := HN.out; omega
        have hN2 : N ≤ cc := by have := HN.out; omega
        have hN3 : i < N := by have := HN.out; omega
        have hN4 : N ≤ 16777216 := by have := HN.out; omega
        have hNi : ¬ cc = i := by omega
        have hci : i ≤ cc := by omega
        rw [HN.out, if_neg hNi] at hs
        rw [HN.out] at L E2
        have HS := hid hs
        have sz := size_u8
        have HL4 := hid q4
        have HL5 := hid q5
        clear E0 hj hs q4 q5 q3
        go_wp2_with (at_builtin; refine wpList_append_HB rfl _ _ rfl w2.heap.size _ 0 [] rfl (World.ownsRow_nil _ _ _ _) _ _ rfl HS.out ?q1 ?q2 ?_)
        case q1 => rw [L.out]; have := HL4.out; have := HL5.out; omega
        case q2 => exact Nat.le_refl _
        intro v3 w3 hown hgr
        have O3 : Hid (w3.ownsRow w2.heap.size 5 1 v3 m (((l.take N).drop i).map (Value.int .u8))) := by
          show World.ownsRow _ _ _ _ _ _ _
          rw [show min N l.length - i = m by have := HL4.out; have := HN.out; omega] at hown
          simpa [List.map_drop, List.map_take] using hown
        have B3 := hid ((Below.refl _ w2).grown hgr (Nat.le_refl _) (fun k e => by cases e))
        clear hown hgr
        go_wp2
        go_ret2
        rw [HBB.out]
        refine ⟨v3, by rw [E1.out]; rfl, ?_, B02.out.trans (B3.out.mono B02.out.size)⟩
        rw [E2.out, L.out]
        exact own_mono O3.out B02.out.size
end Go.Proofs.Ytjfebbhnjcnepaa
namespace Go.Proofs.Ytjfebbhnjcnepaa
open Go Go.RowKit Go.Shelf
attribute [local go_sem] Oper.semAt_some
def pcN (len size : Nat) : Nat := (len - 1) / size + 1
def pcAt (size k : Nat) : Nat := k * size
def pcP (l : List Int) (size k : Nat) : List Int := (l.take (pcAt size k + min size (l.length - pcAt size k))).drop (pcAt size k)
theorem pcN_iff {len size k : Nat} (hs : 1 ≤ size) (hl : 1 ≤ len) : k < pcN len size ↔ pcAt size k < len := by
  unfold pcN pcAt
  rw [Nat.lt_succ_iff, Nat.le_div_iff_mul_le (by omega)]
  omega
theorem pcN_up {len size : Nat} (hl : 1 ≤ len) : upI (len : Int) (size : Int) = (pcN len size : Int) := by
  unfold upI pcN
  rw [show (len : Int) - 1 = ((len - 1 : Nat) : Int) by omega]
  simp
theorem pcP_length (l : List Int) (size k : Nat) : (pcP l size k).length = min size (l.length - pcAt size k) := by
  unfold pcP
  simp
  omega
structure PcBox (w : World) (hv : Value) (b5 b3 : Nat) (l : List Int) (size : Nat) : Prop where
  row : HB w hv l
  held : w.cell? ⟨b5, 0, none⟩ = some hv
  sz : w.cell? ⟨b3, 0, none⟩ = some (.int .i64 size)
def pcD (hv : Value) (b5 b3 : Nat) (i : Nat) : Prop := i = b5 ∨ i = b3 ∨ hv.ownBlock = some i
theorem cell_of_blk {A C : World} {a : Addr} (h : C.heap[a.block]? = A.heap[a.block]?) : C.cell? a = A.cell? a := by simp [World.cell?, h]
theorem PcBox.kept {A C : World} {hv : Value} {b5 b3 size : Nat} {l : List Int} (h : PcBox A hv b5 b3 l size) (k : KD (pcD hv b5 b3) A C) : PcBox C hv b5 b3 l size := by
  refine ⟨?_, (cell_of_blk (k.2 b5 (.inl rfl))).trans h.held, (cell_of_blk (k.2 b3 (.inr (.inl rfl)))).trans h.sz⟩
  obtain ⟨⟨p, c, rfl, h2, h3, h6, h4⟩, h5⟩ := h.row
  refine ⟨⟨p, c, rfl, h2, h3, h6, fun hl => ?_⟩, h5⟩
  obtain ⟨b, off, rfl, hh⟩ := h4 hl
  exact ⟨b, off, rfl, fun j hj => (cell_of_blk (a := ⟨b, off + j, none⟩) (k.2 b (.inr (.inr rfl)))).trans (hh j hj)⟩
set_option maxRecDepth 100000 in
set_option maxHeartbeats 1000000 in
theorem pieces_any (w : World) (v : Value) (l : List Int) (size : Nat) (h : HB w v l) :
    Calls Try.prog 14 #[v, .int .i64 size] w fun e w' => ∃ b5 b3, e = .returned (.func (.func 24) #[] #[.pointer (some ⟨b5, 0, none⟩), .pointer (some ⟨b3, 0, none⟩)]) ∧ PcBox w' v b5 b3 l size ∧ b5 = w.heap.size ∧ b3 = w.heap.size + 1 ∧ w'.heap.size = w.heap.size + 2 ∧ w'.heap[b5]? = some (.cells #[v] 24 (0, 0)) ∧ w'.heap[b3]? = some (.cells #[.int .i64 size] 3 (0, 0)) ∧ Below w.heap.size w w' := by
  have H := hid h
  obtain ⟨p, c, rfl, _, _⟩ := h.open
  clear h
  go_enter Try.func14, Try.ntmps14
  go_wp2
  go_ret
  obtain ⟨W1, HW1⟩ : ∃ W1, Hid (w.alloc (.cells #[.slice p l.length c] 24) = W1) := ⟨_, rfl⟩
  have hs1 : W1.heap.size = w.heap.size + 1 := by rw [← HW1.out]; simp
  have B1 : Below w.heap.size w W1 := by rw [← HW1.out]; exact below_alloc _ _
  have hb1 : W1.heap[w.heap.size]? = some (.cells #[.slice p l.length c] 24 (0, 0)) := by rw [← HW1.out]; exact heap_alloc_new w _
  have B2 : Below W1.heap.size W1 (W1.alloc (.cells #[.int .i64 size] 3)) := below_alloc _ _
  refine ⟨w.heap.size, w.heap.size + 1, rfl, ⟨?_, ?_, ?_⟩, rfl, rfl, ?_, ?_, ?_, ?_⟩
  · rw [HW1.out]; exact (H.out.below B1).below B2
  · rw [HW1.out, cell_of_row _ _ _ _ _ _ ((B2.block w.heap.size (by omega)).trans hb1)]; rfl
  · rw [HW1.out, ← hs1, cell_of_row _ _ _ _ _ _ (heap_alloc_new W1 _)]; rfl
  · rw [HW1.out]; simp [hs1]
  · rw [HW1.out]; exact (B2.block w.heap.size (by omega)).trans hb1
  · rw [HW1.out, ← hs1]; exact heap_alloc_new W1 _
  · rw [HW1.out]; exact B1.trans (B2.mono (by omega))
set_option maxRecDepth 100000 in
set_option maxHeartbeats 4000000 in
theorem pieces_iter (n : Nat) (w0 : World) (hv : Value) (b5 b3 : Nat) (l : List Int) (size : Nat) (hs : 1 ≤ size) (hs2 : size ≤ 1073741824) (hl1 : 1 ≤ l.length) (hbig : l.length ≤ 1073741824) (hbox : PcBox w0 hv b5 b3 l size) (hD : ∀ i, pcD hv b5 b3 i → i < w0.heap.size) :
    IterF Fence.wide n Try.prog 24 #[.pointer (some ⟨b5, 0, none⟩), .pointer (some ⟨b3, 0, none⟩)] (fun k v => #[.int .i64 (k : Nat), v])
      (fun k v W => W.ownsRow w0.heap.size 5 1 v (pcP l size k).length ((pcP l size k).map (Value.int .u8))) (pcD hv b5 b3) (pcN l.length size) w0 := fun l' J Jx W hK hJ hY h0 => by
  have HBx := hid (hbox.kept hK)
  have HK := hid hK
  have HJ := hid hJ
  have HY := hid hY
  have H0 := hid h0
  have HD := hid hD
  clear hbox hK hJ hY h0 hD
  refine callsIn_of_wp Try.func24 rfl trivial ?_ rfl
  simp only [Try.ntmps24, List.size_toArray, List.length_cons, List.length_nil, Nat.reduceAdd, Nat.reduceSub, Array.replicate_succ, Array.replicate_zero, List.push_toArray, List.append_toArray, List.nil_append, List.cons_append]
  obtain ⟨p, c, rfl, hlc, hcm⟩ := HBx.out.row.open
  unfold maxLen at hcm
  have c5 := HBx.out.held
  have c3 := HBx.out.sz
  have CU := hid (upward_any W (l.length : Int) (size : Int) (by omega) (by omega) (by omega))
  rw [pcN_up hl1] at CU
  have hNle : pcN l.length size ≤ l.length := by
    unfold pcN
    have := Nat.div_le_self (l.length - 1) size
    omega
  obtain ⟨N, HN⟩ : ∃ N, Hid (pcN l.length size = N) := ⟨_, rfl⟩
  rw [HN.out] at CU hNle
  have HI := hid (fun k => (HN.out ▸ pcN_iff hs hl1 : k < N ↔ pcAt size k < l.length))
  gi_wp2
  refine ⟨trivial, fun h => absurd h (by simp [Fence.wide]), callsIn_wide.2 (CU.out.mono ?_)⟩
  rintro e wz ⟨rfl, hwz⟩
  rw [hwz]
  clear hwz wz CU c5 c3
  gi_wp2
  gi_loopw [10] (fun i wr => ∃ k : Nat, Hid (k ≤ N) ∧ i = .int .i64 (k : Int) ∧ Hid (J k wr) ∧ Hid (KD (pcD (.slice p l.length c) b5 b3) W wr)) (fun i _ => N - (intOf i).toNat)
  case atStart => exact ⟨0, Nat.zero_le _, rfl, H0, KD.refl _ _⟩
  case round =>
    obtain ⟨k, hk, rfl, HJk, HKk⟩ := hrel
    have hbx := HBx.out.kept HKk.out
    have c5 := hbx.held
    have c3 := hbx.sz
    have HR := hid hbx.row
    clear hbx
    by_cases hlt : k < N
    · obtain ⟨A, HA⟩ : ∃ A, Hid (pcAt size k = A) := ⟨_, rfl⟩
      have hAl : A < l.length := by rw [← HA.out]; exact (HI.out k).1 hlt
      have hmul : (k : Int) * (size : Int) = (A : Int) := by rw [← HA.out]; unfold pcAt; simp
      have hwA : IntKind.i64.wrap (A : Int) = (A : Int) := wrap64 (by omega) (by omega)
      obtain ⟨m, HM⟩ : ∃ m, Hid (min size (l.length - A) = m) := ⟨_, rfl⟩
      have hm1 : 1 ≤ m := by rw [← HM.out]; omega
      have hm2 : A + m ≤ l.length := by rw [← HM.out]; omega
      have HP : Hid (pcP l size k = (l.take (A + m)).drop A) := by
        show _ = _
        unfold pcP
        rw [HA.out, HM.out]
      have HPl : Hid ((pcP l size k).length = m) := by
        show _ = _
        rw [pcP_length, HA.out, HM.out]
      have hsub : (l.length : Int) - (A : Int) = ((l.length - A : Nat) : Int) := by omega
      have CP := hid (piece_any wr (.slice p l.length c) l A m HR.out hm1 hm2 (by omega))
      have HKW : Hid (w0.heap.size ≤ wr.heap.size) := Nat.le_trans HK.out.1 HKk.out.1
      by_cases hms : size ≤ l.length - A
      · have hme : m = size := by rw [← HM.out]; omega
        have hmi : (size : Int) ≤ ((l.length - A : Nat) : Int) := by omega
        rw [hme] at CP
        clear hms
        gi_wp2
        refine ⟨trivial, fun h => absurd h (by simp [Fence.wide]), callsIn_wide.2 (CP.out.mono ?_)⟩
        rintro e w1 ⟨v1, rfl, hown, hB⟩
        have hJ1 := HJ.out k wr w1 HJk.out (grown_below hB)
        have hown' : w1.ownsRow w0.heap.size 5 1 v1 (pcP l size k).length ((pcP l size k).map (Value.int .u8)) := by
          rw [HPl.out, HP.out, hme]
          exact own_mono hown HKW.out
        obtain ⟨fn, tmps, assign, body, hy, hR⟩ := HY.out k v1 w1 hJ1 hown' (by rw [HN.out]; exact hlt)
        have HRR := hid hR
        have HKD : Hid (KD (pcD (.slice p l.length c) b5 b3) wr w1) := ⟨hB.size, fun i hi => hB.block i (Nat.lt_of_lt_of_le (HD.out i hi) (Nat.le_trans HK.out.1 HKk.out.1))⟩
        have hkN := hlt
        clear hown hown' hB hJ1 hR CP c5 c3
        gi_wp2
        refine ⟨fun h => absurd h (by simp [Fence.wide]), HRR.out.mono ?_⟩
        rintro e W3 (⟨rfl, hJ3, hk3⟩ | ⟨rfl, hJx3⟩)
        · clear HRR hy
          have HF3 := hid (And.intro hk3 hJ3)
          clear hk3 hJ3
          gi_wp2
          go_roundw
          case rel => exact ⟨k + 1, hkN, by go_num, HF3.out.2, HKk.out.trans (HKD.out.trans HF3.out.1)⟩
          case measure => simp [intOf]; omega
        · clear HRR hy
          have HF3 := hid hJx3
          clear hJx3
          gi_wp2
          refine bodyPost_ret (results_none rfl _ _ _) rfl ?_
          exact ⟨⟨_, rfl⟩, .inr HF3.out⟩
      · have hme : m = l.length - A := by rw [← HM.out]; omega
        have hmi : ((l.length - A : Nat) : Int) < (size : Int) := by omega
        rw [hme] at CP
        clear hms
        gi_wp2
        refine ⟨trivial, fun h => absurd h (by simp [Fence.wide]), callsIn_wide.2 (CP.out.mono ?_)⟩
        rintro e w1 ⟨v1, rfl, hown, hB⟩
        have hJ1 := HJ.out k wr w1 HJk.out (grown_below hB)
        have hown' : w1.ownsRow w0.heap.size 5 1 v1 (pcP l size k).length ((pcP l size k).map (Value.int .u8)) := by
          rw [HPl.out, HP.out, hme]
          exact own_mono hown HKW.out
        obtain ⟨fn, tmps, assign, body, hy, hR⟩ := HY.out k v1 w1 hJ1 hown' (by rw [HN.out]; exact hlt)
        have HRR := hid hR
        have HKD : Hid (KD (pcD (.slice p l.length c) b5 b3) wr w1) := ⟨hB.size, fun i hi => hB.block i (Nat.lt_of_lt_of_le (HD.out i hi) (Nat.le_trans HK.out.1 HKk.out.1))⟩
        have hkN := hlt
        clear hown hown' hB hJ1 hR CP c5 c3
        gi_wp2
        refine ⟨fun h => absurd h (by simp [Fence.wide]), HRR.out.mono ?_⟩
        rintro e W3 (⟨rfl, hJ3, hk3⟩ | ⟨rfl, hJx3⟩)
        · clear HRR hy
          have HF3 := hid (And.intro hk3 hJ3)
          clear hk3 hJ3
          gi_wp2
          go_roundw
          case rel => exact ⟨k + 1, hkN, by go_num, HF3.out.2, HKk.out.trans (HKD.out.trans HF3.out.1)⟩
          case measure => simp [intOf]; omega
        · clear HRR hy
          have HF3 := hid hJx3
          clear hJx3
          gi_wp2
          refine bodyPost_ret (results_none rfl _ _ _) rfl ?_
          exact ⟨⟨_, rfl⟩, .inr HF3.out⟩
    · have HKE : Hid (k = N) := by have := hk.out; show _ = _; omega
      gi_wp2
      go_end0
      rw [HN.out, ← HKE.out]
      exact ⟨⟨_, rfl⟩, .inl HJk.out⟩
end Go.Proofs.Ytjfebbhnjcnepaa
namespace Go.Proofs.Ytjfebbhnjcnepaa
open Go Go.RowKit
def ShC (w : World) (x : Nat) (a b c d e f g h : Int) : Prop := ∀ i v, #[Value.int .i64 a, .int .i64 b, .int .i64 c, .int .i64 d, .int .i64 e, .int .i64 f, .int .i64 g, .int .i64 h][i]? = some v → w.cell? ⟨x, i, none⟩ = some v
theorem ShC.below {w w' : World} {x : Nat} {a b c d e f g h : Int} (k : ShC w x a b c d e f g h) (hb : Below w.heap.size w w') : ShC w' x a b c d e f g h := fun i v hi => (hb.cell (World.block_lt_of_cell? w ⟨x, i, none⟩ (k i v hi))).trans (k i v hi)
theorem ShC.dr {w w' : World} {x : Nat} {a b c d e f g h : Int} (k : ShC w x a b c d e f g h) (hd : Dr w w') : ShC w' x a b c d e f g h := fun i v hi => (hd.cell _).trans (k i v hi)
theorem ShC.other {w w' : World} {x : Nat} {a b c d e f g h : Int} {y : Nat} (k : ShC w x a b c d e f g h) (hg : w.grownBy w' (some y)) (hne : x ≠ y) : ShC w' x a b c d e f g h := fun i v hi => hg.cell (k i v hi) (fun q => hne (Option.some.inj q))
set_option maxRecDepth 100000 in
set_option maxHeartbeats 8000000 in
theorem segments_ok (w : World) (a b d e f g h : Int) (v : Value) (l : List Int) (s : Nat) (hv : HB w v l) (hf : Ft a b (s : Int) d e f g h) (hd : (l.length : Int) = d) :
    Calls Try.prog 5 #[shV [a, b, (s : Int), d, e, f, g, h], v] w fun r w' => ∃ hv b5 b3, r = .returned (.func (.func 24) #[] #[.pointer (some ⟨b5, 0, none⟩), .pointer (some ⟨b3, 0, none⟩)]) ∧ PcBox w' hv b5 b3 l s ∧ (∀ i, pcD hv b5 b3 i → w.heap.size ≤ i ∧ i < w'.heap.size) ∧ Below w.heap.size w w' := by
  have HV := hid hv
  obtain ⟨p, cc, rfl, hlc, hcm⟩ := hv.open
  unfold maxLen at hcm
  clear hv
  have hz2 : d ≤ 16777216 := hf.1.2.2.2.2.2.2.2.1
  have CF : ∀ w, Hid (Calls Try.prog 12 #[.agg #[Value.int .i64 a, .int .i64 b, .int .i64 (s : Int), .int .i64 d, .int .i64 e, .int .i64 f, .int .i64 g, .int .i64 h]] w fun r w' => r = .returned (.bool true) ∧ Below w.heap.size w w') := fun w => by
    have := fits_any w a b (s : Int) d e f g h
    rwa [show ftB a b (s : Int) d e f g h = true from decide_eq_true hf] at this
  clear hf
  rw [shV8]
  go_enter Try.func5, Try.ntmps5
  go_wp2_with fail
  obtain ⟨W0, HW0⟩ : ∃ W0, Hid (w.alloc (.cells #[Value.int .i64 a, .int .i64 b, .int .i64 (s : Int), .int .i64 d, .int .i64 e, .int .i64 f, .int .i64 g, .int .i64 h] 23) = W0) := ⟨_, rfl⟩
  rw [HW0.out]
  have HS0 : Hid (W0.heap.size = w.heap.size + 1) := by rw [← HW0.out]; simp [Hid]
  have B0 : Hid (Below w.heap.size w W0) := by rw [← HW0.out]; exact below_alloc _ _
  have K0 : Hid (ShC W0 w.heap.size a b (s : Int) d e f g h) := fun i v hi => by rw [← HW0.out, cell_of_row _ _ _ _ _ _ (heap_alloc_new w _)]; exact hi
  refine (CF W0).out.mono ?_
  rintro e1 w1 ⟨rfl, hB1⟩
  have Kw1 := hid (K0.out.below hB1)
  have B01 : Hid (Below w.heap.size w w1) := B0.out.trans (hB1.mono B0.out.size)
  clear hB1
  have c3 := Kw1.out 3 _ rfl
  go_wp2_with fail
  clear c3
  have C2 := hid (clone_any (World.drew w1) _ l ((HV.out.below B01.out).drewN 1) (by omega))
  refine wp_region_held_drew (S := fun V : World => ShC V w.heap.size a b (s : Int) d e f g h) mixedOrders (Kw1.out.dr (Dr.one _ 1)) (fun hHeld => ?_)
  clear hHeld
  change wpAnyH _ _ _ _ _ _ _ _ (World.drew _)
  refine wpAnyH_take (i := 0) (v := ?_) rfl (by kernel_rfl) (by kernel_rfl) (by kernel_rfl) (fun _ _ _ h => h) (Or.inl ⟨by rfl, ?q1x0⟩) (Kw1.out.dr (Dr.one _ 1)) ?_
  case q1x0 => intro w hSw; have c2 := hSw 2 _ rfl; clear hSw; go_simp; rfl
  simp only [Act.put, List.getElem_toArray, List.getElem_cons_zero, List.getElem_cons_succ, List.setIfInBounds_toArray, List.set_cons_zero, List.set_cons_succ]
  refine wpAnyH_take (i := 2) (v := ?_) rfl (by kernel_rfl) (by kernel_rfl) (by kernel_rfl) (fun _ _ _ h => h) (Or.inl ⟨by rfl, ?q1x2⟩) (Kw1.out.dr (Dr.one _ 1)) ?_
  case q1x2 => intro w hSw; have c2 := hSw 2 _ rfl; clear hSw; go_simp; rfl
  simp only [Act.put, List.getElem_toArray, List.getElem_cons_zero, List.getElem_cons_succ, List.setIfInBounds_toArray, List.set_cons_zero, List.set_cons_succ]
  refine wpAnyH_take (i := 3) (v := ?_) rfl (by kernel_rfl) (by kernel_rfl) (by kernel_rfl) (fun _ _ _ h => h) (Or.inl ⟨by rfl, ?q1x3⟩) (Kw1.out.dr (Dr.one _ 1)) ?_
  case q1x3 => intro w hSw; have c2 := hSw 2 _ rfl; clear hSw; go_simp; rfl
  simp only [Act.put, List.getElem_toArray, List.getElem_cons_zero, List.getElem_cons_succ, List.setIfInBounds_toArray, List.set_cons_zero, List.set_cons_succ]
  refine wpAnyH_ready (rs := [1]) (by kernel_rfl) (by simp) ?_
  refine AllReadyH.cons rfl (fun K hK => ?_) AllReadyH.nil
  go_simp
  refine C2.out.mono ?_
  rintro e1 w2 ⟨hv2, rfl, ho2, hB2⟩
  have BB := hid (Below.trans (Dr.below (Dr.one w1 1) _) hB2)
  have Kw2 := hid (Kw1.out.below BB.out)
  have B02 := hid (B01.out.trans (BB.out.mono B01.out.size))
  have OW2 := hid ho2
  have H2 := hid (HB.of_own ho2 HV.out.2)
  obtain ⟨p2, c2', e2⟩ := own_slc ho2
  subst e2
  clear ho2 hB2 C2
  refine hK.out _ _ Kw2.out (fun _ => ?_)
  clear hK K
  have C3 := hid (pieces_any w2 _ l s H2.out)
  refine wpAnyH_ready (rs := [4]) (by kernel_rfl) (by simp) ?_
  refine AllReadyH.cons rfl (fun K hK => ?_) AllReadyH.nil
  go_simp
  refine C3.out.mono ?_
  rintro e1 w3 ⟨b5, b3, rfl, hbox, hb5, hb3, hs3, _, _, hB3⟩
  have HBx := hid hbox
  have Kw3 := hid (Kw2.out.below hB3)
  have B03 := hid (B02.out.trans (hB3.mono B02.out.size))
  have HDl : Hid (∀ i, pcD (.slice p2 l.length c2') b5 b3 i → w.heap.size ≤ i ∧ i < w3.heap.size) := by
    have h2 := B02.out.size
    rintro i (rfl | rfl | hi)
    · omega
    · omega
    · have := OW2.out.lt i hi
      have hw1 : w.heap.size ≤ w1.heap.size := B01.out.size
      have : w1.heap.size ≤ i := (OW2.out.lt i hi).1
      omega
  clear hbox hB3 C3
  refine hK.out _ _ Kw3.out (fun _ => ?_)
  clear hK K hb5 hb3 hs3
  refine wpAnyH_take (i := 5) (v := ?_) rfl (by kernel_rfl) (by kernel_rfl) (by kernel_rfl) (fun _ _ _ h => h) (Or.inl ⟨by rfl, ?q2x5⟩) Kw3.out ?_
  case q2x5 => intro w hSw; have c2 := hSw 2 _ rfl; clear hSw; go_simp; rfl
  simp only [Act.put, List.getElem_toArray, List.getElem_cons_zero, List.getElem_cons_succ, List.setIfInBounds_toArray, List.set_cons_zero, List.set_cons_succ]
  refine wpAnyH_done (by kernel_rfl) ?_ _
  go_wp2
  go_ret
  exact ⟨_, b5, b3, rfl, HBx.out, HDl.out, B03.out⟩
end Go.Proofs.Ytjfebbhnjcnepaa
namespace Go.Proofs.Ytjfebbhnjcnepaa
open Go.RowKit Go.Shelf
structure JN {β : Type} (J : β → (Nat → Prop) → World → Prop) : Prop where
  more : ∀ s E A C, J s E A → A.grownBy C none → J s (fun i => E i ∨ (A.heap.size ≤ i ∧ i < C.heap.size)) C
  turn : ∀ s E A C r, J s E A → E r → A.grownBy C (some r) → A.heap.size = C.heap.size → J s E C
  less : ∀ s E E' A, J s E A → (∀ i, E' i → E i) → J s E' A
theorem JN.grown {β : Type} {J : β → (Nat → Prop) → World → Prop} (h : JN J) {s : β} {E : Nat → Prop} {A C : World} (hs : J s E A) (hg : A.grownBy C none) : J s E C := h.less _ _ _ _ (h.more _ _ _ _ hs hg) fun _ hi => .inl hi
theorem JN.put {β : Type} {J : β → (Nat → Prop) → World → Prop} (h : JN J) {s : β} {E : Nat → Prop} {A : World} {l : Nat} (o : Obj) (hs : J s E A) (hl : E l) : J s E (A.putObj l o) := h.turn _ _ _ _ _ hs hl (grownBy_putObj' A l o) (by simp)
def KE (E : Nat → Prop) (A C : World) : Prop := A.heap.size ≤ C.heap.size ∧ ∀ i, E i → C.heap[i]? = A.heap[i]?
def IterN (F : Fence) (n : Nat) (P : Program) (g : Nat) (lb : Array Value) (enc : Nat → Value → Array Value) (Fit : Nat → Value → Prop) (D : Nat → Prop) (N : Nat) (w0 : World) : Prop :=
  ∀ (l : Nat) (J : Nat → (Nat → Prop) → World → Prop) (Jx : Unit → (Nat → Prop) → World → Prop) (W : World), KE D w0 W → JN J → JN Jx →
    (∀ k v E W1, J k E W1 → Fit k v → k < N → KE D W W1 → YieldAt F (n - 1) P l (enc k v) W1 fun e W' => (e = .returned (.bool true) ∧ J (k + 1) E W' ∧ KE E W1 W') ∨ (e = .returned (.bool false) ∧ Jx () E W' ∧ KE E W1 W')) →
    J 0 D W → CallsIn F n P g (#[.func (.yield l) #[] #[]] ++ lb) W fun e W' => (∃ v, e = .returned v) ∧ (J N D W' ∨ Jx () D W') ∧ KE D W W'
def OutN (E : Nat → Prop) (I : Nat → (Nat → Prop) → World → Prop) (Ix : Code → (Nat → Prop) → World → Prop) (k : Nat) (W : World) : Exit → Act → World → Prop
  | .normal, _, W' => KE E W W' ∧ I (k + 1) E W'
  | .ret, _, W' => KE E W W' ∧ Ix .ret E W'
  | .exit id, _, W' => KE E W W' ∧ Ix (.exit id) E W'
  | _, _, _ => False
theorem KE.put {E : Nat → Prop} {A : World} {l : Nat} (hl : ¬ E l) (o : Obj) : KE E A (A.putObj l o) := ⟨by simp, fun _ hi => World.putObj_heap_other (fun e => hl (e ▸ hi))⟩
theorem KE.trans {E : Nat → Prop} {A B C : World} (h : KE E A B) (k : KE E B C) : KE E A C := ⟨Nat.le_trans h.1 k.1, fun i hi => (k.2 i hi).trans (h.2 i hi)⟩
theorem KE.mono {E E' : Nat → Prop} {A B : World} (h : KE E A B) (hs : ∀ i, E' i → E i) : KE E' A B := ⟨h.1, fun i hi => h.2 i (hs i hi)⟩
def Ed (E : Nat → Prop) (db : Nat) (i : Nat) : Prop := E i ∨ i = db
theorem jn_one {β : Type} {J : β → (Nat → Prop) → World → Prop} (h : JN J) (db : Nat) (o : Obj) : JN (fun s E W => J s (Ed E db) W ∧ ¬ E db ∧ W.heap[db]? = some o) where
  more := fun s E A C ⟨h1, h2, h3⟩ hg => by
    have hl := (Array.getElem?_eq_some_iff.1 h3).1
    refine ⟨h.less _ _ _ _ (h.more _ _ _ _ h1 hg) (fun i hi => ?_), fun q => ?_, (hg.block db hl (by simp)).trans h3⟩
    · rcases hi with (z | z) | z
      · exact .inl (.inl z)
      · exact .inr z
      · exact .inl (.inr z)
    · rcases q with z | z
      · exact h2 z
      · omega
  turn := fun s E A C r ⟨h1, h2, h3⟩ hr hg hs => ⟨h.turn _ _ _ _ r h1 (.inl hr) hg hs, h2, (hg.block db (Array.getElem?_eq_some_iff.1 h3).1 (fun e => h2 (by cases e; exact hr))).trans h3⟩
  less := fun s E E' A ⟨h1, h2, h3⟩ hl => ⟨h.less _ _ _ _ h1 (fun i hi => hi.imp (hl i) id), fun q => h2 (hl _ q), h3⟩
theorem IterN.one {F : Fence} {n : Nat} {P : Program} {g : Nat} {lb : Array Value} {enc : Nat → Value → Array Value} {Fit : Nat → Value → Prop} {D : Nat → Prop} {N : Nat} {w0 : World} (h : IterN F n P g lb enc Fit D N w0) {ab : Nat} {o : Obj} (hn : ¬ D ab) (ho : w0.heap[ab]? = some o) : IterN F n P g lb enc Fit (Ed D ab) N w0 := fun l J Jx W hK hJ hJx hY h0 => by
  have hoW : W.heap[ab]? = some o := (hK.2 ab (.inr rfl)).trans ho
  refine (h l (fun k E W => J k (Ed E ab) W ∧ ¬ E ab ∧ W.heap[ab]? = some o) (fun s E W => Jx s (Ed E ab) W ∧ ¬ E ab ∧ W.heap[ab]? = some o) W (hK.mono fun i hi => .inl hi) (jn_one hJ ab o) (jn_one hJx ab o) ?_ ⟨h0, hn, hoW⟩).mono ?_
  · rintro k v E W1 ⟨q1, q2, q3⟩ hf hk hke
    obtain ⟨fn, tmps, assign, body, hy, hR⟩ := hY k v (Ed E ab) W1 q1 hf hk ⟨hke.1, fun i hi => hi.elim (hke.2 i) (fun z => by rw [z]; exact q3.trans hoW.symm)⟩
    refine ⟨fn, tmps, assign, body, hy, hR.mono ?_⟩
    rintro e W' (⟨r1, r2, r3⟩ | ⟨r1, r2, r3⟩)
    · exact .inl ⟨r1, ⟨r2, q2, (r3.2 ab (.inr rfl)).trans q3⟩, r3.mono fun i hi => .inl hi⟩
    · exact .inr ⟨r1, ⟨r2, q2, (r3.2 ab (.inr rfl)).trans q3⟩, r3.mono fun i hi => .inl hi⟩
  · rintro e W' ⟨hv, hj, hke⟩
    have hab : W'.heap[ab]? = some o := by rcases hj with z | z <;> exact z.2.2
    refine ⟨hv, hj.imp (·.1) (·.1), hke.1, fun i hi => ?_⟩
    rcases hi with z | z
    · exact hke.2 i z
    · rw [z]; exact hab.trans hoW.symm
def Wi (B : Nat) (E : Nat → Prop) (i : Nat) : Prop := E i ∨ i = B ∨ i = B + 1
theorem range_fitN {F : Fence} {n : Nat} {P : Program} {g : Operand} {ps : Array Tmp} {assign body : Code} {Q : Exit → Act → World → Prop} {a : Act} {w : World}
    (hro : F.round = none) (h1 : 1 ≤ n) {gf : Nat} {lb : Array Value} (hg : a.eval g = .func (.func gf) #[] lb) (hFg : F.fn gf) (eg : ∀ args w, (callFunc gf args).run P w = .ok (.enter gf args) w)
    {enc : Nat → Value → Array Value} {Fit : Nat → Value → Prop} {D : Nat → Prop} {N : Nat} {w0 : World} (hit : IterN F (n - 1) P gf lb enc Fit D N w0) (hw0 : KE D w0 w) (hD : ∀ i, D i → i < w.heap.size) (hps : ∀ k v, (enc k v).size = ps.size)
    (I : Nat → (Nat → Prop) → World → Prop) (Ix : Code → (Nat → Prop) → World → Prop) (hI : JN I) (hIx : JN Ix) (h0 : I 0 D w) (A : Nat → Value → Act → (Nat → Prop) → World → Prop) (hA : ∀ k v, JN (A k v))
    (hassign : ∀ (l k : Nat) (v : Value) (E : Nat → Prop) (W : World), w.heap.size ≤ l → I k E W → (∀ i, D i → E i) → (∀ i, E i → i < W.heap.size) → Fit k v → k < N →
      assign.wpIn (F.inRound l) (n - 1 - 1) P (Exit.then (fun a₁ W₁ => KE E W W₁ ∧ A k v a₁ E W₁) (fun _ _ _ => False)) { tmps := (ps.zip (enc k v)).foldl (fun t (p, v) => t.setIfInBounds p v) a.tmps, defers := [] } W)
    (hbody : ∀ (l k : Nat) (v : Value) (a₁ : Act) (E : Nat → Prop) (W : World), w.heap.size ≤ l → E l → (∃ r, W.heap[l]? = some (.loop r)) → A k v a₁ E W → (∀ i, D i → E i) → (∀ i, E i → i < W.heap.size) → KE D w W → k < N → body.wpIn (F.inRound l) (n - 1 - 1) P (OutN E I Ix k W) a₁ W)
    (hdone : ∀ (d : Nat) (W : World), w.heap.size ≤ d → I N (fun i => D i ∨ i = d) W → W.heap[d]? = some (.deferred (some [])) → KE D w W → Q .normal { a with defers := { target := .collected d, args := #[] } :: a.defers } W)
    (hstop : ∀ (d : Nat) (c : Code) (W : World), w.heap.size ≤ d → Ix c (fun i => D i ∨ i = d) W → W.heap[d]? = some (.deferred (some [])) → KE D w W → c.wpIn F n P Q { a with defers := { target := .collected d, args := #[] } :: a.defers } W) :
    (Code.rangeFunc g ps assign body).wpIn F n P Q a w := by
  refine wpIn_rangeFunc fun fn hfn => ?_
  rw [hro]
  let R : LoopState → Option Code → Loop := fun st pe => { state := st, pending := pe, fn, tmps := a.tmps, params := ps, assign, body, defers := w.heap.size }
  let BK : LoopState → Option Code → World → Prop := fun st pe W => W.heap[w.heap.size + 1]? = some (.loop (R st pe)) ∧ W.heap[w.heap.size]? = some (.deferred (some []))
  have bk_put : ∀ {st pe W} (st' pe'), BK st pe W → BK st' pe' (W.putObj (w.heap.size + 1) (.loop (R st' pe'))) := fun st' pe' h =>
    ⟨World.putObj_heap_same (Array.getElem?_eq_some_iff.1 h.1).1, (World.putObj_heap_other (by omega)).trans h.2⟩
  have bk_kept : ∀ {st pe A C} {E : Nat → Prop}, BK st pe A → KE (Wi w.heap.size E) A C → BK st pe C := fun h k => ⟨(k.2 _ (.inr (.inr rfl))).trans h.1, (k.2 _ (.inr (.inl rfl))).trans h.2⟩
  have bk_grown : ∀ {st pe A C row}, BK st pe A → A.grownBy C row → (∀ r, row = some r → r ≠ w.heap.size ∧ r ≠ w.heap.size + 1) → BK st pe C := fun h k hr =>
    ⟨(k.block _ (Array.getElem?_eq_some_iff.1 h.1).1 (fun e => (hr _ e.symm).2 rfl)).trans h.1, (k.block _ (Array.getElem?_eq_some_iff.1 h.2).1 (fun e => (hr _ e.symm).1 rfl)).trans h.2⟩
  obtain ⟨W1, hW1⟩ : ∃ W1, (w.alloc (.deferred (some []))).alloc (.loop (R .ready none)) = W1 := ⟨_, rfl⟩
  have hs1 : W1.heap.size = w.heap.size + 2 := by rw [← hW1]; simp
  have hg1 : w.grownBy W1 none := by
    rw [← hW1]
    exact ⟨rfl, rfl, rfl, by simp; omega, fun i hi _ => (Below.heap_alloc _ _ _ (by simp; omega)).trans (Below.heap_alloc _ _ _ hi)⟩
  have hBK1 : BK .ready none W1 := by
    rw [← hW1]
    refine ⟨?_, (Below.heap_alloc _ _ _ (by simp)).trans (World.alloc_heap_new w _)⟩
    have := World.alloc_heap_new (w.alloc (.deferred (some []))) (.loop (R .ready none))
    rwa [World.size_alloc] at this
  -- E and the loop's own blocks
  let SD : (Nat → Prop) → Prop := fun E => (∀ i, E i → i ≠ w.heap.size ∧ i ≠ w.heap.size + 1) ∧ ∀ i, D i → E i
  have hSD : SD D := ⟨fun i hi => by have := hD i hi; omega, fun _ h => h⟩
  let JJ : Nat → (Nat → Prop) → World → Prop := fun k E W => ∃ E', (∀ i, E i → E' i) ∧ SD E' ∧ I k (Wi w.heap.size E') W ∧ BK .ready none W ∧ ∀ i, E' i → i < W.heap.size
  let JX : Unit → (Nat → Prop) → World → Prop := fun _ E W => ∃ c E', (∀ i, E i → E' i) ∧ SD E' ∧ Ix c (Wi w.heap.size E') W ∧ BK .done (some c) W ∧ ∀ i, E' i → i < W.heap.size
  have bks : ∀ {st pe W}, BK st pe W → w.heap.size + 1 < W.heap.size := fun h => (Array.getElem?_eq_some_iff.1 h.1).1
  have hJJ : JN JJ := ⟨fun k E X C ⟨E', h1, h2, h3, h4, h5⟩ hg => ⟨fun i => E' i ∨ (X.heap.size ≤ i ∧ i < C.heap.size), fun i hi => hi.imp (h1 i) id, ⟨fun i hi => by
      rcases hi with z | z
      · exact h2.1 i z
      · have := bks h4; omega, fun i hi => .inl (h2.2 i hi)⟩, hI.less _ _ _ _ (hI.more _ _ _ _ h3 hg) (fun i hi => by
      rcases hi with (z | z) | z
      · exact .inl (.inl z)
      · exact .inr z
      · exact .inl (.inr z)), bk_grown h4 hg (fun r e => by cases e), fun i hi => by
      rcases hi with z | z
      · exact Nat.lt_of_lt_of_le (h5 i z) hg.size
      · exact z.2⟩,
    fun k E X C r ⟨E', h1, h2, h3, h4, h5⟩ hr hg hs => ⟨E', h1, h2, hI.turn _ _ _ _ r h3 (.inl (h1 r hr)) hg hs, bk_grown h4 hg (fun q e => by cases e; exact h2.1 r (h1 r hr)), fun i hi => hs ▸ h5 i hi⟩,
    fun k E E2 X ⟨E', h1, h2, h3, h4, h5⟩ hl => ⟨E', fun i hi => h1 i (hl i hi), h2, h3, h4, h5⟩⟩
  have hJX : JN JX := ⟨fun k E X C ⟨c, E', h1, h2, h3, h4, h5⟩ hg => ⟨c, fun i => E' i ∨ (X.heap.size ≤ i ∧ i < C.heap.size), fun i hi => hi.imp (h1 i) id, ⟨fun i hi => by
      rcases hi with z | z
      · exact h2.1 i z
      · have := bks h4; omega, fun i hi => .inl (h2.2 i hi)⟩, hIx.less _ _ _ _ (hIx.more _ _ _ _ h3 hg) (fun i hi => by
      rcases hi with (z | z) | z
      · exact .inl (.inl z)
      · exact .inr z
      · exact .inl (.inr z)), bk_grown h4 hg (fun r e => by cases e), fun i hi => by
      rcases hi with z | z
      · exact Nat.lt_of_lt_of_le (h5 i z) hg.size
      · exact z.2⟩,
    fun k E X C r ⟨c, E', h1, h2, h3, h4, h5⟩ hr hg hs => ⟨c, E', h1, h2, hIx.turn _ _ _ _ r h3 (.inl (h1 r hr)) hg hs, bk_grown h4 hg (fun q e => by cases e; exact h2.1 r (h1 r hr)), fun i hi => hs ▸ h5 i hi⟩,
    fun k E E2 X ⟨c, E', h1, h2, h3, h4, h5⟩ hl => ⟨c, E', fun i hi => h1 i (hl i hi), h2, h3, h4, h5⟩⟩
  have hI1 : JJ 0 D W1 := ⟨D, fun _ h => h, hSD, hI.less _ _ _ _ (hI.more _ _ _ _ h0 hg1) (fun i hi => by
    rcases hi with z | z | z
    · exact .inl z
    · exact .inr (by omega)
    · exact .inr (by omega)), hBK1, fun i hi => by have := hD i hi; omega⟩
  refine ⟨w.heap.size + 1, [{ target := .collected w.heap.size, args := #[] }], W1, { target := .fn (.func gf) lb, args := #[.func (.yield (w.heap.size + 1)) #[] #[]] }, W1, gf, #[.func (.yield (w.heap.size + 1)) #[] #[]] ++ lb, W1, ?_, ?_, ?_, ?_, fun _ => h1, ?_⟩
  · rw [← hW1]; exact run_enterLoop_outer _ _ _ _ _
  · simp only [resolve, hg]; simp [go_sem]
  · intro f' hf'; simp [Target.leads] at hf'; subst hf'; exact hFg
  · simp [invoke, go_sem, eg]
  · refine (hit (w.heap.size + 1) JJ JX W1 (hw0.trans ⟨hg1.size, fun i hi => hg1.block i (hD i hi) (by simp)⟩) hJJ hJX ?_ hI1).mono ?_
    · rintro k v E W ⟨E', hE, hS, hi, hb, hz⟩ hf hk hkd
      have hzw : ∀ {A : World}, W.heap.size ≤ A.heap.size → ∀ i, Wi w.heap.size E' i → i < A.heap.size := fun hA i h => by
        have hbs := bks hb
        rcases h with h | h | h
        · exact Nat.lt_of_lt_of_le (hz i h) hA
        · omega
        · omega
      have hmem : Wi w.heap.size E' (w.heap.size + 1) := .inr (.inr rfl)
      have hDE : ∀ i, D i → Wi w.heap.size E' i := fun i hi => .inl (hS.2 i hi)
      have hnE : ¬ E (w.heap.size + 1) := fun h => (hS.1 _ (hE _ h)).2 rfl
      refine ⟨fn, _, assign, body, run_yield (P := P) (r := R .ready none) (args := enc k v) hb.1 (hps k v), roundIn_of_wpIn hfn (wpIn_mono (hassign _ k v (Wi w.heap.size E') W (by omega) hi hDE (hzw (Nat.le_refl _)) hf hk) ?_)⟩
      rintro e1 a1 Wa hp1
      have hn1 : e1 = .normal := by cases e1 <;> first | rfl | exact hp1.elim
      subst hn1
      obtain ⟨m1, m3⟩ := hp1
      have hb1 := bk_kept hb m1
      refine ⟨_, run_beginRound hb1.1 rfl, ?_⟩
      have hb2 : BK .busy none (Wa.putObj (w.heap.size + 1) (.loop (R .busy none))) := bk_put _ _ hb1
      have m1' : KE E W Wa := m1.mono fun i hi => .inl (hE i hi)
      refine wpIn_mono (hbody _ k v a1 (Wi w.heap.size E') _ (by omega) hmem ⟨_, hb2.1⟩ ((hA k v).put _ m3 hmem) hDE (hzw (by simp; exact m1.1)) (((KE.trans ⟨hg1.size, fun i hi => hg1.block i (hD i hi) (by simp)⟩ hkd).trans (m1.mono fun i hi => hDE i hi)).trans (KE.put (fun q => by have := hD _ q; omega) _)) hk) ?_
      rintro e a3 W3 hp
      cases e with
      | normal =>
        obtain ⟨k2, k3⟩ := hp
        have hb3 := bk_kept hb2 k2
        exact ⟨_, _, run_endRound (P := P) none hb3.1, .inl ⟨rfl, ⟨E', hE, hS, hI.put _ k3 hmem, bk_put .ready none hb3, fun i hi => hzw (by have := m1.1; have := k2.1; simp at this ⊢; omega) i (.inl hi)⟩, (m1'.trans ((KE.put hnE _).trans (k2.mono fun i hi => .inl (hE i hi)))).trans (KE.put hnE _)⟩⟩
      | ret =>
        have hb3 := bk_kept hb2 hp.1
        exact ⟨_, _, run_endRound (P := P) (some .ret) hb3.1, .inr ⟨rfl, ⟨.ret, E', hE, hS, hIx.put _ hp.2 hmem, bk_put .done (some .ret) hb3, fun i hi => hzw (by have := m1.1; have := hp.1.1; simp at this ⊢; omega) i (.inl hi)⟩, (m1'.trans ((KE.put hnE _).trans (hp.1.mono fun i hi => .inl (hE i hi)))).trans (KE.put hnE _)⟩⟩
      | exit id =>
        have hb3 := bk_kept hb2 hp.1
        exact ⟨_, _, run_endRound (P := P) (some (.exit id)) hb3.1, .inr ⟨rfl, ⟨.exit id, E', hE, hS, hIx.put _ hp.2 hmem, bk_put .done (some (.exit id)) hb3, fun i hi => hzw (by have := m1.1; have := hp.1.1; simp at this ⊢; omega) i (.inl hi)⟩, (m1'.trans ((KE.put hnE _).trans (hp.1.mono fun i hi => .inl (hE i hi)))).trans (KE.put hnE _)⟩⟩
      | goto t => exact hp.elim
      | panic ch => exact hp.elim
      | outgrown => exact hp.elim
    · rintro e W2 ⟨⟨v, rfl⟩, ⟨E', hE, hS, hi, hb, -⟩ | ⟨c, E', hE, hS, hc, hb, -⟩, hke⟩
      all_goals have hkf : ∀ o, KE D w (W2.putObj (w.heap.size + 1) o) := fun o => (KE.trans ⟨hg1.size, fun i hi => hg1.block i (hD i hi) (by simp)⟩ hke).trans (KE.put (fun q => by have := hD _ q; omega) o)
      · exact ⟨none, _, run_endLoop (P := P) hb.1 (by simp [R]), hdone _ _ (Nat.le_refl _) (hI.less _ _ _ _ (hI.put _ hi (.inr (.inr rfl))) fun i hi => hi.imp (hE i) .inl) ((World.putObj_heap_other (by omega)).trans hb.2) (hkf _)⟩
      · exact ⟨some c, _, run_endLoop (P := P) hb.1 (by simp [R]), hstop _ c _ (Nat.le_refl _) (hIx.less _ _ _ _ (hIx.put _ hc (.inr (.inr rfl))) fun i hi => hi.imp (hE i) .inl) ((World.putObj_heap_other (by omega)).trans hb.2) (hkf _)⟩
end Go.Proofs.Ytjfebbhnjcnepaa
namespace Go.Proofs.Ytjfebbhnjcnepaa
open Go.RowKit Go.Shelf Ev
def dAct (a : Act) (ps : Array Tmp) (vs : Array Value) (ds db : Nat) : Act := { tmps := ((ps.zip vs).foldl (fun t (p, v) => t.setIfInBounds p v) a.tmps).setIfInBounds ds (.pointer (some ⟨db, 0, none⟩)), defers := [] }
theorem range_fitD {F : Fence} {n : Nat} {P : Program} {g : Operand} {ps : Array Tmp} {assign body : Code} {Q : Exit → Act → World → Prop} {a : Act} {w : World}
    (hro : F.round = none) (h1 : 1 ≤ n) {gf : Nat} {lb : Array Value} (hg : a.eval g = .func (.func gf) #[] lb) (hFg : F.fn gf) (eg : ∀ args w, (callFunc gf args).run P w = .ok (.enter gf args) w)
    {enc : Nat → Value → Array Value} {Fit : Nat → Value → Prop} {D : Nat → Prop} {N : Nat} {w0 : World} (hit : IterN F (n - 1) P gf lb enc Fit D N w0) (hw0 : KE D w0 w) (hD : ∀ i, D i → i < w.heap.size) (hps : ∀ k v, (enc k v).size = ps.size)
    (I : Nat → (Nat → Prop) → World → Prop) (Ix : Code → (Nat → Prop) → World → Prop) (hI : JN I) (hIx : JN Ix) (h0 : I 0 D w) (ds : Nat) (B : Nat → Value → Obj)
    (hassign : ∀ (l k : Nat) (v : Value) (W : World), Fit k v → k < N →
      assign.wpIn (F.inRound l) (n - 1 - 1) P (Exit.then (fun a₁ W₁ => a₁ = dAct a ps (enc k v) ds W.heap.size ∧ W₁ = W.alloc (B k v)) (fun _ _ _ => False)) { tmps := (ps.zip (enc k v)).foldl (fun t (p, v) => t.setIfInBounds p v) a.tmps, defers := [] } W)
    (hbody : ∀ (l k : Nat) (v : Value) (db : Nat) (E : Nat → Prop) (W : World), w.heap.size ≤ l → E l → (∃ r, W.heap[l]? = some (.loop r)) → I k (Ed E db) W → ¬ E db → W.heap[db]? = some (B k v) → (∀ i, D i → E i) → (∀ i, E i → i < W.heap.size) → KE D w W → Fit k v → k < N → body.wpIn (F.inRound l) (n - 1 - 1) P (OutN E I Ix k W) (dAct a ps (enc k v) ds db) W)
    (hdone : ∀ (d : Nat) (W : World), w.heap.size ≤ d → I N (fun i => D i ∨ i = d) W → W.heap[d]? = some (.deferred (some [])) → KE D w W → Q .normal { a with defers := { target := .collected d, args := #[] } :: a.defers } W)
    (hstop : ∀ (d : Nat) (c : Code) (W : World), w.heap.size ≤ d → Ix c (fun i => D i ∨ i = d) W → W.heap[d]? = some (.deferred (some [])) → KE D w W → c.wpIn F n P Q { a with defers := { target := .collected d, args := #[] } :: a.defers } W) :
    (Code.rangeFunc g ps assign body).wpIn F n P Q a w := by
  refine range_fitN hro h1 hg hFg eg hit hw0 hD hps I Ix hI hIx h0 (fun k v a₁ E W => ∃ db, a₁ = dAct a ps (enc k v) ds db ∧ Fit k v ∧ (I k (Ed E db) W ∧ ¬ E db ∧ W.heap[db]? = some (B k v)))
    (fun k v => ⟨fun s E A C ⟨db, q1, q2, q3⟩ hg => ⟨db, q1, q2, (jn_one hI db _).more k _ _ _ q3 hg⟩, fun s E A C r ⟨db, q1, q2, q3⟩ hr hg hs => ⟨db, q1, q2, (jn_one hI db _).turn k _ _ _ r q3 hr hg hs⟩, fun s E E' A ⟨db, q1, q2, q3⟩ hl => ⟨db, q1, q2, (jn_one hI db _).less k _ _ _ q3 hl⟩⟩) ?_ ?_ hdone hstop
  · intro l k v E W hl hi hDE hEl hf hk
    refine wpIn_mono (hassign l k v W hf hk) ?_
    rintro e a1 W1 hp
    have hn1 : e = .normal := by cases e <;> first | rfl | exact hp.elim
    subst hn1
    obtain ⟨rfl, rfl⟩ := hp
    have hs : (W.alloc (B k v)).heap.size = W.heap.size + 1 := by simp
    refine ⟨⟨by omega, fun i hi => Below.heap_alloc W _ i (hEl i hi)⟩, W.heap.size, rfl, hf, hI.less _ _ _ _ (hI.more k E W (W.alloc (B k v)) hi ⟨rfl, rfl, rfl, by omega, fun i hi _ => Below.heap_alloc W _ i hi⟩) (fun i hi => ?_), fun q => by have := hEl _ q; omega, World.alloc_heap_new W _⟩
    rcases hi with z | z
    · exact .inl z
    · exact .inr (by omega)
  · rintro l k v a1 E W hl hE hr ⟨db, rfl, hf, q1, q2, q3⟩ hDE hEl hkd hk
    exact hbody l k v db E W hl hE hr q1 q2 q3 hDE hEl hkd hf hk
theorem in_region_held {P : Program} {ops : Array Oper} {K : Act → World → Prop} {Qq : Exit → Act → World → Prop} {S : World → Prop} {l n id : Nat} {a : Act} {w : World} (hm : P.follows .mixedOrders = true) (hc : ops.all (fun o => calmO o && dstFree [] o) = true) (hS : S w.drew)
    (h : S w.drew → wpAnyH P .any ops (fun e a' w' => e = .normal ∧ Exit.then K Qq e a' w') S ops.size (Array.replicate ops.size false) a w.drew) : (Code.region id ops true).wpIn (Fence.wide.inRound l) n P (Exit.then K Qq) a w :=
  wpIn_mono (wpIn_region_any hm (any_in (ro := some l) (Y := []) (yv := undef) (Q := fun e a' w' => e = .normal ∧ Exit.then K Qq e a' w') (fun e a w q => q.1) hc _ _ _ _ (wpAny_of_held _ _ _ _ (h hS)) (fun y hy => by cases hy))) (fun e a' w' q => q.1.2)
end Go.Proofs.Ytjfebbhnjcnepaa
