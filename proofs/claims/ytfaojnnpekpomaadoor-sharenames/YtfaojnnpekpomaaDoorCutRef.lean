/- The document's up, Check, laid, Shape, Again. -/
import Derived.Test.YtfaojnnpekpomaaDoorCutShp
set_option linter.unusedVariables false
set_option linter.unusedSimpArgs false
namespace Go.Proofs.YtfaojnnpekpomaaDoor
open Go Go.RowKit Ev

def upX : Ex := .ari .add .i64 (.ari .quo .i64 (.var 0) (.var 1)) (.ari .quo .i64 (.ari .sub .i64 (.ari .add .i64 (.ari .rem .i64 (.var 0) (.var 1)) (.var 1)) (.lit 1)) (.var 1))
theorem rup_ev : (evCallF Tryd.prog (tabLore [(.neq, .var 1, .lit 0, true)] []) (tabCon []) 100 20 [B64 0, B64 1] H0).map (·.1) = some (E64 upX) := by kernel_rfl
theorem rup_any (w : World) (x y : Int) (hx : 1 ≤ x) (hx2 : x ≤ 4611686018427387904) (hy : 1 ≤ y) (hy2 : y ≤ 1073741824) : Calls Tryd.prog 20 #[.int .i64 x, .int .i64 y] w fun e w' => e = .returned (.int .i64 (upI x y)) ∧ Below w.heap.size w w' := by
  refine ev_row (ρ := envI [x, y] (.tuple #[])) (c := [(.neq, .var 1, .lit 0, true)]) (all1 (show some (y != 0) = some true by rw [bne_iff_ne.2 (show y ≠ 0 by omega)])) alln alln rup_ev [.int .i64 x, .int .i64 y] _ rfl (fun ms => ?_) w
  have h2 := Int.emod_nonneg x (show y ≠ 0 by omega)
  have h3 := Int.emod_lt_of_pos x (show 0 < y by omega)
  have q1 := Int.ediv_nonneg (show 0 ≤ x by omega) (show 0 ≤ y by omega)
  have q2 := Int.ediv_le_self y (show 0 ≤ x by omega)
  have q3 := Int.ediv_nonneg (show 0 ≤ x % y + y - 1 by omega) (show 0 ≤ y by omega)
  have q4 := Int.ediv_le_self y (show 0 ≤ x % y + y - 1 by omega)
  rw [E64_inst]
  show some (Value.int .i64 (IntKind.i64.wrap (IntKind.i64.wrap (x.tdiv y) + IntKind.i64.wrap ((IntKind.i64.wrap (IntKind.i64.wrap (x.tmod y + y) - 1)).tdiv y)))) = _
  rw [Int.tdiv_eq_ediv_of_nonneg (by omega), Int.tmod_eq_emod_of_nonneg (by omega), wrap64 (x := x % y + y) (by omega) (by omega), wrap64 (x := x % y + y - 1) (by omega) (by omega), Int.tdiv_eq_ediv_of_nonneg (by omega), wrap64 (x := x / y) (by omega) (by omega), wrap64 (x := (x % y + y - 1) / y) (by omega) (by omega), wrap64 (by omega) (by omega), up_ref (by omega) hy]
set_option maxRecDepth 100000 in
set_option maxHeartbeats 8000000 in
theorem rcheck_any (w : World) (k n g h : Int) (p : Option Addr) (l c : Nat) : Calls Tryd.prog 18 #[prV k n g h (.slice p l c)] w fun e w' => e = .returned (.int .i64 (chkE k n g l)) ∧ Below w.heap.size w w' := by
  unfold prV
  go_enter Tryd.func18, Tryd.ntmps18
  by_cases h1 : n < 1
  · have F : Hid (chkE k n g l = 3) := if_neg fun h => by have := h.1; have := h.2.1; omega
    go_wp2; go_ret; rw [F.out]; exact ⟨rfl, below_alloc _ _⟩
  by_cases h2 : 255 < n
  · have F : Hid (chkE k n g l = 3) := if_neg fun h => by have := h.2.2.1; omega
    go_wp2; go_ret; rw [F.out]; exact ⟨rfl, below_alloc _ _⟩
  by_cases h3 : k < 1
  · have F : Hid (chkE k n g l = 3) := if_neg fun h => by have := h.1; omega
    go_wp2; go_ret; rw [F.out]; exact ⟨rfl, below_alloc _ _⟩
  by_cases h4 : n < k
  · have F : Hid (chkE k n g l = 3) := if_neg fun h => by have := h.2.1; omega
    go_wp2; go_ret; rw [F.out]; exact ⟨rfl, below_alloc _ _⟩
  by_cases h5 : g < 1
  · have F : Hid (chkE k n g l = 3) := if_neg fun h => by have := h.2.2.2.1; omega
    go_wp2; go_ret; rw [F.out]; exact ⟨rfl, below_alloc _ _⟩
  by_cases h6 : 65536 < g
  · have F : Hid (chkE k n g l = 3) := if_neg fun h => by have := h.2.2.2.2.1; omega
    go_wp2; go_ret; rw [F.out]; exact ⟨rfl, below_alloc _ _⟩
  by_cases h7 : (64 : Int) < (l : Int)
  · have F : Hid (chkE k n g l = 3) := if_neg fun h => by have := h.2.2.2.2.2; omega
    go_wp2; go_ret; rw [F.out]; exact ⟨rfl, below_alloc _ _⟩
  · have F : Hid (chkE k n g l = 0) := if_pos ⟨by omega, by omega, by omega, by omega, by omega, by omega⟩
    go_wp2; go_ret; rw [F.out]; exact ⟨rfl, below_alloc _ _⟩
def tLaid : List (Nat × List AV × AV) := [(20, [B64 3, B64 2], B64 4), (20, [E64 tailX, B64 0], B64 5)]
theorem laid_ev : (evCallF Tryd.prog (tabLore cShaped []) (tabCon tLaid) 100 19 [B64 0, B64 1, B64 2, B64 3] H0).map (·.1) = some (.tv (rw64 [.var 0, .var 1, .var 2, .var 3, .var 4, tailX, .ari .quo .i64 (.var 2) (.var 0), .var 5])) := by kernel_rfl
theorem laid_any (w : World) (k n g z : Int) (hk : 1 ≤ k) (hk2 : k ≤ 255) (hg : 1 ≤ g) (hg2 : g ≤ 65790) (hz : 1 ≤ z) (hz2 : z ≤ 16777216) : Calls Tryd.prog 19 #[.int .i64 k, .int .i64 n, .int .i64 g, .int .i64 z] w fun e w' => e = .returned (shV (shR k n g z)) ∧ Below w.heap.size w w' := by
  have s1 := upI_pos hz hg
  have s2 := upI_le hz hg
  have t1 := tlI_pos (x := z) hg
  have t2 := tlI_le (x := z) hg
  have te := tail_eq z g
  have hm : (upI z g - 1) * g ≤ z := by have := up_split z g; omega
  have hm0 : 0 ≤ (upI z g - 1) * g := Int.mul_nonneg (by omega) (by omega)
  let ρ := envI [k, n, g, z, upI z g, upI (tlI z g) k] (.tuple #[])
  have hT : Ex.den ρ tailX = tlI z g := by
    show IntKind.i64.wrap (z - IntKind.i64.wrap (IntKind.i64.wrap (upI z g - 1) * g)) = tlI z g
    rw [wrap64 (x := upI z g - 1) (by omega) (by omega), wrap64 (x := (upI z g - 1) * g) (by omega) (by omega), te, wrap64 (by omega) (by omega)]
  have hq : IntKind.i64.wrap (g.tdiv k) = g / k := by
    rw [Int.tdiv_eq_ediv_of_nonneg (by omega)]
    have a := Int.ediv_nonneg (show 0 ≤ g by omega) (show 0 ≤ k by omega)
    have b := Int.ediv_le_self k (show 0 ≤ g by omega)
    exact wrap64 (by omega) (by omega)
  refine ev_row (ρ := ρ) (c := cShaped) (r := []) (t := tLaid) ?_ alln ?_ laid_ev [.int .i64 k, .int .i64 n, .int .i64 g, .int .i64 z] (shV (shR k n g z)) rfl ?_ w
  · exact all1 (show some (k != 0) = some true by rw [bne_iff_ne.2 (show k ≠ 0 by omega)])
  · refine allc (ent [.int .i64 z, .int .i64 g] (.int .i64 (upI z g)) (fun _ => rfl) (fun _ => rfl) fun w => rup_any w z g hz (by omega) hg (by omega)) (all1 ?_)
    exact ent [.int .i64 (tlI z g), .int .i64 k] (.int .i64 (upI (tlI z g) k)) (fun _ => by simp only [List.map_cons, List.map_nil, E64_inst, hT, B64]; rfl) (fun _ => rfl) fun w => rup_any w _ k t1 (by omega) hk (by omega)
  · intro ms
    simp only [AV.inst]
    rw [row_den]
    simp only [List.map_cons, List.map_nil, hT]
    show some (shV [k, n, g, z, upI z g, tlI z g, IntKind.i64.wrap (g.tdiv k), upI (tlI z g) k]) = _
    rw [hq]; rfl
def c_lo (b : Bool) : BinOp × Ex × Ex × Bool := (.leq, .var 4, .lit 32, b)
def c_hi (b : Bool) : BinOp × Ex × Ex × Bool := (.gtr, .var 4, .lit 16777216, b)
noncomputable def rsh_ev (c : List (BinOp × Ex × Ex × Bool)) (t : List (Nat × List AV × AV)) : Option AV := (evCallF Tryd.prog (tabLore c []) (tabCon t) 100 13 [prX, B64 4] H0).map (·.1)
theorem rshape_ev1 : rsh_ev [] (rshape_t1 3) = some (.tup [rw64 zs64, e64 (.lit 3)]) := by kernel_rfl
theorem rshape_ev2 : rsh_ev [c_lo true] (rshape_t1 0) = some (.tup [rw64 zs64, e64 (.lit 4)]) := by kernel_rfl
theorem rshape_ev2' : rsh_ev [c_lo false, c_hi true] (rshape_t1 0) = some (.tup [rw64 zs64, e64 (.lit 4)]) := by kernel_rfl
theorem rshape_ev3 : rsh_ev [c_lo false, c_hi false, (.gtr, .var 6, .lit 512, true)] rshape_t2 = some (.tup [rw64 zs64, e64 (.lit 3)]) := by kernel_rfl
theorem rshape_ev4 : rsh_ev [c_lo false, c_hi false, (.gtr, .var 6, .lit 512, false)] rshape_t2 = some (.tup [rw64 [.var 0, .var 1, mulX, .var 4, .var 6, .var 7, .var 8, .var 9], e64 (.lit 0)]) := by kernel_rfl
theorem rshape_any (w : World) (k n g h z : Int) (p : Option Addr) (l c : Nat) : Calls Tryd.prog 13 #[prV k n g h (.slice p l c), .int .i64 z] w fun e w' => e = .returned (.tuple #[shV (shpT k n g l z), .int .i64 (shpE k n g l z)]) ∧ Below w.heap.size w w' := by
  have hs : (Value.slice p l c).oneCell' = true := rfl
  by_cases hp : OkP k n g l
  · have hch : ∀ w, Calls Tryd.prog 18 #[prV k n g h (.slice p l c)] w fun e w' => e = .returned (.int .i64 0) ∧ Below w.heap.size w w' := fun w => by
      have := rcheck_any w k n g h p l c
      rwa [chkE, if_pos hp] at this
    obtain ⟨h1, h2, h3, h4, h5, h6⟩ := id hp
    by_cases hz : 33 ≤ z ∧ z ≤ 16777216
    · have u1 := upI_pos h4 h1
      have u2 := up_ge (x := g) h1
      have u3 := up_lt (x := g) h1
      let ρ := envI [k, n, g, h, z, upI g k, upI z (k * upI g k), tlI z (k * upI g k), k * upI g k / k, upI (tlI z (k * upI g k)) k] (.slice p l c)
      have F1 : CmpOk ρ (c_lo false) := show some (decide (z ≤ 32)) = some false by rw [decide_eq_false (by omega)]
      have F2 : CmpOk ρ (c_hi false) := show some (decide (z > 16777216)) = some false by rw [decide_eq_false (by omega)]
      have hm : Ex.den ρ mulX = k * upI g k := wrap64 (x := k * upI g k) (by omega) (by omega)
      have hent : ∀ e ∈ rshape_t2, EntOk ρ e := by
        refine allc ?_ (allc ?_ (all1 ?_))
        · exact ent [prV k n g h (.slice p l c)] (.int .i64 0) (fun ms => by simp only [List.map_cons, List.map_nil]; rw [prX_inst hs]) (fun _ => rfl) hch
        · exact ent [.int .i64 g, .int .i64 k] (.int .i64 (upI g k)) (fun _ => rfl) (fun _ => rfl) fun w => rup_any w g k h4 (by omega) h1 (by omega)
        · refine ent [.int .i64 k, .int .i64 n, .int .i64 (k * upI g k), .int .i64 z] (shV (shR k n (k * upI g k) z)) (fun ms => by simp only [List.map_cons, List.map_nil, B64, E64_inst, hm]; rfl) (fun ms => ?_) fun w => laid_any w k n _ z h1 (by omega) (by omega) (by omega) (by omega) hz.2
          simp only [AV.inst]
          rw [row_den]
          simp only [List.map_cons, List.map_nil, hm]
          rfl
      by_cases h9 : upI z (k * upI g k) ≤ 512
      · have e1 : shpE k n g l z = 0 := by rw [shpE, if_pos hp, if_pos hz, if_pos h9]
        have e2 : shpT k n g l z = shR k n (k * upI g k) z := by rw [shpT, if_pos e1]
        rw [e1, e2]
        refine ev_row (ρ := ρ) (allc F1 (allc F2 (all1 ?_))) alln hent rshape_ev4 [prV k n g h (.slice p l c), .int .i64 z] _ ?_ (fun ms => ?_) w
        · show some (decide (upI z (k * upI g k) > 512)) = some false
          rw [decide_eq_false (by omega)]
        · simp only [List.map_cons, List.map_nil]; rw [prX_inst hs]; rfl
        · rw [tup2]
          simp only [List.map_cons, List.map_nil, hm]
          rfl
      · have e1 : shpE k n g l z = 3 := by rw [shpE, if_pos hp, if_pos hz, if_neg h9]
        have e2 : shpT k n g l z = sh0 := by rw [shpT, if_neg (by omega)]
        rw [e1, e2]
        refine ev_row (ρ := ρ) (allc F1 (allc F2 (all1 ?_))) alln hent rshape_ev3 [prV k n g h (.slice p l c), .int .i64 z] _ ?_ (fun ms => ?_) w
        · show some (decide (upI z (k * upI g k) > 512)) = some true
          rw [decide_eq_true (by omega)]
        · simp only [List.map_cons, List.map_nil]; rw [prX_inst hs]; rfl
        · rw [tup2, zs_den]; rfl
    · have e1 : shpE k n g l z = 4 := by rw [shpE, if_pos hp, if_neg hz]
      have e2 : shpT k n g l z = sh0 := by rw [shpT, if_neg (by omega)]
      rw [e1, e2]
      let ρ := envI [k, n, g, h, z] (.slice p l c)
      have E1 : EntOk ρ (18, [prX], E64 (.lit 0)) := ent [prV k n g h (.slice p l c)] (.int .i64 0) (fun ms => by simp only [List.map_cons, List.map_nil]; rw [prX_inst hs]) (fun _ => rfl) hch
      have hx : [prX, B64 4].map (AV.inst ρ ms0) = [prV k n g h (.slice p l c), .int .i64 z].map some := by simp only [List.map_cons, List.map_nil]; rw [prX_inst hs]; rfl
      by_cases hlo : z ≤ 32
      · exact ev_row (ρ := ρ) (c := [c_lo true]) (all1 (show some (decide (z ≤ 32)) = some true by rw [decide_eq_true hlo])) alln (all1 E1) rshape_ev2 [prV k n g h (.slice p l c), .int .i64 z] _ hx (fun ms => by rw [tup2, zs_den]; rfl) w
      · exact ev_row (ρ := ρ) (c := [c_lo false, c_hi true]) (allc (show some (decide (z ≤ 32)) = some false by rw [decide_eq_false hlo]) (all1 (show some (decide (z > 16777216)) = some true by rw [decide_eq_true (by omega)]))) alln (all1 E1) rshape_ev2' [prV k n g h (.slice p l c), .int .i64 z] _ hx (fun ms => by rw [tup2, zs_den]; rfl) w
  · have e1 : shpE k n g l z = 3 := by rw [shpE, if_neg hp]
    have e2 : shpT k n g l z = sh0 := by rw [shpT, if_neg (by omega)]
    rw [e1, e2]
    refine ev_row (ρ := envI [k, n, g, h, z] (.slice p l c)) alln alln (all1 ?_) rshape_ev1 [prV k n g h (.slice p l c), .int .i64 z] _ ?_ (fun ms => ?_) w
    · refine ent [prV k n g h (.slice p l c)] (.int .i64 3) (fun ms => by simp only [List.map_cons, List.map_nil]; rw [prX_inst hs]) (fun _ => rfl) fun w => ?_
      have := rcheck_any w k n g h p l c
      rwa [chkE, if_neg hp] at this
    · simp only [List.map_cons, List.map_nil]; rw [prX_inst hs]; rfl
    · rw [tup2, zs_den]; rfl
/- Again: names 0 to 3 the four, 4 to 11 the first shape, 12 to 19 the second, 20 and 21 the errors. -/
def pqX (e : Ex) : AV := .tv (.agg [.int .i64 (.var 0), .int .i64 (.var 1), .int .i64 e, .int .i64 (.lit 0), .nils 0 0])
def ra1 (e : Ex) : Nat × List AV × AV := (13, [pqX (.var 2), B64 3], .tup [rw64 (vs64 4 8), e64 e])
def ra2 (e : Ex) : Nat × List AV × AV := (13, [pqX (.lit 65536), B64 3], .tup [rw64 (vs64 12 8), e64 e])
def r_e (i : Nat) : BinOp × Ex × Ex × Bool := (.eql, .var i, .lit 0, false)
def r_g (i : Nat) (b : Bool) : BinOp × Ex × Ex × Bool := (.eql, .var i, .var 2, b)
noncomputable def ra_ev (c : List (BinOp × Ex × Ex × Bool)) (t : List (Nat × List AV × AV)) : Option AV := (evCallF Tryd.prog (tabLore c []) (tabCon t) 100 6 [B64 0, B64 1, B64 2, B64 3] H0).map (·.1)
theorem ra_ev1 : ra_ev [r_g 6 true] [ra1 (.lit 0)] = some (.tup [rw64 (vs64 4 8), e64 (.lit 0)]) := by kernel_rfl
theorem ra_ev2 : ra_ev [r_e 20, r_g 14 true] [ra1 (.var 20), ra2 (.lit 0)] = some (.tup [rw64 (vs64 12 8), e64 (.lit 0)]) := by kernel_rfl
theorem ra_ev2' : ra_ev [r_g 6 false, r_g 14 true] [ra1 (.lit 0), ra2 (.lit 0)] = some (.tup [rw64 (vs64 12 8), e64 (.lit 0)]) := by kernel_rfl
theorem ra_ev3 : ra_ev [r_e 20, r_e 21] [ra1 (.var 20), ra2 (.var 21)] = some (.tup [rw64 zs64, e64 (.lit 92)]) := by kernel_rfl
theorem ra_ev4 : ra_ev [r_e 20, r_g 14 false] [ra1 (.var 20), ra2 (.lit 0)] = some (.tup [rw64 zs64, e64 (.lit 92)]) := by kernel_rfl
theorem ra_ev5 : ra_ev [r_g 6 false, r_e 21] [ra1 (.lit 0), ra2 (.var 21)] = some (.tup [rw64 zs64, e64 (.lit 92)]) := by kernel_rfl
theorem ra_ev6 : ra_ev [r_g 6 false, r_g 14 false] [ra1 (.lit 0), ra2 (.lit 0)] = some (.tup [rw64 zs64, e64 (.lit 92)]) := by kernel_rfl
theorem shpT_len' (k n g l z : Int) : ∃ b0 b1 b2 b3 b4 b5 b6 b7, shpT k n g l z = [b0, b1, b2, b3, b4, b5, b6, b7] := by
  unfold shpT; split
  · exact ⟨_, _, _, _, _, _, _, _, rfl⟩
  · exact ⟨_, _, _, _, _, _, _, _, rfl⟩
theorem pqX_inst {ρ : Env} {k n g : Int} {e : Ex} (ms : List Nat) (h0 : Ex.den ρ (.var 0) = k) (h1 : Ex.den ρ (.var 1) = n) (h2 : Ex.den ρ e = g) : (pqX e).inst ρ ms = some (prV k n g 0 (.slice none 0 0)) := by
  simp only [pqX, AV.inst, TV.inst, SV.inst, seqO, List.map_cons, List.map_nil, h0, h1, h2, Option.map_some]
  rfl
theorem ragain_any (w : World) (k n g z : Int) : Calls Tryd.prog 6 #[.int .i64 k, .int .i64 n, .int .i64 g, .int .i64 z] w fun e w' => e = .returned (.tuple #[shV (agT k n g z), .int .i64 (agE k n g z)]) ∧ Below w.heap.size w w' := by
  obtain ⟨a0, a1, a2, a3, a4, a5, a6, a7, hA⟩ := shpT_len' k n g 0 z
  obtain ⟨b0, b1, b2, b3, b4, b5, b6, b7, hB⟩ := shpT_len' k n 65536 0 z
  let ρ := envI [k, n, g, z, a0, a1, a2, a3, a4, a5, a6, a7, b0, b1, b2, b3, b4, b5, b6, b7, shpE k n g 0 z, shpE k n 65536 0 z] (.tuple #[])
  have S1 : ∀ w, Calls Tryd.prog 13 #[prV k n g 0 (.slice none 0 0), .int .i64 z] w fun e w' => e = .returned (.tuple #[shV [a0, a1, a2, a3, a4, a5, a6, a7], .int .i64 (shpE k n g 0 z)]) ∧ Below w.heap.size w w' := fun w => by rw [← hA]; exact rshape_any w k n g 0 z none 0 0
  have S2 : ∀ w, Calls Tryd.prog 13 #[prV k n 65536 0 (.slice none 0 0), .int .i64 z] w fun e w' => e = .returned (.tuple #[shV [b0, b1, b2, b3, b4, b5, b6, b7], .int .i64 (shpE k n 65536 0 z)]) ∧ Below w.heap.size w w' := fun w => by rw [← hB]; exact rshape_any w k n 65536 0 z none 0 0
  have E1 : ∀ e, Ex.den ρ e = shpE k n g 0 z → EntOk ρ (ra1 e) := fun e he => ent [prV k n g 0 (.slice none 0 0), .int .i64 z] _ (fun ms => by simp only [List.map_cons, List.map_nil]; rw [pqX_inst ms (k := k) (n := n) (g := g) rfl rfl rfl]; rfl) (fun ms => by rw [tup2, he]; rfl) S1
  have E2 : ∀ e, Ex.den ρ e = shpE k n 65536 0 z → EntOk ρ (ra2 e) := fun e he => ent [prV k n 65536 0 (.slice none 0 0), .int .i64 z] _ (fun ms => by simp only [List.map_cons, List.map_nil]; rw [pqX_inst ms (k := k) (n := n) (g := 65536) rfl rfl rfl]; rfl) (fun ms => by rw [tup2, he]; rfl) S2
  have fin : ∀ cc t l e, (∀ x ∈ cc, CmpOk ρ x) → (∀ x ∈ t, EntOk ρ x) → ra_ev cc t = some (.tup [rw64 l, e64 e]) → l.map (Ex.den ρ) = agT k n g z → Ex.den ρ e = agE k n g z → Calls Tryd.prog 6 #[.int .i64 k, .int .i64 n, .int .i64 g, .int .i64 z] w fun e w' => e = .returned (.tuple #[shV (agT k n g z), .int .i64 (agE k n g z)]) ∧ Below w.heap.size w w' := fun cc t l e hc ht hv hl he => ev_row (ρ := ρ) hc alln ht hv [.int .i64 k, .int .i64 n, .int .i64 g, .int .i64 z] _ rfl (fun ms => by rw [tup2, hl, he]) w
  have hi := again_iff k n g z
  have Rg6 : ∀ b, (a2 == g) = b → CmpOk ρ (r_g 6 b) := fun b hb => show some (a2 == g) = some b by rw [hb]
  have Rg14 : ∀ b, (b2 == g) = b → CmpOk ρ (r_g 14 b) := fun b hb => show some (b2 == g) = some b by rw [hb]
  have Re20 : shpE k n g 0 z ≠ 0 → CmpOk ρ (r_e 20) := fun hne => show some (shpE k n g 0 z == 0) = some false by rw [beq_false_of_ne hne]
  have Re21 : shpE k n 65536 0 z ≠ 0 → CmpOk ρ (r_e 21) := fun hne => show some (shpE k n 65536 0 z == 0) = some false by rw [beq_false_of_ne hne]
  have hA2 : shpE k n g 0 z = 0 → [a0, a1, a2, a3, a4, a5, a6, a7] = shR k n (k * upI g k) z := fun he => by rw [← hA, shpT, if_pos he]
  have hB2 : shpE k n 65536 0 z = 0 → [b0, b1, b2, b3, b4, b5, b6, b7] = shR k n (k * upI 65536 k) z := fun he => by rw [← hB, shpT, if_pos he]
  have a2e : shpE k n g 0 z = 0 → a2 = k * upI g k := fun he => by have := hA2 he; simp only [shR, List.cons.injEq] at this; exact this.2.2.1
  have b2e : shpE k n 65536 0 z = 0 → b2 = k * upI 65536 k := fun he => by have := hB2 he; simp only [shR, List.cons.injEq] at this; exact this.2.2.1
  have okT : OkS k n g z → agT k n g z = shR k n g z ∧ agE k n g z = 0 := fun h => ⟨if_pos h, if_pos h⟩
  have noT : ¬ OkS k n g z → agT k n g z = sh0 ∧ agE k n g z = 92 := fun h => ⟨if_neg h, if_neg h⟩
  by_cases e1 : shpE k n g 0 z = 0
  · have hA3 := hA2 e1
    by_cases g1 : k * upI g k = g
    · obtain ⟨q1, q2⟩ := okT (hi.2 (.inl ⟨e1, g1⟩))
      rw [g1] at hA3
      exact fin [r_g 6 true] [ra1 (.lit 0)] (vs64 4 8) (.lit 0) (all1 (Rg6 true (beq_iff_eq.2 ((a2e e1).trans g1)))) (all1 (E1 _ e1.symm)) ra_ev1 (by rw [q1, ← hA3]; rfl) q2.symm
    · have G6 := Rg6 false (beq_false_of_ne (by rw [a2e e1]; exact g1))
      by_cases e2 : shpE k n 65536 0 z = 0
      · have hB3 := hB2 e2
        by_cases g2 : k * upI 65536 k = g
        · obtain ⟨q1, q2⟩ := okT (hi.2 (.inr ⟨e2, g2⟩))
          rw [g2] at hB3
          exact fin [r_g 6 false, r_g 14 true] [ra1 (.lit 0), ra2 (.lit 0)] (vs64 12 8) (.lit 0) (allc G6 (all1 (Rg14 true (beq_iff_eq.2 ((b2e e2).trans g2))))) (allc (E1 _ e1.symm) (all1 (E2 _ e2.symm))) ra_ev2' (by rw [q1, ← hB3]; rfl) q2.symm
        · obtain ⟨q1, q2⟩ := noT fun h => by rcases hi.1 h with h | h <;> omega
          exact fin [r_g 6 false, r_g 14 false] [ra1 (.lit 0), ra2 (.lit 0)] zs64 (.lit 92) (allc G6 (all1 (Rg14 false (beq_false_of_ne (by rw [b2e e2]; exact g2))))) (allc (E1 _ e1.symm) (all1 (E2 _ e2.symm))) ra_ev6 (by rw [q1]; rfl) q2.symm
      · obtain ⟨q1, q2⟩ := noT fun h => by rcases hi.1 h with h | h <;> omega
        exact fin [r_g 6 false, r_e 21] [ra1 (.lit 0), ra2 (.var 21)] zs64 (.lit 92) (allc G6 (all1 (Re21 e2))) (allc (E1 _ e1.symm) (all1 (E2 _ rfl))) ra_ev5 (by rw [q1]; rfl) q2.symm
  · by_cases e2 : shpE k n 65536 0 z = 0
    · have hB3 := hB2 e2
      by_cases g2 : k * upI 65536 k = g
      · obtain ⟨q1, q2⟩ := okT (hi.2 (.inr ⟨e2, g2⟩))
        rw [g2] at hB3
        exact fin [r_e 20, r_g 14 true] [ra1 (.var 20), ra2 (.lit 0)] (vs64 12 8) (.lit 0) (allc (Re20 e1) (all1 (Rg14 true (beq_iff_eq.2 ((b2e e2).trans g2))))) (allc (E1 _ rfl) (all1 (E2 _ e2.symm))) ra_ev2 (by rw [q1, ← hB3]; rfl) q2.symm
      · obtain ⟨q1, q2⟩ := noT fun h => by rcases hi.1 h with h | h <;> omega
        exact fin [r_e 20, r_g 14 false] [ra1 (.var 20), ra2 (.lit 0)] zs64 (.lit 92) (allc (Re20 e1) (all1 (Rg14 false (beq_false_of_ne (by rw [b2e e2]; exact g2))))) (allc (E1 _ rfl) (all1 (E2 _ e2.symm))) ra_ev4 (by rw [q1]; rfl) q2.symm
    · obtain ⟨q1, q2⟩ := noT fun h => by rcases hi.1 h with h | h <;> omega
      exact fin [r_e 20, r_e 21] [ra1 (.var 20), ra2 (.var 21)] zs64 (.lit 92) (allc (Re20 e1) (all1 (Re21 e2))) (allc (E1 _ rfl) (all1 (E2 _ rfl))) ra_ev3 (by rw [q1]; rfl) q2.symm
end Go.Proofs.YtfaojnnpekpomaaDoor
