/- Of the road to uebUnpackCard_holds: UuA, UuW, BsLaid. -/
import Derived.Test.YtabflkecjaphnaaDoorG02
import Derived.Test.YtabflkecjaphnaaDoorG03
import Derived.Test.YtabflkecjaphnaaDoorG04
import Derived.Test.YtabflkecjaphnaaDoorRows
import Derived.ProofKit
import Derived.OpenShut
import Derived.LaidLaws
import Derived.Lay
import Derived.MakeChecks
import Derived.Stop.LaidErr
import Derived.Lib.LaidTab
set_option linter.unusedVariables false
set_option linter.unusedSimpArgs false
namespace Go.Proofs.YtabflkecjaphnaaDoor
open Go Go.RowKit
theorem apt_app {B : Nat} {w : World} {us vs : List Value} {ls ms : List (List Int)} (h : Apt B w us ls) (g : Apt B w vs ms) (hd : ∀ i j b, i < us.length → j < vs.length → (us.getD i undef).ownBlock = some b → (vs.getD j undef).ownBlock ≠ some b) : Apt B w (us ++ vs) (ls ++ ms) := by
  refine ⟨by simp [h.1, g.1], fun k hk => ?_, fun i j hi hj hne => ?_⟩
  · rw [getD_app, getD_app, ← h.1]
    split
    · rename_i q; exact h.2.1 k q
    · refine g.2.1 _ ?_
      rw [List.length_append] at hk
      omega
  · rw [List.length_append] at hi hj
    rw [getD_app, getD_app]
    split <;> split
    · rename_i q1 q2; exact h.2.2 i j q1 q2 hne
    · rename_i q1 q2
      cases e : (us.getD i undef).ownBlock with
      | none => exact .inl rfl
      | some b => exact .inr fun x => hd i _ b q1 (by omega) e x.symm
    · rename_i q1 q2
      cases e : (us.getD (i - us.length + 0) undef).ownBlock with
      | none =>
        cases e2 : (vs.getD (i - us.length) undef).ownBlock with
        | none => exact .inl rfl
        | some b => exact .inr fun x => hd j (i - us.length) b q2 (by omega) x.symm e2
      | some _ =>
        cases e2 : (vs.getD (i - us.length) undef).ownBlock with
        | none => exact .inl rfl
        | some b => exact .inr fun x => hd j (i - us.length) b q2 (by omega) x.symm e2
    · exact g.2.2 _ _ (by omega) (by omega) (by omega)
theorem own_lowS {W : World} {B B' sz : Nat} {t : TypeId} {v : Value} {n : Nat} {xs : List Value} (ho : W.ownsRow B t sz v n xs) (hB : B' ≤ B) : W.ownsRow B' t sz v n xs := ⟨ho.1, ho.2.elim .inl fun ⟨gg, cap, cur, z1, z2, z3⟩ => .inr ⟨gg, cap, cur, z1, Nat.le_trans hB z2, z3⟩⟩
theorem getD_any {l : List Value} {i : Nat} (a b : Value) (h : i < l.length) : l.getD i a = l.getD i b := by simp [List.getD, List.getElem?_eq_getElem h]
theorem getD_snd {rs : List Rw} {i : Nat} (h : i < rs.length) : (rs.map (·.2)).getD i [] = (rs.getD i rw0).2 := by simp [List.getD, List.getElem?_map, List.getElem?_eq_getElem h]
section
variable {w w' : World} {B B' : Nat} {v : Value} {rs : List Rw} {vs : List Value}
theorem RwO.keepB (h : RwO w B v rs vs) (hk : ∀ b, B ≤ b → b < w.heap.size → w'.heap[b]? = w.heap[b]?) : RwO w' B v rs vs :=
  ⟨own_ofS h.1 (fun b e => hk b (own_atS h.1 e).2.1 (own_atS h.1 e).1), h.2.1, fun i hi => ⟨own_ofS (h.2.2.1 i hi).1 (fun b e => hk b (own_atS (h.2.2.1 i hi).1 e).2.1 (own_atS (h.2.2.1 i hi).1 e).1), (h.2.2.1 i hi).2⟩, h.2.2.2⟩
theorem RwO.low (h : RwO w B v rs vs) (hB : B' ≤ B) : RwO w B' v rs vs :=
  ⟨own_lowS h.1 hB, h.2.1, fun i hi => ⟨own_lowS (h.2.2.1 i hi).1 hB, (h.2.2.1 i hi).2⟩, h.2.2.2⟩
theorem RwO.apt (h : RwO w B v rs vs) : Apt B w vs (rs.map (·.2)) := by
  have hl := h.2.1
  refine ⟨by simp [hl], fun k hk => ?_, fun i j hi hj hne => ?_⟩
  · rw [getD_snd (by omega), getD_any undef (.bool false) hk]
    exact (h.2.2.1 k (by omega)).1
  · rw [getD_any undef (.bool false) hi, getD_any undef (.bool false) hj]
    cases e : (vs.getD i (.bool false)).ownBlock with
    | none => exact .inl rfl
    | some b =>
      refine .inr fun x => ?_
      rcases Nat.lt_or_gt_of_ne hne with q | q
      · exact h.2.2.2.2 i j b q (by omega) e x.symm
      · exact h.2.2.2.2 j i b q (by omega) x.symm e
theorem RwO.lies (h : RwO w B v rs vs) : (∀ b, v.ownBlock = some b → B ≤ b ∧ b < w.heap.size) ∧ ∀ i b, i < vs.length → (vs.getD i undef).ownBlock = some b → B ≤ b ∧ b < w.heap.size :=
  ⟨fun b e => ⟨(own_atS h.1 e).2.1, (own_atS h.1 e).1⟩, fun i b hi e => by
    rw [getD_any undef (.bool false) hi] at e
    have := (h.2.2.1 i (by rw [h.2.1]; exact hi)).1
    exact ⟨(own_atS this e).2.1, (own_atS this e).1⟩⟩
theorem RwO.vals (h : RwO w B v rs vs) : ∃ xs, w.ownsRow B TR 2 v vs.length xs ∧ ∀ i, i < vs.length → xs[i * 2 + 1]? = some (vs.getD i undef) := by
  refine ⟨rcs rs vs, by rw [← h.2.1]; exact h.1, fun i hi => ?_⟩
  rw [(rcs_get rs vs i h.2.1 (by rw [h.2.1]; exact hi)).2, getD_any undef (.bool false) hi]
end
theorem unpQ_small {l : List Int} {rs : List Rw} {k : Nat} {e : Int} (h : UnpQ l rs k e) : rs.length ≤ 64 ∧ ∀ r ∈ rs, r.2.length ≤ 65536 := by
  rcases h with ⟨_, _, hm, _⟩ | ⟨_, rfl, _⟩
  · refine ⟨hm.1, fun r hr => ?_⟩
    obtain ⟨i, hi, rfl⟩ := List.getElem_of_mem hr
    have := okRows_get hi hm
    rw [show rs.getD i rw0 = rs[i] by simp [List.getD, List.getElem?_eq_getElem hi]] at this
    exact this.2.2
  · exact ⟨by simp, fun r hr => by simp at hr⟩
theorem getD_leU {ls : List (List Int)} {n : Nat} (h : ∀ x ∈ ls, x.length ≤ n) (k : Nat) : (ls.getD k []).length ≤ n := by
  by_cases hk : k < ls.length
  · simp only [List.getD, List.getElem?_eq_getElem hk, Option.getD_some]
    exact h _ (List.getElem_mem hk)
  · simp [List.getD, List.getElem?_eq_none (Nat.le_of_not_lt hk)]
theorem apart_three (W : World) (b : Nat) (B1 B2 B3 : Nat) (v1 v2 v3 : Value) (r1 r2 r3 : List Rw) (x1 x2 x3 : List Value) (h1 : RwO W B1 v1 r1 x1) (h2 : RwO W B2 v2 r2 x2) (h3 : RwO W B3 v3 r3 x3)
    (hb : W.heap[b]? = some (.cells #[v1, v2, v3] 24 (0, 0))) (l1 : (∀ q, v1.ownBlock = some q → q < B2) ∧ ∀ i q, i < x1.length → (x1.getD i undef).ownBlock = some q → q < B2) (l2 : (∀ q, v2.ownBlock = some q → q < B3) ∧ ∀ i q, i < x2.length → (x2.getD i undef).ownBlock = some q → q < B3)
    (h12 : B1 ≤ B2) (h23 : B2 ≤ B3) (hW : B1 ≤ W.heap.size) (s1 : r1.length ≤ 64 ∧ ∀ r ∈ r1, r.2.length ≤ 65536) (s2 : r2.length ≤ 64 ∧ ∀ r ∈ r2, r.2.length ≤ 65536) (s3 : r3.length ≤ 64 ∧ ∀ r ∈ r3, r.2.length ≤ 65536) :
    Calls Tryd.prog 10 #[.slice (some ⟨b, 0, none⟩) 3 3] W fun e w' => e = .returned (.bool true) ∧ Below B1 W w' := by
  have a2 := h2.low h12
  have a3 := h3.low (Nat.le_trans h12 h23)
  have e1 := h1.2.1
  have e2 := h2.2.1
  have e3 := h3.2.1
  have p12 := apt_app h1.apt a2.apt fun i j q hi hj e e' => by
    have := l1.2 i q hi e
    have := (h2.lies.2 j q hj e').1
    omega
  have p123 := apt_app p12 a3.apt fun i j q hi hj e e' => by
    have h7 := (h3.lies.2 j q hj e').1
    rw [getD_app] at e
    split at e
    · have := l1.2 i q (by assumption) e
      omega
    · rw [List.length_append] at hi
      have := l2.2 _ q (by omega) e
      omega
  have hfl : [x1, x2, x3].flatten = x1 ++ x2 ++ x3 := by simp
  refine apartRows_any B1 W _ [v1, v2, v3] [x1, x2, x3] (r1.map (·.2) ++ r2.map (·.2) ++ r3.map (·.2)) ?_ rfl ?_ (by rw [hfl]; exact p123) ?_ hW ?_ ?_ (by simp) ?_
  · refine ⟨_, 3, rfl, by simp, by unfold maxLen; omega, fun _ => ⟨b, 0, rfl, ⟨_, hb⟩, fun k hk => ?_⟩⟩
    rw [Nat.zero_add, cell_of_row _ _ _ _ _ _ hb]
    match k, hk with
    | 0, _ => rfl
    | 1, _ => rfl
    | 2, _ => rfl
  · intro k hk
    match k, hk with
    | 0, _ => exact h1.vals
    | 1, _ => exact a2.vals
    | 2, _ => exact a3.vals
  · intro i j hi hj hne
    have d12 : ∀ q, v1.ownBlock = some q → v2.ownBlock ≠ some q := fun q e e' => by have := l1.1 q e; have := (h2.lies.1 q e').1; omega
    have d13 : ∀ q, v1.ownBlock = some q → v3.ownBlock ≠ some q := fun q e e' => by have := l1.1 q e; have := (h3.lies.1 q e').1; omega
    have d23 : ∀ q, v2.ownBlock = some q → v3.ownBlock ≠ some q := fun q e e' => by have := l2.1 q e; have := (h3.lies.1 q e').1; omega
    have key : ∀ a b : Value, (∀ q, a.ownBlock = some q → b.ownBlock ≠ some q) → a.ownBlock = none ∨ a.ownBlock ≠ b.ownBlock := fun a b h => by
      cases e : a.ownBlock with
      | none => exact .inl rfl
      | some q => exact .inr fun x => h q e x.symm
    have yek : ∀ a b : Value, (∀ q, a.ownBlock = some q → b.ownBlock ≠ some q) → b.ownBlock = none ∨ b.ownBlock ≠ a.ownBlock := fun a b h => by
      cases e : b.ownBlock with
      | none => exact .inl rfl
      | some q => exact .inr fun x => h q x.symm e
    simp only [List.length_cons, List.length_nil] at hi hj
    match i, j, hi, hj with
    | 0, 0, _, _ => exact absurd rfl hne
    | 0, 1, _, _ => exact key _ _ d12
    | 0, 2, _, _ => exact key _ _ d13
    | 1, 0, _, _ => exact yek _ _ d12
    | 1, 1, _, _ => exact absurd rfl hne
    | 1, 2, _, _ => exact key _ _ d23
    | 2, 0, _, _ => exact yek _ _ d13
    | 2, 1, _, _ => exact yek _ _ d23
    | 2, 2, _, _ => exact absurd rfl hne
  · intro k
    match k with
    | 0 => show x1.length ≤ 1000; omega
    | 1 => show x2.length ≤ 1000; omega
    | 2 => show x3.length ≤ 1000; omega
    | k + 3 => simp
  · rw [hfl]; simp; omega
  · intro k
    refine Nat.le_trans (getD_leU (n := 65536) (fun x hx => ?_) k) (by omega)
    rcases List.mem_append.1 hx with z | z
    · rcases List.mem_append.1 z with z | z
      · obtain ⟨r, hr, rfl⟩ := List.mem_map.1 z; exact s1.2 r hr
      · obtain ⟨r, hr, rfl⟩ := List.mem_map.1 z; exact s2.2 r hr
    · obtain ⟨r, hr, rfl⟩ := List.mem_map.1 z; exact s3.2 r hr
end Go.Proofs.YtabflkecjaphnaaDoor
namespace Go.Proofs.YtabflkecjaphnaaDoor
open Go Go.RowKit
theorem slice_hL (W : World) (b n c hi : Nat) (h1 : hi ≤ c) (h2 : 0 < c) : (Instr.slice 22 (.slice (some ⟨b, 0, none⟩) n c) none (some (.int .i64 (hi : Int))) none).run Tryd.prog W = .ok (.slice (some ⟨b, 0, none⟩) hi c) W := by
  have elm : Tryd.prog.elem 22 = 5 := by kernel_rfl
  have h := run_slice_h (P := Tryd.prog) W 22 (some ⟨b, 0, none⟩) n c (by rw [elm]; exact Tryd.underlying22) .i64 (hi : Int) (by omega) (by omega)
  rw [h, elm, size_u8, Result.andThen_ok, Int.toNat_natCast]
  unfold sliced
  rw [if_neg (by omega)]
  simp [Go.WideShapes.add_plain]
theorem wpList_litU {P : Program} {ops : Array Oper} {rest : List Oper} {o : Oper} {a : Act} {w w' : World} {Q : Exit → Act → World → Prop} (hw : Region.wanted o (yielded ops a.tmps) = true) (t : TypeId) (len : Nat) (parts : Array (Nat × Operand)) (ho : o.op = .buildSlice t len parts) (ps : Array (Nat × Value)) (hps : (parts.map fun (i, x) => (i, a.eval x)) = ps) (v : Value)
    (hr : (Instr.buildSlice t len ps).run P w = .ok v w') (h : wpList P ops Q rest (a.put o.dst v) w') : wpList P ops Q (o :: rest) a w := by
  refine wpList_step fun K hK => ?_
  simp only [hw, if_true]
  unfold Oper.wp execOp
  simp only [ho, Sem.run_bind, hps, hr, Result.andThen_ok]
  exact hK _ _ h
theorem run_litU (w : World) (a b c : Option Addr) (n m k i j l : Nat) : (Instr.buildSlice 32 3 #[(0, .slice a n i), (1, .slice b m j), (2, .slice c k l)]).run Tryd.prog w = .ok (.slice (some ⟨w.heap.size, 0, none⟩) 3 3) (w.alloc (.cells #[.slice a n i, .slice b m j, .slice c k l] 24)) := by kernel_rfl
set_option maxRecDepth 100000 in
set_option maxHeartbeats 16000000 in
theorem uunp_walk (w : World) (va vb : Value) (la lb : List Int) (ha : HB w va la) (hb : HB w vb lb) (hla : la.length ≤ 140737488351232) (hlb : lb.length ≤ 140737488351232) (hk : KD w) :
    Calls Tryd.prog 3 #[va, vb] w fun e w' => e = .returned (.bool true) ∧ Below w.heap.size w w' := by
  have HA := hid ha
  have HBb := hid hb
  have HK := hid hk
  have HLA := hid hla
  have HLB := hid hlb
  obtain ⟨pa, ca, rfl, hca, hma⟩ := ha.open
  obtain ⟨pb, cb, rfl, hcb, hmb⟩ := hb.open
  unfold maxLen at hma hmb
  obtain ⟨na, HNA⟩ : ∃ x, Hid (la.length = x) := ⟨_, rfl⟩
  obtain ⟨nb, HNB⟩ : ∃ x, Hid (lb.length = x) := ⟨_, rfl⟩
  have C1 := hid (lent_any w _ la HA.out HLA.out)
  rw [HNA.out] at HA C1 hca hla
  rw [HNB.out] at HBb hcb hlb
  rw [HNA.out, HNB.out]
  clear ha hb hk
  go_enter Tryd.func3, Tryd.ntmps3
  go_wp2_with fail
  refine C1.out.mono ?_
  rintro e1 w1 ⟨vx, rfl, hox, hB1⟩
  obtain ⟨gx, cx, ex, hgx, hgx1, hcx, hcx2, hx0, hfx⟩ := lent_part hox HA.out.2
  rw [HNA.out] at ex hcx hx0 hfx
  subst ex
  have OX := hid hox
  have X0 := hid hx0
  have XF := hid hfx
  have B1 := hid hB1
  have GX : Hid (w.heap.size ≤ gx ∧ gx < w1.heap.size) := hid ⟨hgx, hgx1⟩
  have C2 := hid (lent_any w1 _ lb (HBb.out.below hB1) HLB.out)
  try rw [HNB.out] at C2
  have hslx := fun W => slice_hL W gx (na + 70) cx na (by omega) (by omega)
  clear hox hgx hgx1 hx0 hfx hB1 C1
  go_wp2_with fail
  refine C2.out.mono ?_
  rintro e2 w2 ⟨vy, rfl, hoy, hB2⟩
  obtain ⟨gy, cy, ey, hgy, hgy1, hcy, hcy2, hy0, hfy⟩ := lent_part hoy HBb.out.2
  rw [HNB.out] at ey hcy hy0 hfy
  subst ey
  have OY := hid hoy
  have Y0 := hid hy0
  have YF := hid hfy
  have B2 := hid hB2
  have GY : Hid (w1.heap.size ≤ gy ∧ gy < w2.heap.size) := hid ⟨hgy, hgy1⟩
  have BW2 : Hid (Below w.heap.size w w2) := hid (B1.out.trans (hB2.mono B1.out.size))
  have hsly := fun W => slice_hL W gy (nb + 70) cy nb (by omega) (by omega)
  have C3 := hid (unpack_any w2 _ la (X0.out.below hB2) (HK.out.below BW2.out))
  clear hoy hgy hgy1 hy0 hfy hB2 C2
  go_wp2_with fail
  refine C3.out.mono ?_
  rintro e3 w3 ⟨v1, r1, x1, k1, ec1, rfl, hq1, hr1, hB3⟩
  have Q1 := hid hq1
  have R1 := hid hr1
  have B3 := hid hB3
  have BW3 : Hid (Below w.heap.size w w3) := hid (BW2.out.trans (hB3.mono BW2.out.size))
  have C4 := hid (unpack_any w3 _ lb (Y0.out.below hB3) (HK.out.below BW3.out))
  obtain ⟨p1, c1, ev1⟩ := own_slcS hr1.1
  obtain ⟨n1, HN1⟩ : ∃ x, Hid (r1.length = x) := ⟨_, rfl⟩
  rw [HN1.out] at ev1
  subst ev1
  clear hq1 hr1 hB3 C3
  go_wp2_with fail
  refine C4.out.mono ?_
  rintro e4 w4 ⟨v2, r2, x2, k2, ec2, rfl, hq2, hr2, hB4⟩
  have Q2 := hid hq2
  have R2 := hid hr2
  have B4 := hid hB4
  have BW4 : Hid (Below w.heap.size w w4) := hid (BW3.out.trans (hB4.mono BW3.out.size))
  have C5 := hid (unpack_any w4 _ la (((X0.out.below B2.out).below B3.out).below hB4) (HK.out.below BW4.out))
  obtain ⟨p2, c2, ev2⟩ := own_slcS hr2.1
  obtain ⟨n2, HN2⟩ : ∃ x, Hid (r2.length = x) := ⟨_, rfl⟩
  rw [HN2.out] at ev2
  subst ev2
  clear hq2 hr2 hB4 C4
  go_wp2_with fail
  refine C5.out.mono ?_
  rintro e5 w5 ⟨v3, r3, x3, k3, ec3, rfl, hq3, hr3, hB5⟩
  have Q3 := hid hq3
  have R3 := hid hr3
  have B5 := hid hB5
  have BW5 : Hid (Below w.heap.size w w5) := hid (BW4.out.trans (hB5.mono BW4.out.size))
  obtain ⟨p3, c3, ev3⟩ := own_slcS hr3.1
  obtain ⟨n3, HN3⟩ : ∃ x, Hid (r3.length = x) := ⟨_, rfl⟩
  rw [HN3.out] at ev3
  subst ev3
  have C6 := hid (kept_any w5 _ _ (lent la) la ((((XF.out.below B2.out).below B3.out).below B4.out).below hB5) (HA.out.below BW5.out) HLA.out)
  clear hq3 hr3 hB5 C5 hslx hsly
  try rw [HNA.out] at C6
  go_wp2_with fail
  refine C6.out.mono ?_
  rintro e6 w6 ⟨rfl, hB6⟩
  simp only [decide_true]
  have B6 := hid hB6
  have BW6 : Hid (Below w.heap.size w w6) := hid (BW5.out.trans (hB6.mono BW5.out.size))
  have C7 := hid (kept_any w6 _ _ (lent lb) lb ((((YF.out.below B3.out).below B4.out).below B5.out).below hB6) (HBb.out.below BW6.out) HLB.out)
  try rw [HNB.out] at C7
  clear hB6 C6
  go_wp2_with fail
  refine C7.out.mono ?_
  rintro e7 w7 ⟨rfl, hB7⟩
  simp only [decide_true]
  have B7 := hid hB7
  have BW7 : Hid (Below w.heap.size w w7) := hid (BW6.out.trans (hB7.mono BW6.out.size))
  have B27 : Hid (Below w2.heap.size w2 w7) := hid (B3.out.trans ((B4.out.trans ((B5.out.trans ((B6.out.trans (hB7.mono B6.out.size)).mono B5.out.size)).mono B4.out.size)).mono B3.out.size))
  have B17 : Hid (Below w1.heap.size w1 w7) := hid (B2.out.trans (B27.out.mono B2.out.size))
  have C8 := hid (over_any w7 _ _ _ _ (own_below OX.out B17.out) (by rw [lent_length]; have := HLA.out; omega))
  rw [lent_length, HNA.out] at C8
  clear hB7 C7
  go_wp2_with fail
  refine C8.out.mono ?_
  rintro e8 w8 ⟨rfl, -, hg8⟩
  have hg8 : w7.grownBy w8 (some gx) := hg8
  have G8 := hid hg8
  have OY8 : Hid (w8.ownsRow w1.heap.size 5 1 (.slice (some ⟨gy, 0, none⟩) (nb + 70) cy) (lent lb).length ((lent lb).map (Value.int .u8))) := hid (own_ofS (own_below OY.out B27.out) fun b e => by
    have e : gy = b := Option.some.inj e
    have h1 := GX.out
    have h2 := GY.out
    exact hg8.block b (by rw [← e]; have := B27.out.size; omega) (by intro z; cases z; omega))
  have C9 := hid (over_any w8 _ _ _ _ OY8.out (by rw [lent_length]; have := HLB.out; omega))
  rw [lent_length, HNB.out] at C9
  clear hg8 C8
  go_wp2_with fail
  refine C9.out.mono ?_
  rintro e9 w9 ⟨rfl, -, hg9⟩
  have hg9 : w8.grownBy w9 (some gy) := hg9
  have BW9 : Hid (Below w.heap.size w w9) := hid ((BW7.out.grown G8.out BW7.out.size (fun k e => by cases e; exact GX.out.1)).grown hg9 (Nat.le_trans BW7.out.size G8.out.size) (fun k e => by cases e; have := GY.out.1; have := B1.out.size; omega))
  have K9 : Hid (∀ b, w2.heap.size ≤ b → b < w7.heap.size → w9.heap[b]? = w7.heap[b]?) := hid fun b h1 h2 => by
    have q1 := GX.out
    have q2 := GY.out
    have q3 := B2.out.size
    rw [hg9.block b (Nat.lt_of_lt_of_le h2 G8.out.size) (by intro z; cases z; omega), G8.out.block b h2 (by intro z; cases z; omega)]
  have S9 : Hid (w7.heap.size ≤ w9.heap.size) := hid (Nat.le_trans G8.out.size hg9.size)
  have C10 := hid (runpack_any w9 _ la (HA.out.below BW9.out) (HK.out.below BW9.out))
  try rw [HNA.out] at C10
  clear hg9 C9
  go_wp2_with fail
  refine C10.out.mono ?_
  rintro e10 w10 ⟨v4, r4, x4, k4, ec4, rfl, hq4, hr4, hB10⟩
  obtain ⟨rfl, rfl, rfl⟩ := Q1.out.det hq4
  obtain ⟨rfl, rfl, rfl⟩ := Q3.out.det hq4
  have R4 := hid hr4
  have B10 := hid hB10
  have BW10 : Hid (Below w.heap.size w w10) := hid (BW9.out.trans (hB10.mono BW9.out.size))
  have C11 := hid (runpack_any w10 _ lb (HBb.out.below BW10.out) (HK.out.below BW10.out))
  try rw [HNB.out] at C11
  clear hq4 hr4 hB10 C10
  go_wp2_with fail
  refine C11.out.mono ?_
  rintro e11 w11 ⟨v5, r5, x5, k5, ec5, rfl, hq5, hr5, hB11⟩
  obtain ⟨rfl, rfl, rfl⟩ := Q2.out.det hq5
  have R5 := hid hr5
  have B11 := hid hB11
  have BW11 : Hid (Below w.heap.size w w11) := hid (BW10.out.trans (hB11.mono BW10.out.size))
  have B911 : Hid (Below w9.heap.size w9 w11) := hid (B10.out.trans (hB11.mono B10.out.size))
  have y3 : w2.heap.size ≤ w3.heap.size := B3.out.size
  have y4 : w3.heap.size ≤ w4.heap.size := B4.out.size
  have b57 : Below w5.heap.size w5 w7 := B6.out.trans (B7.out.mono B6.out.size)
  have b47 : Below w4.heap.size w4 w7 := B5.out.trans (b57.mono B5.out.size)
  have b37 : Below w3.heap.size w3 w7 := B4.out.trans (b47.mono B4.out.size)
  have R1z : Hid (∀ W, Below w11.heap.size w11 W → RwO W w2.heap.size (.slice p1 n1 c1) r3 x1) := hid fun W hW => ((((R1.out.below b37).keepB (w' := w9) fun b h1 h2 => K9.out b h1 h2).below B911.out).below hW)
  have R2z : Hid (∀ W, Below w11.heap.size w11 W → RwO W w3.heap.size (.slice p2 n2 c2) r2 x2) := hid fun W hW => ((((R2.out.below b47).keepB (w' := w9) fun b h1 h2 => K9.out b (by omega) h2).below B911.out).below hW)
  have R3z : Hid (∀ W, Below w11.heap.size w11 W → RwO W w4.heap.size (.slice p3 n3 c3) r3 x3) := hid fun W hW => ((((R3.out.below b57).keepB (w' := w9) fun b h1 h2 => K9.out b (by omega) h2).below B911.out).below hW)
  obtain ⟨p4, c4, ev4⟩ := own_slcS R4.out.1
  obtain ⟨p5, c5, ev5⟩ := own_slcS hr5.1
  rw [HN1.out] at ev4
  rw [HN2.out] at ev5
  subst ev4
  subst ev5
  have CS1 : Hid (∀ W, Below w11.heap.size w11 W → Calls Tryd.prog 9 #[.slice p1 n1 c1, .slice p4 n1 c4] W fun e w' => e = .returned (.bool true) ∧ Dr W w') := hid fun W hW => (sameRows_any W _ _ r3 r3 (R1z.out W hW).held ((R4.out.below B11.out).below hW).held).mono fun e w' ⟨q1, q2⟩ => ⟨by rw [q1]; simp, q2⟩
  have CS2 : Hid (∀ W, Below w11.heap.size w11 W → Calls Tryd.prog 9 #[.slice p2 n2 c2, .slice p5 n2 c5] W fun e w' => e = .returned (.bool true) ∧ Dr W w') := hid fun W hW => (sameRows_any W _ _ r2 r2 (R2z.out W hW).held (R5.out.below hW).held).mono fun e w' ⟨q1, q2⟩ => ⟨by rw [q1]; simp, q2⟩
  have CS3 : Hid (∀ W, Below w11.heap.size w11 W → Calls Tryd.prog 9 #[.slice p3 n3 c3, .slice p4 n1 c4] W fun e w' => e = .returned (.bool true) ∧ Dr W w') := hid fun W hW => (sameRows_any W _ _ r3 r3 (R3z.out W hW).held ((R4.out.below B11.out).below hW).held).mono fun e w' ⟨q1, q2⟩ => ⟨by rw [q1]; simp, q2⟩
  have L1 : Hid ((∀ q, (Value.slice p1 n1 c1).ownBlock = some q → q < w3.heap.size) ∧ ∀ i q, i < x1.length → (x1.getD i undef).ownBlock = some q → q < w3.heap.size) := hid ⟨fun q e => (R1.out.lies.1 q e).2, fun i q hi e => (R1.out.lies.2 i q hi e).2⟩
  have L2 : Hid ((∀ q, (Value.slice p2 n2 c2).ownBlock = some q → q < w4.heap.size) ∧ ∀ i q, i < x2.length → (x2.getD i undef).ownBlock = some q → q < w4.heap.size) := hid ⟨fun q e => (R2.out.lies.1 q e).2, fun i q hi e => (R2.out.lies.2 i q hi e).2⟩
  have SM1 := hid (unpQ_small Q1.out)
  have SM2 := hid (unpQ_small Q2.out)
  have SZ : Hid (w.heap.size ≤ w2.heap.size ∧ w2.heap.size ≤ w3.heap.size ∧ w3.heap.size ≤ w4.heap.size ∧ w2.heap.size ≤ w11.heap.size) := hid ⟨BW2.out.size, y3, y4, by have := b37.size; have := S9.out; have := B911.out.size; omega⟩
  clear hr5 hB11 C11 y3 y4 b57 b47 b37 HN1 HN2 HN3
  go_wp2_with fail
  refine (CS1.out w11 (Below.refl _ _)).mono ?_
  rintro e12 w12 ⟨rfl, hd12⟩
  have B12 : Hid (Below w11.heap.size w11 w12) := hid (hd12.below _)
  clear hd12 CS1
  go_wp2_with fail
  refine (CS2.out w12 B12.out).mono ?_
  rintro e13 w13 ⟨rfl, hd13⟩
  have B13 : Hid (Below w11.heap.size w11 w13) := hid (B12.out.trans ((hd13.below _).mono B12.out.size))
  clear hd13 CS2
  go_wp2_with fail
  refine (CS3.out w13 B13.out).mono ?_
  rintro e14 w14 ⟨rfl, hd14⟩
  have B14 : Hid (Below w11.heap.size w11 w14) := hid (B13.out.trans ((hd14.below _).mono B13.out.size))
  obtain ⟨WA, HWA⟩ : ∃ W, Hid (w14.alloc (.cells #[.slice p1 n1 c1, .slice p2 n2 c2, .slice p3 n3 c3] 24) = W) := ⟨_, rfl⟩
  have B15 : Hid (Below w11.heap.size w11 WA) := hid (by rw [← HWA.out]; exact B14.out.trans (((Below.refl w14.heap.size w14).alloc (Nat.le_refl _) _).mono B14.out.size))
  have hWA : WA.heap[w14.heap.size]? = some (.cells #[.slice p1 n1 c1, .slice p2 n2 c2, .slice p3 n3 c3] 24 (0, 0)) := by rw [← HWA.out]; exact heap_alloc_new _ _
  have CA := hid (apart_three WA w14.heap.size w2.heap.size w3.heap.size w4.heap.size _ _ _ r3 r2 r3 x1 x2 x3 (R1z.out WA B15.out) (R2z.out WA B15.out) (R3z.out WA B15.out) hWA L1.out L2.out SZ.out.2.1 SZ.out.2.2.1 (Nat.le_trans SZ.out.2.2.2 B15.out.size) SM1.out SM2.out SM1.out)
  clear hd14 CS3 hWA
  go_wp2_with (first | (refine wpList_litU (by rfl) 32 3 _ rfl #[(0, .slice p1 n1 c1), (1, .slice p2 n2 c2), (2, .slice p3 n3 c3)] (by go_simp) _ (run_litU _ _ _ _ _ _ _ _ _ _) ?_) | rw [HWA.out] | fail)
  refine CA.out.mono ?_
  rintro e15 w15 ⟨rfl, hB16⟩
  have FIN : Hid (Below w.heap.size w w15) := hid ((BW11.out.trans (B15.out.mono BW11.out.size)).trans (hB16.mono SZ.out.1))
  clear hB16 CA
  go_wp2
  go_ret
  exact ⟨rfl, FIN.out⟩
end Go.Proofs.YtabflkecjaphnaaDoor
namespace Go.Proofs.YtabflkecjaphnaaDoor
open Go Go.RowKit Go.ChangeShapes Go.WideShapes Go.ChangeAt
def baseLaid : List (String × DataW Unit) := [("math/bits.deBruijn32tab", Rows.laid_math_bits_deBruijn32tab), ("math/bits.deBruijn64tab", Rows.laid_math_bits_deBruijn64tab), ("internal/strconv.uint64pow10", Rows.laid_internal_strconv_uint64pow10), ("strconv.ErrRange", Rows.laid_strconv_ErrRange), ("strconv.ErrSyntax", Rows.laid_strconv_ErrSyntax)]
theorem gP10 : Tryd.prog.globalNamed "internal/strconv.uint64pow10" = some 3 := by kernel_rfl
theorem tP10 : (Tryd.prog.globals[3]?).map (·.type) = some 77 := by kernel_rfl
theorem gER : Tryd.prog.globalNamed "strconv.ErrRange" = some 2 := by kernel_rfl
theorem tER : (Tryd.prog.globals[2]?).map (·.type) = some 51 := by kernel_rfl
theorem gES : Tryd.prog.globalNamed "strconv.ErrSyntax" = some 1 := by kernel_rfl
theorem tES : (Tryd.prog.globals[1]?).map (·.type) = some 51 := by kernel_rfl
theorem cells_es : Tryd.prog.cellsOf 87 = 1 := by kernel_rfl
theorem cells_str : Tryd.prog.cellsOf 9 = 1 := by kernel_rfl
theorem star_es : "*" ++ "errors.errorString" = "*errors.errorString" := by decide
theorem row_es (u : TypeId) (h : Tryd.prog.typeName? 3 u = some "*errors.errorString") : u = 85 :=
  typeName_ptr_named (nm := "errors.errorString") (by rw [star_es]; kernel_rfl) (by kernel_rfl) (by decide) u (by rw [star_es]; exact h)
theorem kd_of_laid {W : World} (h : laidMetH Tryd.prog baseLaid W) : KD W := by
  rw [MakeChecks.laidMetH_plain _ _ _ (by kernel_rfl)] at h
  have h3 : laidMet Tryd.prog (("internal/strconv.uint64pow10", Lib.tabData .u64 Lib.pow10Tab) :: [("strconv.ErrRange", Rows.laid_strconv_ErrRange), ("strconv.ErrSyntax", Rows.laid_strconv_ErrSyntax)]) W := h.tail.tail
  have h4 := h3.tail
  obtain ⟨a0, s0, hv0, -, -, -⟩ := laid_sentinel h4 gER tER Tryd.underlying51 row_es Tryd.underlying85 Tryd.underlying87 rfl rfl Tryd.underlying9 cells_es cells_str
  obtain ⟨a1, s1, hv1, -, -, -⟩ := laid_sentinel h4.tail gES tES Tryd.underlying51 row_es Tryd.underlying85 Tryd.underlying87 rfl rfl Tryd.underlying9 cells_es cells_str
  have k1 : W.cell? ⟨1, 0, none⟩ = some (.iface 85 (.pointer (some a1))) := by
    have h0 := World.var?_cell gES hv1 0
    simpa using h0
  have k2 : W.cell? ⟨2, 0, none⟩ = some (.iface 85 (.pointer (some a0))) := by
    have h0 := World.var?_cell gER hv0 0
    simpa using h0
  exact ⟨Lib.tabIs_of_head gP10 tP10 Tryd.underlying77 Tryd.underlying54 (by kernel_rfl) (by kernel_rfl) h3, ⟨_, _, k1⟩, _, _, k2⟩
end Go.Proofs.YtabflkecjaphnaaDoor
