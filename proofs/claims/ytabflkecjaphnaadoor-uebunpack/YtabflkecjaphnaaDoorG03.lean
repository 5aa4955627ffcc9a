/- Of the road to uebUnpackCard_holds: UbUnp, UbDt, UbPack, BsRNum, UbRPc. -/
import Derived.Test.YtabflkecjaphnaaDoorG02
import Derived.Scope
import Derived.Test.YtabflkecjaphnaaDoorG00
import Derived.Laws.BytesString
set_option linter.unusedVariables false
set_option linter.unusedSimpArgs false
namespace Go.Proofs.YtabflkecjaphnaaDoor
open Go Go.RowKit
def RwO (w : World) (B : Nat) (v : Value) (rs : List Rw) (vs : List Value) : Prop :=
  w.ownsRow B 39 2 v rs.length (rcs rs vs) ∧ rs.length = vs.length ∧
  (∀ i, i < rs.length → w.ownsRow B 5 1 (vs.getD i (.bool false)) (rs.getD i rw0).2.length ((rs.getD i rw0).2.map (Value.int .u8)) ∧ Byt8 (rs.getD i rw0).2) ∧
  (∀ i q, i < rs.length → (vs.getD i (.bool false)).ownBlock = some q → v.ownBlock ≠ some q) ∧
  ∀ i j q, i < j → j < rs.length → (vs.getD i (.bool false)).ownBlock = some q → (vs.getD j (.bool false)).ownBlock ≠ some q
theorem RwO.held {w : World} {B : Nat} {v : Value} {rs : List Rw} {vs : List Value} (h : RwO w B v rs vs) : HRw w v rs :=
  HRw.of_own h.1 h.2.1 fun i hi => HB.of_own (h.2.2.1 i hi).1 (h.2.2.1 i hi).2
theorem RwO.nil (w : World) (B : Nat) : RwO w B (.slice none 0 0) [] [] :=
  ⟨World.ownsRow_nil _ _ _ _, rfl, fun i hi => absurd hi (Nat.not_lt_zero _), fun i q hi => absurd hi (Nat.not_lt_zero _), fun i j q _ hj => absurd hj (Nat.not_lt_zero _)⟩
theorem own_below2 {w w' : World} {B n : Nat} {e : TypeId} {v : Value} {xs : List Value} (h : w.ownsRow B e 2 v n xs) (hb : Below w.heap.size w w') : w'.ownsRow B e 2 v n xs :=
  h.kept ⟨hb.os, hb.tape, hb.output, hb.size, fun k hk _ => hb.block k hk⟩ (none_or _)
theorem RwO.below {w w' : World} {B : Nat} {v : Value} {rs : List Rw} {vs : List Value} (h : RwO w B v rs vs) (hb : Below w.heap.size w w') : RwO w' B v rs vs :=
  ⟨own_below2 h.1 hb, h.2.1, fun i hi => ⟨own_below (h.2.2.1 i hi).1 hb, (h.2.2.1 i hi).2⟩, h.2.2.2.1, h.2.2.2.2⟩
theorem getD_left {α : Type} (d : α) (l m : List α) (i : Nat) (h : i < l.length) : (l ++ m).getD i d = l.getD i d := by simp [List.getD, List.getElem?_append_left h]
theorem getD_last {α : Type} (d x : α) (l : List α) : (l ++ [x]).getD l.length d = x := by simp [List.getD]
theorem RwO.push {wr w3 w4 : World} {B : Nat} {v v' v3 : Value} {rs : List Rw} {vs : List Value} {s : ByteArray} {g : List Int} {o : Obj} (h : RwO wr B v rs vs) (hb3 : Below wr.heap.size wr w3) (h3 : w3.ownsRow wr.heap.size 5 1 v3 g.length (g.map (Value.int .u8))) (hg : Byt8 g) (hB : B ≤ wr.heap.size)
    (h4 : w4.ownsRow B 39 2 v' (rs.length + 1) (rcs rs vs ++ [.string s, v3])) (hgr : (w3.alloc o).grownBy w4 v.ownBlock) (hpl : v'.ownBlock = v.ownBlock ∨ v'.ownBlock = some (w3.alloc o).heap.size) : RwO w4 B v' (rs ++ [(s, g)]) (vs ++ [v3]) := by
  obtain ⟨h1, h2, hv, ha, hp⟩ := h
  have hlt := h1.lt
  have hsz : (w3.alloc o).heap.size = w3.heap.size + 1 := by simp
  have hs3 := hb3.size
  have hold : ∀ i q, i < rs.length → (vs.getD i (.bool false)).ownBlock = some q → q < wr.heap.size := fun i q hi e => ((hv i hi).1.lt q e).2
  have hnew : ∀ q, v3.ownBlock = some q → wr.heap.size ≤ q ∧ q < w3.heap.size := fun q e => h3.lt q e
  have hk : ∀ i, i < rs.length → w4.ownsRow B 5 1 (vs.getD i (.bool false)) (rs.getD i rw0).2.length ((rs.getD i rw0).2.map (Value.int .u8)) := fun i hi =>
    ((own_below (hv i hi).1 hb3).alloc o).kept hgr (by
      cases he : (vs.getD i (.bool false)).ownBlock with
      | none => exact Or.inl rfl
      | some q => exact Or.inr (fun e => ha i q hi he e.symm))
  have hk3 : w4.ownsRow B 5 1 v3 g.length (g.map (Value.int .u8)) :=
    own_mono ((h3.alloc o).kept hgr (by
      cases he : v3.ownBlock with
      | none => exact Or.inl rfl
      | some q => exact Or.inr (fun e => by have := hlt q e.symm; have := hnew q he; omega))) hB
  refine ⟨?_, by simp [h2], ?_, ?_, ?_⟩
  · rw [rcs_app _ _ _ _ h2, List.length_append]
    exact h4
  · intro i hi
    rw [List.length_append, List.length_singleton] at hi
    by_cases hi2 : i < rs.length
    · rw [getD_left _ _ _ i hi2, getD_left _ _ _ i (by omega)]
      exact ⟨hk i hi2, (hv i hi2).2⟩
    · have e : i = rs.length := by omega
      subst e
      rw [getD_last]
      conv => lhs; rw [h2, getD_last]
      exact ⟨hk3, hg⟩
  · intro i q hi he hq
    rw [List.length_append, List.length_singleton] at hi
    by_cases hi2 : i < rs.length
    · rw [getD_left _ _ _ i (by omega)] at he
      rcases hpl with e | e
      · exact ha i q hi2 he (by rw [← e]; exact hq)
      · have := hold i q hi2 he
        rw [e] at hq
        injection hq with hq
        omega
    · have e : i = vs.length := by omega
      subst e
      rw [getD_last] at he
      have := hnew q he
      rcases hpl with e | e
      · have := hlt q (by rw [← e]; exact hq)
        omega
      · rw [e] at hq
        injection hq with hq
        omega
  · intro i j q hij hj he hq
    rw [List.length_append, List.length_singleton] at hj
    rw [getD_left _ _ _ i (by omega)] at he
    by_cases hj2 : j < rs.length
    · rw [getD_left _ _ _ j (by omega)] at hq
      exact hp i j q hij hj2 he hq
    · have e : j = vs.length := by omega
      subst e
      rw [getD_last] at hq
      have := hnew q hq
      have := hold i q (by omega) he
      omega
theorem slice_from (w : World) (b off n c e : Nat) (he : e ≤ n) (hn : n ≤ c) :
    (Instr.slice 22 (.slice (some ⟨b, off, none⟩) n c) (some (.int .i64 (e : Int))) none none).run Tryd.prog w = .ok (.slice (some ⟨b, off + (if c = e then 0 else e), none⟩) (n - e) (c - e)) w := by
  have hs : (sizeOf 5).run Tryd.prog w = .ok 1 w := by
    obtain ⟨i0, hi, hz0, hz1, hz2⟩ := info_parts info_u8
    simp [sizeOf, typeInfo, hi, hz1]
  have hel : Tryd.prog.elem 22 = 5 := by kernel_rfl
  have h1 := run_slice_l (P := Tryd.prog) w 22 (some ⟨b, off, none⟩) n c (by rw [hel]; exact Tryd.underlying22) .i64 (e : Int) (by omega) (by omega)
  rw [h1, hel, hs]
  simp only [Result.andThen_ok, sliced]
  by_cases hc : c = e
  · simp [hc]
  · simp [hc, Addr.add_mid]
theorem HB.from {w : World} {b off c : Nat} {l : List Int} (h : HB w (.slice (some ⟨b, off, none⟩) l.length c) l) (e : Nat) (he : e ≤ l.length) : HB w (.slice (some ⟨b, off + (if c = e then 0 else e), none⟩) (l.length - e) (c - e)) (l.drop e) := by
  have := h.suf e he
  by_cases hc : c = e
  · simp only [hc, if_pos] at this ⊢
    simpa using this
  · simp only [hc, if_false] at this ⊢
    simpa [Addr.add_mid] using this
theorem info_int2 : (Tryd.prog.info? 3).map (fun i => (i.zero, i.size)) = some (some (.int .i64 0), 1) := by kernel_rfl
theorem idx_two (w : World) (k : Nat) (hk : k < 2) : (Instr.index 35 (.agg #[.int .i64 64, .int .i64 65536]) (.int .i64 (k : Int))).run Tryd.prog w = .ok (.int .i64 (if k = 0 then 64 else 65536)) w := by
  cases hi : Tryd.prog.info? 3 with
  | none => have := info_int2; simp [hi] at this
  | some i =>
    have h2 := info_int2
    simp [hi] at h2
    have h3 : k = 0 ∨ k = 1 := by omega
    rcases h3 with rfl | rfl
    · simp [Instr.index, run_underlying Tryd.underlying35, asIntOf, part, isAgg, run_underlying Tryd.underlying3, sizeOf, typeInfo, hi, h2]
    · simp [Instr.index, run_underlying Tryd.underlying35, asIntOf, part, isAgg, run_underlying Tryd.underlying3, sizeOf, typeInfo, hi, h2]
theorem run_append_rw (w : World) (base : Nat) (ty : TypeId) (v : Value) (n : Nat) (xs : List Value) (hown : w.ownsRow base 39 2 v n xs) (b : Nat) (c : Nat) (s : ByteArray) (u : Value) (hu : u.oneCell' = true) (hx : w.cell? ⟨b, 0, none⟩ = some (.string s)) (hy : w.cell? ⟨b, 1, none⟩ = some u) (hn : n ≤ 1000) (hbase : base ≤ w.heap.size) :
    ∃ v' w', (Builtin.append_ #[24, 24] ty #[v, .slice (some ⟨b, 0, none⟩) 1 c]).run Tryd.prog w = .ok v' w' ∧ w'.ownsRow base 39 2 v' (n + 1) (xs ++ [.string s, u]) ∧ w.grownBy w' v.ownBlock ∧
      (v'.ownBlock = v.ownBlock ∨ v'.ownBlock = some w.heap.size) := by
  obtain ⟨i0, hi, hz0, hz1, hz2⟩ := info_parts info_row
  have hnews : ∀ j q, [Value.string s, u][j]? = some q → w.cell? ((⟨b, 0, none⟩ : Addr).add j) = some q := by
    intro j q hj
    rw [Go.WideShapes.add_plain]
    match j, hj with
    | 0, hj => simp at hj; subst hj; exact hx
    | 1, hj => simp at hj; subst hj; exact hy
  have h1 : ∀ q ∈ [Value.string s, u], q.oneCell' = true := by
    intro q hq
    simp at hq
    rcases hq with rfl | rfl
    · rfl
    · exact hu
  obtain ⟨v', w', hr, h2, h3, _⟩ := run_append_own (P := Tryd.prog) w base 24 ty 39 i0 _ 2 40 Tryd.underlying24 hi hz0 hz1 hz2 rfl (by decide) v n xs hown ⟨b, 0, none⟩ 1 c [.string s, u] rfl hnews h1 (by unfold maxLen; omega) (by omega) hbase
  refine ⟨v', w', hr, h2, h3, ?_⟩
  rcases hown.2 with ⟨rfl, rfl⟩ | ⟨g, cap, cur, rfl, hbg, hg, hnc, hcm, hcs, htake⟩
  · have hr2 := run_append_nil (P := Tryd.prog) w 24 ty 39 i0 _ Tryd.underlying24 hi hz0 ⟨b, 0, none⟩ 1 c [.string s, u] (by rw [hz1]; rfl) hnews (by omega) (by omega) (by rw [hz2]; omega)
    rw [hr] at hr2
    simp only [Result.ok.injEq] at hr2
    obtain ⟨rfl, rfl⟩ := hr2
    exact .inr rfl
  · by_cases hroom : n + 1 ≤ cap
    · obtain ⟨w2, hr2, _⟩ := run_append_fits (P := Tryd.prog) w base 24 ty 39 i0 2 Tryd.underlying24 hi hz1 g n cap xs hown ⟨b, 0, none⟩ 1 c [.string s, u] rfl hnews h1 hroom
      rw [hr] at hr2
      simp only [Result.ok.injEq] at hr2
      obtain ⟨rfl, rfl⟩ := hr2
      exact .inl rfl
    · have hr2 := run_append_grow (P := Tryd.prog) w 24 ty 39 i0 _ Tryd.underlying24 hi hz0 ⟨g, 0, none⟩ n cap xs (by rw [hz1]; exact hown.1) (hown.cells (g := g) rfl) ⟨b, 0, none⟩ 1 c [.string s, u] (by rw [hz1]; rfl) hnews (by omega) (by omega) (growslice_fits (by omega) (by rw [hz2]; omega))
      rw [hr] at hr2
      simp only [Result.ok.injEq] at hr2
      obtain ⟨rfl, rfl⟩ := hr2
      exact .inr rfl
theorem wpList_append_rw {w : World} {ops : Array Oper} {rest : List Oper} {o : Oper} {a : Act} {Q : Exit → Act → World → Prop} (hgd : o.guard = none) (s x : Operand)
    (ho : o.op = .call { callee := .builtin .append, args := #[s, x], argTypes := #[24, 24] })
    (base : Nat) (v : Value) (n : Nat) (xs : List Value) (hs : a.eval s = v) (hown : w.ownsRow base 39 2 v n xs)
    (b c : Nat) (t : ByteArray) (u : Value) (hx : a.eval x = .slice (some ⟨b, 0, none⟩) 1 c) (hu : u.oneCell' = true) (h0 : w.cell? ⟨b, 0, none⟩ = some (.string t)) (h1 : w.cell? ⟨b, 1, none⟩ = some u) (hn : n ≤ 1000) (hbase : base ≤ w.heap.size)
    (h : ∀ v' w', w'.ownsRow base 39 2 v' (n + 1) (xs ++ [.string t, u]) → w.grownBy w' v.ownBlock → (v'.ownBlock = v.ownBlock ∨ v'.ownBlock = some w.heap.size) → wpList Tryd.prog ops Q rest (a.put o.dst v') w') : wpList Tryd.prog ops Q (o :: rest) a w := by
  refine wpList_plain hgd fun K hK => ?_
  obtain ⟨v', w', hr, h2, h3, h4⟩ := run_append_rw w base o.type v n xs hown b c t u hu h0 h1 hn hbase
  unfold Oper.wp execOp
  simp only [ho, resolve, invoke, builtin, Sem.run_bind, Sem.run_pure, Result.andThen_ok, List.map_toArray, List.map_cons, List.map_nil, hs, hx, hr]
  exact hK _ _ (h v' w' h2 h3 h4)
theorem unp_err {l : List Int} {rs : List Rw} {k : Nat} (hp : packL rs = l.take k) (hm : mayT rs) (hk : k < l.length) (hno : ∀ r x, rs.length < 64 → okRow (lastN noS rs) r → l.drop k ≠ rowL r ++ x) : UnpQ l [] k 131 :=
  Or.inr ⟨rfl, rfl, hk, rs, hm, hp, hno⟩
theorem no_name {l : List Int} {rs : List Rw} {k : Nat} (h : ∀ f x : List Int, f.length ≤ 64 → l.drop k ≠ fld f ++ x) : ∀ r x, rs.length < 64 → okRow (lastN noS rs) r → l.drop k ≠ rowL r ++ x := by
  intro r x _ ok e
  unfold rowL at e
  rw [List.append_assoc] at e
  exact h _ _ (by rw [sB_length]; exact ok.2.1) e
theorem no_value {l f : List Int} {rs : List Rw} {k e : Nat} (hf : l.drop k = fld f ++ l.drop e) (h : ∀ f x : List Int, f.length ≤ 65536 → l.drop e ≠ fld f ++ x) : ∀ r x, rs.length < 64 → okRow (lastN noS rs) r → l.drop k ≠ rowL r ++ x := by
  intro r x _ ok he
  unfold rowL at he
  rw [hf, List.append_assoc] at he
  obtain ⟨_, h2⟩ := fld_inj he
  exact h _ _ ok.2.2 h2
theorem no_row {l f g : List Int} {rs : List Rw} {k e : Nat} (hb : Byt8 f) (hf : l.drop k = fld f ++ (fld g ++ l.drop e)) (h : leS (bS f) (lastN noS rs) = true ∨ rs.length = 64) : ∀ r x, rs.length < 64 → okRow (lastN noS rs) r → l.drop k ≠ rowL r ++ x := by
  intro r x hl ok he
  unfold rowL at he
  rw [hf, List.append_assoc] at he
  obtain ⟨h1, h2⟩ := fld_inj he
  rcases h with h | h
  · have : bS f = r.1 := by rw [h1, bS_sB]
    rw [this, ok.1] at h
    cases h
  · omega
theorem take_ext {l a : List Int} {k e : Nat} (hd : l.drop k = a ++ l.drop e) : l.take k ++ a = l.take e := by
  apply List.append_cancel_right (bs := l.drop e)
  rw [List.append_assoc, ← hd, List.take_append_drop, List.take_append_drop]
theorem drop_lt {l a : List Int} {k e : Nat} (he : e ≤ l.length) (h6 : 6 ≤ a.length) (hk : k ≤ l.length) (hd : l.drop k = a ++ l.drop e) : k < e := by
  have := congrArg List.length hd
  rw [List.length_drop, List.length_append, List.length_drop] at this
  omega
def RdI (w : World) (l : List Int) (n : Nat) (v last : Value) (k : Nat) (wr : World) : Prop :=
  ∃ rs vs, RwO wr w.heap.size v rs vs ∧ last = .string (lastN noS rs) ∧ k ≤ n ∧ packL rs = l.take k ∧ mayT rs ∧ Below w.heap.size w wr
def RowI (w wA : World) (l : List Int) (n k j e : Nat) (W : World) : Prop :=
  Below wA.heap.size wA W ∧ e ≤ n ∧ k ≤ e ∧ ∃ u0 u1, W.heap[wA.heap.size]? = some (.cells #[u0, u1] 34 (0, 0)) ∧
    ((j = 0 ∧ e = k) ∨ (j = 1 ∧ ∃ f, l.drop k = fld f ++ l.drop e ∧ f.length ≤ 64 ∧ HB w u0 f) ∨
     (j = 2 ∧ ∃ f g, l.drop k = fld f ++ (fld g ++ l.drop e) ∧ f.length ≤ 64 ∧ g.length ≤ 65536 ∧ HB w u0 f ∧ HB w u1 g))
set_option maxRecDepth 100000 in
set_option maxHeartbeats 8000000 in
theorem unpack_any (w : World) (v : Value) (l : List Int) (h : HB w v l) (hk : KD w) :
    Calls Tryd.prog 5 #[v] w fun e w' => ∃ rv rs vs k ec, e = .returned (.tuple #[rv, .int .i64 ((k : Nat) : Int), .int .i64 ec]) ∧ UnpQ l rs k ec ∧ RwO w' w.heap.size rv rs vs ∧ Below w.heap.size w w' := by
  obtain ⟨p, c, rfl, hlc, hcm⟩ := h.open
  have HH := hid h
  have HK := hid hk
  have HBY := hid (show Byt8 l from h.2)
  obtain ⟨n, HN⟩ : ∃ n, Hid (l.length = n) := ⟨_, rfl⟩
  rw [HN.out] at hlc
  rw [HN.out]
  have hm63 : n ≤ 9223372036854775807 := by unfold maxLen at hcm; omega
  clear h hk
  go_enter Tryd.func5, Tryd.ntmps5
  go_wp2
  refine wp_scope_straight ?_
  go_wp2
  refine wp_label ?_
  go_wp2
  go_loopw [5, 6, 7] (fun v last at_ wr => ∃ k : Nat, at_ = .int .i64 (k : Int) ∧ Hid (RdI w l n v last k wr)) (fun _ _ i _ => n - (intOf i).toNat)
  case atStart => exact ⟨0, rfl, [], [], RwO.nil _ _, rfl, Nat.zero_le _, by simp [packL], ⟨Nat.zero_le _, trivial⟩, Below.refl _ _⟩
  case round =>
    obtain ⟨k, rfl, HI⟩ := hrel
    obtain ⟨rs, vs, hown, rfl, hkn, hpk, hmay, hbel⟩ := HI.out
    by_cases hlt : k < n
    · have HO := hid hown
      have HP := hid hpk
      have HM := hid hmay
      have B0 := hid hbel
      obtain ⟨last, HL⟩ : ∃ x, Hid (lastN noS rs = x) := ⟨_, rfl⟩
      rw [HL.out]
      clear hown hpk hmay HI
      obtain ⟨b, off, rfl⟩ : ∃ b off, p = some ⟨b, off, none⟩ := by
        obtain ⟨b, off, c', e, _⟩ := HH.out.ne (by have := HN.out; omega)
        injection e with e
        exact ⟨b, off, e⟩
      go_wp2
      have hszA := B0.out.size
      obtain ⟨wA, rfl⟩ : ∃ x, x = wr := ⟨wr, rfl⟩
      go_loopw [9, 22] (fun e i W => ∃ j en : Nat, i = .int .i64 (j : Int) ∧ e = .int .i64 (en : Int) ∧ Hid (RowI w wA l n k j en W)) (fun _ i _ => 2 - (intOf i).toNat)
      case atStart => exact ⟨0, k, rfl, rfl, hid ⟨(Below.refl _ wA).alloc (Nat.le_refl _) _, by omega, Nat.le_refl _, _, _, heap_alloc_new wA _, Or.inl ⟨rfl, rfl⟩⟩⟩
      case round =>
        obtain ⟨j, en, rfl, rfl, HJ⟩ := hrel
        obtain ⟨hbA, hen, hke, u0, u1, hblk, hcase⟩ := HJ.out
        have BA := hid hbA
        have hsA := hbA.size
        have BW := hid (B0.out.trans (hbA.mono hszA))
        have qs := slice_from wr b off n c en hen hlc
        have hH := HH.out.from en (by have := HN.out; omega)
        rw [HN.out] at hH
        have hdl : (l.drop en).length = n - en := by rw [List.length_drop, HN.out]
        rw [← hdl] at hH qs
        have C64 := cutField_any w wr BW.out b _ _ (l.drop en) 64 hH (by omega) (HK.out.below BW.out)
        have C65 := cutField_any w wr BW.out b _ _ (l.drop en) 65536 hH (by omega) (HK.out.below BW.out)
        obtain ⟨od, HOD⟩ : ∃ x, Hid (off + (if c = en then 0 else en) = x) := ⟨_, rfl⟩
        rw [HOD.out] at C64 C65 qs
        rw [hdl] at C64 C65 qs
        have C64 := hid C64
        have C65 := hid C65
        have hcl := hblk
        clear hH hdl hbA HJ
        rcases hcase with ⟨rfl, rfl⟩ | ⟨rfl, f, hf1, hf2, hf3⟩ | ⟨rfl, f, g, hf1, hf2, hg2, hf3, hg3⟩
        · clear C65
          have qi : ∀ W, (Instr.index 35 (.agg #[.int .i64 64, .int .i64 65536]) (.int .i64 0)).run Tryd.prog W = .ok (.int .i64 64) W := fun W => idx_two W 0 (by omega)
          go_wp2_with fail
          refine C64.out.mono ?_
          rintro e w2 ⟨vf, nf, is, rfl, hq, hb2⟩
          have B2 := hid hb2
          have hs2 := hb2.size
          have hcap := hblk
          have hblk2 : w2.heap[wA.heap.size]? = some (.cells #[u0, u1] 34 (0, 0)) := (hb2.block _ (Array.getElem?_eq_some_iff.1 hblk).1).trans hblk
          have HB2 := hid (show Bk w2 wA.heap.size #[u0, u1] 34 from hblk2)
          have hc0 := HB2.out.cell 0 u0 rfl
          have hf0 := HB2.out.free 0
          clear hb2 C64 hblk qs hcl hcap hblk2
          rcases hq with ⟨rfl, f, x, hx1, hx2, hx4, hx3⟩ | ⟨rfl, hno⟩
          · obtain ⟨pf, cf, rfl, _, _⟩ := hx3.open
            obtain ⟨nl, Hnl⟩ : ∃ x, Hid ((fld f).length = x) := ⟨_, rfl⟩
            have hnl : nl ≤ n - en := by
              have := congrArg List.length hx1
              rw [List.length_append, Hnl.out, List.length_drop, HN.out] at this
              omega
            rw [Hnl.out] at hx4
            subst hx4
            have HR : Hid (RowI w wA l n en 1 (en + nl) (w2.setCell ⟨wA.heap.size, 0, none⟩ (.slice pf f.length cf))) := by
              refine hid ⟨(BA.out.trans (B2.out.mono hsA)).setCell (Nat.le_refl _) _, by omega, by omega, _, _, HB2.out.set 0 _, Or.inr (Or.inl ⟨rfl, f, ?_, hx2, hx3⟩)⟩
              rw [hx1, ← List.drop_drop, hx1, ← Hnl.out]
              simp
            clear hx1 hx2 hx3
            go_wp2
            exact ⟨⟨1, en + nl, rfl, by go_num, HR⟩, by simp [intOf]⟩
          · have HNO := hid (unp_err HP.out HM.out (by have := HN.out; omega) (no_name hno))
            have B3 := hid (BW.out.trans (B2.out.mono BW.out.size))
            clear hno
            go_wp2
            simp only [Exit.noGoto]
            go_ret3
            exact ⟨_, [], [], en, 131, rfl, HNO.out, RwO.nil _ _, B3.out⟩
        · clear C64
          have qi : ∀ W, (Instr.index 35 (.agg #[.int .i64 64, .int .i64 65536]) (.int .i64 1)).run Tryd.prog W = .ok (.int .i64 65536) W := fun W => idx_two W 1 (by omega)
          have HF1 := hid hf1
          have HF3 := hid hf3
          clear hf1 hf3
          go_wp2_with fail
          refine C65.out.mono ?_
          rintro e w2 ⟨vf, nf, is, rfl, hq, hb2⟩
          have B2 := hid hb2
          have hs2 := hb2.size
          have hblk2 : w2.heap[wA.heap.size]? = some (.cells #[u0, u1] 34 (0, 0)) := (hb2.block _ (Array.getElem?_eq_some_iff.1 hblk).1).trans hblk
          have HB2 := hid (show Bk w2 wA.heap.size #[u0, u1] 34 from hblk2)
          have hc0 := HB2.out.cell 1 u1 rfl
          have hf0 := HB2.out.free 1
          clear hb2 C65 hblk qs hcl hblk2
          rcases hq with ⟨rfl, g, x, hx1, hx2, hx4, hx3⟩ | ⟨rfl, hno⟩
          · obtain ⟨pf, cf, rfl, _, _⟩ := hx3.open
            obtain ⟨nl, Hnl⟩ : ∃ x, Hid ((fld g).length = x) := ⟨_, rfl⟩
            have hnl : nl ≤ n - en := by
              have := congrArg List.length hx1
              rw [List.length_append, Hnl.out, List.length_drop, HN.out] at this
              omega
            rw [Hnl.out] at hx4
            subst hx4
            have HR : Hid (RowI w wA l n k 2 (en + nl) (w2.setCell ⟨wA.heap.size, 1, none⟩ (.slice pf g.length cf))) := by
              refine hid ⟨(BA.out.trans (B2.out.mono hsA)).setCell (Nat.le_refl _) _, by omega, by omega, _, _, HB2.out.set 1 _, Or.inr (Or.inr ⟨rfl, f, g, ?_, hf2, hx2, HF3.out, hx3⟩)⟩
              rw [HF1.out, ← List.drop_drop, hx1, ← Hnl.out]
              simp
            clear hx1 hx2 hx3
            go_wp2
            exact ⟨⟨2, en + nl, rfl, by go_num, HR⟩, by simp [intOf]⟩
          · have HNO := hid (unp_err HP.out HM.out (by have := HN.out; omega) (no_value HF1.out hno))
            have B3 := hid (BW.out.trans (B2.out.mono BW.out.size))
            clear hno
            go_wp2
            simp only [Exit.noGoto]
            go_ret3
            exact ⟨_, [], [], k, 131, rfl, HNO.out, RwO.nil _ _, B3.out⟩
        · clear C64 C65 qs
          have HF1 := hid hf1
          have HW := hid (show Bk wr wA.heap.size #[u0, u1] 34 from hblk)
          have hc0 := HW.out.cell 0 u0 rfl
          have hc1 := HW.out.cell 1 u1 rfl
          have qc := conv_str (hf3.below BW.out)
          have hfb : Byt8 f := hf3.2
          have HG3 := hid (hg3.below BW.out)
          have HF3 := hid hf3
          obtain ⟨pf0, cf0, rfl, _, _⟩ := hf3.open
          obtain ⟨pf1, cf1, rfl, _, _⟩ := hg3.open
          have HOA := hid (HO.out.below BA.out)
          obtain ⟨S, HS⟩ : ∃ x, Hid (bS f = x) := ⟨_, rfl⟩
          rw [HS.out] at qc
          have hlen64 : rs.length ≤ 64 := HM.out.1
          obtain ⟨m, HMm⟩ : ∃ x, Hid (rs.length = x) := ⟨_, rfl⟩
          obtain ⟨pr, cr, rfl⟩ : ∃ p c, u5 = .slice p m c := by
            rcases HO.out.1.2 with ⟨e, e0⟩ | ⟨g, cap, cur, e, _⟩
            · exact ⟨none, 0, by rw [e, ← HMm.out, e0]⟩
            · exact ⟨_, cap, by rw [e, HMm.out]⟩
          rw [HMm.out] at hlen64
          clear hf1 hf3 hg3 hblk hcl
          by_cases hle : (Op.bytesLess S.toList last.toList || S.toList == last.toList) = true
          · have HNO := hid (unp_err HP.out HM.out (by have := HN.out; omega) (no_row hfb HF1.out (Or.inl (by rw [HS.out, HL.out]; exact hle))))
            go_wp2
            simp only [Exit.noGoto]
            go_ret3
            exact ⟨_, [], [], k, 131, rfl, HNO.out, RwO.nil _ _, BW.out⟩
          · have hle2 : (Op.bytesLess S.toList last.toList || S.toList == last.toList) = false := by simpa using hle
            clear hle
            by_cases h64 : (m : Int) = 64
            · have HNO := hid (unp_err HP.out HM.out (by have := HN.out; omega) (no_row hfb HF1.out (Or.inr (by have := HMm.out; omega))))
              have hq : ((m : Int) == 64) = true := by rw [beq_iff_eq]; exact h64
              clear h64
              go_wp2
              simp only [Exit.noGoto]
              go_ret3
              exact ⟨_, [], [], k, 131, rfl, HNO.out, RwO.nil _ _, BW.out⟩
            · have hq : ((m : Int) == 64) = false := by rw [beq_eq_false_iff_ne]; exact h64
              have C := clone_any wr _ g HG3.out (by omega)
              have C := hid C
              go_wp2_with fail
              refine C.out.mono ?_
              rintro e w3 ⟨v3, rfl, hown3, hb3⟩
              have HO3 := hid hown3
              obtain ⟨p3, c3, rfl⟩ := own_slc hown3
              have B3 := hid hb3
              have hs3 := hb3.size
              have HOW : Hid (w3.ownsRow w.heap.size 39 2 (.slice pr m cr) m (rcs rs vs)) := by
                refine hid ?_
                have := (own_below2 HOA.out.1 hb3)
                rw [HMm.out] at this
                exact this
              clear hown3 hb3 C
              go_wp2_with (at_builtin; refine wpList_append_rw rfl _ _ rfl w.heap.size _ m _ rfl (HOW.out.alloc _) w3.heap.size 1 S (.slice p3 g.length c3) rfl rfl (by simp) (by simp) ?q1 ?q2 ?_)
              case q1 => omega
              case q2 => simp; omega
              intro v4 w4 hown4 hg4 hp4
              have hd : l.drop k = rowL (S, g) ++ l.drop en := by
                rw [HF1.out]
                unfold rowL
                rw [← HS.out, sB_bS hfb, List.append_assoc]
              have hken : k < en := drop_lt (by have := HN.out; omega) (row_len (S, g)) (by have := HN.out; omega) hd
              have HD := hid hd
              have HR : Hid (RdI w l n v4 (.string S) en w4) := by
                rw [← HMm.out] at hown4
                refine hid ⟨rs ++ [(S, g)], vs ++ [.slice p3 g.length c3], HOA.out.push B3.out HO3.out HG3.out.2 (by omega) hown4 hg4 ?_, by rw [lastN_snoc], by omega, ?_, ?_, ?_⟩
                · rcases hp4 with e | e
                  · exact Or.inl e
                  · exact Or.inr (by rw [e]; simp)
                · rw [packL_snoc, HP.out]
                  exact take_ext HD.out
                · have h1 := HM.out
                  refine ⟨by rw [List.length_append, List.length_singleton, HMm.out]; omega, ?_⟩
                  rw [okRows_snoc, HL.out]
                  exact ⟨h1.2, hle2, by show S.size ≤ 64; rw [← HS.out, bS_size]; omega, hg2⟩
                · exact ((BW.out.trans (B3.out.mono BW.out.size)).alloc (by omega) _).grown hg4 (by simp; omega) (fun q e => (HOW.out.lt q e).1)
              clear hown4 hg4 hp4 hd
              go_wp2
              exact ⟨⟨en, by go_num, HR⟩, by simp [intOf]; omega⟩
    · have HQ : Hid (UnpQ l rs 0 0) := by
        refine hid (Or.inl ⟨rfl, rfl, hmay, ?_⟩)
        rw [hpk, List.take_of_length_le (by have := HN.out; omega)]
      have HO := hid hown
      have B0 := hid hbel
      clear hown hpk hmay HI hbel
      go_wp2
      simp only [Exit.noGoto]
      go_ret3
      exact ⟨_, rs, vs, 0, 0, rfl, HQ.out, HO.out, B0.out⟩
theorem two_ways {l : List Int} {rs ts : List Rw} {a k : Nat} (hp : packL rs = l.take a) (hq : packL ts = l.take k) (hak : a ≤ k) (hk : k ≤ l.length) : ∃ t, ts = rs ++ t := by
  have e1 : packL ts = packL rs ++ (packL ts).drop (packL rs).length := by
    conv => lhs; rw [← List.take_append_drop (packL rs).length (packL ts)]
    congr 1
    rw [hq, hp, List.length_take, List.take_take]
    congr 1
    omega
  obtain ⟨t, ht, _⟩ := pack_split rs ts _ e1.symm
  exact ⟨t, ht⟩
theorem err_le {l : List Int} {rs ts : List Rw} {a k : Nat} (hp : packL rs = l.take a) (hno : ∀ r x, rs.length < 64 → okRow (lastN noS rs) r → l.drop a ≠ rowL r ++ x) (hm : mayT ts) (hq : packL ts = l.take k) (hk : k ≤ l.length) : k ≤ a := by
  apply Classical.byContradiction
  intro h
  obtain ⟨t, ht⟩ := two_ways hp hq (by omega) hk
  cases t with
  | nil =>
    rw [List.append_nil] at ht
    subst ht
    have := congrArg List.length (hp.symm.trans hq)
    rw [List.length_take, List.length_take] at this
    omega
  | cons r t =>
    have h7 := hm.2
    rw [ht, okRows_app, okRows] at h7
    have h8 := hm.1
    rw [ht, List.length_append, List.length_cons] at h8
    refine hno r (packL t ++ l.drop k) (by omega) h7.2.1 ?_
    have e2 : l = packL ts ++ l.drop k := by rw [hq, List.take_append_drop]
    have e3 : l = packL rs ++ l.drop a := by rw [hp, List.take_append_drop]
    have e4 : packL rs ++ l.drop a = packL rs ++ (rowL r ++ (packL t ++ l.drop k)) := by
      rw [← e3]
      conv => lhs; rw [e2, ht, packL_app, packL]
      simp [List.append_assoc]
    exact List.append_cancel_left e4
theorem UnpQ.det {l : List Int} {r s : List Rw} {k j : Nat} {e f : Int} (h : UnpQ l r k e) (g : UnpQ l s j f) : r = s ∧ k = j ∧ e = f := by
  rcases h with ⟨h1, h2, h3, h4⟩ | ⟨h1, h2, h3, rs, h4, h5, h6⟩
  · have := UnpQ.one (Or.inl ⟨h1, h2, h3, h4⟩ : UnpQ l r k e) g h1
    exact ⟨this.2.2.symm, by omega, by omega⟩
  · rcases g with ⟨g1, g2, g3, g4⟩ | ⟨g1, g2, g3, ts, g4, g5, g6⟩
    · exfalso
      have := err_le h5 h6 g3 (by rw [g4, List.take_of_length_le (Nat.le_refl _)]) (Nat.le_refl _)
      omega
    · have q1 := err_le h5 h6 g4 g5 (by omega)
      have q2 := err_le g5 g6 h4 h5 (by omega)
      exact ⟨by rw [h2, g2], by omega, by omega⟩
theorem wpList_bytes_strD {ops : Array Oper} {rest : List Oper} {o : Oper} {a : Act} {w : World} {Q : Exit → Act → World → Prop} (hgd : o.guard = none) (x : Operand) (ho : o.op = .convert 9 22 x) (s : ByteArray) (hx : a.eval x = .string s) (hs : s.size ≤ 140737488355328)
    (h : ∀ c w', HB w' (.slice (some ⟨w.heap.size, 0, none⟩) s.size c) (sB s) → Below w.heap.size w w' → w'.heap.size = w.heap.size + 1 → wpList Tryd.prog ops Q rest (a.put o.dst (.slice (some ⟨w.heap.size, 0, none⟩) s.size c)) w') : wpList Tryd.prog ops Q (o :: rest) a w :=
  wpList_plain hgd fun _ hK => by
    have hr := run_bytes_of_string (P := Tryd.prog) w 9 22 5 s Tryd.underlying9 Tryd.underlying22 Tryd.underlying5
    unfold Oper.wp
    simp only [execOp, ho, hx, Sem.run_bind, hr, Result.andThen_ok]
    have hge := grownCap_ge w s.size 0 5
    have hle := grownCap_le_maxLen w s.size 0 5 (by unfold maxLen; omega)
    refine hK _ _ (h _ _ ⟨⟨_, _, by rw [sB_length], by rw [sB_length]; exact hge, hle, (fun e => by cases e), fun _ => ⟨w.heap.size, 0, rfl, fun j hj => ?_⟩⟩, sB_byt s⟩ ((Below.refl _ w).drew.alloc (Nat.le_refl _) _) (by simp))
    have hb : (w.drew.alloc (.cells (bytesRow s (grownCap w s.size 0 5)) 5 ((bytesRow s (grownCap w s.size 0 5)).size, (bytesRow s (grownCap w s.size 0 5)).size + 1))).heap[w.heap.size]? = some (.cells (bytesRow s (grownCap w s.size 0 5)) 5 ((bytesRow s (grownCap w s.size 0 5)).size, (bytesRow s (grownCap w s.size 0 5)).size + 1)) := heap_alloc_new w.drew _
    rw [cell_of_row _ _ _ _ _ _ hb]
    have hj2 : j < s.data.size := by rw [sB_length] at hj; exact hj
    have hj3 : j < s.size := hj2
    simp [bytesRow, Array.getElem?_append, hj3, sB, List.getD, Array.getElem?_eq_getElem hj2]
theorem row_len_le {r : Rw} {last : ByteArray} (h : okRow last r) : (rowL r).length ≤ 70000 := by
  obtain ⟨_, h1, h2⟩ := h
  unfold rowL
  rw [List.length_append, fld_len, fld_len, sB_length]
  have := dec_len_small r.1.size (by omega)
  have := dec_len_small r.2.length (by omega)
  omega
theorem pack_len_le : ∀ (rs : List Rw) (last : ByteArray), okRows last rs → (packL rs).length ≤ rs.length * 70000
  | [], _, _ => by simp [packL]
  | r :: t, last, h => by
    rw [packL, List.length_append, List.length_cons]
    have := row_len_le h.1
    have := pack_len_le t r.1 h.2
    omega
def pkL (rs : List Rw) : List Int := if mayT rs then packL rs else []
def pkE (rs : List Rw) : Int := if mayT rs then 0 else 130
theorem okRows_get {rs : List Rw} {k : Nat} (h : k < rs.length) (hm : mayT rs) : okRow (lastN noS (rs.take k)) (rs.getD k rw0) := by
  have := okRows_take hm.2 (k + 1)
  rw [take_snoc h, okRows_snoc] at this
  exact this.2
theorem canon_len {l : List UInt8} (h : Canon l) (hn : valD l < 10000000000000000000) : l.length ≤ 19 := by
  by_cases hl : 1 < l.length
  · have h3 := valD_pos h (Or.inl hl)
    apply Classical.byContradiction
    intro hc
    have h4 : (10 : Nat) ^ 19 ≤ 10 ^ (l.length - 1) := Nat.pow_le_pow_right (by decide) (by omega)
    have h5 : (10 : Nat) ^ 19 = 10000000000000000000 := by decide
    omega
  · omega
theorem dec_len (n : Nat) (hn : n < 10000000000000000000) : (Lib.decDigits n).length ≤ 19 := by
  obtain ⟨h1, h2, _⟩ := dec_canon n
  exact canon_len h1 (by omega)
theorem conv_one (w : World) (c : Int) (hc : 0 ≤ c ∧ c < 256) : (convert 22 9 (.slice (some ⟨w.heap.size, 0, none⟩) 1 1)).run Tryd.prog (w.alloc (.cells #[.int .u8 c] 5)) = .ok (.string (bS [c])) (w.alloc (.cells #[.int .u8 c] 5)) := by
  apply conv_str (l := [c])
  refine ⟨⟨_, 1, rfl, by simp, by decide, (fun e => by cases e), fun _ => ⟨w.heap.size, 0, rfl, fun j hj => ?_⟩⟩, by intro x hx; simp at hx; subst hx; exact hc⟩
  simp at hj
  subst hj
  simp
theorem idx_u8 (w : World) (s : ByteArray) (i : Nat) (h : i < s.size) : (Instr.index 9 (.string s) (.int .i64 (i : Int))).run Tryd.prog w = .ok (.int .u8 ((s.data.toList.getD i 0).toNat : Int)) w := by
  rw [idx_str w s i h]
  congr 2
  have h2 : i < s.data.toList.length := by rw [← Lib.size_eq]; exact h
  unfold sB
  simp [List.getD, List.getElem?_eq_getElem h2]
theorem rd_len {l : List UInt8} {most : Int} (h : rdOk l most) (hm : most ≤ 9223372036854775807) : l.length ≤ 19 := canon_len h.1 (by have := h.2; omega)
theorem getD_u8 {l : List UInt8} {k : Nat} (h : k < l.length) : l.getD k 0 = l[k] := by simp [List.getD, List.getElem?_eq_getElem h]
set_option maxRecDepth 100000 in
set_option maxHeartbeats 4000000 in
theorem rread_any (w : World) (s : ByteArray) (most : Int) (hs : s.size ≤ 281474976710656) (hm0 : -9223372036854775808 ≤ most) (hm1 : most ≤ 9223372036854775807) :
    Calls Tryd.prog 20 #[.string s, .int .i64 most] w fun e w' => e = .returned (.tuple #[.int .i64 (rdV s.data.toList most), .int .i64 (rdE s.data.toList most)]) ∧ Below w.heap.size w w' := by
  have HI : Hid (∀ W i, i < s.size → (Instr.index 9 (.string s) (.int .i64 (i : Int))).run Tryd.prog W = .ok (.int .u8 ((s.data.toList.getD i 0).toNat : Int)) W) := hid fun W i h => idx_u8 W s i h
  have hll : s.data.toList.length = s.size := (Lib.size_eq s).symm
  obtain ⟨l, Hl⟩ : ∃ l, Hid (s.data.toList = l) := ⟨_, rfl⟩
  rw [Hl.out] at HI hll
  rw [Hl.out]
  have HLL := hid hll
  clear hll
  have NO : Hid (¬ rdOk l most → rdV l most = 0 ∧ rdE l most = 102) := hid rd_no
  by_cases h0 : s.size = 0
  · have E := hid (NO.out fun h => h.1.1 (List.length_eq_zero_iff.1 (by rw [HLL.out]; exact h0)))
    go_enter Tryd.func20, Tryd.ntmps20
    go_wp2
    go_ret2
    exact ⟨by rw [E.out.1, E.out.2]; rfl, Below.refl _ _⟩
  by_cases h19 : 19 < s.size
  · have E := hid (NO.out fun h => by have := rd_len h hm1; rw [HLL.out] at this; omega)
    go_enter Tryd.func20, Tryd.ntmps20
    go_wp2
    go_ret2
    exact ⟨by rw [E.out.1, E.out.2]; rfl, Below.refl _ _⟩
  have hx0 := HI.out w 0 (by omega)
  obtain ⟨c0, Hc0⟩ : ∃ c : Int, Hid (((l.getD 0 0).toNat : Int) = c) := ⟨_, rfl⟩
  rw [Hc0.out] at hx0
  have hx0' : (Instr.index 9 (.string s) (.int .i64 0)).run Tryd.prog w = .ok (.int .u8 c0) w := hx0
  clear hx0
  have Hhead : Hid (c0 = 48 ↔ l.head? = some 48) := by
    refine hid ?_
    have h1 : 0 < l.length := by rw [HLL.out]; omega
    have hg := getD_u8 h1
    have hh : l.head? = some (l.getD 0 0) := by rw [hg, List.head?_eq_getElem?, List.getElem?_eq_getElem h1]
    rw [hh, ← Hc0.out, Option.some.injEq]
    constructor
    · intro e
      apply UInt8.toNat_inj.1
      have : (48 : UInt8).toNat = 48 := rfl
      omega
    · intro e
      rw [e]
      rfl
  by_cases hz : 1 < s.size ∧ c0 = 48
  · have E := hid (NO.out fun h => h.1.2.2 (by rw [HLL.out]; exact hz.1) (Hhead.out.1 hz.2))
    obtain ⟨hz1, rfl⟩ := hz
    go_enter Tryd.func20, Tryd.ntmps20
    go_wp2
    go_ret2
    exact ⟨by rw [E.out.1, E.out.2]; rfl, Below.refl _ _⟩
  have HCN : Hid ((∀ c ∈ l, dig c) → Canon l) := by
    refine hid fun hd => ⟨fun e => h0 (by rw [← HLL.out, e]; rfl), hd, fun h1 e => hz ⟨by rw [← HLL.out]; exact h1, Hhead.out.2 e⟩⟩
  have b0 : ((s.size : Int) == 0) = false := by
    rw [beq_eq_false_iff_ne]
    omega
  have i19 : ¬ (19 < (s.size : Int)) := by omega
  have HZ : Hid (¬ (1 < s.size ∧ c0 = 48)) := hz
  clear hz
  by_cases h1s : 1 < s.size
  · have hc48 : (c0 == 48) = false := by
      rw [beq_eq_false_iff_ne]
      exact fun e => HZ.out ⟨h1s, e⟩
    have i1 : 1 < (s.size : Int) := by omega
    go_enter Tryd.func20, Tryd.ntmps20
    go_wp2
    go_loopw [6, 7] (fun x i wr => ∃ I : Nat, I ≤ s.size ∧ x = .int .u64 ((fD 0 (l.take I) : Nat) : Int) ∧ i = .int .i64 (I : Int) ∧ Hid (∀ c ∈ l.take I, dig c) ∧ wr = w) (fun _ i _ => s.size - (intOf i).toNat)
    case atStart => exact ⟨0, Nat.zero_le _, rfl, rfl, hid (by simp), rfl⟩
    case round =>
      obtain ⟨I, hI, rfl, rfl, HG, rfl⟩ := hrel
      by_cases hlt : I < s.size
      · have q1 := HI.out wr I hlt
        have hIl : I < l.length := by rw [HLL.out]; exact hlt
        have htk : l.take (I + 1) = l.take I ++ [l.getD I 0] := by rw [List.take_succ_eq_append_getElem hIl, getD_u8 hIl]
        have hF := fD_lt (l.take I) HG.out 0
        rw [List.length_take, Nat.min_eq_left (Nat.le_of_lt hIl), Nat.zero_add, Nat.one_mul] at hF
        have hP : (10 : Nat) ^ I ≤ 10 ^ 18 := Nat.pow_le_pow_right (by decide) (by omega)
        have hP2 : (10 : Nat) ^ 18 = 1000000000000000000 := by decide
        have hFb : fD 0 (l.take I) < 1000000000000000000 := by omega
        have hmem : l.getD I 0 ∈ l := by rw [getD_u8 hIl]; exact List.getElem_mem hIl
        have HNX : Hid (fD 0 (l.take (I + 1)) = fD 0 (l.take I) * 10 + ((l.getD I 0).toNat - 48)) := by rw [htk, fD_snoc]; exact rfl
        have hcl := (l.getD I 0).toNat_lt
        have HDG : Hid (dig (l.getD I 0) → ∀ c ∈ l.take (I + 1), dig c) := by
          refine hid fun hd c hc => ?_
          rw [htk] at hc
          rcases List.mem_append.1 hc with hc | hc
          · exact HG.out c hc
          · rw [List.mem_singleton.1 hc]; exact hd
        have HBD : Hid (¬ dig (l.getD I 0) → rdV l most = 0 ∧ rdE l most = 102) := hid fun hd => NO.out fun h => hd (h.1.2.1 _ hmem)
        obtain ⟨F, HF⟩ : ∃ F, Hid (fD 0 (l.take I) = F) := ⟨_, rfl⟩
        obtain ⟨G, HGG⟩ : ∃ G, Hid (fD 0 (l.take (I + 1)) = G) := ⟨_, rfl⟩
        rw [HF.out] at hFb HNX
        rw [HGG.out] at HNX
        rw [HF.out]
        unfold dig at HBD
        have HDG2 : Hid ((48 ≤ (l.getD I 0).toNat ∧ (l.getD I 0).toNat ≤ 57) → ∀ c ∈ l.take (I + 1), dig c) := hid fun h => HDG.out h
        obtain ⟨C, HC⟩ : ∃ C, Hid ((l.getD I 0).toNat = C) := ⟨_, rfl⟩
        rw [HC.out] at q1 HNX hcl HBD HDG2
        clear htk hF hP hP2 hmem hIl HDG
        by_cases hlo : C < 48
        · have E := hid (HBD.out (by omega))
          have hlo' : (C : Int) < 48 := by omega
          go_wp2
          go_ret2
          exact ⟨by rw [E.out.1, E.out.2]; rfl, Below.refl _ _⟩
        · by_cases hhi : 57 < C
          · have E := hid (HBD.out (by omega))
            have hlo' : ¬ (C : Int) < 48 := by omega
            have hhi' : (57 : Int) < C := by omega
            go_wp2
            go_ret2
            exact ⟨by rw [E.out.1, E.out.2]; rfl, Below.refl _ _⟩
          · have hlo' : ¬ (C : Int) < 48 := by omega
            have hhi' : ¬ (57 : Int) < C := by omega
            have HX : Hid (10 * (F : Int) + ((C : Int) - 48) = (G : Int)) := by
              refine hid ?_
              have := HNX.out
              omega
            have HG2 := hid (HDG2.out (by omega))
            go_wp2
            exact ⟨⟨I + 1, by omega, by rw [HGG.out, ← HX.out], by go_num, HG2, trivial⟩, by simp [intOf]; omega⟩
      · have htl : l.take I = l := List.take_of_length_le (by rw [HLL.out]; omega)
        have HCC : Hid (Canon l) := by
          refine hid (HCN.out ?_)
          have := HG.out
          rwa [htl] at this
        have hF := fD_lt l HCC.out.2.1 0
        have hP : (10 : Nat) ^ l.length ≤ 10 ^ 19 := Nat.pow_le_pow_right (by decide) (by rw [HLL.out]; omega)
        have hP2 : (10 : Nat) ^ 19 = 10000000000000000000 := by decide
        rw [Nat.zero_add, Nat.one_mul] at hF
        have hFb : fD 0 l < 10000000000000000000 := by omega
        rw [htl]
        have HOK : Hid (∀ v : Nat, fD 0 l = v → (v : Int) ≤ most → rdV l most = v ∧ rdE l most = 0) := by
          refine hid fun v hv h => ?_
          have hok : rdOk l most := ⟨HCC.out, by unfold valD; omega⟩
          obtain ⟨e1, e2⟩ := rd_ok hok
          exact ⟨by rw [e1]; unfold valD; rw [hv], e2⟩
        have HBD : Hid (∀ v : Nat, fD 0 l = v → ¬ (v : Int) ≤ most → rdV l most = 0 ∧ rdE l most = 102) := by
          refine hid fun v hv h => NO.out fun hr => h ?_
          have := hr.2
          unfold valD at this
          omega
        obtain ⟨F, HF⟩ : ∃ F, Hid (fD 0 l = F) := ⟨_, rfl⟩
        rw [HF.out] at hFb
        rw [HF.out]
        clear htl hF hP hP2
        by_cases hmn : most < 0
        · have E := hid (HBD.out F HF.out (by omega))
          go_wp2
          go_ret2
          exact ⟨by rw [E.out.1, E.out.2]; rfl, Below.refl _ _⟩
        · by_cases hle : (F : Int) ≤ most
          · have E := hid (HOK.out F HF.out hle)
            have hgt : ¬ most < (F : Int) := by omega
            go_wp2
            go_ret2
            exact ⟨by rw [E.out.1, E.out.2]; rfl, Below.refl _ _⟩
          · have E := hid (HBD.out F HF.out hle)
            have hgt : most < (F : Int) := by omega
            go_wp2
            go_ret2
            exact ⟨by rw [E.out.1, E.out.2]; rfl, Below.refl _ _⟩
  · have i1 : ¬ 1 < (s.size : Int) := by omega
    go_enter Tryd.func20, Tryd.ntmps20
    go_wp2
    go_loopw [6, 7] (fun x i wr => ∃ I : Nat, I ≤ s.size ∧ x = .int .u64 ((fD 0 (l.take I) : Nat) : Int) ∧ i = .int .i64 (I : Int) ∧ Hid (∀ c ∈ l.take I, dig c) ∧ wr = w) (fun _ i _ => s.size - (intOf i).toNat)
    case atStart => exact ⟨0, Nat.zero_le _, rfl, rfl, hid (by simp), rfl⟩
    case round =>
      obtain ⟨I, hI, rfl, rfl, HG, rfl⟩ := hrel
      by_cases hlt : I < s.size
      · have q1 := HI.out wr I hlt
        have hIl : I < l.length := by rw [HLL.out]; exact hlt
        have htk : l.take (I + 1) = l.take I ++ [l.getD I 0] := by rw [List.take_succ_eq_append_getElem hIl, getD_u8 hIl]
        have hF := fD_lt (l.take I) HG.out 0
        rw [List.length_take, Nat.min_eq_left (Nat.le_of_lt hIl), Nat.zero_add, Nat.one_mul] at hF
        have hP : (10 : Nat) ^ I ≤ 10 ^ 18 := Nat.pow_le_pow_right (by decide) (by omega)
        have hP2 : (10 : Nat) ^ 18 = 1000000000000000000 := by decide
        have hFb : fD 0 (l.take I) < 1000000000000000000 := by omega
        have hmem : l.getD I 0 ∈ l := by rw [getD_u8 hIl]; exact List.getElem_mem hIl
        have HNX : Hid (fD 0 (l.take (I + 1)) = fD 0 (l.take I) * 10 + ((l.getD I 0).toNat - 48)) := by rw [htk, fD_snoc]; exact rfl
        have hcl := (l.getD I 0).toNat_lt
        have HDG : Hid (dig (l.getD I 0) → ∀ c ∈ l.take (I + 1), dig c) := by
          refine hid fun hd c hc => ?_
          rw [htk] at hc
          rcases List.mem_append.1 hc with hc | hc
          · exact HG.out c hc
          · rw [List.mem_singleton.1 hc]; exact hd
        have HBD : Hid (¬ dig (l.getD I 0) → rdV l most = 0 ∧ rdE l most = 102) := hid fun hd => NO.out fun h => hd (h.1.2.1 _ hmem)
        obtain ⟨F, HF⟩ : ∃ F, Hid (fD 0 (l.take I) = F) := ⟨_, rfl⟩
        obtain ⟨G, HGG⟩ : ∃ G, Hid (fD 0 (l.take (I + 1)) = G) := ⟨_, rfl⟩
        rw [HF.out] at hFb HNX
        rw [HGG.out] at HNX
        rw [HF.out]
        unfold dig at HBD
        have HDG2 : Hid ((48 ≤ (l.getD I 0).toNat ∧ (l.getD I 0).toNat ≤ 57) → ∀ c ∈ l.take (I + 1), dig c) := hid fun h => HDG.out h
        obtain ⟨C, HC⟩ : ∃ C, Hid ((l.getD I 0).toNat = C) := ⟨_, rfl⟩
        rw [HC.out] at q1 HNX hcl HBD HDG2
        clear htk hF hP hP2 hmem hIl HDG
        by_cases hlo : C < 48
        · have E := hid (HBD.out (by omega))
          have hlo' : (C : Int) < 48 := by omega
          go_wp2
          go_ret2
          exact ⟨by rw [E.out.1, E.out.2]; rfl, Below.refl _ _⟩
        · by_cases hhi : 57 < C
          · have E := hid (HBD.out (by omega))
            have hlo' : ¬ (C : Int) < 48 := by omega
            have hhi' : (57 : Int) < C := by omega
            go_wp2
            go_ret2
            exact ⟨by rw [E.out.1, E.out.2]; rfl, Below.refl _ _⟩
          · have hlo' : ¬ (C : Int) < 48 := by omega
            have hhi' : ¬ (57 : Int) < C := by omega
            have HX : Hid (10 * (F : Int) + ((C : Int) - 48) = (G : Int)) := by
              refine hid ?_
              have := HNX.out
              omega
            have HG2 := hid (HDG2.out (by omega))
            go_wp2
            exact ⟨⟨I + 1, by omega, by rw [HGG.out, ← HX.out], by go_num, HG2, trivial⟩, by simp [intOf]; omega⟩
      · have htl : l.take I = l := List.take_of_length_le (by rw [HLL.out]; omega)
        have HCC : Hid (Canon l) := by
          refine hid (HCN.out ?_)
          have := HG.out
          rwa [htl] at this
        have hF := fD_lt l HCC.out.2.1 0
        have hP : (10 : Nat) ^ l.length ≤ 10 ^ 19 := Nat.pow_le_pow_right (by decide) (by rw [HLL.out]; omega)
        have hP2 : (10 : Nat) ^ 19 = 10000000000000000000 := by decide
        rw [Nat.zero_add, Nat.one_mul] at hF
        have hFb : fD 0 l < 10000000000000000000 := by omega
        rw [htl]
        have HOK : Hid (∀ v : Nat, fD 0 l = v → (v : Int) ≤ most → rdV l most = v ∧ rdE l most = 0) := by
          refine hid fun v hv h => ?_
          have hok : rdOk l most := ⟨HCC.out, by unfold valD; omega⟩
          obtain ⟨e1, e2⟩ := rd_ok hok
          exact ⟨by rw [e1]; unfold valD; rw [hv], e2⟩
        have HBD : Hid (∀ v : Nat, fD 0 l = v → ¬ (v : Int) ≤ most → rdV l most = 0 ∧ rdE l most = 102) := by
          refine hid fun v hv h => NO.out fun hr => h ?_
          have := hr.2
          unfold valD at this
          omega
        obtain ⟨F, HF⟩ : ∃ F, Hid (fD 0 l = F) := ⟨_, rfl⟩
        rw [HF.out] at hFb
        rw [HF.out]
        clear htl hF hP hP2
        by_cases hmn : most < 0
        · have E := hid (HBD.out F HF.out (by omega))
          go_wp2
          go_ret2
          exact ⟨by rw [E.out.1, E.out.2]; rfl, Below.refl _ _⟩
        · by_cases hle : (F : Int) ≤ most
          · have E := hid (HOK.out F HF.out hle)
            have hgt : ¬ most < (F : Int) := by omega
            go_wp2
            go_ret2
            exact ⟨by rw [E.out.1, E.out.2]; rfl, Below.refl _ _⟩
          · have E := hid (HBD.out F HF.out hle)
            have hgt : most < (F : Int) := by omega
            go_wp2
            go_ret2
            exact ⟨by rw [E.out.1, E.out.2]; rfl, Below.refl _ _⟩
def RpQ (w w' : World) (l : List Int) (a most : Nat) (vo : Value) (nx : Int) : Prop :=
  (∃ f x, l.drop a = fld f ++ x ∧ f.length ≤ most ∧ nx = ((a + (fld f).length : Nat) : Int) ∧ Byt8 f ∧ w'.ownsRow w.heap.size 5 1 vo f.length (f.map (Value.int .u8))) ∨
  (nx = -1 ∧ vo = .slice none 0 0 ∧ ∀ f x, f.length ≤ most → l.drop a ≠ fld f ++ x)
def RpP (w : World) (l : List Int) (a most : Nat) (e : Ending) (w' : World) : Prop := ∃ vo nx, e = .returned (.tuple #[vo, .int .i64 nx]) ∧ RpQ w w' l a most vo nx ∧ Below w.heap.size w w'
theorem pc_none {l : List Int} {a i most : Nat} (hm : most ≤ 99999) (hai : a ≤ i) (hil : i ≤ l.length) (hi8 : i ≤ a + 8) (hno : (58 : Int) ∉ (l.drop a).take (i - a)) (hstop : i = l.length ∨ i = a + 8) (f x : List Int) (hf : f.length ≤ most) : l.drop a ≠ fld f ++ x := by
  intro e
  have h5 := dec_len_small f.length (by omega)
  rw [fld_app] at e
  have hlen := congrArg List.length e
  rw [List.length_drop, List.length_append, List.length_cons, List.length_append, List.length_cons] at hlen
  apply hno
  rw [e, List.take_append]
  apply List.mem_append.2
  right
  rw [show i - a - (dgL f.length).length = (i - a - (dgL f.length).length - 1) + 1 by omega, List.take_succ_cons]
  exact List.mem_cons_self ..
theorem pc_colon {l : List Int} {a i : Nat} (hai : a ≤ i) (hil : i < l.length) (hc : l.getD i 0 = 58) : l.drop a = (l.drop a).take (i - a) ++ 58 :: l.drop (i + 1) := by
  conv => lhs; rw [← List.take_append_drop (i - a) (l.drop a)]
  rw [List.drop_drop, show a + (i - a) = i by omega, List.drop_eq_getElem_cons hil, ← hc]
  congr 2
  simp [List.getD, List.getElem?_eq_getElem hil]
theorem take_more {l : List Int} {a i : Nat} (hai : a ≤ i) (hil : i < l.length) : (l.drop a).take (i + 1 - a) = (l.drop a).take (i - a) ++ [l.getD i 0] := by
  rw [show i + 1 - a = (i - a) + 1 by omega, List.take_succ_eq_append_getElem (by rw [List.length_drop]; omega), List.getElem_drop, getD_of_lt hil]
  congr 2
  simp [show a + (i - a) = i by omega]
set_option maxRecDepth 100000 in
set_option maxHeartbeats 4000000 in
theorem rpiece_any (w : World) (b off c : Nat) (l : List Int) (a most : Nat) (h : HB w (.slice (some ⟨b, off, none⟩) l.length c) l) (ha : a ≤ l.length) (hm : most ≤ 65536) (hk : KD w) :
    Calls Tryd.prog 15 #[.slice (some ⟨b, off, none⟩) l.length c, .int .i64 (a : Int), .int .i64 (most : Int)] w fun e w' => RpP w l a most e w' := by
  have hbyt : Byt8 l := h.2
  have hlc : l.length ≤ c ∧ c ≤ maxLen := by
    obtain ⟨p, c', e, h1, h2⟩ := h.open
    injection e with e1 e2 e3
    subst e3
    exact ⟨h1, h2⟩
  have hm63 : l.length ≤ 9223372036854775807 := by have := hlc.2; unfold maxLen at this; omega
  have hcells : ∀ j, j < l.length → w.cell? ⟨b, off + j, none⟩ = some (.int .u8 (l.getD j 0)) := by
    intro j hj
    obtain ⟨b', o', c', e, _, _, hc⟩ := h.ne (by omega)
    injection e with e1 e2 e3
    injection e1 with e1
    injection e1 with e1 e4
    subst e1 e4
    exact hc j hj
  have HK := hid hk
  have HH := hid h
  have HBY := hid hbyt
  have HCE := hid hcells
  obtain ⟨n, HN⟩ : ∃ n, Hid (l.length = n) := ⟨_, rfl⟩
  rw [HN.out] at hlc hm63 ha
  rw [HN.out]
  clear hbyt hcells h hk
  go_enter Tryd.func15, Tryd.ntmps15
  go_wp2
  go_loopw [8] (fun ii wr => ∃ i : Nat, a ≤ i ∧ i ≤ n ∧ i ≤ a + 8 ∧ ii = .int .i64 (i : Int) ∧ Hid ((58 : Int) ∉ (l.drop a).take (i - a)) ∧ Hid (w = wr)) (fun ii _ => n - (intOf ii).toNat)
  case atStart => exact ⟨a, Nat.le_refl _, ha, by omega, rfl, hid (by simp), hid rfl⟩
  case round =>
    obtain ⟨i, hai, hin, hi8, rfl, HNO, HW⟩ := hrel
    have hw := HW.out
    clear HW
    subst hw
    by_cases hlt : i < n
    · have hc0 := HCE.out i (by have := HN.out; omega)
      by_cases h58 : l.getD i 0 = 58
      · rw [h58] at hc0
        have hcol := pc_colon (l := l) hai (by have := HN.out; omega) h58
        have hpb : Byt8 ((l.drop a).take (i - a)) := fun x hx => HBY.out x (List.mem_of_mem_drop (List.mem_of_mem_take hx))
        have hplen : ((l.drop a).take (i - a)).length = i - a := by rw [List.length_take, List.length_drop, HN.out]; omega
        have hH2 : HB w (.slice (some ⟨b, off + a, none⟩) (i - a) (c - a)) ((l.drop a).take (i - a)) := by
          refine ⟨⟨_, c - a, by rw [hplen], by rw [hplen]; omega, by have := hlc.2; omega, (fun e => by cases e), fun _ => ⟨b, off + a, rfl, fun j hj => ?_⟩⟩, hpb⟩
          rw [hplen] at hj
          rw [show off + a + j = off + (a + j) by omega, HCE.out (a + j) (by have := HN.out; omega)]
          simp [List.getD, List.getElem?_take, hj, List.getElem?_drop]
        have qc := conv_str hH2
        obtain ⟨pre, HPR⟩ : ∃ x, Hid ((l.drop a).take (i - a) = x) := ⟨_, rfl⟩
        rw [HPR.out] at hcol hpb hplen qc HNO
        have C := rread_any w (bS pre) (most : Int) (by rw [bS_size, hplen]; omega) (by omega) (by omega)
        rw [bS_bytes] at C
        obtain ⟨l', HL'⟩ : ∃ x, Hid (l.drop (i + 1) = x) := ⟨_, rfl⟩
        have hl'n : l'.length = n - (i + 1) := by rw [← HL'.out, List.length_drop, HN.out]
        rw [HL'.out] at hcol
        have HCOL := hid hcol
        have HPB := hid hpb
        have HPL := hid hplen
        have HLN := hid hl'n
        have hca : (c = a) = False := by simp; omega
        clear hH2 hcol hpb hplen hl'n
        by_cases hr : rdOk (Lib.bytesOf pre) (most : Int)
        · obtain ⟨r1, r2⟩ := rd_ok hr
          have hvle := hr.2
          have hpd := pre_dgL HPB.out hr
          obtain ⟨v, HV⟩ : ∃ v, Hid (valD (Lib.bytesOf pre) = v) := ⟨_, rfl⟩
          rw [HV.out] at r1 hvle hpd
          rw [r1, r2] at C
          have C := hid C
          have HDR : Hid (l.drop a = dgL v ++ 58 :: l') := by refine hid ?_; rw [← hpd]; exact HCOL.out
          have HPD := hid hpd
          clear r1 r2 hr hpd h58
          go_wp2_with fail
          refine C.out.mono ?_
          rintro e w2 ⟨rfl, hb2⟩
          have B2 := hid hb2
          have hs2 := hb2.size
          have HH2 := hid (HH.out.below hb2)
          have HCE2 : Hid (∀ j, j < n → w2.cell? ⟨b, off + j, none⟩ = some (.int .u8 (l.getD j 0))) := by
            refine hid fun j hj => ?_
            have hj2 := HCE.out j (by have := HN.out; omega)
            rw [B2.out.cell (World.block_lt_of_cell? w _ hj2), hj2]
          have HG : Hid (∀ j, l.getD (i + 1 + j) 0 = l'.getD j 0) := by
            refine hid fun j => ?_
            rw [← HL'.out]
            simp [List.getD, List.getElem?_drop]
          clear hb2 C
          by_cases he : i + 1 + v < n
          · have hc1 := HCE2.out (i + 1 + v) he
            rw [HG.out] at hc1
            by_cases h44 : l'.getD v 0 = 44
            · rw [h44] at hc1
              obtain ⟨g1, g2⟩ := fld_hit HDR.out (by have := HLN.out; omega) h44
              have HQ1 := hid g1
              have HQ2 := hid g2
              have HBF : Hid (Byt8 (l'.take v)) := hid fun x hx => HBY.out x (by rw [← HL'.out] at hx; exact List.mem_of_mem_drop (List.mem_of_mem_take hx))
              have HV5 : Hid (HB w2 (.slice (some ⟨b, off + (i + 1), none⟩) (i + 1 + v - (i + 1)) (c - (i + 1))) (l'.take v)) := by
                refine hid ⟨⟨_, _, by rw [g2, show i + 1 + v - (i + 1) = v by omega], by rw [g2]; omega, by have := hlc.2; omega, (fun e => by cases e), fun _ => ⟨b, off + (i + 1), rfl, fun j hj => ?_⟩⟩, HBF.out⟩
                rw [g2] at hj
                rw [show off + (i + 1) + j = off + (i + 1 + j) by omega, HCE2.out (i + 1 + j) (by omega), HG.out]
                simp [List.getD, List.getElem?_take, hj]
              have HN5 : Hid ((i : Int) + (v : Int) + 2 = ((a + (fld (l'.take v)).length : Nat) : Int)) := by
                refine hid ?_
                rw [fld_len, g2, ← HPD.out, HPL.out]
                omega
              obtain ⟨F, HF⟩ : ∃ x, Hid (l'.take v = x) := ⟨_, rfl⟩
              rw [HF.out] at HQ1 HQ2 HBF HV5 HN5
              clear g1 g2 h44
              go_wp2_with (at_builtin; refine wpList_append_bytes rfl _ _ rfl w.heap.size _ 0 _ rfl (World.ownsRow_nil _ _ _ _) _ F rfl HV5.out ?q1 ?q2 ?_)
              case q1 => rw [HQ2.out]; omega
              case q2 => omega
              intro v6 w6 hown6 hg6 _
              have B6 := hid (B2.out.grown hg6 (by omega) (fun q e => by cases e))
              have HO6 : Hid (w6.ownsRow w.heap.size 5 1 v6 F.length (F.map (Value.int .u8))) := by refine hid ?_; simpa using hown6
              clear hown6 hg6
              go_wp2
              go_ret2
              exact ⟨_, _, rfl, Or.inl ⟨F, _, HQ1.out, by rw [HQ2.out]; omega, HN5.out, HBF.out, HO6.out⟩, B6.out⟩
            · have HQ := hid (fld_short (most := most) HDR.out (Or.inr h44))
              obtain ⟨x, hx⟩ : ∃ x, l'.getD v 0 = x := ⟨_, rfl⟩
              rw [hx] at hc1 h44
              have hne : (x != 44) = true := by rw [bne_iff_ne]; exact h44
              clear hx
              go_wp2
              go_ret2
              exact ⟨_, _, rfl, Or.inr ⟨rfl, rfl, HQ.out⟩, B2.out⟩
          · have HQ := hid (fld_short (most := most) HDR.out (Or.inl (by have := HLN.out; omega)))
            have he2 : (n : Int) - (i : Int) - 1 < (v : Int) + 1 := by omega
            go_wp2
            go_ret2
            exact ⟨_, _, rfl, Or.inr ⟨rfl, rfl, HQ.out⟩, B2.out⟩
        · have HQ := hid (fld_bad HCOL.out HNO.out hr)
          obtain ⟨r1, r2⟩ := rd_no hr
          rw [r1, r2] at C
          have C := hid C
          clear r1 r2 hr h58
          go_wp2_with fail
          refine C.out.mono ?_
          rintro e w2 ⟨rfl, hb2⟩
          have B2 := hid hb2
          clear hb2 C
          go_wp2
          go_ret2
          exact ⟨_, _, rfl, Or.inr ⟨rfl, rfl, HQ.out⟩, B2.out⟩
      · obtain ⟨x, hx⟩ : ∃ x, l.getD i 0 = x := ⟨_, rfl⟩
        have HX := hid hx
        rw [hx] at hc0 h58
        have hne : (x != 58) = true := by rw [bne_iff_ne]; exact h58
        clear hx
        by_cases h8 : (i : Int) - (a : Int) < 8
        · have HN2 : Hid ((58 : Int) ∉ (l.drop a).take (i + 1 - a)) := by
            refine hid ?_
            rw [take_more hai (by have := HN.out; omega), HX.out]
            intro hq
            rcases List.mem_append.1 hq with hq | hq
            · exact HNO.out hq
            · simp at hq; exact h58 hq.symm
          go_wp2
          exact ⟨⟨i + 1, by omega, by omega, by omega, by go_num, HN2, hid trivial⟩, by simp [intOf]; omega⟩
        · have HQ := hid (pc_none (l := l) (most := most) (by omega) hai (by have := HN.out; omega) hi8 HNO.out (Or.inr (by omega)))
          go_wp2
          go_ret2
          exact ⟨_, _, rfl, Or.inr ⟨rfl, rfl, HQ.out⟩, Below.refl _ _⟩
    · have HQ := hid (pc_none (l := l) (most := most) (by omega) hai (by have := HN.out; omega) hi8 HNO.out (Or.inl (by have := HN.out; omega)))
      go_wp2
      go_ret2
      exact ⟨_, _, rfl, Or.inr ⟨rfl, rfl, HQ.out⟩, Below.refl _ _⟩
end Go.Proofs.YtabflkecjaphnaaDoor
