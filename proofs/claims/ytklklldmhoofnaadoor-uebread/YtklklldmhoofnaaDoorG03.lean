/- Of the road to uebReadCard_holds: UbUnp, UbPack, UbChk. -/
import Derived.Test.YtklklldmhoofnaaDoorG02
import Derived.Scope
import Derived.Test.YtklklldmhoofnaaDoorG01
import Derived.Laws.BytesString
set_option linter.unusedVariables false
set_option linter.unusedSimpArgs false
namespace Go.Proofs.YtklklldmhoofnaaDoor
open Go Go.RowKit
def RwO (w : World) (B : Nat) (v : Value) (rs : List Rw) (vs : List Value) : Prop :=
  w.ownsRow B 49 2 v rs.length (rcs rs vs) ∧ rs.length = vs.length ∧
  (∀ i, i < rs.length → w.ownsRow B 5 1 (vs.getD i (.bool false)) (rs.getD i rw0).2.length ((rs.getD i rw0).2.map (Value.int .u8)) ∧ Byt8 (rs.getD i rw0).2) ∧
  (∀ i q, i < rs.length → (vs.getD i (.bool false)).ownBlock = some q → v.ownBlock ≠ some q) ∧
  ∀ i j q, i < j → j < rs.length → (vs.getD i (.bool false)).ownBlock = some q → (vs.getD j (.bool false)).ownBlock ≠ some q
theorem RwO.held {w : World} {B : Nat} {v : Value} {rs : List Rw} {vs : List Value} (h : RwO w B v rs vs) : HRw w v rs :=
  HRw.of_own h.1 h.2.1 fun i hi => HB.of_own (h.2.2.1 i hi).1 (h.2.2.1 i hi).2
theorem RwO.nil (w : World) (B : Nat) : RwO w B (.slice none 0 0) [] [] :=
  ⟨World.ownsRow_nil _ _ _ _, rfl, fun i hi => absurd hi (Nat.not_lt_zero _), fun i q hi => absurd hi (Nat.not_lt_zero _), fun i j q _ hj => absurd hj (Nat.not_lt_zero _)⟩
theorem own_below2 {w w' : World} {B n : Nat} {e : TypeId} {v : Value} {xs : List Value} (h : w.ownsRow B e 2 v n xs) (hb : Below w.heap.size w w') : w'.ownsRow B e 2 v n xs :=
  h.kept ⟨hb.os, hb.tape, hb.output, hb.size, fun k hk _ => hb.block k hk⟩ (none_or _)
theorem RwO.below {w w' : World} {B : Nat} {v : Value} {rs : List Rw} {vs : List Value} (h : RwO w B v rs vs) (hb : Below w.heap.size w w') : RwO w' B v rs vs :=
  ⟨own_below2 h.1 hb, h.2.1, fun i hi => ⟨own_below (h.2.2.1 i hi).1 hb, (h.2.2.1 i hi).2⟩, h.2.2.2.1, h.2.2.2.2⟩
theorem getD_left {α : Type} (d : α) (l m : List α) (i : Nat) (h : i < l.length) : (l ++ m).getD i d = l.getD i d := by simp [List.getD, List.getElem?_append_left h]
theorem getD_last {α : Type} (d x : α) (l : List α) : (l ++ [x]).getD l.length d = x := by simp [List.getD]
theorem RwO.push {wr w3 w4 : World} {B : Nat} {v v' v3 : Value} {rs : List Rw} {vs : List Value} {s : ByteArray} {g : List Int} {o : Obj} (h : RwO wr B v rs vs) (hb3 : Below wr.heap.size wr w3) (h3 : w3.ownsRow wr.heap.size 5 1 v3 g.length (g.map (Value.int .u8))) (hg : Byt8 g) (hB : B ≤ wr.heap.size)
    (h4 : w4.ownsRow B 49 2 v' (rs.length + 1) (rcs rs vs ++ [.string s, v3])) (hgr : (w3.alloc o).grownBy w4 v.ownBlock) (hpl : v'.ownBlock = v.ownBlock ∨ v'.ownBlock = some (w3.alloc o).heap.size) : RwO w4 B v' (rs ++ [(s, g)]) (vs ++ [v3]) := by
  obtain ⟨h1, h2, hv, ha, hp⟩ := h
  have hlt := h1.lt
  have hsz : (w3.alloc o).heap.size = w3.heap.size + 1 := by simp
  have hs3 := hb3.size
  have hold : ∀ i q, i < rs.length → (vs.getD i (.bool false)).ownBlock = some q → q < wr.heap.size := fun i q hi e => ((hv i hi).1.lt q e).2
  have hnew : ∀ q, v3.ownBlock = some q → wr.heap.size ≤ q ∧ q < w3.heap.size := fun q e => h3.lt q e
  have hk : ∀ i, i < rs.length → w4.ownsRow B 5 1 (vs.getD i (.bool false)) (rs.getD i rw0).2.length ((rs.getD i rw0).2.map (Value.int .u8)) := fun i hi =>
    ((own_below (hv i hi).1 hb3).alloc o).kept hgr (by
      cases he : (vs.getD i (.bool false)).ownBlock with
      | none => exact Or.inl rfl
      | some q => exact Or.inr (fun e => ha i q hi he e.symm))
  have hk3 : w4.ownsRow B 5 1 v3 g.length (g.map (Value.int .u8)) :=
    own_mono ((h3.alloc o).kept hgr (by
      cases he : v3.ownBlock with
      | none => exact Or.inl rfl
      | some q => exact Or.inr (fun e => by have := hlt q e.symm; have := hnew q he; omega))) hB
  refine ⟨?_, by simp [h2], ?_, ?_, ?_⟩
  · rw [rcs_app _ _ _ _ h2, List.length_append]
    exact h4
  · intro i hi
    rw [List.length_append, List.length_singleton] at hi
    by_cases hi2 : i < rs.length
    · rw [getD_left _ _ _ i hi2, getD_left _ _ _ i (by omega)]
      exact ⟨hk i hi2, (hv i hi2).2⟩
    · have e : i = rs.length := by omega
      subst e
      rw [getD_last]
      conv => lhs; rw [h2, getD_last]
      exact ⟨hk3, hg⟩
  · intro i q hi he hq
    rw [List.length_append, List.length_singleton] at hi
    by_cases hi2 : i < rs.length
    · rw [getD_left _ _ _ i (by omega)] at he
      rcases hpl with e | e
      · exact ha i q hi2 he (by rw [← e]; exact hq)
      · have := hold i q hi2 he
        rw [e] at hq
        injection hq with hq
        omega
    · have e : i = vs.length := by omega
      subst e
      rw [getD_last] at he
      have := hnew q he
      rcases hpl with e | e
      · have := hlt q (by rw [← e]; exact hq)
        omega
      · rw [e] at hq
        injection hq with hq
        omega
  · intro i j q hij hj he hq
    rw [List.length_append, List.length_singleton] at hj
    rw [getD_left _ _ _ i (by omega)] at he
    by_cases hj2 : j < rs.length
    · rw [getD_left _ _ _ j (by omega)] at hq
      exact hp i j q hij hj2 he hq
    · have e : j = vs.length := by omega
      subst e
      rw [getD_last] at hq
      have := hnew q hq
      have := hold i q (by omega) he
      omega
theorem slice_from (w : World) (b off n c e : Nat) (he : e ≤ n) (hn : n ≤ c) :
    (Instr.slice 26 (.slice (some ⟨b, off, none⟩) n c) (some (.int .i64 (e : Int))) none none).run Tryd.prog w = .ok (.slice (some ⟨b, off + (if c = e then 0 else e), none⟩) (n - e) (c - e)) w := by
  have hs : (sizeOf 5).run Tryd.prog w = .ok 1 w := by
    obtain ⟨i0, hi, hz0, hz1, hz2⟩ := info_parts info_u8
    simp [sizeOf, typeInfo, hi, hz1]
  have hel : Tryd.prog.elem 26 = 5 := by kernel_rfl
  have h1 := run_slice_l (P := Tryd.prog) w 26 (some ⟨b, off, none⟩) n c (by rw [hel]; exact Tryd.underlying26) .i64 (e : Int) (by omega) (by omega)
  rw [h1, hel, hs]
  simp only [Result.andThen_ok, sliced]
  by_cases hc : c = e
  · simp [hc]
  · simp [hc, Addr.add_mid]
theorem HB.from {w : World} {b off c : Nat} {l : List Int} (h : HB w (.slice (some ⟨b, off, none⟩) l.length c) l) (e : Nat) (he : e ≤ l.length) : HB w (.slice (some ⟨b, off + (if c = e then 0 else e), none⟩) (l.length - e) (c - e)) (l.drop e) := by
  have := h.suf e he
  by_cases hc : c = e
  · simp only [hc, if_pos] at this ⊢
    simpa using this
  · simp only [hc, if_false] at this ⊢
    simpa [Addr.add_mid] using this
theorem info_int2 : (Tryd.prog.info? 3).map (fun i => (i.zero, i.size)) = some (some (.int .i64 0), 1) := by kernel_rfl
theorem idx_two (w : World) (k : Nat) (hk : k < 2) : (Instr.index 74 (.agg #[.int .i64 64, .int .i64 65536]) (.int .i64 (k : Int))).run Tryd.prog w = .ok (.int .i64 (if k = 0 then 64 else 65536)) w := by
  cases hi : Tryd.prog.info? 3 with
  | none => have := info_int2; simp [hi] at this
  | some i =>
    have h2 := info_int2
    simp [hi] at h2
    have h3 : k = 0 ∨ k = 1 := by omega
    rcases h3 with rfl | rfl
    · simp [Instr.index, run_underlying Tryd.underlying74, asIntOf, part, isAgg, run_underlying Tryd.underlying3, sizeOf, typeInfo, hi, h2]
    · simp [Instr.index, run_underlying Tryd.underlying74, asIntOf, part, isAgg, run_underlying Tryd.underlying3, sizeOf, typeInfo, hi, h2]
theorem run_append_rw (w : World) (base : Nat) (ty : TypeId) (v : Value) (n : Nat) (xs : List Value) (hown : w.ownsRow base 49 2 v n xs) (b : Nat) (c : Nat) (s : ByteArray) (u : Value) (hu : u.oneCell' = true) (hx : w.cell? ⟨b, 0, none⟩ = some (.string s)) (hy : w.cell? ⟨b, 1, none⟩ = some u) (hn : n ≤ 1000) (hbase : base ≤ w.heap.size) :
    ∃ v' w', (Builtin.append_ #[44, 44] ty #[v, .slice (some ⟨b, 0, none⟩) 1 c]).run Tryd.prog w = .ok v' w' ∧ w'.ownsRow base 49 2 v' (n + 1) (xs ++ [.string s, u]) ∧ w.grownBy w' v.ownBlock ∧
      (v'.ownBlock = v.ownBlock ∨ v'.ownBlock = some w.heap.size) := by
  obtain ⟨i0, hi, hz0, hz1, hz2⟩ := info_parts info_row
  have hnews : ∀ j q, [Value.string s, u][j]? = some q → w.cell? ((⟨b, 0, none⟩ : Addr).add j) = some q := by
    intro j q hj
    rw [Go.WideShapes.add_plain]
    match j, hj with
    | 0, hj => simp at hj; subst hj; exact hx
    | 1, hj => simp at hj; subst hj; exact hy
  have h1 : ∀ q ∈ [Value.string s, u], q.oneCell' = true := by
    intro q hq
    simp at hq
    rcases hq with rfl | rfl
    · rfl
    · exact hu
  obtain ⟨v', w', hr, h2, h3, _⟩ := run_append_own (P := Tryd.prog) w base 44 ty 49 i0 _ 2 40 Tryd.underlying44 hi hz0 hz1 hz2 rfl (by decide) v n xs hown ⟨b, 0, none⟩ 1 c [.string s, u] rfl hnews h1 (by unfold maxLen; omega) (by omega) hbase
  refine ⟨v', w', hr, h2, h3, ?_⟩
  rcases hown.2 with ⟨rfl, rfl⟩ | ⟨g, cap, cur, rfl, hbg, hg, hnc, hcm, hcs, htake⟩
  · have hr2 := run_append_nil (P := Tryd.prog) w 44 ty 49 i0 _ Tryd.underlying44 hi hz0 ⟨b, 0, none⟩ 1 c [.string s, u] (by rw [hz1]; rfl) hnews (by omega) (by omega) (by rw [hz2]; omega)
    rw [hr] at hr2
    simp only [Result.ok.injEq] at hr2
    obtain ⟨rfl, rfl⟩ := hr2
    exact .inr rfl
  · by_cases hroom : n + 1 ≤ cap
    · obtain ⟨w2, hr2, _⟩ := run_append_fits (P := Tryd.prog) w base 44 ty 49 i0 2 Tryd.underlying44 hi hz1 g n cap xs hown ⟨b, 0, none⟩ 1 c [.string s, u] rfl hnews h1 hroom
      rw [hr] at hr2
      simp only [Result.ok.injEq] at hr2
      obtain ⟨rfl, rfl⟩ := hr2
      exact .inl rfl
    · have hr2 := run_append_grow (P := Tryd.prog) w 44 ty 49 i0 _ Tryd.underlying44 hi hz0 ⟨g, 0, none⟩ n cap xs (by rw [hz1]; exact hown.1) (hown.cells (g := g) rfl) ⟨b, 0, none⟩ 1 c [.string s, u] (by rw [hz1]; rfl) hnews (by omega) (by omega) (growslice_fits (by omega) (by rw [hz2]; omega))
      rw [hr] at hr2
      simp only [Result.ok.injEq] at hr2
      obtain ⟨rfl, rfl⟩ := hr2
      exact .inr rfl
theorem wpList_append_rw {w : World} {ops : Array Oper} {rest : List Oper} {o : Oper} {a : Act} {Q : Exit → Act → World → Prop} (hgd : o.guard = none) (s x : Operand)
    (ho : o.op = .call { callee := .builtin .append, args := #[s, x], argTypes := #[44, 44] })
    (base : Nat) (v : Value) (n : Nat) (xs : List Value) (hs : a.eval s = v) (hown : w.ownsRow base 49 2 v n xs)
    (b c : Nat) (t : ByteArray) (u : Value) (hx : a.eval x = .slice (some ⟨b, 0, none⟩) 1 c) (hu : u.oneCell' = true) (h0 : w.cell? ⟨b, 0, none⟩ = some (.string t)) (h1 : w.cell? ⟨b, 1, none⟩ = some u) (hn : n ≤ 1000) (hbase : base ≤ w.heap.size)
    (h : ∀ v' w', w'.ownsRow base 49 2 v' (n + 1) (xs ++ [.string t, u]) → w.grownBy w' v.ownBlock → (v'.ownBlock = v.ownBlock ∨ v'.ownBlock = some w.heap.size) → wpList Tryd.prog ops Q rest (a.put o.dst v') w') : wpList Tryd.prog ops Q (o :: rest) a w := by
  refine wpList_plain hgd fun K hK => ?_
  obtain ⟨v', w', hr, h2, h3, h4⟩ := run_append_rw w base o.type v n xs hown b c t u hu h0 h1 hn hbase
  unfold Oper.wp execOp
  simp only [ho, resolve, invoke, builtin, Sem.run_bind, Sem.run_pure, Result.andThen_ok, List.map_toArray, List.map_cons, List.map_nil, hs, hx, hr]
  exact hK _ _ (h v' w' h2 h3 h4)
theorem unp_err {l : List Int} {rs : List Rw} {k : Nat} (hp : packL rs = l.take k) (hm : mayT rs) (hk : k < l.length) (hno : ∀ r x, rs.length < 64 → okRow (lastN noS rs) r → l.drop k ≠ rowL r ++ x) : UnpQ l [] k 131 :=
  Or.inr ⟨rfl, rfl, hk, rs, hm, hp, hno⟩
theorem no_name {l : List Int} {rs : List Rw} {k : Nat} (h : ∀ f x : List Int, f.length ≤ 64 → l.drop k ≠ fld f ++ x) : ∀ r x, rs.length < 64 → okRow (lastN noS rs) r → l.drop k ≠ rowL r ++ x := by
  intro r x _ ok e
  unfold rowL at e
  rw [List.append_assoc] at e
  exact h _ _ (by rw [sB_length]; exact ok.2.1) e
theorem no_value {l f : List Int} {rs : List Rw} {k e : Nat} (hf : l.drop k = fld f ++ l.drop e) (h : ∀ f x : List Int, f.length ≤ 65536 → l.drop e ≠ fld f ++ x) : ∀ r x, rs.length < 64 → okRow (lastN noS rs) r → l.drop k ≠ rowL r ++ x := by
  intro r x _ ok he
  unfold rowL at he
  rw [hf, List.append_assoc] at he
  obtain ⟨_, h2⟩ := fld_inj he
  exact h _ _ ok.2.2 h2
theorem no_row {l f g : List Int} {rs : List Rw} {k e : Nat} (hb : Byt8 f) (hf : l.drop k = fld f ++ (fld g ++ l.drop e)) (h : leS (bS f) (lastN noS rs) = true ∨ rs.length = 64) : ∀ r x, rs.length < 64 → okRow (lastN noS rs) r → l.drop k ≠ rowL r ++ x := by
  intro r x hl ok he
  unfold rowL at he
  rw [hf, List.append_assoc] at he
  obtain ⟨h1, h2⟩ := fld_inj he
  rcases h with h | h
  · have : bS f = r.1 := by rw [h1, bS_sB]
    rw [this, ok.1] at h
    cases h
  · omega
theorem take_ext {l a : List Int} {k e : Nat} (hd : l.drop k = a ++ l.drop e) : l.take k ++ a = l.take e := by
  apply List.append_cancel_right (bs := l.drop e)
  rw [List.append_assoc, ← hd, List.take_append_drop, List.take_append_drop]
theorem drop_lt {l a : List Int} {k e : Nat} (he : e ≤ l.length) (h6 : 6 ≤ a.length) (hk : k ≤ l.length) (hd : l.drop k = a ++ l.drop e) : k < e := by
  have := congrArg List.length hd
  rw [List.length_drop, List.length_append, List.length_drop] at this
  omega
def RdI (w : World) (l : List Int) (n : Nat) (v last : Value) (k : Nat) (wr : World) : Prop :=
  ∃ rs vs, RwO wr w.heap.size v rs vs ∧ last = .string (lastN noS rs) ∧ k ≤ n ∧ packL rs = l.take k ∧ mayT rs ∧ Below w.heap.size w wr
def RowI (w wA : World) (l : List Int) (n k j e : Nat) (W : World) : Prop :=
  Below wA.heap.size wA W ∧ e ≤ n ∧ k ≤ e ∧ ∃ u0 u1, W.heap[wA.heap.size]? = some (.cells #[u0, u1] 73 (0, 0)) ∧
    ((j = 0 ∧ e = k) ∨ (j = 1 ∧ ∃ f, l.drop k = fld f ++ l.drop e ∧ f.length ≤ 64 ∧ HB w u0 f) ∨
     (j = 2 ∧ ∃ f g, l.drop k = fld f ++ (fld g ++ l.drop e) ∧ f.length ≤ 64 ∧ g.length ≤ 65536 ∧ HB w u0 f ∧ HB w u1 g))
set_option maxRecDepth 100000 in
set_option maxHeartbeats 8000000 in
theorem unpack_any (w : World) (v : Value) (l : List Int) (h : HB w v l) (hk : KD w) :
    Calls Tryd.prog 26 #[v] w fun e w' => ∃ rv rs vs k ec, e = .returned (.tuple #[rv, .int .i64 ((k : Nat) : Int), .int .i64 ec]) ∧ UnpQ l rs k ec ∧ RwO w' w.heap.size rv rs vs ∧ Below w.heap.size w w' := by
  obtain ⟨p, c, rfl, hlc, hcm⟩ := h.open
  have HH := hid h
  have HK := hid hk
  have HBY := hid (show Byt8 l from h.2)
  obtain ⟨n, HN⟩ : ∃ n, Hid (l.length = n) := ⟨_, rfl⟩
  rw [HN.out] at hlc
  rw [HN.out]
  have hm63 : n ≤ 9223372036854775807 := by unfold maxLen at hcm; omega
  clear h hk
  go_enter Tryd.func26, Tryd.ntmps26
  go_wp2
  refine wp_scope_straight ?_
  go_wp2
  refine wp_label ?_
  go_wp2
  go_loopw [5, 6, 7] (fun v last at_ wr => ∃ k : Nat, at_ = .int .i64 (k : Int) ∧ Hid (RdI w l n v last k wr)) (fun _ _ i _ => n - (intOf i).toNat)
  case atStart => exact ⟨0, rfl, [], [], RwO.nil _ _, rfl, Nat.zero_le _, by simp [packL], ⟨Nat.zero_le _, trivial⟩, Below.refl _ _⟩
  case round =>
    obtain ⟨k, rfl, HI⟩ := hrel
    obtain ⟨rs, vs, hown, rfl, hkn, hpk, hmay, hbel⟩ := HI.out
    by_cases hlt : k < n
    · have HO := hid hown
      have HP := hid hpk
      have HM := hid hmay
      have B0 := hid hbel
      obtain ⟨last, HL⟩ : ∃ x, Hid (lastN noS rs = x) := ⟨_, rfl⟩
      rw [HL.out]
      clear hown hpk hmay HI
      obtain ⟨b, off, rfl⟩ : ∃ b off, p = some ⟨b, off, none⟩ := by
        obtain ⟨b, off, c', e, _⟩ := HH.out.ne (by have := HN.out; omega)
        injection e with e
        exact ⟨b, off, e⟩
      go_wp2
      have hszA := B0.out.size
      obtain ⟨wA, rfl⟩ : ∃ x, x = wr := ⟨wr, rfl⟩
      go_loopw [9, 22] (fun e i W => ∃ j en : Nat, i = .int .i64 (j : Int) ∧ e = .int .i64 (en : Int) ∧ Hid (RowI w wA l n k j en W)) (fun _ i _ => 2 - (intOf i).toNat)
      case atStart => exact ⟨0, k, rfl, rfl, hid ⟨(Below.refl _ wA).alloc (Nat.le_refl _) _, by omega, Nat.le_refl _, _, _, heap_alloc_new wA _, Or.inl ⟨rfl, rfl⟩⟩⟩
      case round =>
        obtain ⟨j, en, rfl, rfl, HJ⟩ := hrel
        obtain ⟨hbA, hen, hke, u0, u1, hblk, hcase⟩ := HJ.out
        have BA := hid hbA
        have hsA := hbA.size
        have BW := hid (B0.out.trans (hbA.mono hszA))
        have qs := slice_from wr b off n c en hen hlc
        have hH := HH.out.from en (by have := HN.out; omega)
        rw [HN.out] at hH
        have hdl : (l.drop en).length = n - en := by rw [List.length_drop, HN.out]
        rw [← hdl] at hH qs
        have C64 := cutField_any w wr BW.out b _ _ (l.drop en) 64 hH (by omega) (HK.out.below BW.out)
        have C65 := cutField_any w wr BW.out b _ _ (l.drop en) 65536 hH (by omega) (HK.out.below BW.out)
        obtain ⟨od, HOD⟩ : ∃ x, Hid (off + (if c = en then 0 else en) = x) := ⟨_, rfl⟩
        rw [HOD.out] at C64 C65 qs
        rw [hdl] at C64 C65 qs
        have C64 := hid C64
        have C65 := hid C65
        have hcl := hblk
        clear hH hdl hbA HJ
        rcases hcase with ⟨rfl, rfl⟩ | ⟨rfl, f, hf1, hf2, hf3⟩ | ⟨rfl, f, g, hf1, hf2, hg2, hf3, hg3⟩
        · clear C65
          have qi : ∀ W, (Instr.index 74 (.agg #[.int .i64 64, .int .i64 65536]) (.int .i64 0)).run Tryd.prog W = .ok (.int .i64 64) W := fun W => idx_two W 0 (by omega)
          go_wp2_with fail
          refine C64.out.mono ?_
          rintro e w2 ⟨vf, nf, is, rfl, hq, hb2⟩
          have B2 := hid hb2
          have hs2 := hb2.size
          have hcap := hblk
          have hblk2 : w2.heap[wA.heap.size]? = some (.cells #[u0, u1] 73 (0, 0)) := (hb2.block _ (Array.getElem?_eq_some_iff.1 hblk).1).trans hblk
          have HB2 := hid (show Bk w2 wA.heap.size #[u0, u1] 73 from hblk2)
          have hc0 := HB2.out.cell 0 u0 rfl
          have hf0 := HB2.out.free 0
          clear hb2 C64 hblk qs hcl hcap hblk2
          rcases hq with ⟨rfl, f, x, hx1, hx2, hx4, hx3⟩ | ⟨rfl, hno⟩
          · obtain ⟨pf, cf, rfl, _, _⟩ := hx3.open
            obtain ⟨nl, Hnl⟩ : ∃ x, Hid ((fld f).length = x) := ⟨_, rfl⟩
            have hnl : nl ≤ n - en := by
              have := congrArg List.length hx1
              rw [List.length_append, Hnl.out, List.length_drop, HN.out] at this
              omega
            rw [Hnl.out] at hx4
            subst hx4
            have HR : Hid (RowI w wA l n en 1 (en + nl) (w2.setCell ⟨wA.heap.size, 0, none⟩ (.slice pf f.length cf))) := by
              refine hid ⟨(BA.out.trans (B2.out.mono hsA)).setCell (Nat.le_refl _) _, by omega, by omega, _, _, HB2.out.set 0 _, Or.inr (Or.inl ⟨rfl, f, ?_, hx2, hx3⟩)⟩
              rw [hx1, ← List.drop_drop, hx1, ← Hnl.out]
              simp
            clear hx1 hx2 hx3
            go_wp2
            exact ⟨⟨1, en + nl, rfl, by go_num, HR⟩, by simp [intOf]⟩
          · have HNO := hid (unp_err HP.out HM.out (by have := HN.out; omega) (no_name hno))
            have B3 := hid (BW.out.trans (B2.out.mono BW.out.size))
            clear hno
            go_wp2
            simp only [Exit.noGoto]
            go_ret3
            exact ⟨_, [], [], en, 131, rfl, HNO.out, RwO.nil _ _, B3.out⟩
        · clear C64
          have qi : ∀ W, (Instr.index 74 (.agg #[.int .i64 64, .int .i64 65536]) (.int .i64 1)).run Tryd.prog W = .ok (.int .i64 65536) W := fun W => idx_two W 1 (by omega)
          have HF1 := hid hf1
          have HF3 := hid hf3
          clear hf1 hf3
          go_wp2_with fail
          refine C65.out.mono ?_
          rintro e w2 ⟨vf, nf, is, rfl, hq, hb2⟩
          have B2 := hid hb2
          have hs2 := hb2.size
          have hblk2 : w2.heap[wA.heap.size]? = some (.cells #[u0, u1] 73 (0, 0)) := (hb2.block _ (Array.getElem?_eq_some_iff.1 hblk).1).trans hblk
          have HB2 := hid (show Bk w2 wA.heap.size #[u0, u1] 73 from hblk2)
          have hc0 := HB2.out.cell 1 u1 rfl
          have hf0 := HB2.out.free 1
          clear hb2 C65 hblk qs hcl hblk2
          rcases hq with ⟨rfl, g, x, hx1, hx2, hx4, hx3⟩ | ⟨rfl, hno⟩
          · obtain ⟨pf, cf, rfl, _, _⟩ := hx3.open
            obtain ⟨nl, Hnl⟩ : ∃ x, Hid ((fld g).length = x) := ⟨_, rfl⟩
            have hnl : nl ≤ n - en := by
              have := congrArg List.length hx1
              rw [List.length_append, Hnl.out, List.length_drop, HN.out] at this
              omega
            rw [Hnl.out] at hx4
            subst hx4
            have HR : Hid (RowI w wA l n k 2 (en + nl) (w2.setCell ⟨wA.heap.size, 1, none⟩ (.slice pf g.length cf))) := by
              refine hid ⟨(BA.out.trans (B2.out.mono hsA)).setCell (Nat.le_refl _) _, by omega, by omega, _, _, HB2.out.set 1 _, Or.inr (Or.inr ⟨rfl, f, g, ?_, hf2, hx2, HF3.out, hx3⟩)⟩
              rw [HF1.out, ← List.drop_drop, hx1, ← Hnl.out]
              simp
            clear hx1 hx2 hx3
            go_wp2
            exact ⟨⟨2, en + nl, rfl, by go_num, HR⟩, by simp [intOf]⟩
          · have HNO := hid (unp_err HP.out HM.out (by have := HN.out; omega) (no_value HF1.out hno))
            have B3 := hid (BW.out.trans (B2.out.mono BW.out.size))
            clear hno
            go_wp2
            simp only [Exit.noGoto]
            go_ret3
            exact ⟨_, [], [], k, 131, rfl, HNO.out, RwO.nil _ _, B3.out⟩
        · clear C64 C65 qs
          have HF1 := hid hf1
          have HW := hid (show Bk wr wA.heap.size #[u0, u1] 73 from hblk)
          have hc0 := HW.out.cell 0 u0 rfl
          have hc1 := HW.out.cell 1 u1 rfl
          have qc := conv_str (hf3.below BW.out)
          have hfb : Byt8 f := hf3.2
          have HG3 := hid (hg3.below BW.out)
          have HF3 := hid hf3
          obtain ⟨pf0, cf0, rfl, _, _⟩ := hf3.open
          obtain ⟨pf1, cf1, rfl, _, _⟩ := hg3.open
          have HOA := hid (HO.out.below BA.out)
          obtain ⟨S, HS⟩ : ∃ x, Hid (bS f = x) := ⟨_, rfl⟩
          rw [HS.out] at qc
          have hlen64 : rs.length ≤ 64 := HM.out.1
          obtain ⟨m, HMm⟩ : ∃ x, Hid (rs.length = x) := ⟨_, rfl⟩
          obtain ⟨pr, cr, rfl⟩ : ∃ p c, u5 = .slice p m c := by
            rcases HO.out.1.2 with ⟨e, e0⟩ | ⟨g, cap, cur, e, _⟩
            · exact ⟨none, 0, by rw [e, ← HMm.out, e0]⟩
            · exact ⟨_, cap, by rw [e, HMm.out]⟩
          rw [HMm.out] at hlen64
          clear hf1 hf3 hg3 hblk hcl
          by_cases hle : (Op.bytesLess S.toList last.toList || S.toList == last.toList) = true
          · have HNO := hid (unp_err HP.out HM.out (by have := HN.out; omega) (no_row hfb HF1.out (Or.inl (by rw [HS.out, HL.out]; exact hle))))
            go_wp2
            simp only [Exit.noGoto]
            go_ret3
            exact ⟨_, [], [], k, 131, rfl, HNO.out, RwO.nil _ _, BW.out⟩
          · have hle2 : (Op.bytesLess S.toList last.toList || S.toList == last.toList) = false := by simpa using hle
            clear hle
            by_cases h64 : (m : Int) = 64
            · have HNO := hid (unp_err HP.out HM.out (by have := HN.out; omega) (no_row hfb HF1.out (Or.inr (by have := HMm.out; omega))))
              have hq : ((m : Int) == 64) = true := by rw [beq_iff_eq]; exact h64
              clear h64
              go_wp2
              simp only [Exit.noGoto]
              go_ret3
              exact ⟨_, [], [], k, 131, rfl, HNO.out, RwO.nil _ _, BW.out⟩
            · have hq : ((m : Int) == 64) = false := by rw [beq_eq_false_iff_ne]; exact h64
              have C := clone_any wr _ g HG3.out (by omega)
              have C := hid C
              go_wp2_with fail
              refine C.out.mono ?_
              rintro e w3 ⟨v3, rfl, hown3, hb3⟩
              have HO3 := hid hown3
              obtain ⟨p3, c3, rfl⟩ := own_slc hown3
              have B3 := hid hb3
              have hs3 := hb3.size
              have HOW : Hid (w3.ownsRow w.heap.size 49 2 (.slice pr m cr) m (rcs rs vs)) := by
                refine hid ?_
                have := (own_below2 HOA.out.1 hb3)
                rw [HMm.out] at this
                exact this
              clear hown3 hb3 C
              go_wp2_with (at_builtin; refine wpList_append_rw rfl _ _ rfl w.heap.size _ m _ rfl (HOW.out.alloc _) w3.heap.size 1 S (.slice p3 g.length c3) rfl rfl (by simp) (by simp) ?q1 ?q2 ?_)
              case q1 => omega
              case q2 => simp; omega
              intro v4 w4 hown4 hg4 hp4
              have hd : l.drop k = rowL (S, g) ++ l.drop en := by
                rw [HF1.out]
                unfold rowL
                rw [← HS.out, sB_bS hfb, List.append_assoc]
              have hken : k < en := drop_lt (by have := HN.out; omega) (row_len (S, g)) (by have := HN.out; omega) hd
              have HD := hid hd
              have HR : Hid (RdI w l n v4 (.string S) en w4) := by
                rw [← HMm.out] at hown4
                refine hid ⟨rs ++ [(S, g)], vs ++ [.slice p3 g.length c3], HOA.out.push B3.out HO3.out HG3.out.2 (by omega) hown4 hg4 ?_, by rw [lastN_snoc], by omega, ?_, ?_, ?_⟩
                · rcases hp4 with e | e
                  · exact Or.inl e
                  · exact Or.inr (by rw [e]; simp)
                · rw [packL_snoc, HP.out]
                  exact take_ext HD.out
                · have h1 := HM.out
                  refine ⟨by rw [List.length_append, List.length_singleton, HMm.out]; omega, ?_⟩
                  rw [okRows_snoc, HL.out]
                  exact ⟨h1.2, hle2, by show S.size ≤ 64; rw [← HS.out, bS_size]; omega, hg2⟩
                · exact ((BW.out.trans (B3.out.mono BW.out.size)).alloc (by omega) _).grown hg4 (by simp; omega) (fun q e => (HOW.out.lt q e).1)
              clear hown4 hg4 hp4 hd
              go_wp2
              exact ⟨⟨en, by go_num, HR⟩, by simp [intOf]; omega⟩
    · have HQ : Hid (UnpQ l rs 0 0) := by
        refine hid (Or.inl ⟨rfl, rfl, hmay, ?_⟩)
        rw [hpk, List.take_of_length_le (by have := HN.out; omega)]
      have HO := hid hown
      have B0 := hid hbel
      clear hown hpk hmay HI hbel
      go_wp2
      simp only [Exit.noGoto]
      go_ret3
      exact ⟨_, rs, vs, 0, 0, rfl, HQ.out, HO.out, B0.out⟩
theorem wpList_bytes_strD {ops : Array Oper} {rest : List Oper} {o : Oper} {a : Act} {w : World} {Q : Exit → Act → World → Prop} (hgd : o.guard = none) (x : Operand) (ho : o.op = .convert 9 26 x) (s : ByteArray) (hx : a.eval x = .string s) (hs : s.size ≤ 140737488355328)
    (h : ∀ c w', HB w' (.slice (some ⟨w.heap.size, 0, none⟩) s.size c) (sB s) → Below w.heap.size w w' → w'.heap.size = w.heap.size + 1 → wpList Tryd.prog ops Q rest (a.put o.dst (.slice (some ⟨w.heap.size, 0, none⟩) s.size c)) w') : wpList Tryd.prog ops Q (o :: rest) a w :=
  wpList_plain hgd fun _ hK => by
    have hr := run_bytes_of_string (P := Tryd.prog) w 9 26 5 s Tryd.underlying9 Tryd.underlying26 Tryd.underlying5
    unfold Oper.wp
    simp only [execOp, ho, hx, Sem.run_bind, hr, Result.andThen_ok]
    have hge := grownCap_ge w s.size 0 5
    have hle := grownCap_le_maxLen w s.size 0 5 (by unfold maxLen; omega)
    refine hK _ _ (h _ _ ⟨⟨_, _, by rw [sB_length], by rw [sB_length]; exact hge, hle, (fun e => by cases e), fun _ => ⟨w.heap.size, 0, rfl, fun j hj => ?_⟩⟩, sB_byt s⟩ ((Below.refl _ w).drew.alloc (Nat.le_refl _) _) (by simp))
    have hb : (w.drew.alloc (.cells (bytesRow s (grownCap w s.size 0 5)) 5 ((bytesRow s (grownCap w s.size 0 5)).size, (bytesRow s (grownCap w s.size 0 5)).size + 1))).heap[w.heap.size]? = some (.cells (bytesRow s (grownCap w s.size 0 5)) 5 ((bytesRow s (grownCap w s.size 0 5)).size, (bytesRow s (grownCap w s.size 0 5)).size + 1)) := heap_alloc_new w.drew _
    rw [cell_of_row _ _ _ _ _ _ hb]
    have hj2 : j < s.data.size := by rw [sB_length] at hj; exact hj
    have hj3 : j < s.size := hj2
    simp [bytesRow, Array.getElem?_append, hj3, sB, List.getD, Array.getElem?_eq_getElem hj2]
theorem row_len_le {r : Rw} {last : ByteArray} (h : okRow last r) : (rowL r).length ≤ 70000 := by
  obtain ⟨_, h1, h2⟩ := h
  unfold rowL
  rw [List.length_append, fld_len, fld_len, sB_length]
  have := dec_len_small r.1.size (by omega)
  have := dec_len_small r.2.length (by omega)
  omega
theorem pack_len_le : ∀ (rs : List Rw) (last : ByteArray), okRows last rs → (packL rs).length ≤ rs.length * 70000
  | [], _, _ => by simp [packL]
  | r :: t, last, h => by
    rw [packL, List.length_append, List.length_cons]
    have := row_len_le h.1
    have := pack_len_le t r.1 h.2
    omega
def pkL (rs : List Rw) : List Int := if mayT rs then packL rs else []
def pkE (rs : List Rw) : Int := if mayT rs then 0 else 130
theorem okRows_get {rs : List Rw} {k : Nat} (h : k < rs.length) (hm : mayT rs) : okRow (lastN noS (rs.take k)) (rs.getD k rw0) := by
  have := okRows_take hm.2 (k + 1)
  rw [take_snoc h, okRows_snoc] at this
  exact this.2
set_option maxRecDepth 100000 in
set_option maxHeartbeats 4000000 in
theorem pack_any (w : World) (v : Value) (rs : List Rw) (h : HRw w v rs) (hk : KP w) :
    Calls Tryd.prog 21 #[v] w fun e w' => ∃ v', e = .returned (.tuple #[v', .int .i64 (pkE rs)]) ∧ w'.ownsRow w.heap.size 5 1 v' (pkL rs).length ((pkL rs).map (Value.int .u8)) ∧ Below w.heap.size w w' := by
  have C := hid (mayBe_any w v rs h)
  obtain ⟨p, c, rfl, hlc, hcm, hrow⟩ := h.open
  have HR := hid hrow
  have HK := hid hk
  clear hrow h hk
  have hm63 : rs.length ≤ 9223372036854775807 := by unfold maxLen at hcm; omega
  obtain ⟨n, HN⟩ : ∃ n, Hid (rs.length = n) := ⟨_, rfl⟩
  rw [HN.out] at hlc hm63 C
  rw [HN.out]
  by_cases hm : mayT rs
  · have e1 : pkE rs = 0 := by unfold pkE; rw [if_pos hm]
    have e2 : pkL rs = packL rs := by unfold pkL; rw [if_pos hm]
    have HM := hid hm
    rw [decide_eq_true hm] at C
    rw [e1, e2]
    have h64 : n ≤ 64 := by have := hm.1; have := HN.out; omega
    clear e1 e2 hm
    go_enter Tryd.func21, Tryd.ntmps21
    go_wp2_with fail
    refine C.out.mono ?_
    rintro e w1 ⟨rfl, hb1⟩
    have B1 := hid hb1
    clear hb1 C
    go_wp2
    go_loopw [4, 12] (fun o i wr => ∃ k : Nat, k ≤ n ∧ i = .int .i64 (k : Int) ∧ Hid (wr.ownsRow w.heap.size 5 1 o (packL (rs.take k)).length ((packL (rs.take k)).map (Value.int .u8))) ∧ Hid (Below w.heap.size w wr)) (fun _ i _ => n - (intOf i).toNat)
    case atStart => exact ⟨0, Nat.zero_le _, rfl, by simp [packL]; exact World.ownsRow_nil _ _ _ _, B1.out⟩
    case round =>
      obtain ⟨k, hk, rfl, HO, HB0⟩ := hrel
      have hsz := HB0.out.size
      obtain ⟨lo, HL⟩ : ∃ x, Hid (packL (rs.take k) = x) := ⟨_, rfl⟩
      rw [HL.out] at HO
      have hll : lo.length ≤ 5000000 := by
        rw [← HL.out]
        have := pack_len_le _ _ (okRows_take HM.out.2 k)
        have h2 : (rs.take k).length ≤ 64 := by rw [List.length_take]; omega
        omega
      by_cases hlt : k < n
      · obtain ⟨b, off, rfl, hbl, hcell⟩ := HR.out (by have := HN.out; omega)
        obtain ⟨u, hu, hv⟩ := hcell k (by have := HN.out; omega)
        have hok := okRows_get (k := k) (by have := HN.out; omega) HM.out
        obtain ⟨⟨s, l⟩, Hx⟩ : ∃ x, Hid (rs.getD k rw0 = x) := ⟨_, rfl⟩
        rw [Hx.out] at hu hv hok
        have HU := hid (range_below2 hu HB0.out hbl)
        have hs64 : s.size ≤ 64 := hok.2.1
        have hl6 : l.length ≤ 65536 := hok.2.2
        obtain ⟨pu, cu, rfl, hlu, hcu⟩ := hv.open
        have HV0 := hid hv
        have HV := hid (hv.below HB0.out)
        clear hu hv hcell hok
        have HSZ := hid size_row
        have hs47 : s.size ≤ 140737488355328 := by omega
        go_wp2_with (first | (refine wpList_load_mid rfl 49 _ rfl b (off + k * 2) rfl [.string s, .slice pu l.length cu] _ HU.out Tryd.underlying49 rfl HSZ.out ?_) | (refine wpList_bytes_strD rfl _ rfl s rfl hs47 ?_))
        intro c2 w2 hf2 hb2 hz2
        have hA := (Below.refl wr.heap.size wr).alloc (Nat.le_refl _) (.cells #[.string s, .slice pu l.length cu] 49)
        have B2 := hid ((HB0.out.alloc hsz (.cells #[.string s, .slice pu l.length cu] 49)).trans (hb2.mono (by omega)))
        have hzz : (wr.alloc (.cells #[.string s, .slice pu l.length cu] 49)).heap.size = wr.heap.size + 1 := by simp
        rw [← hzz] at hb2
        have HO2 := hid (own_below (own_below HO.out hA) hb2)
        have hs2 : w2.heap.size = wr.heap.size + 2 := by omega
        have hc2 : w2.cell? ⟨wr.heap.size, 1, none⟩ = some (.slice pu l.length cu) := by
          rw [hb2.cell (by simp)]
          simp
        have HL0 : Hid (∀ q, u4.ownBlock = some q → w.heap.size ≤ q ∧ q < wr.heap.size) := hid fun q e => HO.out.lt q e
        have HV2 := hid ((HV.out.below hA).below hb2)
        have C1 := appendField_any w2 w.heap.size u4 _ lo (sB s) HO2.out hf2 (by
          intro b' o' n' c' hv' _ he
          have := HL0.out _ he
          injection hv' with hv'
          injection hv' with hv'
          injection hv' with hv'
          omega) (by rw [sB_length]; omega) (by omega) (by omega) (HK.out.below B2.out)
        have C1 := hid C1
        clear hf2 hb2 hA hz2 hzz
        go_wp2_with fail
        refine C1.out.mono ?_
        rintro e w3 ⟨v3, rfl, hown3, hb3, hg3⟩
        have B3 := hid (B2.out.trans (hb3.mono (Nat.le_refl _)))
        have hc3 : w3.cell? ⟨wr.heap.size, 1, none⟩ = some (.slice pu l.length cu) := hg3.cell hc2 (by
          intro q
          have := HL0.out wr.heap.size q.symm
          omega)
        obtain ⟨l3, H3⟩ : ∃ x : List Int, Hid (lo ++ fld (sB s) = x) := ⟨_, hid rfl⟩
        rw [H3.out] at hown3
        have HO3 := hid hown3
        have hl3 : l3.length ≤ 5000100 := by
          rw [← H3.out, List.length_append, fld_len, sB_length]
          have := dec_len_small s.size (by omega)
          omega
        have hs3 := hb3.size
        have HV3 := hid (HV0.out.below B3.out)
        have C2 := appendField_any w3 w.heap.size v3 (.slice pu l.length cu) l3 l HO3.out HV3.out (by
          intro b' o' n' c' hv' h0 he
          have h1 := HO3.out.lt _ he
          have h2 := HV0.out.lt h0 hv'
          omega) (by omega) (by omega) (by omega) (HK.out.below B3.out)
        have C2 := hid C2
        clear hown3 hb3 hg3 C1 hc2
        go_wp2_with fail
        refine C2.out.mono ?_
        rintro e w4 ⟨v4, rfl, hown4, hb4, hg4⟩
        have B4 := hid (B3.out.trans (hb4.mono (Nat.le_refl _)))
        have HO4 : Hid (w4.ownsRow w.heap.size 5 1 v4 (packL (rs.take (k + 1))).length ((packL (rs.take (k + 1))).map (Value.int .u8))) := by
          refine hid ?_
          have e : packL (rs.take (k + 1)) = l3 ++ fld l := by
            rw [take_snoc (by have := HN.out; omega), packL_snoc, Hx.out, HL.out, ← H3.out]
            unfold rowL
            simp
          rw [e]
          exact hown4
        clear hown4 hb4 hg4 C2 hc3
        go_wp2
        exact ⟨⟨k + 1, by omega, by go_num, HO4, B4⟩, by simp [intOf]; omega⟩
      · have e : rs.take k = rs := List.take_of_length_le (by have := HN.out; omega)
        have HO' : Hid (wr.ownsRow w.heap.size 5 1 u4 (packL rs).length ((packL rs).map (Value.int .u8))) := by
          refine hid ?_
          have := HL.out
          rw [e] at this
          rw [this]
          exact HO.out
        go_wp2
        go_ret2
        exact ⟨_, rfl, HO'.out, HB0.out⟩
  · have e1 : pkE rs = 130 := by unfold pkE; rw [if_neg hm]
    have e2 : pkL rs = [] := by unfold pkL; rw [if_neg hm]
    rw [decide_eq_false hm] at C
    rw [e1, e2]
    clear e1 e2 hm
    go_enter Tryd.func21, Tryd.ntmps21
    go_wp2_with fail
    refine C.out.mono ?_
    rintro e w1 ⟨rfl, hb1⟩
    have B1 := hid hb1
    clear hb1 C
    go_wp2
    go_ret2
    exact ⟨_, rfl, World.ownsRow_nil _ _ _ _, B1.out⟩
structure Ub where
  k : Int
  n : Int
  g : Int
  z : Int
  a : List Int
  b : List Int
def Ub.ok (u : Ub) : Prop := (u.a.length = 32 ∧ Byt8 u.a) ∧ u.b.length = 32 ∧ Byt8 u.b
def ubL (u : Ub) : List Value := .int .i64 u.k :: .int .i64 u.n :: .int .i64 u.g :: .int .i64 u.z :: (u.a.map (Value.int .u8) ++ u.b.map (Value.int .u8))
def ubA (u : Ub) : Array Value := (ubL u).toArray
theorem ubL_length {u : Ub} (h : u.ok) : (ubL u).length = 68 := by simp [ubL, h.1.1, h.2.1]
theorem ubA_size {u : Ub} (h : u.ok) : (ubA u).size = 68 := by rw [ubA, List.size_toArray]; exact ubL_length h
theorem ubA_one (u : Ub) : (ubA u).all (·.oneCell') = true := by
  rw [Array.all_eq_true_iff_forall_mem]
  intro v hv
  have hv' : v ∈ ubL u := by simpa [ubA] using hv
  unfold ubL at hv'
  simp only [List.mem_cons, List.mem_append, List.mem_map] at hv'
  rcases hv' with rfl | rfl | rfl | rfl | ⟨x, _, rfl⟩ | ⟨x, _, rfl⟩ <;> rfl
theorem size_ueb : (Tryd.prog.info? 25).map (·.size) = some 68 := by kernel_rfl
theorem size_ub {u : Ub} (h : u.ok) : (Tryd.prog.info? 25).map (·.size) = some (ubA u).size := by rw [ubA_size h]; exact size_ueb
def zeros32' : List Int := List.replicate 32 0
def ub0 : Ub := ⟨0, 0, 0, 0, zeros32', zeros32'⟩
theorem ub0_ok : ub0.ok := ⟨⟨rfl, fun x hx => by have := (List.mem_replicate.1 hx).2; omega⟩, rfl, fun x hx => by have := (List.mem_replicate.1 hx).2; omega⟩
theorem zero_ueb : (Tryd.prog.info? 25).map (·.zero) = some (some (.agg (ubA ub0))) := by kernel_rfl
def chE (u : Ub) : Int := if OkS u.k u.n u.g u.z then 0 else 133
set_option maxRecDepth 100000 in
set_option maxHeartbeats 4000000 in
theorem ucheck_any (w : World) (u : Ub) (hu : u.ok) : Calls Tryd.prog 10 #[.agg (ubA u)] w fun e w' => e = .returned (.int .i64 (chE u)) ∧ Below w.heap.size w w' := by
  have C := hid fun w => again_hand w u.k u.n u.g u.z
  have HS := hid (size_ub hu)
  have H1 := hid (ubA_one u)
  have q0 : (ubA u)[0]? = some (.int .i64 u.k) := rfl
  have q1 : (ubA u)[1]? = some (.int .i64 u.n) := rfl
  have q2 : (ubA u)[2]? = some (.int .i64 u.g) := rfl
  have q3 : (ubA u)[3]? = some (.int .i64 u.z) := rfl
  obtain ⟨m, HM⟩ : ∃ x, Hid (ubA u = x) := ⟨_, rfl⟩
  obtain ⟨k, Hk⟩ : ∃ x, Hid (u.k = x) := ⟨_, rfl⟩
  obtain ⟨n, Hn⟩ : ∃ x, Hid (u.n = x) := ⟨_, rfl⟩
  obtain ⟨g, Hg⟩ : ∃ x, Hid (u.g = x) := ⟨_, rfl⟩
  obtain ⟨z, Hz⟩ : ∃ x, Hid (u.z = x) := ⟨_, rfl⟩
  rw [Hk.out, Hn.out, Hg.out, Hz.out] at C
  rw [Hk.out] at q0
  rw [Hn.out] at q1
  rw [Hg.out] at q2
  rw [Hz.out] at q3
  rw [HM.out] at HS H1 q0 q1 q2 q3 ⊢
  have E : Hid (chE u = if OkS k n g z then 0 else 133) := by unfold chE; rw [Hk.out, Hn.out, Hg.out, Hz.out]; exact rfl
  rw [E.out]
  by_cases hok : OkS k n g z
  · have e1 : agE k n g z = 0 := by unfold agE; rw [if_pos hok]
    rw [if_pos hok]
    have C : Hid (∀ w, Calls Tryd.prog 24 #[.int .i64 k, .int .i64 n, .int .i64 g, .int .i64 z] w fun e w' => ∃ cs, e = .returned (.tuple #[.agg cs, .int .i64 0]) ∧ cs.size = 8 ∧ cs.all (·.oneCell') = true ∧ Below w.heap.size w w') := by
      rw [← e1]
      exact C.out
    clear e1 hok
    go_enter Tryd.func10, Tryd.ntmps10
    go_wp2_with fail
    refine (C.out _).mono ?_
    rintro e w1 ⟨cs, rfl, hcs, hone, hb1⟩
    have B1 := hid ((((Below.refl _ w).alloc (Nat.le_refl _) _)).trans (hb1.mono (by simp)))
    have hsz := B1.out.size
    have HC1 : Hid ((Tryd.prog.info? 51).map (·.size) = some cs.size) := by refine hid ?_; rw [hcs]; exact size_shape
    have HC2 : Hid ((shA sh0).size = cs.size) := by refine hid ?_; rw [hcs]; exact rfl
    have HC3 := hid hone
    clear hb1 hcs hone
    go_wp2_with (refine wpList_store_row rfl 51 _ _ rfl w1.heap.size cs rfl rfl 51 (shA sh0) (heap_alloc_new w1 _) HC1.out HC2.out HC3.out ?_)
    go_ret
    exact ⟨rfl, bel_setRow (B1.out.alloc hsz _) (by omega) _⟩
  · have e1 : agE k n g z = 92 := by unfold agE; rw [if_neg hok]
    rw [if_neg hok]
    have C : Hid (∀ w, Calls Tryd.prog 24 #[.int .i64 k, .int .i64 n, .int .i64 g, .int .i64 z] w fun e w' => ∃ cs, e = .returned (.tuple #[.agg cs, .int .i64 92]) ∧ cs.size = 8 ∧ cs.all (·.oneCell') = true ∧ Below w.heap.size w w') := by
      rw [← e1]
      exact C.out
    clear e1 hok
    go_enter Tryd.func10, Tryd.ntmps10
    go_wp2_with fail
    refine (C.out _).mono ?_
    rintro e w1 ⟨cs, rfl, hcs, hone, hb1⟩
    have B1 := hid ((((Below.refl _ w).alloc (Nat.le_refl _) _)).trans (hb1.mono (by simp)))
    have hsz := B1.out.size
    have HC1 : Hid ((Tryd.prog.info? 51).map (·.size) = some cs.size) := by refine hid ?_; rw [hcs]; exact size_shape
    have HC2 : Hid ((shA sh0).size = cs.size) := by refine hid ?_; rw [hcs]; exact rfl
    have HC3 := hid hone
    clear hb1 hcs hone
    go_wp2_with (refine wpList_store_row rfl 51 _ _ rfl w1.heap.size cs rfl rfl 51 (shA sh0) (heap_alloc_new w1 _) HC1.out HC2.out HC3.out ?_)
    go_ret
    exact ⟨rfl, bel_setRow (B1.out.alloc hsz _) (by omega) _⟩
theorem sB_nS (n : Nat) : sB (nS (n : Int)) = dgL n := by unfold nS sB dgL; rw [if_neg (by omega)]; simp
theorem ch_ok {u : Ub} (h : chE u = 0) : OkS u.k u.n u.g u.z := by
  unfold chE at h
  by_cases q : OkS u.k u.n u.g u.z
  · exact q
  · rw [if_neg q] at h; omega
theorem ch_or (u : Ub) : chE u = 0 ∨ chE u = 133 := by unfold chE; by_cases q : OkS u.k u.n u.g u.z <;> simp [q]
set_option maxRecDepth 100000 in
set_option maxHeartbeats 4000000 in
theorem udigits_any (w : World) (x : Int) (h0 : 0 ≤ x) (h1 : x ≤ 2147483647) (hk : KP w) : Calls Tryd.prog 22 #[.int .i64 x] w fun e w' => ∃ v, e = .returned v ∧ HB w' v (dgL x.toNat) ∧ Below w.heap.size w w' := by
  have C := number_tab w x (by omega) (by omega) hk
  have e2 : nE x = 0 := by unfold nE; rw [if_neg (by omega)]
  have e3 : nS x = nS ((x.toNat : Nat) : Int) := by rw [Int.toNat_of_nonneg h0]
  have hsz := nS_size x.toNat
  have hsB : sB (nS ((x.toNat : Nat) : Int)) = dgL x.toNat := sB_nS _
  have hd : (dgL x.toNat).length ≤ 10 := by
    rw [dgL_length]
    have := dec_len_mono 2147483647 x.toNat (by omega)
    have h2 : (Lib.decDigits 2147483647).length = 10 := by decide +kernel
    omega
  rw [e2, e3] at C
  obtain ⟨D, HD⟩ : ∃ D, Hid (nS ((x.toNat : Nat) : Int) = D) := ⟨_, rfl⟩
  rw [HD.out] at C hsB hsz
  have hs47 : D.size ≤ 140737488355328 := by omega
  have C := hid C
  have HSB := hid hsB
  clear hsB hsz hd e2 e3
  go_enter Tryd.func22, Tryd.ntmps22
  go_wp2_with fail
  refine C.out.mono ?_
  rintro e w1 ⟨rfl, hb1⟩
  have B1 := hid hb1
  clear hb1 C
  go_wp2_with (refine wpList_bytes_strD rfl _ rfl D rfl hs47 ?_)
  intro c2 w2 hf2 hb2 hz2
  rw [HSB.out] at hf2
  have HF := hid hf2
  have B2 := hid (B1.out.trans (hb2.mono B1.out.size))
  clear hf2 hb2 hz2
  go_wp2
  go_ret
  exact ⟨_, rfl, HF.out, B2.out⟩
end Go.Proofs.YtklklldmhoofnaaDoor
