/- Of the road to cutSegments_holds: ListKit, ApartF, AptL0, PxKit, CsI, RegN, CsM. -/
import Derived.Test.YtjfebbhnjcnepaaG06
import Derived.Deep.RegionHeld3
import Derived.Laws.AppendOwn
import Derived.Deep.RegionHeld
import Derived.Test.YtjfebbhnjcnepaaG05
import Derived.Test.YtjfebbhnjcnepaaG02
set_option linter.unusedVariables false
set_option linter.unusedSimpArgs false
namespace Go.Proofs.Ytjfebbhnjcnepaa
open Go.RowKit
theorem Apt.away {B : Nat} {w w' : World} {us : List Value} {ls : List (List Int)} {row : Option Nat} (h : Apt B w us ls) (hg : w.grownBy w' row) (hr : ∀ k, row = Option.some k → ∃ e, BT w k e ∧ e ≠ 5) : Apt B w' us ls := by
  refine ⟨h.1, fun k hk => (h.2.1 k hk).kept hg ?_, h.2.2⟩
  cases hrow : row with
  | none => cases (us.getD k undef).ownBlock <;> simp
  | some q =>
    obtain ⟨e, ⟨cur, fz, hh⟩, hne⟩ := hr q hrow
    exact .inr (own_block_ne (h.2.1 k hk) hh (Ne.symm hne))
theorem own_slice {w : World} {B n : Nat} {e : TypeId} {v : Value} {xs : List Value} (h : w.ownsRow B e 1 v n xs) : ∃ p c, v = .slice p n c := by
  rcases h.2 with ⟨rfl, rfl⟩ | ⟨g, cap, cur, rfl, _⟩
  · exact ⟨_, _, rfl⟩
  · exact ⟨_, _, rfl⟩
theorem Dr.grownBy {w w' : World} (h : Dr w w') : w.grownBy w' none := by
  have b := h.below w.heap.size
  exact ⟨b.os, b.tape, b.output, b.size, fun k hk _ => b.block k hk⟩
theorem one_cell {w : World} {g : Nat} {a : Value} {T : TypeId} (h : w.heap[g]? = some (.cells #[a] T (0, 0))) : w.cell? ⟨g, 0, none⟩ = some a ∧ w.frozen? ⟨g, 0, none⟩ = false := by
  simp [World.cell?, World.frozen?, h]
theorem third_cell {w : World} {g : Nat} {a b c : Value} {T : TypeId} (h : w.heap[g]? = some (.cells #[a, b, c] T (0, 0))) : w.cell? ⟨g, 2, none⟩ = some c := by
  simp [World.cell?, h]
theorem Apt.snoc {B : Nat} {w : World} {us : List Value} {ls : List (List Int)} (h : Apt B w us ls) {u : Value} {l : List Int} (hu : w.ownsRow B 5 1 u l.length (l.map (Value.int .u8))) (hd : ∀ j, j < us.length → u.ownBlock = none ∨ u.ownBlock ≠ (us.getD j undef).ownBlock) : Apt B w (us ++ [u]) (ls ++ [l]) := by
  obtain ⟨h1, h2, h3⟩ := h
  have gd : ∀ j, j < us.length + 1 → (us ++ [u]).getD j undef = if j < us.length then us.getD j undef else u := by
    intro j hj
    rw [getD_app]
    split
    · rfl
    · have : j - us.length = 0 := by omega
      rw [this]; rfl
  refine ⟨by simp [h1], fun k hk => ?_, fun i j hi hj hij => ?_⟩
  · rw [List.length_append, List.length_singleton] at hk
    rw [gd k hk, getD_app]
    by_cases hk2 : k < us.length
    · rw [if_pos hk2, if_pos (by omega)]
      exact h2 k hk2
    · have e : k - ls.length = 0 := by omega
      rw [if_neg hk2, if_neg (by omega), e]
      exact hu
  · rw [List.length_append, List.length_singleton] at hi hj
    rw [gd i hi, gd j hj]
    by_cases hi2 : i < us.length
    · by_cases hj2 : j < us.length
      · rw [if_pos hi2, if_pos hj2]; exact h3 i j hi2 hj2 hij
      · rw [if_pos hi2, if_neg hj2]
        rcases hd i hi2 with h | h
        · rw [h]
          cases (us.getD i undef).ownBlock <;> simp
        · exact .inr (Ne.symm h)
    · have hj2 : j < us.length := by omega
      rw [if_neg hi2, if_pos hj2]
      exact hd j hj2
theorem run_append_slice (w : World) (base : Nat) (ty : TypeId) (v : Value) (n : Nat) (xs : List Value) (hown : w.ownsRow base 24 1 v n xs) (a : Addr) (c : Nat) (x : Value) (hx : w.cell? a = some x) (hx1 : x.oneCell' = true) (hn : (n + 1) * 24 ≤ 140737488355328) (hbase : base ≤ w.heap.size) :
    ∃ v' w', (Builtin.append_ #[32, 32] ty #[v, .slice (some a) 1 c]).run Try.prog w = .ok v' w' ∧ w'.ownsRow base 24 1 v' (n + 1) (xs ++ [x]) ∧ w.grownBy w' v.ownBlock ∧
      (v'.ownBlock = v.ownBlock ∨ v'.ownBlock = some w.heap.size) := by
  obtain ⟨i0, hi, hz0, hz1, hz2⟩ := info_parts info_bytes
  have hnews : ∀ j u, [x][j]? = some u → w.cell? (a.add j) = some u := by
    intro j u hj
    match j, hj with
    | 0, hj => simp at hj; subst hj; simpa [Addr.add] using hx
  have h1 : ∀ u ∈ [x], u.oneCell' = true := by intro u hu; simp at hu; subst hu; exact hx1
  obtain ⟨v', w', hr, h2, h3, _⟩ := run_append_own (P := Try.prog) w base 32 ty 24 i0 (.slice none 0 0) 1 24 Try.underlying32 hi hz0 hz1 hz2 rfl (by decide) v n xs hown a 1 c [x] rfl hnews h1 (by unfold maxLen; omega) hn hbase
  refine ⟨v', w', hr, h2, h3, ?_⟩
  rcases hown.2 with ⟨rfl, rfl⟩ | ⟨g, cap, cur, rfl, hbg, hg, hnc, hcm, hcs, htake⟩
  · have hr2 := run_append_nil (P := Try.prog) w 32 ty 24 i0 (.slice none 0 0) Try.underlying32 hi hz0 a 1 c [x] (by rw [hz1]; rfl) hnews (by omega) (by omega) (by rw [hz2]; omega)
    rw [hr] at hr2
    simp only [Result.ok.injEq] at hr2
    obtain ⟨rfl, rfl⟩ := hr2
    exact .inr rfl
  · by_cases hroom : n + 1 ≤ cap
    · obtain ⟨w2, hr2, _⟩ := run_append_fits (P := Try.prog) w base 32 ty 24 i0 1 Try.underlying32 hi hz1 g n cap xs hown a 1 c [x] rfl hnews h1 hroom
      rw [hr] at hr2
      simp only [Result.ok.injEq] at hr2
      obtain ⟨rfl, rfl⟩ := hr2
      exact .inl rfl
    · have hr2 := run_append_grow (P := Try.prog) w 32 ty 24 i0 (.slice none 0 0) Try.underlying32 hi hz0 ⟨g, 0, none⟩ n cap xs (by rw [hz1]; exact hown.1) (hown.cells (g := g) rfl) a 1 c [x] (by rw [hz1]; rfl) hnews (by omega) (by omega) (growslice_fits (by omega) (by rw [hz2]; exact hn))
      rw [hr] at hr2
      simp only [Result.ok.injEq] at hr2
      obtain ⟨rfl, rfl⟩ := hr2
      exact .inr rfl
theorem wpList_append_slice {w : World} {ops : Array Oper} {rest : List Oper} {o : Oper} {a : Act} {Q : Exit → Act → World → Prop} (hgd : o.guard = none) (s x : Operand)
    (ho : o.op = .call { callee := .builtin .append, args := #[s, x], argTypes := #[32, 32] })
    (base : Nat) (v : Value) (n : Nat) (xs : List Value) (hs : a.eval s = v) (hown : w.ownsRow base 24 1 v n xs)
    (ad : Addr) (c : Nat) (y : Value) (hx : a.eval x = .slice (some ad) 1 c) (hy : w.cell? ad = some y) (hy1 : y.oneCell' = true) (hn : (n + 1) * 24 ≤ 140737488355328) (hbase : base ≤ w.heap.size)
    (h : ∀ v' w', w'.ownsRow base 24 1 v' (n + 1) (xs ++ [y]) → w.grownBy w' v.ownBlock → (v'.ownBlock = v.ownBlock ∨ v'.ownBlock = some w.heap.size) → wpList Try.prog ops Q rest (a.put o.dst v') w') : wpList Try.prog ops Q (o :: rest) a w := by
  refine wpList_plain hgd fun K hK => ?_
  obtain ⟨v', w', hr, h2, h3, h4⟩ := run_append_slice w base o.type v n xs hown ad c y hy hy1 hn hbase
  unfold Oper.wp execOp
  simp only [ho, resolve, invoke, builtin, Sem.run_bind, Sem.run_pure, Result.andThen_ok, List.map_toArray, List.map_cons, List.map_nil, hs, hx, hr]
  exact hK _ _ (h v' w' h2 h3 h4)
theorem lent_pre {w : World} {p : Option Addr} {c : Nat} {l : List Int} (h : HB w (.slice p (l.length + 70) c) (lent l)) (hc : l.length ≤ c) : HB w (.slice p l.length c) l := by
  have hll := lent_length l
  have h2 : HB w (.slice p (lent l).length c) (lent l) := by rw [hll]; exact h
  have h3 := h2.sliced 0 l.length c (Nat.zero_le _) (by rw [hll]; omega) hc (Nat.le_refl _)
  rw [lent_take] at h3
  have e : (if c = 0 then p else p.map (·.add 0)) = p := by
    split
    · rfl
    · cases p <;> simp [Addr.add]
  rw [e] at h3
  simpa using h3
structure Fr (S : Nat → Prop) (w w' : World) : Prop where
  os : w'.os = w.os
  tape : w'.tape = w.tape
  output : w'.output = w.output
  size : w.heap.size ≤ w'.heap.size
  block : ∀ k, k < w.heap.size → ¬ S k → w'.heap[k]? = w.heap[k]?
theorem Fr.refl (S : Nat → Prop) (w : World) : Fr S w w := ⟨rfl, rfl, rfl, Nat.le_refl _, fun _ _ _ => rfl⟩
theorem Fr.step {S : Nat → Prop} {w w1 w2 : World} {row : Option Nat} (h : Fr S w w1) (hg : w1.grownBy w2 row) (hr : ∀ k, row = some k → S k ∨ w.heap.size ≤ k) : Fr S w w2 :=
  ⟨hg.os.trans h.os, hg.tape.trans h.tape, hg.output.trans h.output, Nat.le_trans h.size hg.size, fun k hk hs => (hg.block k (Nat.lt_of_lt_of_le hk h.size) (fun e => by
    rcases hr k e.symm with h1 | h1
    · exact hs h1
    · omega)).trans (h.block k hk hs)⟩
structure BF (B : Nat) (w w' : World) : Prop where
  bel : Below B w w'
  typ : ∀ (b : Nat) (cs : Array Value) (T : TypeId) (fz : Nat × Nat), w.heap[b]? = some (.cells cs T fz) → T ≠ 5 → w'.heap[b]? = w.heap[b]?
theorem BF.refl (B : Nat) (w : World) : BF B w w := ⟨Below.refl _ _, fun _ _ _ _ _ _ => rfl⟩
theorem BF.size {B : Nat} {w w' : World} (h : BF B w w') : w.heap.size ≤ w'.heap.size := h.bel.size
theorem BF.drew {B : Nat} {w w' : World} (h : BF B w w') : BF B w w'.drew := ⟨h.bel.drew, h.typ⟩
theorem BF.alloc {B : Nat} {w w' : World} (h : BF B w w') (hB : B ≤ w'.heap.size) (o : Obj) : BF B w (w'.alloc o) :=
  ⟨h.bel.alloc hB o, fun b cs T fz q n => (heap_alloc_old w' o (Nat.lt_of_lt_of_le (Array.getElem?_eq_some_iff.1 q).1 h.size)).trans (h.typ b cs T fz q n)⟩
theorem BF.setCell {B : Nat} {w w' : World} (h : BF B w w') {g i : Nat} (hp : B ≤ g) (u : Value) (hT : BT w' g 5) : BF B w (w'.setCell ⟨g, i, none⟩ u) :=
  ⟨h.bel.setCell hp u, fun b cs T fz q n => by
    have e := h.typ b cs T fz q n
    rw [← e]
    obtain ⟨cur, f2, hh⟩ := hT
    have : g ≠ b := fun x => by
      rw [← x] at q e
      rw [e, q] at hh
      simp only [Option.some.injEq, Obj.cells.injEq] at hh
      exact n hh.2.1
    simp [World.setCell, Array.getElem?_modify, this]⟩
theorem BF.grown {B : Nat} {w w' w2 : World} {row : Option Nat} (h : BF B w w') (hg : w'.grownBy w2 row) (hB : B ≤ w'.heap.size) (hr : ∀ k, row = some k → B ≤ k) (hT : ∀ k, row = some k → BT w' k 5 ∨ w.heap.size ≤ k) : BF B w w2 :=
  ⟨h.bel.grown hg hB hr, fun b cs T fz q n => by
    have e := h.typ b cs T fz q n
    have hb := (Array.getElem?_eq_some_iff.1 q).1
    rw [← e]
    refine hg.block b (Nat.lt_of_lt_of_le hb h.size) (fun x => ?_)
    rcases hT b x.symm with ⟨cur, f2, hh⟩ | h2
    · rw [e, q] at hh
      simp only [Option.some.injEq, Obj.cells.injEq] at hh
      exact n hh.2.1
    · omega⟩
set_option maxHeartbeats 4000000 in
theorem apart_anyF (B : Nat) (w : World) (v : Value) (us : List Value) (ls : List (List Int)) (hv : HV w v us) (ha : Apt B w us ls) (hB : B ≤ w.heap.size) (hn : us.length ≤ 5864062014634) (hls : ∀ k, (ls.getD k []).length ≤ 140737488351232) :
    Calls Try.prog 9 #[v] w fun e w' => e = .returned (.bool true) ∧ BF B w w' := by
  obtain ⟨p, c, e, hlc, hm, hcell⟩ := id hv
  unfold maxLen at hm
  subst e
  have A : Hid (0 < us.length → ∃ b off, p = some ⟨b, off, none⟩) := fun h0 => by
    obtain ⟨b, off, e, _⟩ := hcell (by intro e; subst e; simp at h0)
    exact ⟨b, off, e⟩
  have HV0 := hid hv
  have HA0 := hid (Ph1.start ha)
  have HLS := hid hls
  clear hcell hv ha hls
  go_enter Try.func9, Try.ntmps9
  go_wp2
  go_loopw [3] (fun k wr => ∃ K : Nat, K ≤ us.length ∧ k = .int .i64 K ∧ Hid (Ph1 B wr us ls K 0) ∧ Hid (HV wr (.slice p us.length c) us) ∧ Hid (BF B w wr)) (fun k _ => us.length - (intOf k).toNat)
  case atStart => exact ⟨0, Nat.zero_le _, rfl, HA0, HV0, BF.refl _ _⟩
  case round =>
    clear HA0 HV0
    obtain ⟨K, hK, rfl, HP, HVr, HBr⟩ := hrel
    by_cases hlt : K < us.length
    · obtain ⟨b, off, rfl⟩ := A.out (by omega)
      have hcells : Hid (∀ wz, HV wz (.slice (some ⟨b, off, none⟩) us.length c) us → wz.cell? ⟨b, off + K, none⟩ = some (us.getD K undef)) := by
        intro wz hz
        obtain ⟨p', c', e', _, _, h4⟩ := hz
        obtain ⟨b', off', e2, _, hc⟩ := h4 (by intro e; subst e; simp at hlt)
        simp only [Value.slice.injEq, true_and] at e'
        rw [← e'.1] at e2
        simp only [Option.some.injEq, Addr.mk.injEq, and_true] at e2
        obtain ⟨rfl, rfl⟩ := e2
        exact hc K hlt
      obtain ⟨n, HN⟩ : ∃ n, Hid ((ls.getD K []).length = n) := ⟨_, rfl⟩
      have hn2 : n ≤ 140737488351232 := by rw [← HN.out]; exact HLS.out K
      obtain ⟨pk, ck, HU⟩ : ∃ pk ck, Hid (us.getD K undef = .slice pk n ck) := by
        obtain ⟨pk, ck, e⟩ := HP.out.slice K hlt
        rw [HN.out] at e
        exact ⟨pk, ck, e⟩
      go_wp2
      go_loopw [4] (fun i wz => ∃ I : Nat, I ≤ n ∧ i = .int .i64 I ∧ Hid (Ph1 B wz us ls K I) ∧ Hid (HV wz (.slice (some ⟨b, off, none⟩) us.length c) us) ∧ Hid (BF B w wz)) (fun i _ => n - (intOf i).toNat)
      case atStart => exact ⟨0, Nat.zero_le _, rfl, HP, HVr, HBr⟩
      case round =>
        clear HP HVr HBr
        obtain ⟨I, hI, rfl, HP, HVr, HBr⟩ := hrel
        have hc1 := hcells.out wr HVr.out
        rw [HU.out] at hc1
        by_cases hli : I < n
        · obtain ⟨g, ck', e, hck, hck2, hgB, hBT, hcc⟩ := HP.out.some K hlt (by rw [HN.out]; omega)
          rw [HU.out, HN.out] at e
          simp only [Value.slice.injEq, true_and] at e
          obtain ⟨rfl, rfl⟩ := e
          obtain ⟨⟨z, hz⟩, hfz⟩ := hcc I (by rw [HN.out]; exact hli)
          rw [HN.out] at hck2
          unfold maxLen at hck
          have HBT := hid hBT
          have hgb : b ≠ g := (HVr.out.block (by omega)).ne hBT (by decide)
          have hbg : g ≠ b := Ne.symm hgb
          clear hcc hBT
          go_wp2
          go_region_held3 (fun w' => w'.cell? ⟨b, off + K, none⟩ = some (.slice (some ⟨g, 0, none⟩) n ck)) (go_keep) ((go_at_call 11; refine (mark_eq _ (K + 1) I _ _ (wrap_succ K (by omega)) rfl (by omega) (by omega)).mono ?_; rintro e wz ⟨rfl, hw⟩; have hw' := hw.symm; subst hw'; clear hw))
          have hst := HP.out.step hlt (by rw [HN.out]; exact hli) HU.out
          have HP2 := hid hst.1.drew
          have HV2 := hid (HVr.out.grown hst.2 (fun g' e => by cases e; exact HBT.out)).drew
          have HB2 := hid (HBr.out.setCell (g := g) (i := I) hgB (.int .u8 (mkB (K + 1) I)) HBT.out).drew
          clear hst
          go_wp2
          exact ⟨⟨I + 1, by omega, by go_num, HP2, HV2, HB2⟩, by simp [intOf]; omega⟩
        · have HP2 := hid (HP.out.next (by rw [HN.out]; omega))
          go_wp2
          exact ⟨⟨K + 1, by omega, by go_num, HP2, HVr, HBr⟩, by simp [intOf]; omega⟩
    · have hKn : K = us.length := by omega
      have HPl : Hid (Pool B wr us ls 0 0 []) := by
        have := HP.out
        rw [hKn] at this
        exact this.pool
      obtain ⟨N, HN⟩ : ∃ N, Hid (wr.heap.size = N) := ⟨_, rfl⟩
      have HNu : Hid (∀ j b, j < us.length → (us.getD j undef).ownBlock = some b → b < N) := fun j b hj hb => by rw [← HN.out]; exact (HPl.out.2.1.2.1 j b hj hb).1
      have HNv : Hid (∀ b off n c', Value.slice p us.length c = .slice (some ⟨b, off, none⟩) n c' → 0 < us.length → b < N) := fun b off n c' e h0 => by
        rw [← HN.out]
        have h1 := HVr.out
        rw [e] at h1
        obtain ⟨cur, fz, hh⟩ := h1.block h0
        exact (Array.getElem?_eq_some_iff.1 hh).1
      have HNW : Hid (w.heap.size ≤ N) := by rw [← HN.out]; exact HBr.out.size
      have HNB : Hid (B ≤ N) := by rw [← HN.out]; exact Nat.le_trans hB HBr.out.size
      have HNs : Hid (N ≤ wr.heap.size) := by rw [HN.out]; exact Nat.le_refl N
      clear HP hKn HN
      go_wp2
      go_loopw [5, 6] (fun gs k wz => ∃ (K : Nat) (gl : List Value), K ≤ us.length ∧ k = .int .i64 K ∧ Hid (Pool B wz us ls K K gl) ∧ Hid (wz.ownsRow N 24 1 gs K gl) ∧ Hid (HV wz (.slice p us.length c) us) ∧ Hid (BF B w wz) ∧ Hid (N ≤ wz.heap.size)) (fun _ k _ => us.length - (intOf k).toNat)
      case atStart => exact ⟨0, [], Nat.zero_le _, rfl, HPl, World.ownsRow_nil _ _ _ _, HVr, HBr, HNs⟩
      case round =>
        clear HPl HVr HBr HNs hlt hK
        obtain ⟨K, gl, hK, rfl, HP, HG, HVr, HBr, HNs⟩ := hrel
        by_cases hlt : K < us.length
        · obtain ⟨b, off, rfl⟩ := A.out (by omega)
          obtain ⟨n, HNn⟩ : ∃ n, Hid ((ls.getD K []).length = n) := ⟨_, rfl⟩
          have hn2 : n ≤ 140737488351232 := by rw [← HNn.out]; exact HLS.out K
          obtain ⟨pk, ck, HU⟩ : ∃ pk ck, Hid (us.getD K undef = .slice pk n ck) := by
            obtain ⟨pk, ck, e⟩ := HP.out.2.1.2.2 K hlt
            rw [HNn.out] at e
            exact ⟨pk, ck, e⟩
          have hc1 := HVr.out.cellAt K hlt
          rw [HU.out] at hc1
          have HC := hid (Cur.start HP.out hlt)
          rw [HU.out] at HC
          go_wp2
          go_loopw [7, 8] (fun g i wz => ∃ m : Nat, m ≤ 70 ∧ i = .int .i64 m ∧ Hid (Cur B wz us ls K gl g m) ∧ Hid (wz.ownsRow N 24 1 u5 K gl) ∧ Hid (HV wz (.slice (some ⟨b, off, none⟩) us.length c) us) ∧ Hid (BF B w wz) ∧ Hid (N ≤ wz.heap.size)) (fun _ i _ => 70 - (intOf i).toNat)
          case atStart => exact ⟨0, Nat.zero_le _, rfl, HC, HG, HVr, HBr, HNs⟩
          case round =>
            clear HC HG HVr HBr HNs hc1
            obtain ⟨m, hm70, rfl, HC, HG, HVr, HBr, HNs⟩ := hrel
            have hc1 := HVr.out.cellAt K hlt
            rw [HU.out] at hc1
            by_cases hlm : m < 70
            · have hlm2 : (m : Int) < 70 := by omega
              go_wp2_with fail
              refine (mark_eq wr (K + 1) (n + m) _ _ (by omega) (by omega) (by omega) (by omega)).mono ?_
              rintro e wz ⟨rfl, hw⟩
              have hw' := hw.symm
              subst hw'
              clear hw
              have HCa := hid (HC.out.alloc hlt (.cells #[.int .u8 (mkB (K + 1) (n + m))] 5))
              have HO := HCa.out.2.1
              rw [HNn.out] at HO
              have HOh := hid HO
              clear HO
              go_wp2_with (at_builtin; refine wpList_append_byte rfl _ _ rfl B _ (n + m) _ rfl HOh.out ⟨wr.heap.size, 0, none⟩ 1 (mkB (K + 1) (n + m)) rfl (by simp) ?q1 ?q2 ?_)
              case q1 => omega
              case q2 => have := HBr.out.size; simp; omega
              intro g' w2 hown2 hgr2 hd2
              have hBT := own_BT HOh.out
              have hal := World.grownBy_alloc wr (.cells #[.int .u8 (mkB (K + 1) (n + m))] 5) none
              have HC2 := hid (HCa.out.step hlt (by rw [HNn.out]; exact hown2) hgr2 (by rw [World.size_alloc]; exact hd2))
              have HG2 : Hid (w2.ownsRow N 24 1 u5 K gl) := by
                have h1 := HG.out.alloc (.cells #[.int .u8 (mkB (K + 1) (n + m))] 5)
                refine h1.kept hgr2 ?_
                cases hx : u7.ownBlock with
                | none => cases hy : u5.ownBlock <;> simp
                | some q =>
                  obtain ⟨cur, fz, hh⟩ := hBT q hx
                  exact .inr (own_block_ne h1 hh (by decide))
              have HV2 := hid ((HVr.out.grown hal (fun g e => by cases e)).grown hgr2 hBT)
              have HB2 := hid ((HBr.out.alloc (Nat.le_trans hB HBr.out.size) (.cells #[.int .u8 (mkB (K + 1) (n + m))] 5)).grown hgr2 (by have := HBr.out.size; simp; omega) (fun k e => (HOh.out.lt k e).1) (fun k e => .inl (hBT k e)))
              have HN2 : Hid (N ≤ w2.heap.size) := by have h1 := hgr2.size; have h2 := HNs.out; simp at h1; exact Nat.le_trans h2 (by omega)
              clear hown2 hgr2 hd2 hBT hal
              go_wp2
              exact ⟨⟨m + 1, by omega, by go_num, HC2, HG2, HV2, HB2, HN2⟩, by simp [intOf]; omega⟩
            · have e70 : m = 70 := by omega
              subst e70
              have HPn := hid (HC.out.finish hlt)
              have HOg := HC.out.2.1
              rw [HNn.out] at HOg
              obtain ⟨pg, cg, eg, _, _⟩ : ∃ pg cg, u7 = .slice pg (n + 70) cg ∧ True ∧ True := by
                rcases HOg.2 with ⟨_, e⟩ | ⟨g', cap, cur, e, _⟩
                · omega
                · exact ⟨_, _, e, trivial, trivial⟩
              subst eg
              obtain ⟨i0, hi, hz0, hz1, hz2⟩ := info_parts info_bytes
              have HGa := hid (HG.out.alloc (.cells #[.slice pg (n + 70) cg] 24))
              have hal := World.grownBy_alloc wr (.cells #[.slice pg (n + 70) cg] 24) none
              have tr : ∀ x : Option Nat, x = none ∨ x ≠ none := fun x => by cases x <;> simp
              have HPa := hid (HPn.out.grown hal (fun i _ => tr _) (fun j _ _ => tr _) (by omega))
              have HVa := hid (HVr.out.grown hal (fun g e => by cases e))
              have HBa := hid (HBr.out.alloc (Nat.le_trans hB HBr.out.size) (.cells #[.slice pg (n + 70) cg] 24))
              clear HOg tr hal
              go_wp2_with (at_builtin; refine wpList_append_own _ rfl _ _ 32 rfl N 24 i0 (.slice none 0 0) 1 24 Try.underlying32 hi hz0 hz1 hz2 rfl (by decide) _ K gl rfl HGa.out ⟨wr.heap.size, 0, none⟩ 1 1 [_] rfl rfl (cell_one_new _ _ _) ?q1 ?q2 ?q3 ?q4 ?_)
              case q1 => intro u hu; simp only [List.mem_singleton] at hu; subst hu; rfl
              case q2 => unfold maxLen; omega
              case q3 => omega
              case q4 => have := HNs.out; simp; omega
              intro gs' w2 hown2 hgr2 _
              have hlo : ∀ g, u5.ownBlock = some g → N ≤ g := fun g e => (HGa.out.lt g e).1
              have HP2 : Hid (Pool B w2 us ls (K + 1) (K + 1) (gl ++ [.slice pg (n + 70) cg])) := by
                refine HPa.out.grown hgr2 (fun i hi => ?_) (fun j hj _ => ?_) (by omega)
                · cases hx : u5.ownBlock with
                  | none => cases hy : ((gl ++ [Value.slice pg (n + 70) cg]).getD i undef).ownBlock <;> simp
                  | some q =>
                    obtain ⟨cur, fz, hh⟩ := own_BT HGa.out q hx
                    exact .inr (own_block_ne (HPa.out.2.2.1 i hi).1 hh (by decide))
                · cases hx : (us.getD j undef).ownBlock with
                  | none => exact .inl rfl
                  | some q =>
                    right
                    intro e
                    have h1 := HNu.out j q hj hx
                    have h2 := hlo q e.symm
                    omega
              have HV2 := hid (HVa.out.apart hgr2 hlo HNv.out)
              have HB2 := hid (HBa.out.grown hgr2 (by have := HBr.out.size; simp; omega) (fun k e => Nat.le_trans HNB.out (hlo k e)) (fun k e => .inr (Nat.le_trans HNW.out (hlo k e))))
              have HG2 : Hid (w2.ownsRow N 24 1 gs' (K + 1) (gl ++ [.slice pg (n + 70) cg])) := hown2
              have HN2 : Hid (N ≤ w2.heap.size) := by have h1 := hgr2.size; have h2 := HNs.out; simp at h1; exact Nat.le_trans h2 (by omega)
              clear hown2 hgr2 hlo
              go_wp2
              exact ⟨⟨K + 1, _, by omega, by go_num, HP2, HG2, HV2, HB2, HN2⟩, by simp [intOf]; omega⟩
        · have hKn : K = us.length := by omega
          subst hKn
          obtain ⟨pg, cg, eg⟩ : ∃ pg cg, u5 = .slice pg us.length cg := by
            rcases HG.out.2 with ⟨e, e2⟩ | ⟨g', cap, cur, e, _⟩
            · exact ⟨none, 0, by rw [e, e2]⟩
            · exact ⟨_, _, e⟩
          subst eg
          go_wp2
          go_loop [9] (fun k => ∃ Q : Nat, Q ≤ us.length ∧ k = .int .i64 Q) (fun k => us.length - (intOf k).toNat)
          case atStart => exact ⟨0, Nat.zero_le _, rfl⟩
          case round =>
            obtain ⟨Q, hQ, rfl⟩ := hrel
            by_cases hlq : Q < us.length
            · obtain ⟨b, off, rfl⟩ := A.out (by omega)
              obtain ⟨n, HNn⟩ : ∃ n, Hid ((ls.getD Q []).length = n) := ⟨_, rfl⟩
              have hn2 : n ≤ 140737488351232 := by rw [← HNn.out]; exact HLS.out Q
              have hc1 := HVr.out.cellAt Q hlq
              obtain ⟨hrow, hu⟩ := HP.out.2.2.1 Q hlq
              rw [HNn.out] at hrow hu
              obtain ⟨pk, ck, HU⟩ : ∃ pk ck, Hid (us.getD Q undef = .slice pk n ck) := by
                obtain ⟨pk, ck, e⟩ := HP.out.2.1.2.2 Q hlq
                rw [HNn.out] at e
                exact ⟨pk, ck, e⟩
              rw [HU.out] at hc1 hu
              obtain ⟨gg, capg, eg, _, hcg1, hcg2, hgc⟩ := ownsRow_cells HG.out (by omega)
              simp only [Value.slice.injEq, true_and] at eg
              obtain ⟨rfl, rfl⟩ := eg
              have hgl : gl.length = us.length := HP.out.1
              have hc2 := hgc Q (gl.getD Q undef) (by simp [List.getD, List.getElem?_eq_getElem (show Q < gl.length by omega)])
              rw [Nat.zero_add] at hc2
              obtain ⟨gq, capq, eq, _, hq1, hq2, hqc⟩ := ownsRow_cells hrow (by omega)
              rw [eq] at hc2
              have HQ : Hid (∀ I, I < n + 70 → wr.cell? ⟨gq, I, none⟩ = some (.int .u8 (mkB (Q + 1) I))) := fun I hI => by
                have hjl : I < (marksL (Q + 1) (n + 70)).length := by rw [marksL_length]; exact hI
                have := hqc I (.int .u8 (mkB (Q + 1) I)) (by rw [List.getElem?_map, List.getElem?_eq_getElem hjl, ← getD_of_lt hjl, marksL_getD _ _ _ hI]; rfl)
                rwa [Nat.zero_add] at this
              have HUc : Hid (∀ I, I < n → ∃ b' off', pk = some ⟨b', off', none⟩ ∧ wr.cell? ⟨b', off' + I, none⟩ = some (.int .u8 (mkB (Q + 1) I)) ∧ n ≤ ck) := fun I hI => by
                obtain ⟨b', off', c', e, h1, h2, hh⟩ := hu.ne (by rw [marksL_length]; omega)
                rw [marksL_length] at e hh h1
                simp only [Value.slice.injEq, true_and] at e
                obtain ⟨rfl, rfl⟩ := e
                have := hh I hI
                rw [marksL_getD _ _ _ hI] at this
                exact ⟨b', off', rfl, this, h1⟩
              unfold maxLen at hcg2 hq2
              clear hrow hu hgc hqc eq hgl
              go_wp2
              go_loop [10] (fun i => ∃ I : Nat, I ≤ n + 70 ∧ i = .int .i64 I) (fun i => n + 70 - (intOf i).toNat)
              case atStart => exact ⟨0, Nat.zero_le _, rfl⟩
              case round =>
                obtain ⟨I, hI, rfl⟩ := hrel
                by_cases hli : I < n + 70
                · have hx1 := HQ.out I hli
                  have hli2 : (I : Int) < (n : Int) + 70 := by omega
                  go_wp2_with fail
                  refine (mark_eq wr (Q + 1) I _ _ (by omega) rfl (by omega) (by omega)).mono ?_
                  rintro e wz ⟨rfl, hw⟩
                  have hw' := hw.symm
                  subst hw'
                  clear hw
                  obtain ⟨x, HX⟩ : ∃ x, Hid (mkB (Q + 1) I = x) := ⟨_, rfl⟩
                  rw [HX.out] at hx1 ⊢
                  have hxx : (x != x) = false := by simp
                  by_cases hln : I < n
                  · have hdn : decide ((I : Int) < (n : Int)) = true := by simp; omega
                    have hln2 : (I : Int) < (n : Int) := by omega
                    obtain ⟨b', off', rfl, hx2, _⟩ := HUc.out I hln
                    rw [HX.out] at hx2
                    go_wp2
                    exact ⟨⟨I + 1, by omega, by go_num⟩, by simp [intOf]; omega⟩
                  · have hdn : decide ((I : Int) < (n : Int)) = false := by simp; omega
                    go_wp2
                    exact ⟨⟨I + 1, by omega, by go_num⟩, by simp [intOf]; omega⟩
                · have hli2 : ¬ ((I : Int) < (n : Int) + 70) := by omega
                  go_wp2
                  exact ⟨⟨Q + 1, by omega, by go_num⟩, by simp [intOf]; omega⟩
            · go_wp2
              go_ret
              exact ⟨rfl, HBr.out⟩
abbrev TE : TypeId := 24
theorem own_atL {w : World} {B n : Nat} {e : TypeId} {v : Value} {xs : List Value} (h : w.ownsRow B e 1 v n xs) {b : Nat} (hb : v.ownBlock = some b) : b < w.heap.size ∧ B ≤ b ∧ ∃ cs, w.heap[b]? = some (.cells cs e (0, 0)) := by
  rcases h.2 with ⟨rfl, _⟩ | ⟨g, cap, cur, rfl, hB, hh, _⟩
  · cases hb
  · cases hb
    exact ⟨(Array.getElem?_eq_some_iff.1 hh).1, hB, _, hh⟩
theorem own_ofL {w w' : World} {B n : Nat} {e : TypeId} {v : Value} {xs : List Value} (h : w.ownsRow B e 1 v n xs) (hk : ∀ b, v.ownBlock = some b → w'.heap[b]? = w.heap[b]?) : w'.ownsRow B e 1 v n xs := by
  refine ⟨h.1, ?_⟩
  rcases h.2 with q | ⟨g, cap, cur, rfl, hB, hh, r⟩
  · exact .inl q
  · exact .inr ⟨g, cap, cur, rfl, hB, (hk g rfl).trans hh, r⟩
theorem own_slcL {w : World} {B n : Nat} {e : TypeId} {v : Value} {xs : List Value} (h : w.ownsRow B e 1 v n xs) : ∃ p c, v = .slice p n c := by
  rcases h.2 with ⟨rfl, rfl⟩ | ⟨g, cap, cur, rfl, _⟩
  · exact ⟨_, _, rfl⟩
  · exact ⟨_, _, rfl⟩
theorem info_elL : (Try.prog.info? 24).map (fun i => (i.zero, i.size, i.bytes)) = some (some (.slice none 0 0), 1, 24) := by kernel_rfl
theorem info_ellL : (Try.prog.info? 32).map (fun i => (i.zero, i.size, i.bytes)) = some (some (.slice none 0 0), 1, 24) := by kernel_rfl
theorem run_appL (w : World) (base : Nat) (ty : TypeId) (v : Value) (n : Nat) (xs : List Value) (hown : w.ownsRow base TE 1 v n xs) (a : Addr) (c : Nat) (x : Value) (h1x : x.oneCell' = true) (hx : w.cell? a = some x) (hn : n + 1 ≤ 5000000000000) (hbase : base ≤ w.heap.size) :
    ∃ v' w', (Builtin.append_ #[32, 32] ty #[v, .slice (some a) 1 c]).run Try.prog w = .ok v' w' ∧ w'.ownsRow base TE 1 v' (n + 1) (xs ++ [x]) ∧ w.grownBy w' v.ownBlock ∧
      ((∃ g cap, v = .slice (some ⟨g, 0, none⟩) n cap ∧ v' = .slice (some ⟨g, 0, none⟩) (n + 1) cap) ∨ (v'.ownBlock = some w.heap.size ∧ w.grownBy w' none)) := by
  obtain ⟨i0, hi, hz0, hz1, hz2⟩ := info_parts info_elL
  have hnews : ∀ j u, [x][j]? = some u → w.cell? (a.add j) = some u := by
    intro j u hj
    match j, hj with
    | 0, hj => simp at hj; subst hj; simpa [Addr.add] using hx
  have h1 : ∀ u ∈ [x], u.oneCell' = true := by intro u hu; simp at hu; subst hu; exact h1x
  obtain ⟨v', w', hr, h2, h3, _⟩ := run_append_own (P := Try.prog) w base 32 ty TE i0 (.slice none 0 0) 1 24 Try.underlying32 hi hz0 hz1 hz2 rfl (by decide) v n xs hown a 1 c [x] rfl hnews h1 (by unfold maxLen; omega) (by omega) hbase
  refine ⟨v', w', hr, h2, h3, ?_⟩
  rcases hown.2 with ⟨rfl, rfl⟩ | ⟨g, cap, cur, rfl, hbg, hg, hnc, hcm, hcs, htake⟩
  · have hr2 := run_append_nil (P := Try.prog) w 32 ty TE i0 (.slice none 0 0) Try.underlying32 hi hz0 a 1 c [x] (by rw [hz1]; rfl) hnews (by omega) (by omega) (by rw [hz2]; omega)
    rw [hr] at hr2
    simp only [Result.ok.injEq] at hr2
    obtain ⟨rfl, rfl⟩ := hr2
    exact .inr ⟨rfl, ⟨rfl, rfl, rfl, by simp, fun k hk _ => heap_alloc_old w.drew _ hk⟩⟩
  · by_cases hroom : n + 1 ≤ cap
    · obtain ⟨w2, hr2, _⟩ := run_append_fits (P := Try.prog) w base 32 ty TE i0 1 Try.underlying32 hi hz1 g n cap xs hown a 1 c [x] rfl hnews h1 hroom
      rw [hr] at hr2
      simp only [Result.ok.injEq] at hr2
      obtain ⟨rfl, rfl⟩ := hr2
      exact .inl ⟨g, cap, rfl, rfl⟩
    · have hr2 := run_append_grow (P := Try.prog) w 32 ty TE i0 (.slice none 0 0) Try.underlying32 hi hz0 ⟨g, 0, none⟩ n cap xs (by rw [hz1]; exact hown.1) (hown.cells (g := g) rfl) a 1 c [x] (by rw [hz1]; rfl) hnews (by omega) (by omega) (growslice_fits (by omega) (by rw [hz2]; omega))
      rw [hr] at hr2
      simp only [Result.ok.injEq] at hr2
      obtain ⟨rfl, rfl⟩ := hr2
      exact .inr ⟨rfl, ⟨rfl, rfl, rfl, by simp, fun k hk _ => heap_alloc_old w.drew _ hk⟩⟩
theorem wp_appL {w : World} {o : Oper} {a : Act} {K : Act → World → Prop} {Q : Exit → Act → World → Prop} (s x : Operand)
    (ho : o.op = .call { callee := .builtin .append, args := #[s, x], argTypes := #[32, 32] })
    (base : Nat) (v : Value) (n : Nat) (xs : List Value) (hs : a.eval s = v) (hown : w.ownsRow base TE 1 v n xs)
    (ad : Addr) (c : Nat) (y : Value) (hx : a.eval x = .slice (some ad) 1 c) (h1 : y.oneCell' = true) (hy : w.cell? ad = some y) (hn : n + 1 ≤ 5000000000000) (hbase : base ≤ w.heap.size)
    (h : ∀ v' w', w'.ownsRow base TE 1 v' (n + 1) (xs ++ [y]) → w.grownBy w' v.ownBlock → ((∃ g cap, v = .slice (some ⟨g, 0, none⟩) n cap ∧ v' = .slice (some ⟨g, 0, none⟩) (n + 1) cap) ∨ (v'.ownBlock = some w.heap.size ∧ w.grownBy w' none)) → K (a.put o.dst v') w') : o.wp Try.prog a w K Q := by
  obtain ⟨v', w', hr, h2, h3, h4⟩ := run_appL w base o.type v n xs hown ad c y h1 hy hn hbase
  unfold Oper.wp execOp
  simp only [ho, resolve, invoke, builtin, Sem.run_bind, Sem.run_pure, Result.andThen_ok, List.map_toArray, List.map_cons, List.map_nil, hs, hx, hr]
  exact h v' w' h2 h3 h4
theorem wpList_appL {w : World} {ops : Array Oper} {rest : List Oper} {o : Oper} {a : Act} {Q : Exit → Act → World → Prop} (hgd : o.guard = none) (s x : Operand)
    (ho : o.op = .call { callee := .builtin .append, args := #[s, x], argTypes := #[32, 32] })
    (base : Nat) (v : Value) (n : Nat) (xs : List Value) (hs : a.eval s = v) (hown : w.ownsRow base TE 1 v n xs)
    (ad : Addr) (c : Nat) (y : Value) (hx : a.eval x = .slice (some ad) 1 c) (h1 : y.oneCell' = true) (hy : w.cell? ad = some y) (hn : n + 1 ≤ 5000000000000) (hbase : base ≤ w.heap.size)
    (h : ∀ v' w', w'.ownsRow base TE 1 v' (n + 1) (xs ++ [y]) → w.grownBy w' v.ownBlock → ((∃ g cap, v = .slice (some ⟨g, 0, none⟩) n cap ∧ v' = .slice (some ⟨g, 0, none⟩) (n + 1) cap) ∨ (v'.ownBlock = some w.heap.size ∧ w.grownBy w' none)) → wpList Try.prog ops Q rest (a.put o.dst v') w') : wpList Try.prog ops Q (o :: rest) a w :=
  wpList_plain hgd fun K hK => wp_appL s x ho base v n xs hs hown ad c y hx h1 hy hn hbase fun v' w' q1 q2 q3 => hK _ _ (h v' w' q1 q2 q3)
def HVL (w : World) (v : Value) (us : List Value) : Prop :=
  ∃ (p : Option Addr) (c : Nat), v = .slice p us.length c ∧ us.length ≤ c ∧ c ≤ maxLen ∧
    (us ≠ [] → ∃ b off, p = some ⟨b, off, none⟩ ∧ (∃ cs, w.heap[b]? = some (.cells cs 32 (0, 0))) ∧ ∀ k, k < us.length → w.cell? ⟨b, off + k, none⟩ = some (us.getD k undef))
def mkA (k j : Nat) : Array Value := #[.int .u8 ((k : Int) % 256), .int .u8 ((j : Int) % 256), .int .u8 ((j : Int) / 256 % 256)]
def mkLs (k j : Nat) : List Int := [(k : Int) % 256, (j : Int) % 256, (j : Int) / 256 % 256]
def Mkd (w : World) (u : Value) (k j : Nat) : Prop := ∃ b, u = .slice (some ⟨b, 0, none⟩) 3 3 ∧ w.heap[b]? = some (.cells (mkA k j) 5 (0, 0))
theorem Mkd.hb {w : World} {u : Value} {k j : Nat} (h : Mkd w u k j) : HB w u (mkLs k j) := by
  obtain ⟨b, rfl, hb⟩ := h
  refine ⟨⟨_, 3, rfl, Nat.le_refl _, by unfold maxLen; omega, (fun e => by cases e), fun _ => ⟨b, 0, rfl, fun i hi => ?_⟩⟩, fun x hx => ?_⟩
  · rw [cell_of_row _ _ _ _ _ _ hb]
    match i, hi with
    | 0, _ => rfl
    | 1, _ => rfl
    | 2, _ => rfl
  · simp only [mkLs, List.mem_cons, List.not_mem_nil, or_false] at hx
    rcases hx with rfl | rfl | rfl <;> omega
def KT (w w' : World) : Prop := ∀ (b : Nat) (cs : Array Value), w.heap[b]? = some (.cells cs 5 (0, 0)) → w'.heap[b]? = w.heap[b]?
theorem Mkd.keep {w w' : World} {u : Value} {k j : Nat} (h : Mkd w u k j) (hk : KT w w') : Mkd w' u k j := by
  obtain ⟨b, e, hb⟩ := h
  exact ⟨b, e, (hk b _ hb).trans hb⟩
theorem KT.refl (w : World) : KT w w := fun _ _ _ => rfl
theorem KT.trans {a b c : World} (h : KT a b) (h2 : KT b c) : KT a c := fun x cs q => by
  have e := h x cs q
  rw [← e]
  exact h2 x cs (e.trans q)
theorem KT.below {w w' : World} (h : Below w.heap.size w w') : KT w w' := fun b cs q => h.block b (Array.getElem?_eq_some_iff.1 q).1
theorem KT.grown {w w' : World} {row : Option Nat} (hg : w.grownBy w' row) (hr : ∀ b, row = some b → ∃ cs T, w.heap[b]? = some (.cells cs T (0, 0)) ∧ T ≠ 5) : KT w w' := fun b cs q => hg.block b (Array.getElem?_eq_some_iff.1 q).1 (fun e => by
  obtain ⟨cs', T, q1, q2⟩ := hr b e.symm
  rw [q] at q1
  simp only [Option.some.injEq, Obj.cells.injEq] at q1
  exact q2 q1.2.1.symm)
def RowI (B : Nat) (w : World) (v : Value) (n k i : Nat) : Prop := ∃ xs : List Value, w.ownsRow B TE 1 v n xs ∧ ∀ j, j < i → j < n → Mkd w (xs.getD j undef) k j
theorem RowI.keep {B : Nat} {w w' : World} {v : Value} {n k i : Nat} (h : RowI B w v n k i) (hk : KT w w') (hb : ∀ b, v.ownBlock = some b → w'.heap[b]? = w.heap[b]?) : RowI B w' v n k i := by
  obtain ⟨xs, h1, h2⟩ := h
  exact ⟨xs, own_ofL h1 hb, fun j hj hn => (h2 j hj hn).keep hk⟩
theorem RowI.less {B : Nat} {w : World} {v : Value} {n k i i' : Nat} (h : RowI B w v n k i) (hi : i' ≤ i) : RowI B w v n k i' := by
  obtain ⟨xs, h1, h2⟩ := h
  exact ⟨xs, h1, fun j hj hn => h2 j (by omega) hn⟩
theorem RowI.pre {B : Nat} {w : World} {g n n' c k : Nat} (h : RowI B w (.slice (some ⟨g, 0, none⟩) n c) n k n) (hn : n' ≤ n) : RowI B w (.slice (some ⟨g, 0, none⟩) n' c) n' k n' := by
  obtain ⟨xs, h1, h2⟩ := h
  have hl : xs.length = n := by have := h1.1; omega
  refine ⟨xs.take n', ?_, fun j hj _ => ?_⟩
  · rcases h1.2 with ⟨e, _⟩ | ⟨g', cap, cur, e, hB, hh, hnc, hcm, hcs, htk⟩
    · cases e
    · simp only [Value.slice.injEq, Option.some.injEq, Addr.mk.injEq, and_true, true_and] at e
      obtain ⟨rfl, rfl⟩ := e
      refine ⟨by simp; omega, .inr ⟨_, _, cur, rfl, hB, hh, by omega, hcm, hcs, ?_⟩⟩
      rw [← htk, List.take_take]
      congr 1
      omega
  · have e : (xs.take n').getD j undef = xs.getD j undef := by simp [List.getD, List.getElem?_take, hj]
    rw [e]
    exact h2 j (by omega) (by omega)
end Go.Proofs.Ytjfebbhnjcnepaa
namespace Go.Proofs.Ytjfebbhnjcnepaa
open Go Go.RowKit
theorem own_lowL {W : World} {B B' : Nat} {t : TypeId} {v : Value} {n : Nat} {xs : List Value} (ho : W.ownsRow B t 1 v n xs) (hB : B' ≤ B) : W.ownsRow B' t 1 v n xs := ⟨ho.1, ho.2.elim .inl fun ⟨gg, cap, cur, z1, z2, z3⟩ => .inr ⟨gg, cap, cur, z1, Nat.le_trans hB z2, z3⟩⟩
structure PX (B : Nat) (w : World) (v : Value) (xs : List Value) (ls : List (List Int)) : Prop where
  row : w.ownsRow B TE 1 v ls.length xs
  apt : Apt B w xs ls
  byt : ∀ j, j < ls.length → BytI (ls.getD j [])
theorem PX.keep {B : Nat} {w w' : World} {v : Value} {xs : List Value} {ls : List (List Int)} (h : PX B w v xs ls) (hk : ∀ b, B ≤ b → b < w.heap.size → w'.heap[b]? = w.heap[b]?) : PX B w' v xs ls :=
  ⟨own_ofL h.row (fun b e => hk b (own_atL h.row e).2.1 (own_atL h.row e).1), ⟨h.apt.1, fun j hj => own_ofL (h.apt.2.1 j hj) (fun b e => hk b (own_atL (h.apt.2.1 j hj) e).2.1 (own_atL (h.apt.2.1 j hj) e).1), h.apt.2.2⟩, h.byt⟩
theorem PX.below {B : Nat} {w w' : World} {v : Value} {xs : List Value} {ls : List (List Int)} (h : PX B w v xs ls) (hb : Below w.heap.size w w') : PX B w' v xs ls := h.keep fun b _ q => hb.block b q
theorem PX.low {B B' : Nat} {w : World} {v : Value} {xs : List Value} {ls : List (List Int)} (h : PX B w v xs ls) (hB : B' ≤ B) : PX B' w v xs ls :=
  ⟨own_lowL h.row hB, ⟨h.apt.1, fun j hj => own_lowL (h.apt.2.1 j hj) hB, h.apt.2.2⟩, h.byt⟩
theorem PX.nil (B : Nat) (w : World) : PX B w (.slice none 0 0) [] [] := ⟨World.ownsRow_nil _ _ _ _, ⟨rfl, fun j hj => by simp at hj, fun i j hi => by simp at hi⟩, fun j hj => by simp at hj⟩
theorem PX.owl {w0 w : World} {v : Value} {xs : List Value} {ls : List (List Int)} (h : PX w0.heap.size w v xs ls) : OWL w0 w v ls :=
  ⟨xs, h.row, fun j hj => .inl ⟨h.apt.2.1 j (by rw [h.apt.1]; exact hj), h.byt j hj⟩⟩
theorem PX.len {B : Nat} {w : World} {v : Value} {xs : List Value} {ls : List (List Int)} (h : PX B w v xs ls) : xs.length = ls.length := h.apt.1
theorem PX.grown {B : Nat} {w w' : World} {v : Value} {xs : List Value} {ls : List (List Int)} {row : Option Nat} (h : PX B w v xs ls) (hg : w.grownBy w' row) (hr : ∀ g, row = some g → ∃ cur e fz, w.heap[g]? = some (.cells cur e fz) ∧ 5 ≠ e ∧ 24 ≠ e) : PX B w' v xs ls := by
  refine ⟨h.row.kept hg ?_, h.apt.away hg fun k e => ?_, h.byt⟩
  · cases hrow : row with
    | none =>
      cases hv : v.ownBlock with
      | none => exact .inl rfl
      | some k => exact .inr (by simp)
    | some g =>
      obtain ⟨cur, e, fz, hh, _, hne⟩ := hr g hrow
      exact .inr (own_block_ne h.row hh hne)
  · obtain ⟨cur, e', fz, hh, hne, _⟩ := hr k e
    exact ⟨e', ⟨cur, fz, hh⟩, Ne.symm hne⟩
theorem PX.lies {B : Nat} {w : World} {v : Value} {xs : List Value} {ls : List (List Int)} (h : PX B w v xs ls) : (∀ b, v.ownBlock = some b → B ≤ b ∧ b < w.heap.size) ∧ ∀ j, j < xs.length → ∀ b, (xs.getD j undef).ownBlock = some b → B ≤ b ∧ b < w.heap.size :=
  ⟨fun b e => ⟨(own_atL h.row e).2.1, (own_atL h.row e).1⟩, fun j hj b e => ⟨(own_atL (h.apt.2.1 j hj) e).2.1, (own_atL (h.apt.2.1 j hj) e).1⟩⟩
theorem PX.fresh {B C n : Nat} {w w' : World} {v u : Value} {xs ys : List Value} {ls : List (List Int)} {e : TypeId} (h : PX B w v xs ls) (hu : w'.ownsRow C e 1 u n ys) (hC : w.heap.size ≤ C) : ∀ j, j < xs.length → u.ownBlock = none ∨ u.ownBlock ≠ (xs.getD j undef).ownBlock := by
  intro j hj
  cases e : u.ownBlock with
  | none => exact .inl rfl
  | some b =>
    refine .inr fun x => ?_
    have h1 := (own_atL hu e).2.1
    have h2 := (h.lies.2 j hj b x.symm).2
    omega
theorem apt_app {B : Nat} {w : World} {us vs : List Value} {ls ms : List (List Int)} (h : Apt B w us ls) (g : Apt B w vs ms) (hd : ∀ i j b, i < us.length → j < vs.length → (us.getD i undef).ownBlock = some b → (vs.getD j undef).ownBlock ≠ some b) : Apt B w (us ++ vs) (ls ++ ms) := by
  refine ⟨by simp [h.1, g.1], fun k hk => ?_, fun i j hi hj hne => ?_⟩
  · rw [getD_app, getD_app, ← h.1]
    split
    · rename_i q; exact h.2.1 k q
    · refine g.2.1 _ ?_
      rw [List.length_append] at hk
      omega
  · rw [List.length_append] at hi hj
    rw [getD_app, getD_app]
    split <;> split
    · rename_i q1 q2; exact h.2.2 i j q1 q2 hne
    · rename_i q1 q2
      cases e : (us.getD i undef).ownBlock with
      | none => exact .inl rfl
      | some b => exact .inr fun x => hd i _ b q1 (by omega) e x.symm
    · rename_i q1 q2
      cases e : (vs.getD (i - us.length) undef).ownBlock with
      | none => exact .inl rfl
      | some b => exact .inr fun x => hd j (i - us.length) b q2 (by omega) x.symm e
    · exact g.2.2 _ _ (by omega) (by omega) (by omega)
theorem wpList_append_PX {B : Nat} {w : World} {ops : Array Oper} {rest : List Oper} {o : Oper} {a : Act} {Q : Exit → Act → World → Prop} (hgd : o.guard = none) (s x : Operand)
    (ho : o.op = .call { callee := .builtin .append, args := #[s, x], argTypes := #[32, 32] })
    (v : Value) (xs : List Value) (ls : List (List Int)) (hs : a.eval s = v) (hown : PX B w v xs ls)
    (ad : Addr) (c : Nat) (u : Value) (l : List Int) (hx : a.eval x = .slice (some ad) 1 c) (hcell : ∀ j z, [u][j]? = some z → w.cell? (ad.add j) = some z)
    (hu : w.ownsRow B 5 1 u l.length (l.map (Value.int .u8))) (hb : BytI l) (hd : ∀ j, j < xs.length → u.ownBlock = none ∨ u.ownBlock ≠ (xs.getD j undef).ownBlock)
    (hbytes : (ls.length + 1) * 24 ≤ 140737488355328) (hbase : B ≤ w.heap.size)
    (h : ∀ v' w', PX B w' v' (xs ++ [u]) (ls ++ [l]) → w.grownBy w' v.ownBlock → (∀ g, v.ownBlock = some g → B ≤ g ∧ BT w g 24) → wpList Try.prog ops Q rest (a.put o.dst v') w') : wpList Try.prog ops Q (o :: rest) a w := by
  obtain ⟨i0, hi, hz0, hz1, hz2⟩ := info_parts info_bytes
  have hblk : ∀ g, v.ownBlock = some g → B ≤ g ∧ BT w g 24 := by
    intro g hg
    obtain ⟨_, h2, cs, hh⟩ := own_atL hown.row hg
    exact ⟨h2, cs, _, hh⟩
  have h1 : ∀ z ∈ [u], z.oneCell' = true := by
    intro z hz
    simp only [List.mem_singleton] at hz
    subst hz
    obtain ⟨p, c, rfl⟩ := own_slice hu
    rfl
  refine wpList_append_own w hgd s x 32 ho B 24 i0 (.slice none 0 0) 1 24 Try.underlying32 hi hz0 hz1 hz2 rfl (by decide) v ls.length xs hs hown.row ad 1 c [u] hx rfl hcell h1 (by unfold maxLen; omega) hbytes hbase (fun v' w' h2 h3 _ => h v' w' ?_ h3 hblk)
  have hr : ∀ k, v.ownBlock = Option.some k → ∃ e, BT w k e ∧ e ≠ 5 := fun k e => ⟨_, (hblk k e).2, by decide⟩
  have hk : w'.ownsRow B 5 1 u l.length (l.map (Value.int .u8)) := by
    refine hu.kept h3 ?_
    cases e : v.ownBlock with
    | none => cases u.ownBlock <;> simp
    | some q =>
      obtain ⟨_, cur, fz, hh⟩ := hblk q e
      exact .inr (own_block_ne hu hh (by decide))
  refine ⟨by rw [List.length_append]; exact h2, (hown.apt.away h3 hr).snoc hk hd, fun j hj => ?_⟩
  rw [List.length_append, List.length_singleton] at hj
  rw [getD_app]
  split
  · exact hown.byt j ‹_›
  · have e : j - ls.length = 0 := by omega
    rw [e]
    exact hb
end Go.Proofs.Ytjfebbhnjcnepaa
namespace Go.Proofs.Ytjfebbhnjcnepaa
open Go Go.RowKit Go.Shelf
attribute [local go_sem] Oper.semAt_some
set_option maxRecDepth 100000 in
set_option maxHeartbeats 4000000 in
theorem pieces_iterW (n : Nat) (w0 : World) (hv : Value) (b5 b3 : Nat) (l : List Int) (size : Nat) (hs : 1 ≤ size) (hs2 : size ≤ 1073741824) (hl1 : 1 ≤ l.length) (hbig : l.length ≤ 1073741824) (hbox : PcBox w0 hv b5 b3 l size) (hD : ∀ i, pcD hv b5 b3 i → i < w0.heap.size) :
    IterW Fence.wide n Try.prog 24 #[.pointer (some ⟨b5, 0, none⟩), .pointer (some ⟨b3, 0, none⟩)] (fun k v => #[.int .i64 (k : Nat), v])
      (fun k v S W => W.ownsRow S 5 1 v (pcP l size k).length ((pcP l size k).map (Value.int .u8))) (pcD hv b5 b3) (pcN l.length size) w0 := fun l' J Jx W hK hJ hJx hY h0 => by
  have HBx := hid (hbox.kept ⟨hK.1, hK.2⟩)
  have HK := hid hK
  have HY := hid hY
  have H0 := hid h0
  have HD := hid hD
  clear hbox hK hJ hJx hY h0 hD
  refine callsIn_of_wp Try.func24 rfl trivial ?_ rfl
  simp only [Try.ntmps24, List.size_toArray, List.length_cons, List.length_nil, Nat.reduceAdd, Nat.reduceSub, Array.replicate_succ, Array.replicate_zero, List.push_toArray, List.append_toArray, List.nil_append, List.cons_append]
  obtain ⟨p, c, rfl, hlc, hcm⟩ := HBx.out.row.open
  unfold maxLen at hcm
  have c5 := HBx.out.held
  have c3 := HBx.out.sz
  have CU := hid (upward_any W (l.length : Int) (size : Int) (by omega) (by omega) (by omega))
  rw [pcN_up hl1] at CU
  have hNle : pcN l.length size ≤ l.length := by
    unfold pcN
    have := Nat.div_le_self (l.length - 1) size
    omega
  obtain ⟨N, HN⟩ : ∃ N, Hid (pcN l.length size = N) := ⟨_, rfl⟩
  rw [HN.out] at CU hNle
  have HI := hid (fun k => (HN.out ▸ pcN_iff hs hl1 : k < N ↔ pcAt size k < l.length))
  gi_wp2
  refine ⟨trivial, fun h => absurd h (by simp [Fence.wide]), callsIn_wide.2 (CU.out.mono ?_)⟩
  rintro e wz ⟨rfl, hwz⟩
  rw [hwz]
  clear hwz wz CU c5 c3
  gi_wp2
  gi_loopw [10] (fun i wr => ∃ k : Nat, Hid (k ≤ N) ∧ i = .int .i64 (k : Int) ∧ Hid (J k (pcD (.slice p l.length c) b5 b3) wr) ∧ Hid (KE (pcD (.slice p l.length c) b5 b3) W wr)) (fun i _ => N - (intOf i).toNat)
  case atStart => exact ⟨0, Nat.zero_le _, rfl, H0, ⟨Nat.le_refl _, fun _ _ => rfl⟩⟩
  case round =>
    obtain ⟨k, hk, rfl, HJk, HKk⟩ := hrel
    have hbx := HBx.out.kept ⟨HKk.out.1, HKk.out.2⟩
    have c5 := hbx.held
    have c3 := hbx.sz
    have HR := hid hbx.row
    clear hbx
    by_cases hlt : k < N
    · obtain ⟨A, HA⟩ : ∃ A, Hid (pcAt size k = A) := ⟨_, rfl⟩
      have hAl : A < l.length := by rw [← HA.out]; exact (HI.out k).1 hlt
      have hmul : (k : Int) * (size : Int) = (A : Int) := by rw [← HA.out]; unfold pcAt; simp
      have hwA : IntKind.i64.wrap (A : Int) = (A : Int) := wrap64 (by omega) (by omega)
      obtain ⟨m, HM⟩ : ∃ m, Hid (min size (l.length - A) = m) := ⟨_, rfl⟩
      have hm1 : 1 ≤ m := by rw [← HM.out]; omega
      have hm2 : A + m ≤ l.length := by rw [← HM.out]; omega
      have HP : Hid (pcP l size k = (l.take (A + m)).drop A) := by
        show _ = _
        unfold pcP
        rw [HA.out, HM.out]
      have HPl : Hid ((pcP l size k).length = m) := by
        show _ = _
        rw [pcP_length, HA.out, HM.out]
      have hsub : (l.length : Int) - (A : Int) = ((l.length - A : Nat) : Int) := by omega
      have CP := hid (piece_any wr (.slice p l.length c) l A m HR.out hm1 hm2 (by omega))
      have HKW : Hid (w0.heap.size ≤ wr.heap.size) := Nat.le_trans HK.out.1 HKk.out.1
      by_cases hms : size ≤ l.length - A
      · have hme : m = size := by rw [← HM.out]; omega
        have hmi : (size : Int) ≤ ((l.length - A : Nat) : Int) := by omega
        rw [hme] at CP
        clear hms
        gi_wp2
        refine ⟨trivial, fun h => absurd h (by simp [Fence.wide]), callsIn_wide.2 (CP.out.mono ?_)⟩
        rintro e w1 ⟨v1, rfl, hown, hB⟩
        have hown' : w1.ownsRow wr.heap.size 5 1 v1 (pcP l size k).length ((pcP l size k).map (Value.int .u8)) := by
          rw [HPl.out, HP.out, hme]
          exact hown
        obtain ⟨fn, tmps, assign, body, hy, hR⟩ := HY.out k v1 (pcD (.slice p l.length c) b5 b3) wr w1 HJk.out (grown_below hB) hown' (by rw [HN.out]; exact hlt) (HKk.out.trans ⟨hB.size, fun i hi => hB.block i (Nat.lt_of_lt_of_le (HD.out i hi) (Nat.le_trans HK.out.1 HKk.out.1))⟩)
        have HRR := hid hR
        have HKD : Hid (KE (pcD (.slice p l.length c) b5 b3) wr w1) := ⟨hB.size, fun i hi => hB.block i (Nat.lt_of_lt_of_le (HD.out i hi) (Nat.le_trans HK.out.1 HKk.out.1))⟩
        have hkN := hlt
        clear hown hown' hB hR CP c5 c3
        gi_wp2
        refine ⟨fun h => absurd h (by simp [Fence.wide]), HRR.out.mono ?_⟩
        rintro e W3 (⟨rfl, hJ3, hk3⟩ | ⟨rfl, hJx3, hkx3⟩)
        · clear HRR hy
          have HF3 := hid (And.intro hk3 hJ3)
          clear hk3 hJ3
          gi_wp2
          go_roundw
          case rel => exact ⟨k + 1, hkN, by go_num, HF3.out.2, HKk.out.trans (HKD.out.trans HF3.out.1)⟩
          case measure => simp [intOf]; omega
        · clear HRR hy
          have HF3 := hid (And.intro hJx3 hkx3)
          clear hJx3 hkx3
          gi_wp2
          refine bodyPost_ret (results_none rfl _ _ _) rfl ?_
          exact ⟨⟨_, rfl⟩, .inr HF3.out.1, HKk.out.trans (HKD.out.trans HF3.out.2)⟩
      · have hme : m = l.length - A := by rw [← HM.out]; omega
        have hmi : ((l.length - A : Nat) : Int) < (size : Int) := by omega
        rw [hme] at CP
        clear hms
        gi_wp2
        refine ⟨trivial, fun h => absurd h (by simp [Fence.wide]), callsIn_wide.2 (CP.out.mono ?_)⟩
        rintro e w1 ⟨v1, rfl, hown, hB⟩
        have hown' : w1.ownsRow wr.heap.size 5 1 v1 (pcP l size k).length ((pcP l size k).map (Value.int .u8)) := by
          rw [HPl.out, HP.out, hme]
          exact hown
        obtain ⟨fn, tmps, assign, body, hy, hR⟩ := HY.out k v1 (pcD (.slice p l.length c) b5 b3) wr w1 HJk.out (grown_below hB) hown' (by rw [HN.out]; exact hlt) (HKk.out.trans ⟨hB.size, fun i hi => hB.block i (Nat.lt_of_lt_of_le (HD.out i hi) (Nat.le_trans HK.out.1 HKk.out.1))⟩)
        have HRR := hid hR
        have HKD : Hid (KE (pcD (.slice p l.length c) b5 b3) wr w1) := ⟨hB.size, fun i hi => hB.block i (Nat.lt_of_lt_of_le (HD.out i hi) (Nat.le_trans HK.out.1 HKk.out.1))⟩
        have hkN := hlt
        clear hown hown' hB hR CP c5 c3
        gi_wp2
        refine ⟨fun h => absurd h (by simp [Fence.wide]), HRR.out.mono ?_⟩
        rintro e W3 (⟨rfl, hJ3, hk3⟩ | ⟨rfl, hJx3, hkx3⟩)
        · clear HRR hy
          have HF3 := hid (And.intro hk3 hJ3)
          clear hk3 hJ3
          gi_wp2
          go_roundw
          case rel => exact ⟨k + 1, hkN, by go_num, HF3.out.2, HKk.out.trans (HKD.out.trans HF3.out.1)⟩
          case measure => simp [intOf]; omega
        · clear HRR hy
          have HF3 := hid (And.intro hJx3 hkx3)
          clear hJx3 hkx3
          gi_wp2
          refine bodyPost_ret (results_none rfl _ _ _) rfl ?_
          exact ⟨⟨_, rfl⟩, .inr HF3.out.1, HKk.out.trans (HKD.out.trans HF3.out.2)⟩
    · have HKE : Hid (k = N) := by have := hk.out; show _ = _; omega
      gi_wp2
      go_end0
      rw [HN.out, ← HKE.out]
      exact ⟨⟨_, rfl⟩, .inl HJk.out, HKk.out⟩
def csN (t : Bool) (l : List Int) (d : Int) (s : Nat) : Nat := if t = true ∧ (l.length : Int) = d then pcN l.length s else 0
def csFit (l : List Int) (s : Nat) (k : Nat) (v : Value) (S : Nat) (W : World) : Prop := W.ownsRow S 5 1 v (pcP l s k).length ((pcP l s k).map (Value.int .u8))
structure ItS (l : List Int) (s N : Nat) (gf : Nat) (lb : Array Value) (D : Nat → Prop) (w : World) : Prop where
  en : ∀ args W, (callFunc gf args).run Try.prog W = .ok (.enter gf args) W
  it : ∀ n, IterW Fence.wide n Try.prog gf lb (fun k v => #[.int .i64 ((k : Nat) : Int), v]) (csFit l s) D N w
  lt : ∀ i, D i → i < w.heap.size
theorem ItS.kept {l : List Int} {s N : Nat} {gf : Nat} {lb : Array Value} {D : Nat → Prop} {w W : World} (h : ItS l s N gf lb D w) (k : KE D w W) : ItS l s N gf lb D W :=
  ⟨h.en, fun n l' J Jx W' hK hJ hJx hY h0 => h.it n l' J Jx W' (k.trans hK) hJ hJx hY h0, fun i hi => Nat.lt_of_lt_of_le (h.lt i hi) k.1⟩
theorem fitS_cs (l : List Int) (s : Nat) : FitS (csFit l s) :=
  fun k v S A b o h hb => own_ofL h fun q e => World.putObj_heap_other (by have := (own_atL h e).2.1; omega)
theorem none_iterS (n : Nat) (w0 : World) (enc : Nat → Value → Array Value) (Fit : Nat → Value → Nat → World → Prop) : IterW Fence.wide n Try.prog 13 #[] enc Fit (fun _ => False) 0 w0 := fun l' J Jx W hK hJ hJx hY h0 => by
  refine callsIn_of_wp Try.func13 rfl trivial ?_ rfl
  simp only [Try.ntmps13, List.size_toArray, List.length_cons, List.length_nil, Nat.reduceAdd, Nat.reduceSub, Array.replicate_succ, Array.replicate_zero, List.push_toArray, List.append_toArray, List.nil_append, List.cons_append]
  gi_wp2
  go_end0
  exact ⟨⟨_, rfl⟩, .inl h0, Nat.le_refl _, fun _ _ => rfl⟩
set_option maxRecDepth 100000 in
set_option maxHeartbeats 4000000 in
theorem segments_bad (w : World) (a b c d e f g h : Int) (v : Value) (l : List Int) (hv : HB w v l) (hn : ¬ (ftB a b c d e f g h = true ∧ (l.length : Int) = d)) :
    Calls Try.prog 5 #[shV [a, b, c, d, e, f, g, h], v] w fun r w' => r = .returned (.func (.func 13) #[] #[]) ∧ Below w.heap.size w w' := by
  obtain ⟨p, cc, rfl, hlc, hcm⟩ := hv.open
  unfold maxLen at hcm
  clear hv
  have CF : ∀ w, Hid (Calls Try.prog 12 #[.agg #[Value.int .i64 a, .int .i64 b, .int .i64 c, .int .i64 d, .int .i64 e, .int .i64 f, .int .i64 g, .int .i64 h]] w fun r w' => r = .returned (.bool (ftB a b c d e f g h)) ∧ Below w.heap.size w w') := fun w => fits_any w a b c d e f g h
  obtain ⟨t, HT⟩ : ∃ t, Hid (ftB a b c d e f g h = t) := ⟨_, rfl⟩
  rw [HT.out] at CF hn
  rw [shV8]
  go_enter Try.func5, Try.ntmps5
  go_wp2_with fail
  obtain ⟨W0, HW0⟩ : ∃ W0, Hid (w.alloc (.cells #[Value.int .i64 a, .int .i64 b, .int .i64 c, .int .i64 d, .int .i64 e, .int .i64 f, .int .i64 g, .int .i64 h] 23) = W0) := ⟨_, rfl⟩
  rw [HW0.out]
  have HS0 : Hid (W0.heap.size = w.heap.size + 1) := by rw [← HW0.out]; simp [Hid]
  have B0 : Hid (Below w.heap.size w W0) := by rw [← HW0.out]; exact below_alloc _ _
  have K0 : Hid (ShC W0 w.heap.size a b c d e f g h) := fun i v hi => by rw [← HW0.out, cell_of_row _ _ _ _ _ _ (heap_alloc_new w _)]; exact hi
  refine (CF W0).out.mono ?_
  rintro e1 w1 ⟨rfl, hB1⟩
  have Kw1 := hid (K0.out.below hB1)
  have B01 : Hid (Below w.heap.size w w1) := B0.out.trans (hB1.mono B0.out.size)
  clear hB1
  have c3 := Kw1.out 3 _ rfl
  cases t with
  | false =>
    go_wp2_with fail
    go_ret
    exact ⟨rfl, B01.out⟩
  | true =>
    have hd : ¬ ((l.length : Int) = d) := fun q => hn ⟨rfl, q⟩
    go_wp2_with fail
    go_ret
    exact ⟨rfl, B01.out⟩
theorem segmentsI_any (w : World) (a b c d e f g h : Int) (v : Value) (l : List Int) (hv : HB w v l) :
    Calls Try.prog 5 #[shV [a, b, c, d, e, f, g, h], v] w fun r w' => ∃ gf lb D, r = .returned (.func (.func gf) #[] lb) ∧ ItS l c.toNat (csN (ftB a b c d e f g h) l d c.toNat) gf lb D w' ∧ (∀ i, D i → w.heap.size ≤ i) ∧ Below w.heap.size w w' := by
  by_cases hn : ftB a b c d e f g h = true ∧ (l.length : Int) = d
  · have hf : Ft a b c d e f g h := of_decide_eq_true hn.1
    have hd := hn.2
    have hok := hf.1
    unfold OkS at hok
    have hml := most_lt (k := a) (by omega) (by omega)
    obtain ⟨s, rfl⟩ : ∃ s : Nat, c = (s : Int) := ⟨c.toNat, by omega⟩
    refine (segments_ok w a b d e f g h v l s hv hf hd).mono ?_
    rintro r w' ⟨hv2, b5, b3, rfl, hbox, hD, hb⟩
    refine ⟨_, _, pcD hv2 b5 b3, rfl, ⟨enters_of Try.func24 (by kernel_rfl) rfl, fun n => ?_, fun i hi => (hD i hi).2⟩, fun i hi => (hD i hi).1, hb⟩
    unfold csN
    rw [if_pos hn, Int.toNat_natCast]
    exact pieces_iterW n w' hv2 b5 b3 l s (by omega) (by omega) (by omega) (by omega) hbox (fun i hi => (hD i hi).2)
  · refine (segments_bad w a b c d e f g h v l hv hn).mono ?_
    rintro r w' ⟨rfl, hb⟩
    refine ⟨13, #[], fun _ => False, rfl, ⟨enters_of Try.func13 (by kernel_rfl) rfl, fun n => ?_, fun _ h => h.elim⟩, fun _ h => h.elim, hb⟩
    unfold csN
    rw [if_neg hn]
    exact none_iterS n _ _ _
end Go.Proofs.Ytjfebbhnjcnepaa
namespace Go.Proofs.Ytjfebbhnjcnepaa.Ev
open Go Go.RowKit
def edgeB (ops : Array Oper) (K i : Nat) : Bool := (ops[K]?).any fun o => o.after.any fun e => Region.binds .any e && e.on == i
section
variable {P : Program} {ops : Array Oper} {Q : Exit → Act → World → Prop} {S : World → Prop} {K : Nat}
theorem wpN_load {i : Nat} {oi : Oper} {v : Value} {f : Nat} {listed : Array Bool} {a : Act} {w : World} (hi : ops[i]? = some oi) (hsel : Region.noSelect ops = true) (hf : Region.free .any ops listed i = true) (hr : (Region.ready .any ops listed).contains i = true)
    (hQ : ∀ c a w, ¬ Q (.panic c) a w) (hK : (i == K) = false) (hw : edgeB ops K i = true) (hy : YieldsIf P ops S oi v a) (hS : S w)
    (h : wpN P ops Q S (fun j => j == K) f false (listed.setIfInBounds i true) (a.put oi.dst v) w) : wpN P ops Q S (fun j => j == K) (f + 1) false listed a w := by
  refine wpN_take (W := fun j => j == K) (S' := S) hi hsel hQ hK f false listed a w (.inr ⟨rfl, rfl, fun j oj hj hWj => ?_⟩) (Region.free_spec hi hf) (by simpa using hr) hy hS (.inl hS) h
  have e : j = K := by simpa using hWj
  subst e
  unfold edgeB at hw
  rw [hj] at hw
  simp only [Option.any_some, Array.any_eq_true', Bool.and_eq_true, beq_iff_eq] at hw
  obtain ⟨e, h1, h2, h3⟩ := hw
  exact ⟨e, h1, h2, h3⟩
theorem wpN_step {i : Nat} {o : Oper} {f : Nat} {late : Bool} {listed : Array Bool} {a : Act} {w : World} (hr : Region.ready .any ops listed = [i]) (ho : ops[i]? = some o) (hw : Region.wanted o (yielded ops a.tmps) = true)
    (h : o.wp P a w (fun a' w' => (S w' ∨ (late || i == K) = true) ∧ wpN P ops Q S (fun j => j == K) f (late || i == K) (listed.setIfInBounds i true) a' w') Q) : wpN P ops Q S (fun j => j == K) (f + 1) late listed a w := by
  refine ⟨fun h0 => (by rw [hr] at h0; cases h0), fun j hj => ?_⟩
  rw [hr] at hj
  obtain rfl := List.mem_singleton.1 hj
  unfold wpOp
  rw [ho]
  simp only [hw, if_true]
  exact .inl h
theorem wpN_end {f : Nat} {late : Bool} {listed : Array Bool} {a : Act} {w : World} (hr : Region.ready .any ops listed = []) (h : Q .normal a w) : wpN P ops Q S (fun j => j == K) f late listed a w := by
  cases f with
  | zero => exact ⟨hr, h⟩
  | succ f => exact ⟨fun _ => h, fun j hj => by rw [hr] at hj; cases hj⟩
end
end Go.Proofs.Ytjfebbhnjcnepaa.Ev
namespace Go.Proofs.Ytjfebbhnjcnepaa
open Go Go.RowKit Go.Shelf
theorem own_typC {w : World} {B n : Nat} {e : TypeId} {v : Value} {xs : List Value} (h : w.ownsRow B e 1 v n xs) {k : Nat} (hk : v.ownBlock = some k) : k < w.heap.size ∧ B ≤ k ∧ ∃ cur, w.heap[k]? = some (.cells cur e (0, 0)) := by
  rcases h.2 with ⟨rfl, _⟩ | ⟨g, cap, cur, rfl, hB, hh, _⟩
  · cases hk
  · cases hk
    exact ⟨(Array.getElem?_eq_some_iff.1 hh).1, hB, _, hh⟩
theorem own_nothC {w : World} {B B' n n' : Nat} {e e' : TypeId} {v v' : Value} {xs xs' : List Value} (h : w.ownsRow B e 1 v n xs) (h' : w.ownsRow B' e' 1 v' n' xs') (he : e ≠ e') : v.ownBlock = none ∨ v.ownBlock ≠ v'.ownBlock := by
  cases q : v.ownBlock with
  | none => exact .inl rfl
  | some k =>
    refine .inr fun r => ?_
    obtain ⟨_, _, c1, h1⟩ := own_typC h q
    obtain ⟨_, _, c2, h2⟩ := own_typC h' r.symm
    rw [h1] at h2
    simp only [Option.some.injEq, Obj.cells.injEq] at h2
    exact he h2.2.1
theorem PX.own {B : Nat} {w w' : World} {v : Value} {xs : List Value} {ls : List (List Int)} (h : PX B w v xs ls) (h1 : ∀ b, v.ownBlock = some b → w'.heap[b]? = w.heap[b]?) (h2 : ∀ j, j < xs.length → ∀ b, (xs.getD j undef).ownBlock = some b → w'.heap[b]? = w.heap[b]?) : PX B w' v xs ls :=
  ⟨own_ofL h.row h1, ⟨h.apt.1, fun j hj => own_ofL (h.apt.2.1 j hj) (h2 j hj), h.apt.2.2⟩, h.byt⟩
theorem bk_setC {w : World} {b : Nat} {cs : Array Value} {t : TypeId} (h : w.heap[b]? = some (.cells cs t (0, 0))) {i : Nat} {v : Value} : (w.setCell ⟨b, i, none⟩ v).heap[b]? = some (.cells (cs.setIfInBounds i v) t (0, 0)) := by
  simp [World.setCell, Array.getElem?_modify, h]
theorem owp_appendC {o : Oper} {a : Act} {w w' : World} {K : Act → World → Prop} {Q : Exit → Act → World → Prop} {v v' : Value} {ad : Addr} {c : Nat} (s x : Operand)
    (ho : o.op = .call { callee := .builtin .append, args := #[s, x], argTypes := #[32, 32] }) (hs : a.eval s = v) (hx : a.eval x = .slice (some ad) 1 c)
    (hr : (Builtin.append_ #[32, 32] o.type #[v, .slice (some ad) 1 c]).run Try.prog w = .ok v' w') (h : K (a.put o.dst v') w') : o.wp Try.prog a w K Q := by
  unfold Oper.wp execOp
  simp only [ho, resolve, invoke, builtin, Sem.run_bind, Sem.run_pure, Result.andThen_ok, List.map_toArray, List.map_cons, List.map_nil, hs, hx, hr]
  exact h
theorem jn_ex {α β : Type} {J : α → β → (Nat → Prop) → World → Prop} (h : ∀ a, JN (J a)) : JN (fun s E W => ∃ a, J a s E W) where
  more := fun s E A C ⟨a, q⟩ hg => ⟨a, (h a).more s E A C q hg⟩
  turn := fun s E A C r ⟨a, q⟩ hE hg hs => ⟨a, (h a).turn s E A C r q hE hg hs⟩
  less := fun s E E' A ⟨a, q⟩ hl => ⟨a, (h a).less s E E' A q hl⟩
theorem jn_and {β : Type} {J : β → (Nat → Prop) → World → Prop} (h : JN J) (R : β → Prop) : JN (fun s E W => R s ∧ J s E W) where
  more := fun s E A C ⟨r, q⟩ hg => ⟨r, h.more s E A C q hg⟩
  turn := fun s E A C r' ⟨r, q⟩ hE hg hs => ⟨r, h.turn s E A C r' q hE hg hs⟩
  less := fun s E E' A ⟨r, q⟩ hl => ⟨r, h.less s E E' A q hl⟩
theorem in_region_N {P : Program} {ops : Array Oper} {K : Act → World → Prop} {Qq : Exit → Act → World → Prop} {S : World → Prop} {l n id : Nat} {a : Act} {w : World} (hm : P.follows .mixedOrders = true) (hc : ops.all (fun o => Ev.calmO o && Ev.dstFree [] o) = true) (k : Nat)
    (h : Ev.wpN P ops (fun e a' w' => e = .normal ∧ Exit.then K Qq e a' w') S (fun j => j == k) ops.size false (Array.replicate ops.size false) a w.drew) : (Code.region id ops true).wpIn (Fence.wide.inRound l) n P (Exit.then K Qq) a w :=
  wpIn_mono (wpIn_region_any hm (Ev.any_in (ro := some l) (Y := []) (yv := undef) (Q := fun e a' w' => e = .normal ∧ Exit.then K Qq e a' w') (fun e a w q => q.1) hc _ _ _ _ (Ev.wpAny_of_N (W := fun j => j == k) (S := S) _ false _ _ _ h) (fun y hy => by cases hy))) (fun e a' w' q => q.1.2)
structure MO (w : World) (D : Nat → Prop) (M : List (Nat × Obj)) (E : Nat → Prop) (W : World) : Prop where
  m : ∀ p ∈ M, W.heap[p.1]? = some p.2 ∧ ¬ E p.1
  e : ∀ i, E i → D i ∨ w.heap.size ≤ i
  o : W.os = w.os ∧ W.tape = w.tape ∧ W.output = w.output
  s : w.heap.size ≤ W.heap.size
  g : ∀ i, i < w.heap.size → ¬ D i → W.heap[i]? = w.heap[i]?
structure StO (X : Nat → Prop) (W W' : World) : Prop where
  sz : W.heap.size ≤ W'.heap.size
  fr : ∀ b, b < W.heap.size → ¬ X b → W'.heap[b]? = W.heap[b]?
  o : W'.os = W.os ∧ W'.tape = W.tape ∧ W'.output = W.output
theorem StO.ke {W W' : World} {E X : Nat → Prop} (hst : StO X W W') (hE : ∀ i, E i → i < W.heap.size) (hx : ∀ b, X b → ¬ E b) : KE E W W' := ⟨hst.sz, fun i hi => hst.fr i (hE i hi) fun q => hx i q hi⟩
theorem StO.of {W W' : World} {r : Option Nat} (h : W.grownBy W' r) : StO (fun b => r = some b) W W' := ⟨h.size, fun b hb hx => h.block b hb (fun e => hx e.symm), h.os, h.tape, h.output⟩
section
variable {w A C : World} {D E E' X : Nat → Prop} {M M' : List (Nat × Obj)}
theorem MO.more (h : MO w D M E A) (hg : A.grownBy C none) : MO w D M (fun i => E i ∨ (A.heap.size ≤ i ∧ i < C.heap.size)) C := by
  refine ⟨fun p hp => ?_, fun i hi => ?_, ⟨hg.os.trans h.o.1, hg.tape.trans h.o.2.1, hg.output.trans h.o.2.2⟩, Nat.le_trans h.s hg.size, fun i hi hd => (hg.block i (Nat.lt_of_lt_of_le hi h.s) (by simp)).trans (h.g i hi hd)⟩
  · have hl := (Array.getElem?_eq_some_iff.1 (h.m p hp).1).1
    exact ⟨(hg.block _ hl (by simp)).trans (h.m p hp).1, fun q => q.elim (h.m p hp).2 (fun z => by omega)⟩
  · rcases hi with z | z
    · exact h.e i z
    · have := h.s; exact .inr (by omega)
theorem MO.turn {r : Nat} (h : MO w D M E A) (hr : E r) (hg : A.grownBy C (some r)) : MO w D M E C :=
  ⟨fun p hp => ⟨(hg.block _ (Array.getElem?_eq_some_iff.1 (h.m p hp).1).1 (fun e => (h.m p hp).2 (by cases e; exact hr))).trans (h.m p hp).1, (h.m p hp).2⟩, h.e, ⟨hg.os.trans h.o.1, hg.tape.trans h.o.2.1, hg.output.trans h.o.2.2⟩, Nat.le_trans h.s hg.size, fun i hi hd => (hg.block i (Nat.lt_of_lt_of_le hi h.s) (fun e => by
    cases e
    rcases h.e _ hr with z | z
    · exact hd z
    · omega)).trans (h.g i hi hd)⟩
theorem MO.less (h : MO w D M E A) (hl : ∀ i, E' i → E i) : MO w D M E' A :=
  ⟨fun p hp => ⟨(h.m p hp).1, fun q => (h.m p hp).2 (hl _ q)⟩, fun i hi => h.e i (hl i hi), h.o, h.s, h.g⟩
theorem MO.sub (h : MO w D M E A) (hs : ∀ p ∈ M', p ∈ M) : MO w D M' E A := ⟨fun p hp => h.m p (hs p hp), h.e, h.o, h.s, h.g⟩
theorem MO.at (h : MO w D M E A) {b : Nat} {o : Obj} (hm : (b, o) ∈ M) : A.heap[b]? = some o := (h.m (b, o) hm).1
theorem MO.cell (h : MO w D M E A) {b : Nat} {v : Value} {t : TypeId} (hm : (b, Obj.cells #[v] t (0, 0)) ∈ M) : A.cell? ⟨b, 0, none⟩ = some v := (cell_of_row _ _ _ _ _ _ (h.at hm)).trans rfl
theorem MO.wr (h : MO w D M E A) (hst : StO X A C) (hx : ∀ b, X b → w.heap.size ≤ b) (hm : ∀ p ∈ M', C.heap[p.1]? = some p.2 ∧ ¬ E p.1) : MO w D M' E C :=
  ⟨hm, h.e, ⟨hst.o.1.trans h.o.1, hst.o.2.1.trans h.o.2.1, hst.o.2.2.trans h.o.2.2⟩, Nat.le_trans h.s hst.sz, fun i hi hd => (hst.fr i (Nat.lt_of_lt_of_le hi h.s) (fun q => by have := hx i q; omega)).trans (h.g i hi hd)⟩
theorem MO.st (h : MO w D M E A) (hst : StO X A C) (hx : ∀ b, X b → w.heap.size ≤ b) (hm : ∀ p ∈ M, ¬ X p.1) : MO w D M E C :=
  h.wr hst hx fun p hp => ⟨(hst.fr p.1 (Array.getElem?_eq_some_iff.1 (h.m p hp).1).1 (hm p hp)).trans (h.m p hp).1, (h.m p hp).2⟩
theorem MO.drew (h : MO w D M E A) : MO w D M E A.drew := ⟨h.m, h.e, h.o, h.s, h.g⟩
end
theorem keyedC {P : Nat → World → Prop} {K : Act → World → Prop} {G : Prop} (A : Nat → Act) (hkey : ∀ d W', P d W' → K (A d) W') (main : (∀ d W', P d W' → K (A d) W') → G) : G := main hkey
section
variable {F : Fence} {n : Nat} {ops : Array Oper} {Q : Exit → Act → World → Prop} {o : Oper} {rest : List Oper} {a : Act} {w w' : World}
theorem wpListIn_appC {v v' : Value} {ad : Addr} {c : Nat} (s x : Operand) (hg : o.guard = none)
    (ho : o.op = .call { callee := .builtin .append, args := #[s, x], argTypes := #[32, 32] }) (hs : a.eval s = v) (hx : a.eval x = .slice (some ad) 1 c)
    (hr : (Builtin.append_ #[32, 32] o.type #[v, .slice (some ad) 1 c]).run Try.prog w = .ok v' w') (h : wpListIn F n Try.prog ops Q rest (a.put o.dst v') w') : wpListIn F n Try.prog ops Q (o :: rest) a w := by
  refine wpListIn_plain hg fun K' hK' => ?_
  unfold Oper.wpIn
  refine ⟨?_, ?_⟩
  · simp [Oper.about, ho, resolve, Target.leads, Sem.run_pure]
  · rw [Oper.semAt_plain F _ _ (by rw [ho]; intro c hc'; cases hc')]
    simp only [execOp, ho, resolve, invoke, builtin, Sem.run_bind, Sem.run_pure, Result.andThen_ok, List.map_toArray, List.map_cons, List.map_nil, hs, hx, hr]
    exact hK' _ _ h
theorem wpListIn_litC (t : TypeId) (len : Nat) (parts : Array (Nat × Operand)) (hg : o.guard = none) (ho : o.op = .buildSlice t len parts) (ps : Array (Nat × Value)) (hps : (parts.map fun (i, x) => (i, a.eval x)) = ps) (v : Value)
    (hr : (Instr.buildSlice t len ps).run Try.prog w = .ok v w') (h : wpListIn F n Try.prog ops Q rest (a.put o.dst v) w') : wpListIn F n Try.prog ops Q (o :: rest) a w := by
  refine wpListIn_plain hg fun K' hK' => ?_
  unfold Oper.wpIn
  refine ⟨?_, ?_⟩
  · simp [Oper.about, ho]
  · rw [Oper.semAt_plain F _ _ (by rw [ho]; intro c hc'; cases hc')]
    simp only [execOp, ho, Sem.run_bind, hps, hr, Result.andThen_ok]
    exact hK' _ _ h
end
theorem eql_func_nilC : ∀ (w : World) (f : Fn) (a b : Array Value), (binOp .eql 28 (.func f a b) .nilFunc).run Try.prog w = .ok (.bool false) w := fun w f a b => by
  have h : ∀ d : Nat, (Op.equalIn (d + 1) 28 (.func f a b) .nilFunc).run Try.prog w = .ok false w := fun d => by
    simp [Op.equalIn, run_underlying Try.underlying28]
  simp only [binOp]
  simp [Op.equal, Op.maxDepth, h 9999]
theorem callRC {P : Program} {lp n : Nat} {f : FuncId} {args : Array Value} {w : World} {R : Ending → World → Prop} (h : Calls P f args w R) : CallsIn (Fence.wide.inRound lp) n P f args w R := CallsIn.inRound lp (callsIn_wide.2 h)
theorem owp_litC {P : Program} {o : Oper} {a : Act} {w w' : World} {K : Act → World → Prop} {Q : Exit → Act → World → Prop} (t : TypeId) (len : Nat) (parts : Array (Nat × Operand)) (ho : o.op = .buildSlice t len parts) (ps : Array (Nat × Value)) (hps : (parts.map fun (i, x) => (i, a.eval x)) = ps) (v : Value)
    (hr : (Instr.buildSlice t len ps).run P w = .ok v w') (h : K (a.put o.dst v) w') : Oper.wp P o a w K Q := by
  unfold Oper.wp execOp
  simp only [ho, Sem.run_bind, hps, hr, Result.andThen_ok]
  exact h
theorem run_lit_bsC (w : World) (p : Option Addr) (n c : Nat) : (Instr.buildSlice 32 1 #[(0, .slice p n c)]).run Try.prog w = .ok (.slice (some ⟨w.heap.size, 0, none⟩) 1 1) (w.alloc (.cells #[.slice p n c] 24)) := by kernel_rfl
theorem ke_set {E : Nat → Prop} {W : World} {b i : Nat} (hb : ¬ E b) (v : Value) : KE E W (W.setCell ⟨b, i, none⟩ v) := ⟨by simp, fun j hj => heap_setCell_other _ _ _ _ (by simpa using fun e : j = b => hb (e ▸ hj))⟩
theorem own_HLc {B : Nat} {w : World} {v : Value} {xs : List Value} {ls : List (List Int)} (h1 : w.ownsRow B TE 1 v ls.length xs) (hb : ∀ j, j < ls.length → HB w (xs.getD j undef) (ls.getD j [])) : HL w v ls := by
  by_cases h0 : 0 < ls.length
  · obtain ⟨g, cap, rfl, _, hn, hm, hc⟩ := ownsRow_cells h1 h0
    refine ⟨_, cap, rfl, hn, hm, (fun e => by cases e), fun _ => ⟨g, 0, rfl, fun j hj => ⟨xs.getD j undef, ?_, hb j hj⟩⟩⟩
    have hx : xs.length = ls.length := by have := h1.1; omega
    exact hc j _ (by simp [List.getD, List.getElem?_eq_getElem (show j < xs.length by omega)])
  · have e : ls = [] := List.length_eq_zero_iff.1 (by omega)
    subst e
    rcases h1.2 with ⟨rfl, _⟩ | ⟨g, cap, cur, rfl, _, _, hn, hm, _⟩
    · exact HL.nil _
    · exact ⟨_, cap, rfl, hn, hm, (fun e => by cases e), fun h => absurd rfl h⟩
theorem own_HVc {B n : Nat} {w : World} {v : Value} {xs : List Value} (h1 : w.ownsRow B TE 1 v n xs) (hx : xs.length = n) : HV w v xs := by
  subst hx
  by_cases h0 : 0 < xs.length
  · obtain ⟨g, cap, rfl, _, hn, hm, hc⟩ := ownsRow_cells h1 h0
    obtain ⟨_, _, cur, hh⟩ := own_typC h1 (k := g) rfl
    refine ⟨_, cap, rfl, hn, hm, fun _ => ⟨g, 0, rfl, ⟨cur, (0, 0), hh⟩, fun j hj => ?_⟩⟩
    exact hc j _ (by simp [List.getD, List.getElem?_eq_getElem hj])
  · have e : xs = [] := List.length_eq_zero_iff.1 (by omega)
    subst e
    rcases h1.2 with ⟨rfl, _⟩ | ⟨g, cap, cur, rfl, _, _, hn, hm, _⟩
    · exact ⟨_, _, rfl, Nat.le_refl _, Nat.zero_le _, fun h => absurd rfl h⟩
    · exact ⟨_, cap, rfl, hn, hm, fun h => absurd rfl h⟩
theorem bel_putC {B b : Nat} {w W : World} (h : Below B w W) (hb : B ≤ b) (o : Obj) : Below B w (W.putObj b o) := h.trans ⟨rfl, rfl, rfl, by simp, fun k hk => World.putObj_heap_other (by omega)⟩
theorem cell_putC {b : Nat} {W : World} {a : Addr} (h : a.block ≠ b) (o : Obj) : (W.putObj b o).cell? a = W.cell? a := by simp [World.cell?, World.putObj_heap_other h]
structure GO (B cb : Nat) (vg : Value) (xs : List Value) (lg : List (List Int)) (W : World) : Prop where
  c : W.heap[cb]? = some (.cells #[vg] 32 (0, 0))
  g : PX B W vg xs lg
def goB (cb : Nat) (vg : Value) (xs : List Value) (b : Nat) : Prop := b = cb ∨ vg.ownBlock = some b ∨ ∃ j, j < xs.length ∧ (xs.getD j undef).ownBlock = some b
section
variable {B cb : Nat} {W C : World} {vg : Value} {xs : List Value} {lg : List (List Int)}
theorem GO.keep (h : GO B cb vg xs lg W) (hk : ∀ b, goB cb vg xs b → C.heap[b]? = W.heap[b]?) : GO B cb vg xs lg C :=
  ⟨(hk cb (.inl rfl)).trans h.c, h.g.own (fun b e => hk b (.inr (.inl e))) (fun j hj b e => hk b (.inr (.inr ⟨j, hj, e⟩)))⟩
theorem GO.lt (h : GO B cb vg xs lg W) : ∀ b, goB cb vg xs b → b < W.heap.size := by
  rintro b (rfl | e | ⟨j, hj, e⟩)
  · exact (Array.getElem?_eq_some_iff.1 h.c).1
  · exact (h.g.lies.1 b e).2
  · exact (h.g.lies.2 j hj b e).2
theorem GO.low (h : GO B cb vg xs lg W) : ∀ b, goB cb vg xs b → b = cb ∨ B ≤ b := by
  rintro b (rfl | e | ⟨j, hj, e⟩)
  · exact .inl rfl
  · exact .inr (h.g.lies.1 b e).1
  · exact .inr (h.g.lies.2 j hj b e).1
theorem GO.start (h : W.heap[cb]? = some (.cells #[.slice none 0 0] 32 (0, 0))) : GO B cb (.slice none 0 0) [] [] W := ⟨h, PX.nil _ _⟩
theorem GO.got (h : GO B cb vg xs lg W) {S : Nat} {u : Value} {l : List Int} (hS : ∀ b, goB cb vg xs b → b < S) (hBS : B ≤ S) (hu : W.ownsRow S 5 1 u l.length (l.map (Value.int .u8))) (hby : BytI l) (hBW : B ≤ W.heap.size) (hSW : S ≤ W.heap.size) (hcb : cb < B) (hn : (lg.length + 1) * 24 ≤ 140737488355328) (ty : TypeId) :
    ∃ v' W2, (Builtin.append_ #[32, 32] ty #[vg, .slice (some ⟨W.heap.size, 0, none⟩) 1 1]).run Try.prog (W.alloc (.cells #[u] 24)) = .ok v' W2 ∧ W2.heap[cb]? = some (.cells #[vg] 32 (0, 0)) ∧ (∀ b, b < W.heap.size → vg.ownBlock ≠ some b → W2.heap[b]? = W.heap[b]?) ∧
      (∃ p c, v' = .slice p (lg.length + 1) c) ∧ GO B cb v' (xs ++ [u]) (lg ++ [l]) (W2.setCell ⟨cb, 0, none⟩ v') ∧ StO (goB cb vg xs) W (W2.setCell ⟨cb, 0, none⟩ v') ∧ (∀ b, goB cb v' (xs ++ [u]) b → goB cb vg xs b ∨ S ≤ b) := by
  obtain ⟨pu, cu, eu⟩ := own_slc hu
  obtain ⟨W1, HW1⟩ : ∃ x, W.alloc (.cells #[u] 24) = x := ⟨_, rfl⟩
  have hs1 : W1.heap.size = W.heap.size + 1 := by rw [← HW1]; simp
  have b1 : ∀ b, b < W.heap.size → W1.heap[b]? = W.heap[b]? := fun b hb => by rw [← HW1]; exact Below.heap_alloc W _ b hb
  have g1 := h.g.own (w' := W1) (fun b e => b1 b (h.lt b (.inr (.inl e)))) (fun j hj b e => b1 b (h.lt b (.inr (.inr ⟨j, hj, e⟩))))
  have u1 : W1.ownsRow S 5 1 u l.length (l.map (Value.int .u8)) := own_ofL hu fun b e => b1 b (own_typC hu e).1
  have c1 : W1.heap[cb]? = some (.cells #[vg] 32 (0, 0)) := (b1 cb (h.lt cb (.inl rfl))).trans h.c
  have hc : W1.cell? ⟨W.heap.size, 0, none⟩ = some u := by rw [← HW1, cell_of_row _ _ _ _ _ _ (heap_alloc_new W _)]; rfl
  obtain ⟨v', W2, hr, h2, h3, h4⟩ := run_append_slice W1 B ty vg lg.length xs g1.row ⟨W.heap.size, 0, none⟩ 1 u hc (by rw [eu]; rfl) hn (by omega)
  have hg1 : W.grownBy W1 none := by rw [← HW1]; exact World.grownBy_alloc W _ none
  have keep2 : ∀ b, b < W1.heap.size → vg.ownBlock ≠ some b → W2.heap[b]? = W1.heap[b]? := fun b hb hne => h3.block b hb fun e => hne e.symm
  have c2 : W2.heap[cb]? = some (.cells #[vg] 32 (0, 0)) := (keep2 cb (by have := h.lt cb (.inl rfl); omega) fun e => by have := (h.g.lies.1 cb e).1; omega).trans c1
  have hfresh : ∀ j, j < xs.length → u.ownBlock = none ∨ u.ownBlock ≠ (xs.getD j undef).ownBlock := fun j hj => by
    cases q : u.ownBlock with
    | none => exact .inl rfl
    | some b =>
      refine .inr fun z => ?_
      have h5 := (own_typC hu q).2.1
      have h6 := hS b (.inr (.inr ⟨j, hj, z.symm⟩))
      omega
  have hv'b : ∀ b, v'.ownBlock = some b → vg.ownBlock = some b ∨ W1.heap.size ≤ b := fun b e => by
    rcases h4 with q | q
    · exact .inl (q.symm.trans e)
    · rw [q] at e
      have := Option.some.inj e
      exact .inr (by omega)
  have r2 : ∀ {t : TypeId} {n : Nat} {v : Value} {ys : List Value} {B' : Nat}, W1.ownsRow B' t 1 v n ys → (v.ownBlock = none ∨ v.ownBlock ≠ vg.ownBlock) → W2.ownsRow B' t 1 v n ys := fun ho hd => own_ofL ho fun b e => keep2 b (own_typC ho e).1 fun z => by
    rcases hd with q | q
    · rw [q] at e; cases e
    · exact q (e.trans z.symm)
  have hxne : ∀ j, j < xs.length → (xs.getD j undef).ownBlock = none ∨ (xs.getD j undef).ownBlock ≠ vg.ownBlock := fun j hj => by
    rcases own_nothC (g1.apt.2.1 j hj) g1.row (by decide) with q | q
    · exact .inl q
    · exact .inr q
  have hune : u.ownBlock = none ∨ u.ownBlock ≠ vg.ownBlock := own_nothC u1 g1.row (by decide)
  have apt2 : Apt B W2 xs lg := ⟨g1.apt.1, fun j hj => r2 (g1.apt.2.1 j hj) (hxne j hj), g1.apt.2.2⟩
  have u2 : W2.ownsRow B 5 1 u l.length (l.map (Value.int .u8)) := own_mono (r2 u1 hune) hBS
  have px2 : PX B W2 v' (xs ++ [u]) (lg ++ [l]) := ⟨by rw [List.length_append]; exact h2, apt2.snoc u2 hfresh, fun j hj => by
    rw [List.length_append, List.length_singleton] at hj
    rw [getD_app]
    split
    · exact h.g.byt j ‹_›
    · have e : j - lg.length = 0 := by omega
      rw [e]
      exact hby⟩
  have nb : ∀ b, b ≠ cb → (W2.setCell ⟨cb, 0, none⟩ v').heap[b]? = W2.heap[b]? := fun b hb => heap_setCell_other _ _ _ _ (by simpa using hb)
  have hsz2 : W1.heap.size ≤ W2.heap.size := h3.size
  have geB : ∀ {t : TypeId} {n : Nat} {v : Value} {ys : List Value}, W2.ownsRow B t 1 v n ys → ∀ b, v.ownBlock = some b → b ≠ cb := fun ho b e => by have := (own_typC ho e).2.1; omega
  have px3 := px2.own (w' := W2.setCell ⟨cb, 0, none⟩ v') (fun b e => nb b (geB px2.row b e)) (fun j hj b e => nb b (geB (px2.apt.2.1 j hj) b e))
  refine ⟨v', W2, by rw [HW1]; exact hr, c2, fun b hb hne => (keep2 b (by omega) hne).trans (b1 b hb), own_slc h2, ⟨?_, px3⟩, ⟨by simp; omega, fun b hb hx => ?_, ?_⟩, fun b hb => ?_⟩
  · rw [bk_setC c2]
    rfl
  · rw [nb b (fun e => hx (.inl e)), keep2 b (by omega) (fun e => hx (.inr (.inl e))), b1 b hb]
  · exact ⟨h3.os.trans hg1.os, h3.tape.trans hg1.tape, h3.output.trans hg1.output⟩
  · rcases hb with rfl | e | ⟨j, hj, e⟩
    · exact .inl (.inl rfl)
    · rcases hv'b b e with q | q
      · exact .inl (.inr (.inl q))
      · exact .inr (by omega)
    · rw [getD_app] at e
      split at e
      · exact .inl (.inr (.inr ⟨j, ‹_›, e⟩))
      · rw [List.length_append, List.length_singleton] at hj
        have e0 : j - xs.length = 0 := by omega
        rw [e0] at e
        exact .inr (own_typC hu e).2.1
end
theorem jn_GO (B cb : Nat) (w : World) (D : Nat → Prop) (M : List (Nat × Obj)) (vg : Value) (xs : List Value) (lg : List (List Int)) : JN (fun (_ : Unit) E W => (GO B cb vg xs lg W ∧ ∀ b, goB cb vg xs b → ¬ E b) ∧ MO w D M E W) where
  more := fun s E A C ⟨⟨h1, h2⟩, h3⟩ hg => ⟨⟨h1.keep fun b hb => hg.block b (h1.lt b hb) (by simp), fun b hb q => q.elim (h2 b hb) (fun z => by have := h1.lt b hb; omega)⟩, h3.more hg⟩
  turn := fun s E A C r ⟨⟨h1, h2⟩, h3⟩ hE hg _ => ⟨⟨h1.keep fun b hb => hg.block b (h1.lt b hb) (fun e => h2 b hb (by cases e; exact hE)), h2⟩, h3.turn hE hg⟩
  less := fun s E E' A ⟨⟨h1, h2⟩, h3⟩ hl => ⟨⟨h1, fun b hb q => h2 b hb (hl b q)⟩, h3.less hl⟩
def GOI (B cb : Nat) (w : World) (D : Nat → Prop) (M : List (Nat × Obj)) (ls : List (List Int)) (E : Nat → Prop) (W : World) : Prop :=
  ∃ vg xs, ((GO B cb vg xs ls W ∧ ∀ b, goB cb vg xs b → ¬ E b) ∧ ∀ p ∈ M, ¬ goB cb vg xs p.1) ∧ MO w D M E W
theorem jn_GOI {β : Type} (B cb : Nat) (w : World) (D : Nat → Prop) (M : List (Nat × Obj)) (ls : β → List (List Int)) (R : β → Prop) : JN (fun s E W => R s ∧ GOI B cb w D M (ls s) E W) where
  more := fun s E A C ⟨hr, vg, xs, ⟨h1, h4⟩, h3⟩ hg => by
    have := (jn_GO B cb w D M vg xs (ls s)).more () E A C ⟨h1, h3⟩ hg
    exact ⟨hr, vg, xs, ⟨this.1, h4⟩, this.2⟩
  turn := fun s E A C r ⟨hr, vg, xs, ⟨h1, h4⟩, h3⟩ hE hg hs => by
    have := (jn_GO B cb w D M vg xs (ls s)).turn () E A C r ⟨h1, h3⟩ hE hg hs
    exact ⟨hr, vg, xs, ⟨this.1, h4⟩, this.2⟩
  less := fun s E E' A ⟨hr, vg, xs, ⟨h1, h4⟩, h3⟩ hl => by
    have := (jn_GO B cb w D M vg xs (ls s)).less () E E' A ⟨h1, h3⟩ hl
    exact ⟨hr, vg, xs, ⟨this.1, h4⟩, this.2⟩
theorem jn_un {β : Type} {J : Unit → (Nat → Prop) → World → Prop} (h : JN J) : JN (fun (_ : β) E W => J () E W) where
  more := fun s E A C q hg => h.more () E A C q hg
  turn := fun s E A C r q hE hg hs => h.turn () E A C r q hE hg hs
  less := fun s E E' A q hl => h.less () E E' A q hl
theorem set_same {W : World} {b : Nat} {v : Value} {t : TypeId} (h : W.heap[b]? = some (.cells #[v] t (0, 0))) (i : Nat) : (W.setCell ⟨b, 0, none⟩ v).heap[i]? = W.heap[i]? := by
  by_cases e : i = b
  · subst e
    rw [bk_setC h, h]
    rfl
  · exact heap_setCell_other _ _ _ _ (by simpa using e)
end Go.Proofs.Ytjfebbhnjcnepaa
