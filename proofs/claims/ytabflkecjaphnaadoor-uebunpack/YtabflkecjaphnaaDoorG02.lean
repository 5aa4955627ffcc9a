/- Of the road to uebUnpackCard_holds: UaC, BsShelfD, BsNum, UbApp, UbShelf, Slices, UbCutF, UbMay, Arrays, BkT, Clone. -/
import Derived.Test.YtabflkecjaphnaaDoorG01
import Derived.Shelf.Small.Strs
import Derived.Shelf.Strconv.Atoi
import Derived.Shelf.Strconv.Itoa0
import Derived.Shelf.Strconv.Itoa1
import Derived.Shelf.LaysM
import Derived.Shelf.Strconv.Itoa2
import Derived.Shelf.Strconv.Itoa3
import Derived.Shelf.Strconv.AtoiErrFast
import Derived.Shelf.Strconv.ParseIntEmpty
import Derived.Shelf.Strconv.AtoiFail
import Derived.Shelf.Strconv.Clone
import Derived.Shelf.Strconv.SyntaxError
import Derived.Shelf.LaysC
import Derived.Shelf.Strconv.ToError
import Derived.Shelf.Strconv.Lower
import Derived.Shelf.Strconv.ParseUint10
import Derived.Shelf.Strconv.ParseUint10Empty
import Derived.Shelf.Strconv.ParseUint10Any
import Derived.Shelf.Strconv.ParseInt10
import Derived.Shelf.Strconv.AtoiLong
import Derived.Shelf.Strconv.AtoiInnerAll
import Derived.Shelf.Strconv.RangeError
import Derived.Shelf.Strconv.ToErrorRange
import Derived.Shelf.Strconv.AtoiAll
import Derived.Shelf.Strconv.ErrVarAll
import Derived.Shelf.Strings.Search1
import Derived.Shelf.Bytes.SlIndexAt
import Derived.Shelf.Bytes.SlSearch0
import Derived.Shelf.Bytes.IndexByte
import Derived.Test.YtabflkecjaphnaaDoorChecked
import Derived.Test.YtabflkecjaphnaaDoorG00
import Derived.Lib.AppendIntMem
import Derived.Lib.SmallJoins
import Derived.Lib.AtoiBound
import Derived.Lib.AtoiAllMem
import Derived.Lib.AppendStr
import Derived.Laws.AppendOwnNone
import Derived.Laws.Cover1
import Derived.Deep.MidRow
set_option linter.unusedVariables false
set_option linter.unusedSimpArgs false
namespace Go.Proofs.YtabflkecjaphnaaDoor
open Go Go.RowKit
section
variable {ops : Array Oper} {Q : Exit → Act → World → Prop} {o : Oper} {rest : List Oper} {a : Act} {w w' : World}
theorem wpList_appG {t : TypeId} {v v' : Value} {p : Option Addr} {m c : Nat} (s x : Operand) (hg : o.guard = none)
    (ho : o.op = .call { callee := .builtin .append, args := #[s, x], argTypes := #[t, t] }) (hs : a.eval s = v) (hx : a.eval x = .slice p m c)
    (hr : (Builtin.append_ #[t, t] o.type #[v, .slice p m c]).run Tryd.prog w = .ok v' w') (h : wpList Tryd.prog ops Q rest (a.put o.dst v') w') : wpList Tryd.prog ops Q (o :: rest) a w := by
  refine wpList_plain hg fun K hK => ?_
  unfold Oper.wp
  simp [execOp, ho, resolve, invoke, builtin, hs, hx, hr, Result.andThen]
  exact hK _ _ h
end
theorem info_bsS : (Tryd.prog.info? 22).map (fun i => (i.zero, i.size, i.bytes)) = some (some (.slice none 0 0), 1, 24) := by kernel_rfl
theorem app_oneS {w : World} {base n c : Nat} {v u : Value} {xs : List Value} {ty : TypeId} {a : Addr} (hown : w.ownsRow base 22 1 v n xs) (hu : w.cell? a = some u) (h1 : u.oneCell' = true) (hn : n ≤ 100000) (hbase : base ≤ w.heap.size) :
    ∃ v' w', (Builtin.append_ #[42, 42] ty #[v, .slice (some a) 1 c]).run Tryd.prog w = .ok v' w' ∧ w'.ownsRow base 22 1 v' (n + 1) (xs ++ [u]) ∧ w.grownBy w' v.ownBlock := by
  obtain ⟨i0, hi, hz0, hz1, hz2⟩ := info_parts info_bsS
  obtain ⟨v', w', h2, h3, h4, _⟩ := run_appS (ty := ty) Tryd.underlying42 hi hz0 hz1 hz2 rfl (by decide) (by decide) hown (a := a) (c := c) (us := [u]) rfl (fun j q hj => by
    match j, hj with
    | 0, hj => simp at hj; subst hj; simpa [Addr.add] using hu) (fun q hq => by simp at hq; subst hq; exact h1) hn hbase
  exact ⟨v', w', h2, h3, h4⟩
theorem app_rowsS {w : World} {base n c : Nat} {v u : Value} {xs : List Value} {ty : TypeId} {a : Addr} (hown : w.ownsRow base 24 1 v n xs) (hu : w.cell? a = some u) (h1 : u.oneCell' = true) (hn : n ≤ 100000) (hbase : base ≤ w.heap.size) :
    ∃ v' w', (Builtin.append_ #[32, 32] ty #[v, .slice (some a) 1 c]).run Tryd.prog w = .ok v' w' ∧ w'.ownsRow base 24 1 v' (n + 1) (xs ++ [u]) ∧ w.grownBy w' v.ownBlock := by
  obtain ⟨i0, hi, hz0, hz1, hz2⟩ := info_parts info_rlS
  obtain ⟨v', w', h2, h3, h4, _⟩ := run_appS (ty := ty) Tryd.underlying32 hi hz0 hz1 hz2 rfl (by decide) (by decide) hown (a := a) (c := c) (us := [u]) rfl (fun j q hj => by
    match j, hj with
    | 0, hj => simp at hj; subst hj; simpa [Addr.add] using hu) (fun q hq => by simp at hq; subst hq; exact h1) hn hbase
  exact ⟨v', w', h2, h3, h4⟩
theorem app_rowS {w : World} {base n c b : Nat} {v : Value} {s : ByteArray} {xs : List Value} {ty : TypeId} (hown : w.ownsRow base TR 2 v n xs) (h0 : w.heap[b]? = some (.cells #[.string s, .slice none 0 0] TR (0, 0))) (hn : n ≤ 100000) (hbase : base ≤ w.heap.size) :
    ∃ v' w', (Builtin.append_ #[24, 24] ty #[v, .slice (some ⟨b, 0, none⟩) 1 c]).run Tryd.prog w = .ok v' w' ∧ w'.ownsRow base TR 2 v' (n + 1) (xs ++ [.string s, .slice none 0 0]) ∧ w.grownBy w' v.ownBlock ∧
      ((∃ g cap, v = .slice (some ⟨g, 0, none⟩) n cap ∧ v' = .slice (some ⟨g, 0, none⟩) (n + 1) cap) ∨ (v'.ownBlock = some w.heap.size ∧ w.grownBy w' none)) := by
  obtain ⟨i0, hi, hz0, hz1, hz2⟩ := info_parts info_rwS
  exact run_appS (ty := ty) Tryd.underlying24 hi hz0 hz1 hz2 rfl (by decide) (by decide) hown (us := [.string s, .slice none 0 0]) rfl (fun j q hj => by
    rw [Go.WideShapes.add_plain, cell_of_row _ _ _ _ _ _ h0]
    match j, hj with
    | 0, hj => simpa using hj
    | 1, hj => simpa using hj) (fun q hq => by simp at hq; rcases hq with rfl | rfl <;> rfl) hn hbase
theorem hb_two (W : World) (b K I : Nat) (h : W.heap[b]? = some (.cells #[.int .u8 ((K : Int) % 256), .int .u8 ((I : Int) % 256)] 5 (0, 0))) : HB W (.slice (some ⟨b, 0, none⟩) 2 2) [(K : Int) % 256, (I : Int) % 256] := by
  refine ⟨⟨_, 2, rfl, Nat.le_refl _, by unfold maxLen; omega, (fun e => by cases e), fun _ => ⟨b, 0, rfl, fun i hi => ?_⟩⟩, fun x hx => ?_⟩
  · rw [cell_of_row _ _ _ _ _ _ h]
    match i, hi with
    | 0, _ => rfl
    | 1, _ => rfl
  · simp only [List.mem_cons, List.not_mem_nil, or_false] at hx
    rcases hx with rfl | rfl <;> omega
theorem HVR.at' {w : World} {v : Value} {us : List Value} (h : HVR w v us) {b off n c : Nat} (e : v = .slice (some ⟨b, off, none⟩) n c) {k : Nat} (hk : k < us.length) : w.cell? ⟨b, off + k, none⟩ = some (us.getD k undef) := h.at e hk
set_option maxRecDepth 100000 in
set_option maxHeartbeats 64000000 in
theorem apartRows_any (B : Nat) (w : World) (v : Value) (us : List Value) (vss : List (List Value)) (ls : List (List Int)) (hv : HVR w v us) (hl : us.length = vss.length)
    (hr : ∀ k, k < us.length → ∃ xs, w.ownsRow B TR 2 (us.getD k undef) (vss.getD k []).length xs ∧ ∀ i, i < (vss.getD k []).length → xs[i * 2 + 1]? = some ((vss.getD k []).getD i undef))
    (ha : Apt B w vss.flatten ls) (hd : DisU us) (hB : B ≤ w.heap.size) (hx : ∀ k, (vss.getD k []).length ≤ 1000) (hf : vss.flatten.length ≤ 10000) (hu3 : us.length ≤ 100) (hls : ∀ k, (ls.getD k []).length ≤ 140737488351232) :
    Calls Tryd.prog 10 #[v] w fun e w' => e = .returned (.bool true) ∧ Below B w w' := by
  obtain ⟨p, c, e, hlc, hm, hcell⟩ := id hv
  unfold maxLen at hm
  subst e
  have A : Hid (0 < us.length → ∃ b off, p = some ⟨b, off, none⟩ ∧ b < w.heap.size) := hid (fun h0 => by
    obtain ⟨b, off, e, ⟨cs, hb⟩, _⟩ := hcell (by intro e; subst e; simp at h0)
    exact ⟨b, off, e, (Array.getElem?_eq_some_iff.1 hb).1⟩)
  have HV0 := hid hv
  have HR := hid hr
  have HA := hid ha
  have HD := hid hd
  have HX := hid hx
  have HF := hid hf
  have HLS := hid hls
  have HLX := hid hl
  obtain ⟨ns, HNS⟩ : ∃ ns : List Nat, Hid (∀ k, ns.getD k 0 = (vss.getD k []).length) := ⟨vss.map List.length, hid (fun k => by simp only [List.getD, List.getElem?_map]; cases vss[k]? <;> rfl)⟩
  clear hv hr ha hd hx hls hcell hl hf
  go_enter Tryd.func10, Tryd.ntmps10
  go_wp2
  go_loopw [3, 4] (fun va k wr => ∃ K : Nat, K ≤ us.length ∧ k = .int .i64 (K : Int) ∧ Hid (wr.ownsRow w.heap.size 22 1 va ((vss.take K).flatten).length ((vss.take K).flatten)) ∧ Hid (Below w.heap.size w wr)) (fun _ k _ => us.length - (intOf k).toNat)
  case atStart => exact ⟨0, Nat.zero_le _, rfl, hid (World.ownsRow_nil _ _ _ _), hid (Below.refl _ _)⟩
  case round =>
    obtain ⟨K, hK, rfl, HO, HBr⟩ := hrel
    by_cases hlt : K < us.length
    · obtain ⟨b, off, rfl, _⟩ := A.out (by omega)
      have hfl : Hid (((vss.take (K + 1)).flatten).length ≤ 10000) := hid (by
        have e : vss.flatten = (vss.take (K + 1)).flatten ++ (vss.drop (K + 1)).flatten := by rw [← List.flatten_append, List.take_append_drop]
        have hf := HF.out
        rw [e, List.length_append] at hf
        omega)
      obtain ⟨xs0, hrow, hval⟩ := HR.out K hlt
      obtain ⟨pk, ck, eu⟩ := own_slcS hrow
      obtain ⟨xs, HXS⟩ : ∃ xs, Hid (vss.getD K [] = xs) := ⟨_, hid rfl⟩
      have hflat := flat_takeL vss K (by have := HLX.out; omega)
      rw [HXS.out] at eu hrow hflat hval
      have EU : Hid (∀ W, Below w.heap.size w W → W.cell? ⟨b, off + K, none⟩ = some (.slice pk xs.length ck)) := hid (fun W hW => by
        have := (HV0.out.below hW).at rfl hlt
        rw [eu] at this
        exact this)
      rw [eu] at hrow
      have HROW := hid hrow
      have HVAL := hid hval
      obtain ⟨pre, HPRE⟩ : ∃ x, Hid ((vss.take K).flatten = x) := ⟨_, hid rfl⟩
      rw [HPRE.out] at HO hflat
      rw [hflat] at hfl
      rw [List.length_append] at hfl
      have hk1 : (K : Int) < (us.length : Int) := by omega
      have hmem : Hid (∀ j, j < xs.length → ∃ px cx nx, xs.getD j undef = .slice px nx cx) := hid (fun j hj => by
        have hidx : ∃ q, q < vss.flatten.length ∧ vss.flatten.getD q undef = xs.getD j undef := by
          have e : vss.flatten = (pre ++ xs) ++ (vss.drop (K + 1)).flatten := by rw [← hflat, ← List.flatten_append, List.take_append_drop]
          refine ⟨pre.length + j, by rw [e]; simp; omega, ?_⟩
          rw [e, getD_app, if_pos (by simp; omega), getD_app, if_neg (by omega), Nat.add_sub_cancel_left]
        obtain ⟨q, hq, eq⟩ := hidx
        obtain ⟨p', c', e'⟩ := own_slcS (HA.out.2.1 q hq)
        rw [eq] at e'
        exact ⟨p', c', _, e'⟩)
      clear hrow eu hval
      go_wp2
      go_loopw [3, 5] (fun va i wz => ∃ I : Nat, I ≤ xs.length ∧ i = .int .i64 (I : Int) ∧ Hid (wz.ownsRow w.heap.size 22 1 va ((pre ++ xs.take I).length) (pre ++ xs.take I)) ∧ Hid (Below w.heap.size w wz)) (fun _ i _ => xs.length - (intOf i).toNat)
      case atStart => exact ⟨0, Nat.zero_le _, rfl, hid (by rw [List.take_zero, List.append_nil]; exact HO.out), HBr⟩
      case round =>
        clear HO HBr
        obtain ⟨I, hI, rfl, HO, HBr⟩ := hrel
        have hc1 := EU.out wr HBr.out
        by_cases hli : I < xs.length
        · obtain ⟨px, cx, nx, ex⟩ := hmem.out I hli
          have hrw := own_ofS HROW.out (w' := wr) (fun b' e => HBr.out.block b' (own_atS HROW.out e).1)
          obtain ⟨g, e2, hc2⟩ := own_cellS hrw (HVAL.out I hli)
          rw [ex] at hc2
          subst e2
          have hlek : xs.length ≤ ck := by
            rcases hrw.2 with ⟨q, _⟩ | ⟨g', cap, cur, q, _, _, hn', _⟩
            · cases q
            · simp only [Value.slice.injEq] at q
              omega
          obtain ⟨WL, HWL⟩ : ∃ W : World, Hid (wr.alloc (.cells #[.slice px nx cx] 22) = W) := ⟨_, hid rfl⟩
          have BL : Below wr.heap.size wr WL := by rw [← HWL.out]; exact (Below.refl _ _).alloc (Nat.le_refl _) _
          have OL := own_ofS HO.out (w' := WL) (fun b' e => BL.block b' (own_atS HO.out e).1)
          have CL : WL.cell? ⟨wr.heap.size, 0, none⟩ = some (.slice px nx cx) := by rw [cell_of_row _ _ _ _ _ _ (show WL.heap[wr.heap.size]? = some (.cells #[.slice px nx cx] 22 (0, 0)) by rw [← HWL.out]; exact heap_alloc_new _ _)]; rfl
          have hlow : w.heap.size ≤ WL.heap.size := Nat.le_trans HBr.out.size BL.size
          obtain ⟨v1, w1, hr1, ho, hg⟩ := app_oneS (c := 1) (ty := 42) OL CL rfl (by have := hfl.out; simp; omega) hlow
          have HR1 := hid hr1
          have HO2 : Hid (w1.ownsRow w.heap.size 22 1 v1 ((pre ++ xs.take (I + 1)).length) (pre ++ xs.take (I + 1))) := hid (by
            have e1 : pre ++ xs.take (I + 1) = (pre ++ xs.take I) ++ [.slice px nx cx] := by
              rw [List.append_assoc, List.take_succ_eq_append_getElem hli]
              have : xs[I] = .slice px nx cx := by
                rw [← ex]
                simp [List.getD, List.getElem?_eq_getElem hli]
              rw [this]
            rw [e1, List.length_append, List.length_singleton]
            exact ho)
          have HB2 : Hid (Below w.heap.size w w1) := hid ((HBr.out.trans (BL.mono HBr.out.size)).grown hg hlow (fun b' e => (own_atS OL e).2.1))
          have w9 : IntKind.i64.wrap ((I : Int) + 1) = ((I + 1 : Nat) : Int) := by rw [IntKind.wrap_i64]; have := HX.out K; rw [HXS.out] at this; omega
          have hi1 : (I : Int) < (xs.length : Int) := by omega
          clear ho hg hrw ex OL CL BL hlow hr1
          go_wp2_with (first | rw [HWL.out] | (at_builtin; refine wpList_appG (.tmp 30) (.tmp 39) rfl rfl rfl rfl HR1.out ?_) | fail)
          exact ⟨⟨I + 1, hli, by go_num, HO2, HB2⟩, by simp [intOf]; omega⟩
        · have hi1 : ¬ ((I : Int) < (xs.length : Int)) := by omega
          have w9 : IntKind.i64.wrap ((K : Int) + 1) = ((K + 1 : Nat) : Int) := by rw [IntKind.wrap_i64]; omega
          have HO2 : Hid (wr.ownsRow w.heap.size 22 1 u3 ((vss.take (K + 1)).flatten).length ((vss.take (K + 1)).flatten)) := hid (by rw [hflat]; have := HO.out; rwa [List.take_of_length_le (by omega)] at this)
          clear HO
          go_wp2
          exact ⟨⟨K + 1, hlt, by go_num, HO2, HBr⟩, by simp [intOf]; omega⟩
    · obtain rfl : K = us.length := by omega
      have hall : vss.take us.length = vss := List.take_of_length_le (by have := HLX.out; omega)
      rw [hall] at HO
      have Apt1 : Hid (Apt B wr vss.flatten ls) := hid ⟨HA.out.1, fun k hk => own_ofS (HA.out.2.1 k hk) (fun b' e => HBr.out.block b' (own_atS (HA.out.2.1 k hk) e).1), HA.out.2.2⟩
      have HVa : HV wr u3 vss.flatten := by
        by_cases h0 : 0 < vss.flatten.length
        · obtain ⟨g, cap, rfl, _, hnc, hcm, hcc⟩ := ownsRow_cells HO.out h0
          obtain ⟨_, _, cs, hh⟩ := own_atS HO.out (b := g) rfl
          exact ⟨_, cap, rfl, hnc, hcm, fun _ => ⟨g, 0, rfl, ⟨cs, (0, 0), hh⟩, fun k hk => hcc k _ (by simp [List.getD, List.getElem?_eq_getElem hk])⟩⟩
        · have e0 : vss.flatten = [] := List.length_eq_zero_iff.1 (by omega)
          rw [e0] at HO ⊢
          rcases HO.out.2 with ⟨e, _⟩ | ⟨g, cap, cur, e, _, _, hnc, hcm, _⟩
          · exact ⟨none, 0, e, Nat.le_refl _, Nat.zero_le _, fun h => absurd rfl h⟩
          · exact ⟨_, cap, e, hnc, hcm, fun h => absurd rfl h⟩
      have AF := hid (apart_anyF B wr u3 vss.flatten ls HVa Apt1.out (Nat.le_trans hB HBr.out.size) (by have := HF.out; omega) HLS.out)
      have hk1 : ¬ ((us.length : Int) < (us.length : Int)) := by omega
      clear HVa Apt1 hlt hK
      go_wp2_with fail
      refine AF.out.mono ?_
      rintro e W2 ⟨rfl, hbf⟩
      have PS : Hid (P3 B w W2 (.slice p us.length c) us ns 0 0) := hid (by
        refine ⟨(HV0.out.below HBr.out).keep (fun b cs q => hbf.typ b cs _ _ q (by decide)), fun k hk => ?_, (HBr.out.mono hB).trans hbf.bel⟩
        obtain ⟨xs, q1, -⟩ := HR.out k hk
        have q2 := own_ofS q1 (w' := wr) (fun b' e => HBr.out.block b' (own_atS q1 e).1)
        have q3 := own_ofS q2 (w' := W2) (fun b' e => by obtain ⟨_, _, cs, q⟩ := own_atS q2 e; exact hbf.typ b' cs _ _ q (by decide))
        rw [HNS.out k]
        exact ⟨_, q3, fun j hj _ => by simp [cntL] at hj⟩)
      have sB : Hid (B ≤ W2.heap.size) := hid (Nat.le_trans hB (Nat.le_trans HBr.out.size hbf.size))
      have sW : Hid (w.heap.size ≤ W2.heap.size) := hid (Nat.le_trans HBr.out.size hbf.size)
      clear AF hbf HO HBr
      go_wp2
      go_loopw [6] (fun k wr => ∃ K : Nat, K ≤ us.length ∧ k = .int .i64 (K : Int) ∧ Hid (P3 B w wr (.slice p us.length c) us ns K 0) ∧ Hid (W2.heap.size ≤ wr.heap.size)) (fun k _ => us.length - (intOf k).toNat)
      case atStart => exact ⟨0, Nat.zero_le _, rfl, PS, hid (Nat.le_refl _)⟩
      case round =>
        clear PS
        obtain ⟨K, hK, rfl, HP, HZ⟩ := hrel
        by_cases hlt : K < us.length
        · obtain ⟨b, off, rfl, hbw⟩ := A.out (by omega)
          obtain ⟨nk, HNK⟩ : ∃ x, Hid (ns.getD K 0 = x) := ⟨_, hid rfl⟩
          have hnk : nk ≤ 1000 := by rw [← HNK.out, HNS.out K]; exact HX.out K
          obtain ⟨pk, ck, EU⟩ : ∃ pk ck, Hid (us.getD K undef = .slice pk nk ck) := by
            obtain ⟨xs, q1, _⟩ := HP.out.row K hlt
            obtain ⟨pk, ck, e⟩ := own_slcS q1
            rw [HNK.out] at e
            exact ⟨pk, ck, hid e⟩
          have hk2 : (K : Int) < (us.length : Int) := by omega
          have hc1 := HP.out.hv.at rfl hlt
          rw [EU.out] at hc1
          go_wp2
          go_loopw [7] (fun i wz => ∃ I : Nat, I ≤ nk ∧ i = .int .i64 (I : Int) ∧ Hid (P3 B w wz (.slice (some ⟨b, off, none⟩) us.length c) us ns K I) ∧ Hid (W2.heap.size ≤ wz.heap.size)) (fun i _ => nk - (intOf i).toNat)
          case atStart => exact ⟨0, Nat.zero_le _, rfl, HP, HZ⟩
          case round =>
            clear HP HZ hc1
            obtain ⟨I, hI, rfl, HP, HZ⟩ := hrel
            have hc1 := HP.out.hv.at rfl hlt
            rw [EU.out] at hc1
            by_cases hli : I < nk
            · obtain ⟨xs, q1, _⟩ := HP.out.row K hlt
              rw [HNK.out, EU.out] at q1
              have hlx : xs.length = nk * 2 := q1.1
              obtain ⟨g, e2, hcx⟩ := own_cellS q1 (j := I * 2) (List.getElem?_eq_getElem (by omega))
              subst e2
              have hck : nk ≤ ck := by
                rcases q1.2 with ⟨q, _⟩ | ⟨g', cap, cur, q, _, _, hn', _⟩
                · cases q
                · simp only [Value.slice.injEq] at q
                  omega
              obtain ⟨WL, HWL⟩ : ∃ W : World, Hid (wr.drew.alloc (.cells #[.int .u8 ((K : Int) % 256), .int .u8 ((I : Int) % 256)] 5) = W) := ⟨_, hid rfl⟩
              have BL : Below wr.heap.size wr WL := by rw [← HWL.out]; exact ((Below.refl _ wr).drew).alloc (Nat.le_refl _) _
              have PL := HP.out.below BL (Nat.le_trans sB.out HZ.out)
              have q3 := own_ofS q1 (w' := WL) (fun b' e => BL.block b' (own_atS q1 e).1)
              obtain ⟨_, _, cs, hg⟩ := own_atS q3 (b := g) rfl
              have hz0 : WL.cell? ⟨g, I * 2, none⟩ = some (xs[I * 2]'(by omega)) := by
                obtain ⟨g', e', h'⟩ := own_cellS q3 (j := I * 2) (List.getElem?_eq_getElem (by omega))
                cases e'
                exact h'
              have hz1 : WL.cell? ⟨g, I * 2 + 1, none⟩ = some (xs[I * 2 + 1]'(by omega)) := by
                obtain ⟨g', e', h'⟩ := own_cellS q3 (j := I * 2 + 1) (List.getElem?_eq_getElem (by omega))
                cases e'
                exact h'
              have hcv := conv_str (hb_two WL wr.heap.size K I (by rw [← HWL.out]; exact heap_alloc_new wr.drew _))
              have hms : bS [(K : Int) % 256, (I : Int) % 256] = mS K I := rfl
              rw [hms] at hcv
              have HCV := hid hcv
              have ST : Hid (P3 B w ((WL.setCell ⟨g, I * 2, none⟩ (.string (mS K I))).setCell ⟨g, I * 2 + 1, none⟩ (.slice none 0 0)) (.slice (some ⟨b, off, none⟩) us.length c) us ns K (I + 1)) :=
                hid (PL.set HD.out hlt (by rw [HNK.out]; exact hli) (by rw [EU.out, HNK.out]))
              have HZ2 : Hid (W2.heap.size ≤ ((WL.setCell ⟨g, I * 2, none⟩ (.string (mS K I))).setCell ⟨g, I * 2 + 1, none⟩ (.slice none 0 0)).heap.size) := hid (by have := BL.size; have := HZ.out; simp [World.setCell]; omega)
              have SL : Hid (WL.cell? ⟨b, off + K, none⟩ = some (.slice (some ⟨g, 0, none⟩) nk ck)) := hid ((BL.cell (World.block_lt_of_cell? wr _ hc1)).trans hc1)
              have HG := hid hg
              have HZ0 := hid (And.intro hz0 hz1)
              have wk := u8w K
              have wi := u8w I
              have w9 : IntKind.i64.wrap ((I : Int) + 1) = ((I + 1 : Nat) : Int) := by rw [IntKind.wrap_i64]; omega
              have hi1 : (I : Int) < (nk : Int) := by omega
              clear q1 q3 BL HP HZ PL hcv hms hg hz0 hz1 hcx
              go_wp2_with fail
              refine wp_region_held_drew (S := (fun W : World => W.cell? ⟨b, off + K, none⟩ = some (.slice (some ⟨g, 0, none⟩) nk ck))) (by kernel_rfl) hc1 (fun hHeld => ?_)
              have HS := hid hHeld
              clear hHeld
              change wpAnyH _ _ _ _ _ _ _ _ (World.drew _)
              refine wpAnyH_take (i := 0) (v := ?_) rfl (by kernel_rfl) (by kernel_rfl) (by kernel_rfl) (fun _ _ _ h => h) (Or.inl ⟨by rfl, ?q0⟩) HS.out ?_
              case q0 => intro w hSw; go_simp; rfl
              simp only [Act.put, List.getElem_toArray, List.getElem_cons_zero, List.getElem_cons_succ, List.setIfInBounds_toArray, List.set_cons_zero, List.set_cons_succ]
              refine wpAnyH_take (i := 1) (v := ?_) rfl (by kernel_rfl) (by kernel_rfl) (by kernel_rfl) (fun _ _ _ h => h) (Or.inl ⟨by rfl, ?q1⟩) HS.out ?_
              case q1 => intro w hSw; go_simp; rfl
              simp only [Act.put, List.getElem_toArray, List.getElem_cons_zero, List.getElem_cons_succ, List.setIfInBounds_toArray, List.set_cons_zero, List.set_cons_succ]
              refine wpAnyH_take (i := 2) (v := ?_) rfl (by kernel_rfl) (by kernel_rfl) (by kernel_rfl) (fun _ _ _ h => h) (Or.inl ⟨by rfl, ?q2⟩) HS.out ?_
              case q2 => intro w hSw; go_simp; rfl
              simp only [Act.put, List.getElem_toArray, List.getElem_cons_zero, List.getElem_cons_succ, List.setIfInBounds_toArray, List.set_cons_zero, List.set_cons_succ]
              refine wpAnyH_take (i := 3) (v := ?_) rfl (by kernel_rfl) (by kernel_rfl) (by kernel_rfl) (fun _ _ _ h => h) (Or.inl ⟨by rfl, ?q3⟩) HS.out ?_
              case q3 => intro w hSw; go_simp; rfl
              simp only [Act.put, List.getElem_toArray, List.getElem_cons_zero, List.getElem_cons_succ, List.setIfInBounds_toArray, List.set_cons_zero, List.set_cons_succ]
              refine wpAnyH_take (i := 4) (v := ?_) rfl (by kernel_rfl) (by kernel_rfl) (by kernel_rfl) (fun _ _ _ h => h) (Or.inl ⟨by rfl, ?q4⟩) HS.out ?_
              case q4 => intro w hSw; go_simp; rfl
              simp only [Act.put, List.getElem_toArray, List.getElem_cons_zero, List.getElem_cons_succ, List.setIfInBounds_toArray, List.set_cons_zero, List.set_cons_succ]
              refine wpAnyH_take (i := 5) (v := ?_) rfl (by kernel_rfl) (by kernel_rfl) (by kernel_rfl) (fun _ _ _ h => h) (Or.inl ⟨by rfl, ?q5⟩) HS.out ?_
              case q5 => intro w hSw; go_simp; rfl
              simp only [Act.put, List.getElem_toArray, List.getElem_cons_zero, List.getElem_cons_succ, List.setIfInBounds_toArray, List.set_cons_zero, List.set_cons_succ]
              refine wpAnyH_take (i := 6) (v := ?_) rfl (by kernel_rfl) (by kernel_rfl) (by kernel_rfl) (fun _ _ _ h => h) (Or.inl ⟨by rfl, ?q6⟩) HS.out ?_
              case q6 => intro w hSw; go_simp; rfl
              simp only [Act.put, List.getElem_toArray, List.getElem_cons_zero, List.getElem_cons_succ, List.setIfInBounds_toArray, List.set_cons_zero, List.set_cons_succ]
              refine wpAnyH_take (i := 7) (v := ?_) rfl (by kernel_rfl) (by kernel_rfl) (by kernel_rfl) (fun _ _ _ h => h) (Or.inl ⟨by rfl, ?q7⟩) HS.out ?_
              case q7 => intro w hSw; go_simp; rfl
              simp only [Act.put, List.getElem_toArray, List.getElem_cons_zero, List.getElem_cons_succ, List.setIfInBounds_toArray, List.set_cons_zero, List.set_cons_succ]
              refine wpAnyH_take (i := 8) (v := ?_) rfl (by kernel_rfl) (by kernel_rfl) (by kernel_rfl) (fun _ _ _ h => h) (Or.inl ⟨by rfl, ?q8⟩) HS.out ?_
              case q8 => intro w hSw; go_simp; rfl
              simp only [Act.put, List.getElem_toArray, List.getElem_cons_zero, List.getElem_cons_succ, List.setIfInBounds_toArray, List.set_cons_zero, List.set_cons_succ]
              refine wpAnyH_ready (rs := [9]) (by kernel_rfl) (by simp) ?_
              refine AllReadyH.cons rfl (fun K1 hK1 => ?_) AllReadyH.nil
              replace hK1 := hid hK1
              go_simp
              rw [show (wr.alloc (.cells #[.int .u8 ((K : Int) % 256), .int .u8 ((I : Int) % 256)] 5)).drew = WL from HWL.out]
              refine hK1.out _ _ SL.out (fun _ => ?_)
              clear hK1 K1
              try simp only [Act.put, List.getElem_toArray, List.getElem_cons_zero, List.getElem_cons_succ, List.setIfInBounds_toArray, List.set_cons_zero, List.set_cons_succ]
              have hcv := HCV.out
              refine wpAnyH_ready (rs := [10]) (by kernel_rfl) (by simp) ?_
              refine AllReadyH.cons rfl (fun K1 hK1 => ?_) AllReadyH.nil
              replace hK1 := hid hK1
              go_simp
              refine hK1.out _ _ SL.out (fun _ => ?_)
              clear hK1 K1
              try simp only [Act.put, List.getElem_toArray, List.getElem_cons_zero, List.getElem_cons_succ, List.setIfInBounds_toArray, List.set_cons_zero, List.set_cons_succ]
              refine wpAnyH_ready (rs := [11]) (by kernel_rfl) (by simp) ?_
              refine AllReadyH.cons rfl (fun K1 hK1 => ?_) AllReadyH.nil
              replace hK1 := hid hK1
              go_simp
              refine hK1.out _ _ SL.out (fun _ => ?_)
              clear hK1 K1
              try simp only [Act.put, List.getElem_toArray, List.getElem_cons_zero, List.getElem_cons_succ, List.setIfInBounds_toArray, List.set_cons_zero, List.set_cons_succ]
              refine wpAnyH_ready (rs := [12]) (by kernel_rfl) (by simp) ?_
              refine AllReadyH.cons rfl (fun K1 hK1 => ?_) AllReadyH.nil
              replace hK1 := hid hK1
              go_simp
              refine hK1.out _ _ SL.out (fun _ => ?_)
              clear hK1 K1
              try simp only [Act.put, List.getElem_toArray, List.getElem_cons_zero, List.getElem_cons_succ, List.setIfInBounds_toArray, List.set_cons_zero, List.set_cons_succ]
              refine wpAnyH_ready (rs := [13]) (by kernel_rfl) (by simp) ?_
              refine AllReadyH.cons rfl (fun K1 hK1 => ?_) AllReadyH.nil
              replace hK1 := hid hK1
              have hg := HG.out
              obtain ⟨hz0, hz1⟩ := HZ0.out
              have fg : ∀ i, WL.frozen? ⟨g, i, none⟩ = false := fun i => by simp [World.frozen?, hg]
              have fg2 : ∀ i v, (WL.setCell ⟨g, I * 2, none⟩ v).frozen? ⟨g, i, none⟩ = false := fun i v => by simp [World.frozen?, World.setCell, Array.getElem?_modify, hg]
              go_simp
              obtain ⟨W9, HW9⟩ : ∃ W, Hid ((WL.setCell ⟨g, I * 2, none⟩ (.string (mS K I))).setCell ⟨g, I * 2 + 1, none⟩ (.slice none 0 0) = W) := ⟨_, hid rfl⟩
              rw [HW9.out] at ST HZ2 ⊢
              have S9 : Hid (W9.cell? ⟨b, off + K, none⟩ = some (.slice (some ⟨g, 0, none⟩) nk ck)) := hid (by have := ST.out.hv.at rfl hlt; rw [EU.out] at this; exact this)
              refine hK1.out _ _ S9.out (fun _ => ?_)
              clear hK1 K1 hcv hz0 hz1 hg fg fg2 HCV HZ0 HG SL
              refine wpAnyH_done (by kernel_rfl) ?_ _
              go_wp2
              exact ⟨⟨I + 1, hli, by go_num, ST, HZ2⟩, by simp [intOf]; omega⟩
            · have hi1 : ¬ ((I : Int) < (nk : Int)) := by omega
              have w9 : IntKind.i64.wrap ((K : Int) + 1) = ((K + 1 : Nat) : Int) := by rw [IntKind.wrap_i64]; omega
              have HN2 := hid (HP.out.next (by rw [HNK.out]; omega))
              clear HP
              go_wp2
              exact ⟨⟨K + 1, hlt, by go_num, HN2, HZ⟩, by simp [intOf]; omega⟩
        · obtain rfl : K = us.length := by omega
          obtain ⟨N4, HN4⟩ : ∃ x, Hid (wr.heap.size = x) := ⟨_, hid rfl⟩
          have P40 := hid (P4.start HP.out)
          have hBN : Hid (B ≤ N4) := hid (by rw [← HN4.out]; exact Nat.le_trans sB.out HZ.out)
          have HNv : Hid (∀ b off n c', Value.slice p us.length c = .slice (some ⟨b, off, none⟩) n c' → 0 < us.length → b < N4) := hid (fun b off n c' e h0 => by
            obtain ⟨b', off', e', hb'⟩ := A.out h0
            rw [e'] at e
            simp only [Value.slice.injEq, Option.some.injEq, Addr.mk.injEq, and_true] at e
            have q1 := HZ.out
            have q2 := sW.out
            have q3 := HN4.out
            omega)
          have Z40 : Hid (N4 ≤ wr.heap.size) := hid (by rw [HN4.out]; exact Nat.le_refl _)
          have hk3 : ¬ ((us.length : Int) < (us.length : Int)) := by omega
          clear HP HZ hlt hK HN4
          go_wp2
          go_loopw [8, 9] (fun gs k wz => ∃ (K : Nat) (gl : List Value), K ≤ us.length ∧ k = .int .i64 (K : Int) ∧ Hid (P4 B w wz (.slice p us.length c) us ns K gl) ∧ Hid (wz.ownsRow N4 24 1 gs K gl) ∧ Hid (N4 ≤ wz.heap.size)) (fun _ k _ => us.length - (intOf k).toNat)
          case atStart => exact ⟨0, [], Nat.zero_le _, rfl, P40, hid (World.ownsRow_nil _ _ _ _), Z40⟩
          case round =>
            clear P40 Z40
            obtain ⟨K, gl, hK, rfl, HP, HG, HZ⟩ := hrel
            by_cases hlt : K < us.length
            · obtain ⟨b, off, rfl, hbw⟩ := A.out (by omega)
              obtain ⟨nk, HNK⟩ : ∃ x, Hid (ns.getD K 0 = x) := ⟨_, hid rfl⟩
              have hnk : nk ≤ 1000 := by rw [← HNK.out, HNS.out K]; exact HX.out K
              obtain ⟨pk, ck, EU⟩ : ∃ pk ck, Hid (us.getD K undef = .slice pk nk ck) := by
                obtain ⟨xs, q1, _⟩ := HP.out.row K hlt
                obtain ⟨pk, ck, e⟩ := own_slcS q1
                rw [HNK.out] at e
                exact ⟨pk, ck, hid e⟩
              have hk2 : (K : Int) < (us.length : Int) := by omega
              have hc1 := HP.out.hv.at rfl hlt
              rw [EU.out] at hc1
              obtain ⟨gs0, HGS⟩ : ∃ x, Hid (u8 = x) := ⟨_, hid rfl⟩
              rw [HGS.out] at HG ⊢
              have P50 := hid (P5.start HP.out HD.out hlt)
              rw [EU.out] at P50
              go_wp2
              go_loopw [10, 11] (fun x i wz => ∃ m : Nat, m ≤ 70 ∧ i = .int .i64 (m : Int) ∧ Hid (P5 B w wz (.slice (some ⟨b, off, none⟩) us.length c) us ns K gl x m) ∧ Hid (wz.ownsRow N4 24 1 gs0 K gl) ∧ Hid (N4 ≤ wz.heap.size)) (fun _ i _ => 70 - (intOf i).toNat)
              case atStart => exact ⟨0, by omega, rfl, P50, HG, HZ⟩
              case round =>
                clear P50 HG HZ hc1 HP
                obtain ⟨m, hm70, rfl, HP, HG, HZ⟩ := hrel
                have hc1 := HP.out.hv.at rfl hlt
                rw [EU.out] at hc1
                by_cases hlm : m < 70
                · have hlm2 : (m : Int) < 70 := by omega
                  obtain ⟨xs, x1, x2⟩ := HP.out.cur
                  rw [HNK.out] at x1 x2
                  have LR : Hid (B ≤ wr.heap.size) := hid (Nat.le_trans hBN.out HZ.out)
                  obtain ⟨WA, HWA⟩ : ∃ W : World, Hid (wr.alloc (.cells #[.int .u8 ((K : Int) % 256), .int .u8 (((nk : Int) + (m : Int)) % 256)] 5) = W) := ⟨_, hid rfl⟩
                  obtain ⟨WB, HWB⟩ : ∃ W : World, Hid (WA.alloc (.cells #[.string (mS K (nk + m)), .slice none 0 0] TR) = W) := ⟨_, hid rfl⟩
                  have bA : Below wr.heap.size wr WA := by rw [← HWA.out]; exact (Below.refl _ wr).alloc (Nat.le_refl _) _
                  have bB' : Below WA.heap.size WA WB := by rw [← HWB.out]; exact (Below.refl _ _).alloc (Nat.le_refl _) _
                  have bB : Below wr.heap.size wr WB := bA.trans (bB'.mono bA.size)
                  have PB := HP.out.below bB LR.out
                  have OB : WB.ownsRow B TR 2 u10 (nk + m) xs := own_ofS x1 (fun b' e => bB.block b' (own_atS x1 e).1)
                  have GB : WB.ownsRow N4 24 1 gs0 K gl := own_ofS HG.out (fun b' e => bB.block b' (own_atS HG.out e).1)
                  have CB : WB.heap[WA.heap.size]? = some (.cells #[.string (mS K (nk + m)), .slice none 0 0] TR (0, 0)) := by rw [← HWB.out]; exact heap_alloc_new _ _
                  have SA : Hid (WA.cell? ⟨b, off + K, none⟩ = some (.slice pk nk ck)) := hid ((bA.cell (World.block_lt_of_cell? wr _ hc1)).trans hc1)
                  have LB : B ≤ WB.heap.size := Nat.le_trans LR.out bB.size
                  have ZB : N4 ≤ WB.heap.size := Nat.le_trans HZ.out bB.size
                  have hcv := conv_str (hb_two WA wr.heap.size K (nk + m) (by rw [← HWA.out, Int.natCast_add]; exact heap_alloc_new wr _))
                  have hms : bS [(K : Int) % 256, ((nk + m : Nat) : Int) % 256] = mS K (nk + m) := rfl
                  rw [hms] at hcv
                  obtain ⟨v1, w1, hr1, ho, hg, hw⟩ := app_rowS (c := 1) (ty := 24) OB CB (by omega) LB
                  have HR1 := hid hr1
                  have P6 : Hid (P5 B w w1 (.slice (some ⟨b, off, none⟩) us.length c) us ns K gl v1 (m + 1)) := hid (PB.step hlt (by rw [HNK.out]; exact OB) (by rw [HNK.out]; exact fun j hj => x2 j hj hj) (by rw [HNK.out]; exact ho) hg (by rw [HNK.out]; exact hw) LB)
                  have G1 : Hid (w1.ownsRow N4 24 1 gs0 K gl) := hid (own_ofS GB (fun b' e => hg.block b' (own_atS GB e).1 (fun e2 => by
                    obtain ⟨_, _, cs1, q1⟩ := own_atS GB e
                    obtain ⟨_, _, cs2, q2⟩ := own_atS OB e2.symm
                    rw [q1] at q2
                    simp only [Option.some.injEq, Obj.cells.injEq] at q2
                    exact absurd q2.2.1 (by decide))))
                  have Z1 : Hid (N4 ≤ w1.heap.size) := hid (Nat.le_trans ZB hg.size)
                  have wk := u8w (K : Int)
                  have wn := u8w ((nk : Int) + (m : Int))
                  have w7 : IntKind.i64.wrap ((nk : Int) + (m : Int)) = (nk : Int) + (m : Int) := by rw [IntKind.wrap_i64]; omega
                  have w9 : IntKind.i64.wrap ((m : Int) + 1) = ((m + 1 : Nat) : Int) := by rw [IntKind.wrap_i64]; omega
                  clear x1 x2 bA bB bB' HP HG HZ PB OB GB CB LB ZB hms hr1 ho hg hw
                  go_wp2_with (first | rw [HWA.out] | rw [HWB.out] | (at_builtin; refine wpList_appG (.tmp 86) (.tmp 100) rfl rfl rfl rfl HR1.out ?_) | fail)
                  exact ⟨⟨m + 1, hlm, by go_num, P6, G1, Z1⟩, by simp [intOf]; omega⟩
                · obtain rfl : m = 70 := by omega
                  have PF := HP.out.finish hlt
                  obtain ⟨xs, x1, _⟩ := HP.out.cur
                  obtain ⟨px, cx, ex⟩ := own_slcS x1
                  obtain ⟨nx, HNX⟩ : ∃ x, Hid (ns.getD K 0 + 70 = x) := ⟨_, hid rfl⟩
                  rw [HNX.out] at ex
                  rw [ex] at PF ⊢
                  have LR : B ≤ wr.heap.size := Nat.le_trans hBN.out HZ.out
                  obtain ⟨WA, HWA⟩ : ∃ W : World, Hid (wr.alloc (.cells #[.slice px nx cx] 24) = W) := ⟨_, hid rfl⟩
                  have bA : Below wr.heap.size wr WA := by rw [← HWA.out]; exact (Below.refl _ wr).alloc (Nat.le_refl _) _
                  have PA := PF.below bA LR
                  have GA : WA.ownsRow N4 24 1 gs0 K gl := own_ofS HG.out (fun b' e => bA.block b' (own_atS HG.out e).1)
                  have CA : WA.cell? ⟨wr.heap.size, 0, none⟩ = some (.slice px nx cx) := by rw [cell_of_row _ _ _ _ _ _ (show WA.heap[wr.heap.size]? = some (.cells #[.slice px nx cx] 24 (0, 0)) by rw [← HWA.out]; exact heap_alloc_new _ _)]; rfl
                  have ZA : N4 ≤ WA.heap.size := Nat.le_trans HZ.out bA.size
                  obtain ⟨v1, w1, hr1, ho, hg⟩ := app_rowsS (c := 1) (ty := 32) GA CA rfl (by omega) ZA
                  have HR1 := hid hr1
                  have PN : Hid (P4 B w w1 (.slice (some ⟨b, off, none⟩) us.length c) us ns (K + 1) (gl ++ [.slice px nx cx])) := hid (PA.grown hg (fun b' e => by obtain ⟨_, q2, cs, q3⟩ := own_atS GA e; exact ⟨q2, cs, q3⟩) hBN.out (Nat.le_trans hBN.out ZA) HNv.out)
                  have GN : Hid (w1.ownsRow N4 24 1 v1 (K + 1) (gl ++ [.slice px nx cx])) := hid ho
                  have ZN : Hid (N4 ≤ w1.heap.size) := hid (Nat.le_trans ZA hg.size)
                  have hlm2 : ¬ ((70 : Int) < 70) := by omega
                  have w9 : IntKind.i64.wrap ((K : Int) + 1) = ((K + 1 : Nat) : Int) := by rw [IntKind.wrap_i64]; omega
                  clear x1 bA HP HG HZ ex PF LR PA GA CA ZA hr1 ho hg
                  go_wp2_with (first | rw [HWA.out] | (at_builtin; refine wpList_appG (.tmp 102) (.tmp 104) rfl rfl rfl rfl HR1.out ?_) | fail)
                  exact ⟨⟨K + 1, _, hlt, by go_num, PN, GN, ZN⟩, by simp [intOf]; omega⟩
            · obtain rfl : K = us.length := by omega
              obtain ⟨pq, cq, eq⟩ := own_slcS HG.out
              rw [eq] at HG ⊢
              have hk4 : ¬ ((us.length : Int) < (us.length : Int)) := by omega
              obtain ⟨Wf, HWf⟩ : ∃ W : World, Hid (wr = W) := ⟨_, hid rfl⟩
              rw [HWf.out] at HP HG HZ ⊢
              have LF : Hid (B ≤ Wf.heap.size) := hid (Nat.le_trans hBN.out HZ.out)
              clear eq HWf hlt hK HZ
              go_wp2
              go_loopw [12, 14] (fun k m' wz => ∃ K : Nat, K ≤ us.length ∧ k = .int .i64 (K : Int) ∧ Hid (Below Wf.heap.size Wf wz)) (fun k _ _ => us.length - (intOf k).toNat)
              case atStart => exact ⟨0, Nat.zero_le _, rfl, hid (Below.refl _ _)⟩
              case round =>
                obtain ⟨K, hK, rfl, HB⟩ := hrel
                by_cases hlt : K < us.length
                · obtain ⟨b, off, rfl, hbw⟩ := A.out (by omega)
                  obtain ⟨nk, HNK⟩ : ∃ x, Hid (ns.getD K 0 = x) := ⟨_, hid rfl⟩
                  have hnk : nk ≤ 1000 := by rw [← HNK.out, HNS.out K]; exact HX.out K
                  obtain ⟨ys, y1, y2⟩ := HP.out.row K hlt
                  obtain ⟨zs, z1, z2⟩ := HP.out.big K hlt
                  rw [HNK.out] at y1 y2 z1 z2
                  obtain ⟨pk, ck, eu⟩ := own_slcS y1
                  obtain ⟨pz, cz, ez⟩ := own_slcS z1
                  obtain ⟨gg, capg, egg, _, hng, hmg, hccg⟩ := ownsRow_cells HG.out (by omega)
                  simp only [Value.slice.injEq, true_and] at egg
                  obtain ⟨rfl, rfl⟩ := egg
                  have c1 := HP.out.hv.at rfl hlt
                  rw [eu] at c1
                  have c2 := hccg K (gl.getD K undef) (by have := HP.out.len; simp [List.getD, List.getElem?_eq_getElem (show K < gl.length by omega)])
                  rw [ez, Nat.zero_add] at c2
                  have CI : Hid (∀ W, Below Wf.heap.size Wf W → W.cell? ⟨b, off + K, none⟩ = some (.slice pk nk ck) ∧ W.cell? ⟨gg, K, none⟩ = some (.slice pz (nk + 70) cz)) := hid (fun W hW => ⟨(hW.cell (World.block_lt_of_cell? Wf _ c1)).trans c1, (hW.cell (World.block_lt_of_cell? Wf _ c2)).trans c2⟩)
                  have CG : Hid (∀ j, j < nk + 70 → ∃ g1, pz = some ⟨g1, 0, none⟩ ∧ nk + 70 ≤ cz ∧ Wf.cell? ⟨g1, j * 2, none⟩ = some (.string (mS K j))) := hid (fun j hj => by
                    rw [ez] at z1
                    obtain ⟨g1, e1, e2⟩ := own_cellS z1 (z2 j hj hj)
                    refine ⟨g1, e1, ?_, e2⟩
                    rcases z1.2 with ⟨q, _⟩ | ⟨g', cap, cur, q, _, _, hn', _⟩
                    · simp only [Value.slice.injEq] at q; omega
                    · simp only [Value.slice.injEq] at q; omega)
                  have CU : Hid (∀ j, j < nk → ∃ g2, pk = some ⟨g2, 0, none⟩ ∧ nk ≤ ck ∧ Wf.cell? ⟨g2, j * 2, none⟩ = some (.string (mS K j))) := hid (fun j hj => by
                    rw [eu] at y1
                    obtain ⟨g1, e1, e2⟩ := own_cellS y1 (y2 j hj hj)
                    refine ⟨g1, e1, ?_, e2⟩
                    rcases y1.2 with ⟨q, _⟩ | ⟨g', cap, cur, q, _, _, hn', _⟩
                    · simp only [Value.slice.injEq] at q; omega
                    · simp only [Value.slice.injEq] at q; omega)
                  obtain ⟨d1, d2⟩ := CI.out wr HB.out
                  have hk5 : (K : Int) < (us.length : Int) := by omega
                  clear c1 c2 y1 y2 z1 z2 hccg eu ez
                  go_wp2
                  go_loopw [13, 14] (fun i m' wz => ∃ I : Nat, I ≤ nk + 70 ∧ i = .int .i64 (I : Int) ∧ Hid (Below Wf.heap.size Wf wz)) (fun i _ _ => nk + 70 - (intOf i).toNat)
                  case atStart => exact ⟨0, Nat.zero_le _, rfl, HB⟩
                  case round =>
                    clear HB d1 d2
                    obtain ⟨I, hI, rfl, HB⟩ := hrel
                    obtain ⟨d1, d2⟩ := CI.out wr HB.out
                    by_cases hli : I < nk + 70
                    · obtain ⟨g1, rfl, hcz, e1⟩ := CG.out I hli
                      obtain ⟨WL, HWL⟩ : ∃ W : World, Hid (wr.alloc (.cells #[.int .u8 ((K : Int) % 256), .int .u8 ((I : Int) % 256)] 5) = W) := ⟨_, hid rfl⟩
                      have bL : Below wr.heap.size wr WL := by rw [← HWL.out]; exact (Below.refl _ _).alloc (Nat.le_refl _) _
                      have bF : Below Wf.heap.size Wf WL := HB.out.trans (bL.mono HB.out.size)
                      have HBF := hid bF
                      have hcv := conv_str (hb_two WL wr.heap.size K I (by rw [← HWL.out]; exact heap_alloc_new wr _))
                      have hms : bS [(K : Int) % 256, (I : Int) % 256] = mS K I := rfl
                      rw [hms] at hcv
                      obtain ⟨f1, f2⟩ := CI.out WL bF
                      have f3 := (bF.cell (World.block_lt_of_cell? Wf _ e1)).trans e1
                      have wk := u8w (K : Int)
                      have wi := u8w (I : Int)
                      have w9 : IntKind.i64.wrap ((I : Int) + 1) = ((I + 1 : Nat) : Int) := by rw [IntKind.wrap_i64]; omega
                      have hi1 : (I : Int) < (nk : Int) + 70 := by omega
                      obtain ⟨sm, HSM⟩ : ∃ x, Hid (mS K I = x) := ⟨_, hid rfl⟩
                      rw [HSM.out] at hcv f3
                      by_cases hin : I < nk
                      · obtain ⟨g2, rfl, hck, e2⟩ := CU.out I hin
                        have hi2 : (I : Int) < (nk : Int) := by omega
                        have f4 := (bF.cell (World.block_lt_of_cell? Wf _ e2)).trans e2
                        rw [HSM.out] at f4
                        clear e1 e2 bL bF hms
                        go_wp2_with (first | rw [HWL.out] | fail)
                        exact ⟨⟨I + 1, hli, by go_num, HBF⟩, by simp [intOf]; omega⟩
                      · have hi2 : ¬ ((I : Int) < (nk : Int)) := by omega
                        clear e1 bL bF hms
                        go_wp2_with (first | rw [HWL.out] | fail)
                        exact ⟨⟨I + 1, hli, by go_num, HBF⟩, by simp [intOf]; omega⟩
                    · have hi1 : ¬ ((I : Int) < (nk : Int) + 70) := by omega
                      have w9 : IntKind.i64.wrap ((K : Int) + 1) = ((K + 1 : Nat) : Int) := by rw [IntKind.wrap_i64]; omega
                      go_wp2
                      exact ⟨⟨K + 1, hlt, by go_num, HB⟩, by simp [intOf]; omega⟩
                · obtain rfl : K = us.length := by omega
                  have FIN : Below B w wr := HP.out.bel.trans (HB.out.mono LF.out)
                  have hk5 : ¬ ((us.length : Int) < (us.length : Int)) := by omega
                  go_wp2
                  go_ret
                  exact ⟨rfl, FIN⟩
end Go.Proofs.YtabflkecjaphnaaDoor
namespace Go.Proofs
open Go.Shelf
def Tryd.laysM171_ren : Go.Shelf.Ren := ⟨fun | 171 => 21 | 243 => 24 | 246 => 27 | 283 => 33 | 284 => 34 | 285 => 35 | 286 => 36 | 129 => 41 | 317 => 40 | 318 => 42 | 319 => 43 | 320 => 44 | 337 => 47 | 338 => 48 | n => n, fun | 3 => 3 | 9 => 9 | 2 => 2 | 4 => 4 | 171 => 63 | 0 => 0 | 53 => 54 | 37 => 22 | 5 => 5 | 173 => 66 | 212 => 77 | 51 => 78 | 20 => 20 | 213 => 79 | 46 => 70 | 232 => 89 | 233 => 90 | n => n, fun | 17 => 3 | 18 => 4 | 19 => 5 | n => n⟩
theorem Tryd.laysM171 : Go.Proofs.LaysM.n171 Tryd.prog Tryd.laysM171_ren := {
  mixed := by kernel_rfl
  f129 := Tryd.func41.trans (congrArg some (by kernel_rfl))
  f171 := Tryd.func21.trans (congrArg some (by kernel_rfl))
  f243 := Tryd.func24.trans (congrArg some (by kernel_rfl))
  f246 := Tryd.func27.trans (congrArg some (by kernel_rfl))
  f283 := Tryd.func33.trans (congrArg some (by kernel_rfl))
  f284 := Tryd.func34.trans (congrArg some (by kernel_rfl))
  f285 := Tryd.func35.trans (congrArg some (by kernel_rfl))
  f286 := Tryd.func36.trans (congrArg some (by kernel_rfl))
  f317 := Tryd.func40.trans (congrArg some (by kernel_rfl))
  f318 := Tryd.func42.trans (congrArg some (by kernel_rfl))
  f319 := Tryd.func43.trans (congrArg some (by kernel_rfl))
  f320 := Tryd.func44.trans (congrArg some (by kernel_rfl))
  f337 := Tryd.func47.trans (congrArg some (by kernel_rfl))
  f338 := Tryd.func48.trans (congrArg some (by kernel_rfl))
  t0 := Tryd.underlying0
  a0 := Tryd.isAgg0
  z0 := Tryd.sizeOf0
  v0 := Tryd.zeroValue0
  t2 := Tryd.underlying2
  a2 := Tryd.isAgg2
  z2 := Tryd.sizeOf2
  v2 := Tryd.zeroValue2
  t3 := Tryd.underlying3
  a3 := Tryd.isAgg3
  z3 := Tryd.sizeOf3
  v3 := Tryd.zeroValue3
  t4 := Tryd.underlying4
  a4 := Tryd.isAgg4
  z4 := Tryd.sizeOf4
  v4 := Tryd.zeroValue4
  t5 := Tryd.underlying5
  a5 := Tryd.isAgg5
  z5 := Tryd.sizeOf5
  v5 := Tryd.zeroValue5
  t9 := Tryd.underlying9
  a9 := Tryd.isAgg9
  z9 := Tryd.sizeOf9
  v9 := Tryd.zeroValue9
  t20 := Tryd.underlying20
  a20 := Tryd.isAgg20
  z20 := Tryd.sizeOf20
  v20 := Tryd.zeroValue20
  t37 := Tryd.underlying22
  a37 := Tryd.isAgg22
  z37 := Tryd.sizeOf22
  v37 := Tryd.zeroValue22
  t46 := Tryd.underlying70
  a46 := Tryd.isAgg70
  z46 := Tryd.sizeOf70
  v46 := Tryd.zeroValue70
  t51 := Tryd.underlying78
  a51 := Tryd.isAgg78
  z51 := Tryd.sizeOf78
  v51 := Tryd.zeroValue78
  t53 := Tryd.underlying54
  a53 := Tryd.isAgg54
  z53 := Tryd.sizeOf54
  v53 := Tryd.zeroValue54
  t171 := Tryd.underlying63
  a171 := Tryd.isAgg63
  z171 := Tryd.sizeOf63
  v171 := Tryd.zeroValue63
  t173 := Tryd.underlying66
  a173 := Tryd.isAgg66
  z173 := Tryd.sizeOf66
  v173 := Tryd.zeroValue66
  t212 := Tryd.underlying77
  a212 := Tryd.isAgg77
  z212 := Tryd.sizeOf77
  v212 := Tryd.zeroValue77
  t213 := Tryd.underlying79
  a213 := Tryd.isAgg79
  z213 := Tryd.sizeOf79
  t232 := Tryd.underlying89
  a232 := Tryd.isAgg89
  z232 := Tryd.sizeOf89
  v232 := Tryd.zeroValue89
  t233 := Tryd.underlying90
  a233 := Tryd.isAgg90
  z233 := Tryd.sizeOf90
  v233 := Tryd.zeroValue90
  g17 := by kernel_rfl
  g18 := by kernel_rfl
  g19 := by kernel_rfl
  i0 := by kernel_rfl
  i2 := by kernel_rfl
  i3 := by kernel_rfl
  i4 := by kernel_rfl
  i5 := by kernel_rfl
  i9 := by kernel_rfl
  i20 := by kernel_rfl
  i37 := by kernel_rfl
  i46 := by kernel_rfl
  i51 := by kernel_rfl
  i53 := by kernel_rfl
  i171 := by kernel_rfl
  i173 := by kernel_rfl
  i212 := by kernel_rfl
  i232 := by kernel_rfl
  i233 := by kernel_rfl
  m17 := by kernel_rfl
  m18 := by kernel_rfl
  m19 := by kernel_rfl }
open Go.RowKit Go.Sort Go.Lib in
theorem Tryd.strconv_Itoa (n : Int) (h0 : -9223372036854775808 ≤ n) (h1 : n ≤ 9223372036854775807) (w : World) (htab : Lib.TabIs Tryd.prog w "internal/strconv.uint64pow10" .u64 Lib.pow10Tab) :
    Calls Tryd.prog 21 #[.int .i64 n] w fun e w' => e = .returned (.string ⟨(Lib.itoa n).toArray⟩) ∧ ∃ k os, w' = grow (w.drewN k) os := Any.strconv_Itoa Tryd.laysM171 n h0 h1 w htab
def Tryd.laysC172_ren : Go.Shelf.Ren := ⟨fun | 172 => 23 | 244 => 25 | 245 => 26 | 247 => 28 | 279 => 29 | 280 => 30 | 281 => 31 | 282 => 32 | 287 => 37 | 316 => 38 | 171 => 21 | 205 => 39 | 321 => 45 | 322 => 46 | 243 => 24 | 246 => 27 | 283 => 33 | 284 => 34 | 285 => 35 | 286 => 36 | 129 => 41 | 317 => 40 | 318 => 42 | 319 => 43 | 320 => 44 | 337 => 47 | 338 => 48 | n => n, fun | 9 => 9 | 3 => 3 | 75 => 51 | 76 => 52 | 4 => 4 | 5 => 5 | 167 => 57 | 37 => 22 | 0 => 0 | 85 => 58 | 2 => 2 | 168 => 60 | 53 => 54 | 175 => 68 | 46 => 70 | 210 => 73 | 127 => 84 | 145 => 87 | 143 => 85 | 21 => 21 | 171 => 63 | 173 => 66 | 212 => 77 | 51 => 78 | 20 => 20 | 213 => 79 | 232 => 89 | 233 => 90 | 80 => 91 | n => n, fun | 15 => 1 | 16 => 2 | 17 => 3 | 18 => 4 | 19 => 5 | n => n⟩
theorem Tryd.laysC172 : Go.Proofs.LaysC.n172 Tryd.prog Tryd.laysC172_ren := {
  mixed := by kernel_rfl
  f129 := Tryd.func41.trans (congrArg some (by kernel_rfl))
  f171 := Tryd.func21.trans (congrArg some (by kernel_rfl))
  f172 := Tryd.func23.trans (congrArg some (by kernel_rfl))
  f205 := Tryd.func39.trans (congrArg some (by kernel_rfl))
  f243 := Tryd.func24.trans (congrArg some (by kernel_rfl))
  f244 := Tryd.func25.trans (congrArg some (by kernel_rfl))
  f245 := Tryd.func26.trans (congrArg some (by kernel_rfl))
  f246 := Tryd.func27.trans (congrArg some (by kernel_rfl))
  f247 := Tryd.func28.trans (congrArg some (by kernel_rfl))
  f279 := Tryd.func29.trans (congrArg some (by kernel_rfl))
  f280 := Tryd.func30.trans (congrArg some (by kernel_rfl))
  f281 := Tryd.func31.trans (congrArg some (by kernel_rfl))
  f282 := Tryd.func32.trans (congrArg some (by kernel_rfl))
  f283 := Tryd.func33.trans (congrArg some (by kernel_rfl))
  f284 := Tryd.func34.trans (congrArg some (by kernel_rfl))
  f285 := Tryd.func35.trans (congrArg some (by kernel_rfl))
  f286 := Tryd.func36.trans (congrArg some (by kernel_rfl))
  f287 := Tryd.func37.trans (congrArg some (by kernel_rfl))
  f316 := Tryd.func38.trans (congrArg some (by kernel_rfl))
  f317 := Tryd.func40.trans (congrArg some (by kernel_rfl))
  f318 := Tryd.func42.trans (congrArg some (by kernel_rfl))
  f319 := Tryd.func43.trans (congrArg some (by kernel_rfl))
  f320 := Tryd.func44.trans (congrArg some (by kernel_rfl))
  f321 := Tryd.func45.trans (congrArg some (by kernel_rfl))
  f322 := Tryd.func46.trans (congrArg some (by kernel_rfl))
  f337 := Tryd.func47.trans (congrArg some (by kernel_rfl))
  f338 := Tryd.func48.trans (congrArg some (by kernel_rfl))
  t0 := Tryd.underlying0
  a0 := Tryd.isAgg0
  z0 := Tryd.sizeOf0
  v0 := Tryd.zeroValue0
  t2 := Tryd.underlying2
  a2 := Tryd.isAgg2
  z2 := Tryd.sizeOf2
  v2 := Tryd.zeroValue2
  t3 := Tryd.underlying3
  a3 := Tryd.isAgg3
  z3 := Tryd.sizeOf3
  v3 := Tryd.zeroValue3
  t4 := Tryd.underlying4
  a4 := Tryd.isAgg4
  z4 := Tryd.sizeOf4
  v4 := Tryd.zeroValue4
  t5 := Tryd.underlying5
  a5 := Tryd.isAgg5
  z5 := Tryd.sizeOf5
  v5 := Tryd.zeroValue5
  t9 := Tryd.underlying9
  a9 := Tryd.isAgg9
  z9 := Tryd.sizeOf9
  v9 := Tryd.zeroValue9
  t20 := Tryd.underlying20
  a20 := Tryd.isAgg20
  z20 := Tryd.sizeOf20
  v20 := Tryd.zeroValue20
  t21 := Tryd.underlying21
  a21 := Tryd.isAgg21
  z21 := Tryd.sizeOf21
  v21 := Tryd.zeroValue21
  t37 := Tryd.underlying22
  a37 := Tryd.isAgg22
  z37 := Tryd.sizeOf22
  v37 := Tryd.zeroValue22
  t46 := Tryd.underlying70
  a46 := Tryd.isAgg70
  z46 := Tryd.sizeOf70
  v46 := Tryd.zeroValue70
  t51 := Tryd.underlying78
  a51 := Tryd.isAgg78
  z51 := Tryd.sizeOf78
  v51 := Tryd.zeroValue78
  t53 := Tryd.underlying54
  a53 := Tryd.isAgg54
  z53 := Tryd.sizeOf54
  v53 := Tryd.zeroValue54
  t75 := Tryd.underlying51
  a75 := Tryd.isAgg51
  z75 := Tryd.sizeOf51
  v75 := Tryd.zeroValue51
  t76 := Tryd.underlying52
  a76 := Tryd.isAgg52
  z76 := Tryd.sizeOf52
  v76 := Tryd.zeroValue52
  t85 := Tryd.underlying58
  a85 := Tryd.isAgg58
  z85 := Tryd.sizeOf58
  v85 := Tryd.zeroValue58
  t127 := Tryd.underlying84
  a127 := Tryd.isAgg84
  z127 := Tryd.sizeOf84
  v127 := Tryd.zeroValue84
  t143 := Tryd.underlying85
  a143 := Tryd.isAgg85
  z143 := Tryd.sizeOf85
  v143 := Tryd.zeroValue85
  t145 := Tryd.underlying87
  a145 := Tryd.isAgg87
  z145 := Tryd.sizeOf87
  v145 := Tryd.zeroValue87
  t167 := Tryd.underlying57
  a167 := Tryd.isAgg57
  z167 := Tryd.sizeOf57
  v167 := Tryd.zeroValue57
  t168 := Tryd.underlying60
  a168 := Tryd.isAgg60
  z168 := Tryd.sizeOf60
  v168 := Tryd.zeroValue60
  t171 := Tryd.underlying63
  a171 := Tryd.isAgg63
  z171 := Tryd.sizeOf63
  v171 := Tryd.zeroValue63
  t173 := Tryd.underlying66
  a173 := Tryd.isAgg66
  z173 := Tryd.sizeOf66
  v173 := Tryd.zeroValue66
  t175 := Tryd.underlying68
  a175 := Tryd.isAgg68
  z175 := Tryd.sizeOf68
  v175 := Tryd.zeroValue68
  t210 := Tryd.underlying73
  a210 := Tryd.isAgg73
  z210 := Tryd.sizeOf73
  v210 := Tryd.zeroValue73
  t212 := Tryd.underlying77
  a212 := Tryd.isAgg77
  z212 := Tryd.sizeOf77
  v212 := Tryd.zeroValue77
  t213 := Tryd.underlying79
  a213 := Tryd.isAgg79
  z213 := Tryd.sizeOf79
  t232 := Tryd.underlying89
  a232 := Tryd.isAgg89
  z232 := Tryd.sizeOf89
  v232 := Tryd.zeroValue89
  t233 := Tryd.underlying90
  a233 := Tryd.isAgg90
  z233 := Tryd.sizeOf90
  v233 := Tryd.zeroValue90
  g15 := by kernel_rfl
  g16 := by kernel_rfl
  g17 := by kernel_rfl
  g18 := by kernel_rfl
  g19 := by kernel_rfl
  t80 := Tryd.underlying91
  a80 := Tryd.isAgg91
  z80 := Tryd.sizeOf91
  v80 := Tryd.zeroValue91
  i0 := by kernel_rfl
  i2 := by kernel_rfl
  i3 := by kernel_rfl
  i4 := by kernel_rfl
  i5 := by kernel_rfl
  i9 := by kernel_rfl
  i20 := by kernel_rfl
  i21 := by kernel_rfl
  i37 := by kernel_rfl
  i46 := by kernel_rfl
  i51 := by kernel_rfl
  i53 := by kernel_rfl
  i75 := by kernel_rfl
  i76 := by kernel_rfl
  i80 := by kernel_rfl
  i85 := by kernel_rfl
  i127 := by kernel_rfl
  i143 := by kernel_rfl
  i145 := by kernel_rfl
  i167 := by kernel_rfl
  i168 := by kernel_rfl
  i171 := by kernel_rfl
  i173 := by kernel_rfl
  i175 := by kernel_rfl
  i210 := by kernel_rfl
  i212 := by kernel_rfl
  i232 := by kernel_rfl
  i233 := by kernel_rfl
  m15 := by kernel_rfl
  m16 := by kernel_rfl
  m17 := by kernel_rfl
  m18 := by kernel_rfl
  m19 := by kernel_rfl
  c0 := by kernel_rfl
  c2 := by kernel_rfl
  c3 := by kernel_rfl
  c4 := by kernel_rfl
  c5 := by kernel_rfl
  c9 := by kernel_rfl
  c20 := by kernel_rfl
  c21 := by kernel_rfl
  c37 := by kernel_rfl
  c46 := by kernel_rfl
  c51 := by kernel_rfl
  c53 := by kernel_rfl
  c75 := by kernel_rfl
  c76 := by kernel_rfl
  c80 := by kernel_rfl
  c85 := by kernel_rfl
  c127 := by kernel_rfl
  c143 := by kernel_rfl
  c145 := by kernel_rfl
  c167 := by kernel_rfl
  c168 := by kernel_rfl
  c171 := by kernel_rfl
  c173 := by kernel_rfl
  c175 := by kernel_rfl
  c210 := by kernel_rfl
  c212 := by kernel_rfl
  c213 := by kernel_rfl
  c232 := by kernel_rfl
  c233 := by kernel_rfl }
open Go.RowKit in
theorem Tryd.strconv_Atoi_ok (s : ByteArray) (hmax : s.size ≤ 9223372036854775806) (v : Int) (h : Lib.atoiAll s.data.toList = .ok v) (w : World) :
    Calls Tryd.prog 23 #[.string s] w fun e w' => e = .returned (.tuple #[.int .i64 v, .nilIface]) ∧ (w' = w ∨ ∃ t, w' = Lib.bytesWorld w 5 t) := Any.strconv_Atoi_ok Tryd.laysC172 s hmax v h w
open Go.RowKit in
theorem Tryd.strconv_Atoi_syntax (s : ByteArray) (hlim : s.size ≤ 281474976710656) (h : Lib.atoiAll s.data.toList = .«syntax») (ev : Value) (w : World) (hv : w.cell? ⟨1, 0, none⟩ = some ev) (hev : ev = .nilIface ∨ ∃ te pe, ev = .iface te pe) :
    Calls Tryd.prog 23 #[.string s] w fun e w' => ∃ N, e = .returned (.tuple #[.int .i64 (0), .iface 60 (.pointer (some ⟨N, 0, none⟩))]) ∧ w.heap.size ≤ N ∧ w'.heap[N]? = some (.cells #[.string ⟨#[65, 116, 111, 105]⟩, .string s, ev] 73 (0, 0)) ∧ Below w.heap.size w w' := Any.strconv_Atoi_syntax Tryd.laysC172 s hlim h ev w hv hev
open Go.RowKit in
theorem Tryd.strconv_Atoi_range (s : ByteArray) (hlim : s.size ≤ 281474976710656) (h : Lib.atoiAll s.data.toList = .range) (ev : Value) (w : World) (hv : w.cell? ⟨2, 0, none⟩ = some ev) (hev : ev = .nilIface ∨ ∃ te pe, ev = .iface te pe) :
    Calls Tryd.prog 23 #[.string s] w fun e w' => ∃ N, e = .returned (.tuple #[.int .i64 (Lib.atoiSat s.data.toList), .iface 60 (.pointer (some ⟨N, 0, none⟩))]) ∧ w.heap.size ≤ N ∧ w'.heap[N]? = some (.cells #[.string ⟨#[65, 116, 111, 105]⟩, .string s, ev] 73 (0, 0)) ∧ Below w.heap.size w w' := Any.strconv_Atoi_range Tryd.laysC172 s hlim h ev w hv hev
end Go.Proofs
namespace Go.Proofs.YtabflkecjaphnaaDoor
open Go Go.RowKit Go.Sort Go.Lib
def KD (w : World) : Prop := Lib.TabIs Tryd.prog w "internal/strconv.uint64pow10" .u64 Lib.pow10Tab ∧ (∃ tp p, w.cell? ⟨1, 0, none⟩ = some (.iface tp p)) ∧ ∃ tp p, w.cell? ⟨2, 0, none⟩ = some (.iface tp p)
theorem KD.below {w w' : World} (h : KD w) (hb : Below w.heap.size w w') : KD w' := by
  obtain ⟨h1, ⟨t1, p1, h2⟩, t2, p2, h3⟩ := h
  exact ⟨Lib.tabBelow_of_tabIs h1 w' hb, ⟨t1, p1, (hb.cell (World.block_lt_of_cell? w _ h2)).trans h2⟩, t2, p2, (hb.cell (World.block_lt_of_cell? w _ h3)).trans h3⟩
def nS (x : Int) : ByteArray := if x < 0 then ⟨#[]⟩ else ⟨(Lib.decDigits x.toNat).toArray⟩
def nE (x : Int) : Int := if x < 0 then 102 else 0
def KP (w : World) : Prop := Lib.TabIs Tryd.prog w "internal/strconv.uint64pow10" .u64 Lib.pow10Tab
theorem KP.below {w w' : World} (h : KP w) (hb : Below w.heap.size w w') : KP w' := Lib.tabBelow_of_tabIs h w' hb
theorem KD.kp {w : World} (h : KD w) : KP w := h.1
set_option maxHeartbeats 1000000 in
theorem number_tab (w : World) (x : Int) (h0 : -9223372036854775808 ≤ x) (h1 : x ≤ 9223372036854775807) (hk : KP w) :
    Calls Tryd.prog 17 #[.int .i64 x] w fun e w' => e = .returned (.tuple #[.string (nS x), .int .i64 (nE x)]) ∧ Below w.heap.size w w' := by
  by_cases h : x < 0
  · have e1 := hid (show nS x = ⟨#[]⟩ by unfold nS; rw [if_pos h])
    have e2 := hid (show nE x = 102 by unfold nE; rw [if_pos h])
    go_enter Tryd.func17, Tryd.ntmps17
    go_wp2
    go_ret2
    exact ⟨by rw [e1.out, e2.out]; rfl, Below.refl _ _⟩
  · have e1 := hid (show nS x = ⟨(Lib.decDigits x.toNat).toArray⟩ by unfold nS; rw [if_neg h])
    have e2 := hid (show nE x = 0 by unfold nE; rw [if_neg h])
    have C := Tryd.strconv_Itoa x h0 h1 w hk
    have ei : Lib.itoa x = Lib.decDigits x.toNat := by unfold Lib.itoa; rw [if_neg h]
    rw [ei] at C
    obtain ⟨D, HD⟩ : ∃ D : ByteArray, Hid (⟨(Lib.decDigits x.toNat).toArray⟩ = D) := ⟨_, rfl⟩
    rw [HD.out] at C e1
    have C := hid C
    have hk0 := hid hk
    clear hk ei
    go_enter Tryd.func17, Tryd.ntmps17
    go_wp2_with fail
    refine C.out.mono ?_
    rintro e w' ⟨rfl, k, os, rfl⟩
    clear C
    have B := hid (below_grow w.heap.size w (Nat.le_refl _) k os)
    obtain ⟨w1, hw1⟩ : ∃ w1, grow (w.drewN k) os = w1 := ⟨_, rfl⟩
    rw [hw1] at B
    rw [hw1]
    clear hw1
    go_wp2
    go_ret2
    exact ⟨by rw [e1.out, e2.out]; rfl, B.out⟩
theorem number_any (w : World) (x : Int) (h0 : -9223372036854775808 ≤ x) (h1 : x ≤ 9223372036854775807) (hk : KD w) :
    Calls Tryd.prog 17 #[.int .i64 x] w fun e w' => e = .returned (.tuple #[.string (nS x), .int .i64 (nE x)]) ∧ Below w.heap.size w w' := number_tab w x h0 h1 hk.kp
theorem below_bytesWorld (w : World) (e : TypeId) (t : ByteArray) : Below w.heap.size w (Lib.bytesWorld w e t) := ⟨rfl, rfl, rfl, by rw [Lib.bytesWorld_size]; omega, fun k hk => Lib.bytesWorld_at_old w e t k hk⟩
theorem rd_atoi {l : List UInt8} {most : Int} (h : rdOk l most) (hm : most ≤ 9223372036854775807) : Lib.atoiAll l = .ok (valD l) := atoi_canon l h.1 (by have := h.2; omega)
theorem rd_dec {l : List UInt8} {v : Int} {most : Int} (h0 : 0 ≤ v) (hm : v ≤ most) (h : Lib.decDigits v.toNat = l) : rdV l most = v ∧ rdE l most = 0 := by
  obtain ⟨h1, h2, _⟩ := dec_canon v.toNat
  rw [h] at h1 h2
  have hok : rdOk l most := ⟨h1, by omega⟩
  obtain ⟨e1, e2⟩ := rd_ok hok
  exact ⟨by rw [e1, h2]; omega, e2⟩
theorem mk_eq (l : List UInt8) (s : ByteArray) : ((⟨l.toArray⟩ : ByteArray).toList == s.toList) = decide (l = s.data.toList) := by
  rw [ByteArray.toList_eq, ByteArray.toList_eq]
  by_cases h : l = s.data.toList
  · rw [← h]; simp
  · simp [h]
set_option maxRecDepth 100000 in
set_option maxHeartbeats 2000000 in
theorem read_any (w : World) (s : ByteArray) (most : Int) (hs : s.size ≤ 281474976710656) (hm0 : -9223372036854775808 ≤ most) (hm1 : most ≤ 9223372036854775807) (hk : KD w) :
    Calls Tryd.prog 19 #[.string s, .int .i64 most] w fun e w' => e = .returned (.tuple #[.int .i64 (rdV s.data.toList most), .int .i64 (rdE s.data.toList most)]) ∧ Below w.heap.size w w' := by
  obtain ⟨l, Hl⟩ : ∃ l, Hid (s.data.toList = l) := ⟨_, rfl⟩
  have HQ : Hid (∀ d : List UInt8, (d == s.toList) = decide (d = l)) := by
    refine hid fun d => ?_
    have := mk_eq d s
    rw [Hl.out] at this
    rw [← this]
    simp
  rw [Hl.out]
  have KD0 := hid hk
  have NO : Hid (¬ rdOk l most → rdV l most = 0 ∧ rdE l most = 102) := hid rd_no
  have RA : Hid (rdOk l most → Lib.atoiAll l = .ok (valD l)) := hid fun h => rd_atoi h hm1
  cases ha : Lib.atoiAll l with
  | «syntax» =>
    have hno : ¬ rdOk l most := fun h => by have := RA.out h; rw [ha] at this; cases this
    obtain ⟨e1, e2⟩ := NO.out hno
    have E := hid (And.intro e1 e2)
    obtain ⟨tp, p, hc⟩ := hk.2.1
    have C := hid (Tryd.strconv_Atoi_syntax s hs (by rw [Hl.out]; exact ha) _ w hc (Or.inr ⟨_, _, rfl⟩))
    clear hno e1 e2 hc ha hk
    go_enter Tryd.func19, Tryd.ntmps19
    go_wp2_with fail
    refine C.out.mono ?_
    rintro e w1 ⟨N, rfl, _, _, hB⟩
    have B := hid hB
    clear hB C
    go_wp2
    go_ret2
    exact ⟨by rw [E.out.1, E.out.2]; rfl, B.out⟩
  | range =>
    have hno : ¬ rdOk l most := fun h => by have := RA.out h; rw [ha] at this; cases this
    obtain ⟨e1, e2⟩ := NO.out hno
    have E := hid (And.intro e1 e2)
    obtain ⟨tp, p, hc⟩ := hk.2.2
    have C := Tryd.strconv_Atoi_range s hs (by rw [Hl.out]; exact ha) _ w hc (Or.inr ⟨_, _, rfl⟩)
    obtain ⟨sat, Hsat⟩ : ∃ x, Hid (Lib.atoiSat s.data.toList = x) := ⟨_, rfl⟩
    rw [Hsat.out] at C
    have C := hid C
    clear hno e1 e2 hc ha hk
    go_enter Tryd.func19, Tryd.ntmps19
    go_wp2_with fail
    refine C.out.mono ?_
    rintro e w1 ⟨N, rfl, _, _, hB⟩
    have B := hid hB
    clear hB C
    go_wp2
    go_ret2
    exact ⟨by rw [E.out.1, E.out.2]; rfl, B.out⟩
  | ok v =>
    have hvb := Lib.atoiAll_bounds ha
    have HV : Hid (rdOk l most → v = (valD l : Int) ∧ (valD l : Int) ≤ most ∧ Lib.decDigits (valD l) = l) := by
      refine hid fun h => ?_
      have := RA.out h
      rw [ha] at this
      injection this with this
      exact ⟨this, h.2, canon_dec _ l rfl h.1⟩
    have C := hid (Tryd.strconv_Atoi_ok s (by omega) v (by rw [Hl.out]; exact ha) w)
    clear ha hk
    go_enter Tryd.func19, Tryd.ntmps19
    go_wp2_with fail
    refine C.out.mono ?_
    rintro e w1 ⟨rfl, hw⟩
    have B : Hid (Below w.heap.size w w1) := by
      rcases hw with rfl | ⟨t, rfl⟩
      · exact Below.refl _ _
      · exact below_bytesWorld w _ t
    clear hw C
    by_cases hvm : v > most
    · have E := hid (NO.out fun h => by have := HV.out h; omega)
      go_wp2
      go_ret2
      exact ⟨by rw [E.out.1, E.out.2]; rfl, B.out⟩
    · have CN := hid (number_any w1 v (by omega) (by omega) (KD0.out.below B.out))
      by_cases hv0 : v < 0
      · have E := hid (NO.out fun h => by have := HV.out h; omega)
        have e1 : nE v = 102 := by unfold nE; rw [if_pos hv0]
        rw [e1] at CN
        obtain ⟨S, HS⟩ : ∃ x, Hid (nS v = x) := ⟨_, rfl⟩
        rw [HS.out] at CN
        go_wp2_with fail
        refine CN.out.mono ?_
        rintro e w2 ⟨rfl, hB2⟩
        have B2 := hid (B.out.trans (hB2.mono B.out.size))
        clear hB2 CN
        go_wp2
        go_ret2
        exact ⟨by rw [E.out.1, E.out.2]; rfl, B2.out⟩
      · have e1 : nE v = 0 := by unfold nE; rw [if_neg hv0]
        have e2 : nS v = ⟨(Lib.decDigits v.toNat).toArray⟩ := by unfold nS; rw [if_neg hv0]
        have hq := HQ.out (Lib.decDigits v.toNat)
        rw [e1, e2] at CN
        have HD : Hid (Lib.decDigits v.toNat = l → rdV l most = v ∧ rdE l most = 0) := hid fun h => rd_dec (by omega) (by omega) h
        have HD2 : Hid (Lib.decDigits v.toNat ≠ l → rdV l most = 0 ∧ rdE l most = 102) := by
          refine hid fun h => NO.out fun hr => h ?_
          obtain ⟨q1, q2, q3⟩ := HV.out hr
          rw [← q3]
          congr 1
          omega
        obtain ⟨D, HDD⟩ : ∃ D, Hid (Lib.decDigits v.toNat = D) := ⟨_, rfl⟩
        rw [HDD.out] at hq CN HD HD2
        clear e1 e2
        go_wp2_with fail
        refine CN.out.mono ?_
        rintro e w2 ⟨rfl, hB2⟩
        have B2 := hid (B.out.trans (hB2.mono B.out.size))
        clear hB2 CN
        by_cases hd : D = l
        · have E := hid (HD.out hd)
          rw [decide_eq_true hd] at hq
          clear hd
          go_wp2
          go_ret2
          exact ⟨by rw [E.out.1, E.out.2]; rfl, B2.out⟩
        · have E := hid (HD2.out hd)
          rw [decide_eq_false hd] at hq
          clear hd
          go_wp2
          go_ret2
          exact ⟨by rw [E.out.1, E.out.2]; rfl, B2.out⟩
end Go.Proofs.YtabflkecjaphnaaDoor
namespace Go.Proofs.YtabflkecjaphnaaDoor
open Go Go.RowKit
theorem HB.grownD {w w' : World} {v : Value} {l : List Int} {ob : Option Nat} (h : HB w v l) (hg : w.grownBy w' ob) (hne : ∀ b o n c, v = .slice (some ⟨b, o, none⟩) n c → 0 < l.length → ob ≠ some b) : HB w' v l := by
  obtain ⟨⟨p, c, h1, h2, h3, h6, h4⟩, h5⟩ := h
  refine ⟨⟨p, c, h1, h2, h3, h6, fun hl => ?_⟩, h5⟩
  obtain ⟨b, off, e, hh⟩ := h4 hl
  exact ⟨b, off, e, fun j hj => hg.cell (hh j hj) (by intro q; subst e; exact hne _ _ _ _ h1 (List.length_pos_iff.2 hl) q.symm)⟩
theorem HB.lt {w : World} {v : Value} {l : List Int} (h : HB w v l) (h0 : 0 < l.length) {b o n c : Nat} (hv : v = .slice (some ⟨b, o, none⟩) n c) : b < w.heap.size := by
  obtain ⟨b', off, c', e, _, _, hc⟩ := h.ne h0
  rw [e] at hv
  injection hv with e1 e2 e3
  injection e1 with e1
  injection e1 with e1 e4
  subst e1
  exact World.block_lt_of_cell? w _ (hc 0 h0)
theorem strCells_nS (n : Nat) : Lib.strCells (nS (n : Int)) = (dgL n).map (Value.int .u8) := by
  unfold nS Lib.strCells dgL
  rw [if_neg (by omega), List.map_map]
  rfl
theorem nS_size (n : Nat) : (nS (n : Int)).size = (dgL n).length := by
  rw [← Lib.strCells_length, strCells_nS, List.length_map]
theorem dec_len_small : ∀ (n : Nat), n ≤ 99999 → (dgL n).length ≤ 5 := by
  intro n hn
  have := dec_len_mono 99999 n hn
  rw [dgL_length]
  have h2 : (Lib.decDigits 99999).length = 5 := by decide +kernel
  omega
theorem run_append_text (w : World) (base : Nat) (ty : TypeId) (v : Value) (n : Nat) (xs : List Value) (hown : w.ownsRow base 5 1 v n xs) (s : ByteArray) (h0 : 0 < s.size) (hn : n + s.size ≤ 140737488355328) (hbase : base ≤ w.heap.size) :
    ∃ v' w', (Builtin.append_ #[22, 9] ty #[v, .string s]).run Tryd.prog w = .ok v' w' ∧ w'.ownsRow base 5 1 v' (n + s.size) (xs ++ Lib.strCells s) ∧ w.grownBy w' v.ownBlock ∧
      (v'.ownBlock = v.ownBlock ∨ v'.ownBlock = some w.heap.size) := by
  obtain ⟨i0, hi, hz0, hz1, hz2⟩ := info_parts info_u8
  obtain ⟨v', w', hr, h2, h3, _⟩ := Lib.run_append_own_string (P := Tryd.prog) w base 22 9 ty 5 i0 Tryd.underlying22 Tryd.underlying9 hi hz0 hz1 hz2 v n xs hown s (by unfold maxLen; omega) hn hbase
  refine ⟨v', w', hr, h2, h3, ?_⟩
  rcases hown.2 with ⟨rfl, rfl⟩ | ⟨g, cap, cur, rfl, hbg, hg, hnc, hcm, hcs, htake⟩
  · have hr2 := run_append_nil_string (P := Tryd.prog) w 22 9 ty 5 i0 (.int .u8 0) Tryd.underlying22 Tryd.underlying9 hi hz0 s h0 (by omega) (by rw [hz2]; omega)
    rw [hr] at hr2
    simp only [Result.ok.injEq] at hr2
    obtain ⟨rfl, rfl⟩ := hr2
    exact .inr rfl
  · by_cases hroom : n + s.size ≤ cap
    · have hr2 := Lib.run_append_room_string (P := Tryd.prog) w 22 9 ty 5 i0 Tryd.underlying22 Tryd.underlying9 hi hz1 g n cap cur hg s hroom (by omega)
      rw [hr] at hr2
      simp only [Result.ok.injEq] at hr2
      obtain ⟨rfl, rfl⟩ := hr2
      exact .inl rfl
    · have hr2 := Lib.run_append_grow_string (P := Tryd.prog) w 22 9 ty 5 i0 (.int .u8 0) Tryd.underlying22 Tryd.underlying9 hi hz0 ⟨g, 0, none⟩ n cap xs (by rw [hz1]; exact hown.1) (hown.cells (g := g) rfl) s (by omega) (by omega) (growslice_fits (by omega) (by rw [hz2]; omega))
      rw [hr] at hr2
      simp only [Result.ok.injEq] at hr2
      obtain ⟨rfl, rfl⟩ := hr2
      exact .inr rfl
theorem wpList_append_text {w : World} {ops : Array Oper} {rest : List Oper} {o : Oper} {a : Act} {Q : Exit → Act → World → Prop} (hgd : o.guard = none) (s x : Operand)
    (ho : o.op = .call { callee := .builtin .append, args := #[s, x], argTypes := #[22, 9] })
    (base : Nat) (v : Value) (n : Nat) (xs : List Value) (hs : a.eval s = v) (hown : w.ownsRow base 5 1 v n xs)
    (t : ByteArray) (hx : a.eval x = .string t) (h0 : 0 < t.size) (hn : n + t.size ≤ 140737488355328) (hbase : base ≤ w.heap.size)
    (h : ∀ v' w', w'.ownsRow base 5 1 v' (n + t.size) (xs ++ Lib.strCells t) → w.grownBy w' v.ownBlock → (v'.ownBlock = v.ownBlock ∨ v'.ownBlock = some w.heap.size) → wpList Tryd.prog ops Q rest (a.put o.dst v') w') : wpList Tryd.prog ops Q (o :: rest) a w := by
  refine wpList_plain hgd fun K hK => ?_
  obtain ⟨v', w', hr, h2, h3, h4⟩ := run_append_text w base o.type v n xs hown t h0 hn hbase
  unfold Oper.wp execOp
  simp only [ho, resolve, invoke, builtin, Sem.run_bind, Sem.run_pure, Result.andThen_ok, List.map_toArray, List.map_cons, List.map_nil, hs, hx, hr]
  exact hK _ _ (h v' w' h2 h3 h4)
theorem run_append_bytesD (w : World) (base : Nat) (ty : TypeId) (v : Value) (n : Nat) (xs : List Value) (hown : w.ownsRow base 5 1 v n xs) (ad : Addr) (c : Nat) (l : List Int) (hnews : ∀ j u, (l.map (Value.int .u8))[j]? = some u → w.cell? (ad.add j) = some u) (hn : n + l.length ≤ 140737488355328) (hbase : base ≤ w.heap.size) :
    ∃ v' w', (Builtin.append_ #[22, 22] ty #[v, .slice (some ad) l.length c]).run Tryd.prog w = .ok v' w' ∧ w'.ownsRow base 5 1 v' (n + l.length) (xs ++ l.map (Value.int .u8)) ∧ w.grownBy w' v.ownBlock ∧
      (v'.ownBlock = v.ownBlock ∨ v'.ownBlock = some w.heap.size) := by
  obtain ⟨i0, hi, hz0, hz1, hz2⟩ := info_parts info_u8
  have h1 : ∀ u ∈ l.map (Value.int .u8), u.oneCell' = true := by intro u hu; obtain ⟨x, _, rfl⟩ := List.mem_map.1 hu; rfl
  have hl : (l.map (Value.int .u8)).length = l.length * 1 := by simp
  obtain ⟨v', w', hr, h2, h3, h4⟩ := run_append_own (P := Tryd.prog) w base 22 ty 5 i0 (.int .u8 0) 1 1 Tryd.underlying22 hi hz0 hz1 hz2 rfl (by decide) v n xs hown ad l.length c (l.map (Value.int .u8)) hl hnews h1 (by unfold maxLen; omega) (by omega) hbase
  refine ⟨v', w', hr, h2, h3, ?_⟩
  rcases hown.2 with ⟨rfl, rfl⟩ | ⟨g, cap, cur, rfl, hbg, hg, hnc, hcm, hcs, htake⟩
  · by_cases h0 : 0 < l.length
    · have hr2 := run_append_nil (P := Tryd.prog) w 22 ty 5 i0 (.int .u8 0) Tryd.underlying22 hi hz0 ad l.length c (l.map (Value.int .u8)) (by rw [hz1]; exact hl) hnews (by omega) (by omega) (by rw [hz2]; omega)
      rw [hr] at hr2
      simp only [Result.ok.injEq] at hr2
      obtain ⟨rfl, rfl⟩ := hr2
      exact .inr rfl
    · have := h4.2 ⟨rfl, by omega⟩
      rw [this]
      exact .inl rfl
  · by_cases hroom : n + l.length ≤ cap
    · obtain ⟨w2, hr2, _⟩ := run_append_fits (P := Tryd.prog) w base 22 ty 5 i0 1 Tryd.underlying22 hi hz1 g n cap xs hown ad l.length c (l.map (Value.int .u8)) hl hnews h1 hroom
      rw [hr] at hr2
      simp only [Result.ok.injEq] at hr2
      obtain ⟨rfl, rfl⟩ := hr2
      exact .inl rfl
    · have hr2 := run_append_grow (P := Tryd.prog) w 22 ty 5 i0 (.int .u8 0) Tryd.underlying22 hi hz0 ⟨g, 0, none⟩ n cap xs (by rw [hz1]; exact hown.1) (hown.cells (g := g) rfl) ad l.length c (l.map (Value.int .u8)) (by rw [hz1]; exact hl) hnews (by omega) (by omega) (growslice_fits (by omega) (by rw [hz2]; omega))
      rw [hr] at hr2
      simp only [Result.ok.injEq] at hr2
      obtain ⟨rfl, rfl⟩ := hr2
      exact .inr rfl
theorem wpList_append_bytes {w : World} {ops : Array Oper} {rest : List Oper} {o : Oper} {a : Act} {Q : Exit → Act → World → Prop} (hgd : o.guard = none) (s x : Operand)
    (ho : o.op = .call { callee := .builtin .append, args := #[s, x], argTypes := #[22, 22] })
    (base : Nat) (v : Value) (n : Nat) (xs : List Value) (hs : a.eval s = v) (hown : w.ownsRow base 5 1 v n xs)
    (u : Value) (l : List Int) (hx : a.eval x = u) (hu : HB w u l) (hn : n + l.length ≤ 140737488355328) (hbase : base ≤ w.heap.size)
    (h : ∀ v' w', w'.ownsRow base 5 1 v' (n + l.length) (xs ++ l.map (Value.int .u8)) → w.grownBy w' v.ownBlock → (v'.ownBlock = v.ownBlock ∨ v'.ownBlock = some w.heap.size) → wpList Tryd.prog ops Q rest (a.put o.dst v') w') : wpList Tryd.prog ops Q (o :: rest) a w := by
  obtain ⟨i0, hi, hz0, hz1, hz2⟩ := info_parts info_u8
  obtain ⟨⟨p, c, rfl, hlc, hm, hpn, hcell⟩, hby⟩ := hu
  cases p with
  | none =>
    have e : l = [] := by
      apply Classical.byContradiction
      intro hne
      obtain ⟨b, off, e, _⟩ := hcell hne
      cases e
    subst e
    have hc0 := hpn rfl
    subst hc0
    exact wpList_append_own_none hgd s x 22 ho base 5 i0 1 Tryd.underlying22 hi v n xs hs hown hx (h v w (by simpa using hown) ⟨rfl, rfl, rfl, Nat.le_refl _, fun _ _ _ => rfl⟩ (.inl rfl))
  | some ad =>
    have hnews : ∀ j u, (l.map (Value.int .u8))[j]? = some u → w.cell? (ad.add j) = some u := by
      intro j q hj
      have hjn : j < l.length := by
        have := (List.getElem?_eq_some_iff.1 hj).1
        simpa using this
      obtain ⟨b, off, e, hc⟩ := hcell (fun e => by rw [e] at hjn; simp at hjn)
      have e := Option.some.inj e
      have e2 : (l.map (Value.int .u8))[j]? = some (Value.int .u8 (l.getD j 0)) := by simp [List.getD, List.getElem?_eq_getElem hjn]
      rw [e2] at hj
      rw [e, Go.WideShapes.add_plain, hc j hjn]
      exact hj
    refine wpList_plain hgd fun K hK => ?_
    obtain ⟨v', w', hr, h2, h3, h4⟩ := run_append_bytesD w base o.type v n xs hown ad c l hnews hn hbase
    unfold Oper.wp execOp
    simp only [ho, resolve, invoke, builtin, Sem.run_bind, Sem.run_pure, Result.andThen_ok, List.map_toArray, List.map_cons, List.map_nil, hs, hx, hr]
    exact hK _ _ (h v' w' h2 h3 h4)
theorem grown_trU {w w1 w2 : World} {ob ob1 : Option Nat} (h1 : w.grownBy w1 ob) (h2 : w1.grownBy w2 ob1) (ho : ∀ k, ob1 = some k → k < w.heap.size → ob = some k) : w.grownBy w2 ob :=
  ⟨h2.os.trans h1.os, h2.tape.trans h1.tape, h2.output.trans h1.output, Nat.le_trans h1.size h2.size, fun k hk hn => (h2.block k (Nat.lt_of_lt_of_le hk h1.size) (fun e => hn (ho k e.symm hk).symm)).trans (h1.block k hk hn)⟩
theorem bel_grown {w w' : World} (h : Below w.heap.size w w') (ob : Option Nat) : w.grownBy w' ob := ⟨h.os, h.tape, h.output, h.size, fun k hk _ => h.block k hk⟩
end Go.Proofs.YtabflkecjaphnaaDoor
namespace Go.Proofs
open Go.Shelf
def Tryd.lays187_ren : Go.Shelf.Ren := ⟨fun | 187 => 18 | 255 => 22 | n => n, fun | 37 => 22 | 5 => 5 | 3 => 3 | n => n, fun | n => n⟩
theorem Tryd.lays187 : Go.Proofs.Lays.n187 Tryd.prog Tryd.lays187_ren := {
  mixed := by kernel_rfl
  f187 := Tryd.func18.trans (congrArg some (by kernel_rfl))
  f255 := Tryd.func22.trans (congrArg some (by kernel_rfl))
  t3 := Tryd.underlying3
  a3 := Tryd.isAgg3
  z3 := Tryd.sizeOf3
  v3 := Tryd.zeroValue3
  t5 := Tryd.underlying5
  a5 := Tryd.isAgg5
  z5 := Tryd.sizeOf5
  v5 := Tryd.zeroValue5
  t37 := Tryd.underlying22
  a37 := Tryd.isAgg22
  z37 := Tryd.sizeOf22
  v37 := Tryd.zeroValue22 }
theorem Tryd.bytes_IndexByte (b o n c : Nat) (xs : List Int) (cv : Int) (w : World) (hx : xs.length = n) (hc : ∀ i, i < n → w.cell? ⟨b, o + i, none⟩ = some (.int .u8 (xs.getD i 0))) :
    Calls Tryd.prog 18 #[.slice (some ⟨b, o, none⟩) n c, .int .u8 cv] w fun e w' => e = .returned (.int .i64 (Lib.indexByte (Lib.bytesOf xs) cv.toNat.toUInt8)) ∧ w' = w := Any.bytes_IndexByte Tryd.lays187 b o n c xs cv w hx hc
end Go.Proofs
namespace Go.Proofs.YtabflkecjaphnaaDoor
open Go.RowKit
theorem grown_set (w : World) (g o : Nat) (u : Value) : w.grownBy (w.setCell ⟨g, o, none⟩ u) (some g) :=
  ⟨rfl, rfl, rfl, by simp, fun k _ hk => heap_setCell_other w ⟨g, o, none⟩ k u (fun e => hk (by simp [e]))⟩
theorem grown_trans {a b c : World} {r : Option Nat} (h : a.grownBy b r) (k : b.grownBy c r) : a.grownBy c r :=
  ⟨k.os.trans h.os, k.tape.trans h.tape, k.output.trans h.output, Nat.le_trans h.size k.size, fun i hi hr => (k.block i (Nat.lt_of_lt_of_le hi h.size) hr).trans (h.block i hi hr)⟩
theorem grown_below {a b : World} {r : Option Nat} (h : Below a.heap.size a b) : a.grownBy b r :=
  ⟨h.os, h.tape, h.output, h.size, fun i hi _ => h.block i hi⟩
theorem HB.sliced {w : World} {p : Option Addr} {c : Nat} {l : List Int} (h : HB w (.slice p l.length c) l) (lo hi m : Nat) (h1 : lo ≤ hi) (h2 : hi ≤ l.length) (h3 : hi ≤ m) (h4 : m ≤ c) : HB w (.slice (if m = lo then p else p.map (·.add lo)) (hi - lo) (m - lo)) ((l.take hi).drop lo) := by
  obtain ⟨⟨p', c', e, hc, hm, hpc, hcell⟩, hby⟩ := h
  simp only [Value.slice.injEq, true_and] at e
  obtain ⟨rfl, rfl⟩ := e
  have hlen : ((l.take hi).drop lo).length = hi - lo := by simp; omega
  refine ⟨⟨_, m - lo, by rw [hlen], by omega, by omega, fun e => ?_, fun hne => ?_⟩, fun x hx => hby x (List.mem_of_mem_take (List.mem_of_mem_drop hx))⟩
  · have : p = none := by
      split at e
      · exact e
      · cases p <;> simp_all
    have := hpc this
    omega
  have hlt : lo < hi := by
    apply Classical.byContradiction
    intro hn
    exact hne (List.length_eq_zero_iff.1 (by omega))
  obtain ⟨b, off, rfl, hk⟩ := hcell (by intro e; subst e; simp at h2; omega)
  rw [if_neg (by omega)]
  refine ⟨b, off + lo, by simp [Go.WideShapes.add_plain], fun j hj => ?_⟩
  rw [hlen] at hj
  have := hk (lo + j) (by omega)
  rw [show off + lo + j = off + (lo + j) by omega, this]
  have e1 : ((l.take hi).drop lo).getD j 0 = l.getD (lo + j) 0 := by
    simp only [List.getD, List.getElem?_drop, List.getElem?_take]
    rw [if_pos (by omega)]
  rw [e1]
theorem HB.pre {w : World} {p : Option Addr} {c : Nat} {l : List Int} (h : HB w (.slice p l.length c) l) (n : Nat) (hn : n ≤ l.length) : HB w (.slice p n n) (l.take n) := by
  obtain ⟨p', c', e, hc, _⟩ := h.open
  simp only [Value.slice.injEq, true_and] at e
  obtain ⟨rfl, rfl⟩ := e
  have := h.sliced 0 n n (Nat.zero_le _) hn (Nat.le_refl _) (by omega)
  have e : (if n = 0 then p else p.map (·.add 0)) = p := by
    split
    · rfl
    · cases p <;> simp [Addr.add]
  simpa [e] using this
theorem HB.suf {w : World} {p : Option Addr} {c : Nat} {l : List Int} (h : HB w (.slice p l.length c) l) (n : Nat) (hn : n ≤ l.length) : HB w (.slice (if c = n then p else p.map (·.add n)) (l.length - n) (c - n)) (l.drop n) := by
  obtain ⟨p', c', e, hc, _⟩ := h.open
  simp only [Value.slice.injEq, true_and] at e
  obtain ⟨rfl, rfl⟩ := e
  have := h.sliced n l.length c hn (Nat.le_refl _) hc (Nat.le_refl _)
  rwa [List.take_of_length_le (Nat.le_refl _)] at this
theorem HB.slice_form {w : World} {v : Value} {l : List Int} (h : HB w v l) : ∃ p c, v = .slice p l.length c := by
  obtain ⟨p, c, e, _⟩ := h.open
  exact ⟨p, c, e⟩
end Go.Proofs.YtabflkecjaphnaaDoor
namespace Go.Proofs.YtabflkecjaphnaaDoor
open Go Go.RowKit
def CfQ (l : List Int) (most : Nat) (w' : World) (vf : Value) (n : Int) (is : Bool) : Prop :=
  (is = true ∧ ∃ f x, l = fld f ++ x ∧ f.length ≤ most ∧ n = (fld f).length ∧ HB w' vf f) ∨ (is = false ∧ ∀ f x, f.length ≤ most → l ≠ fld f ++ x)
theorem bS_bytes (l : List Int) : (bS l).data.toList = Lib.bytesOf l := by unfold bS Lib.bytesOf; simp
theorem getD_app_right {a b : List Int} (j : Nat) : (a ++ b).getD (a.length + j) 0 = b.getD j 0 := by
  simp [List.getD, List.getElem?_append_right (Nat.le_add_right _ _)]
theorem HB.preC {w : World} {a : Addr} {c : Nat} {l : List Int} (h : HB w (.slice (some a) l.length c) l) (n : Nat) (hn : n ≤ l.length) : HB w (.slice (some a) n c) (l.take n) := by
  obtain ⟨⟨p, c', h1, h2, h3, h6, h4⟩, h5⟩ := h
  injection h1 with e1 e2 e3
  subst e1 e3
  have hl : (l.take n).length = n := by rw [List.length_take]; omega
  refine ⟨⟨some a, c, by rw [hl], by rw [hl]; omega, h3, h6, fun hne => ?_⟩, fun x hx => h5 x (List.mem_of_mem_take hx)⟩
  obtain ⟨b, off, e, hc⟩ := h4 (fun e => hne (by rw [e]; simp))
  refine ⟨b, off, e, fun j hj => ?_⟩
  rw [hl] at hj
  rw [hc j (by omega)]
  simp [List.getD, List.getElem?_take, hj]
set_option maxRecDepth 100000 in
set_option maxHeartbeats 4000000 in
theorem cutField_any (w0 w : World) (hB0 : Below w0.heap.size w0 w) (b off c : Nat) (l : List Int) (most : Nat) (h0 : HB w0 (.slice (some ⟨b, off, none⟩) l.length c) l) (hm : most ≤ 65536) (hk : KD w) :
    Calls Tryd.prog 12 #[.slice (some ⟨b, off, none⟩) l.length c, .int .i64 (most : Int)] w fun e w' => ∃ vf n is, e = .returned (.tuple #[vf, .int .i64 n, .bool is]) ∧ CfQ l most w0 vf n is ∧ Below w.heap.size w w' := by
  have h := h0.below hB0
  have C := number_any w (most : Int) (by omega) (by omega) hk
  have e2 : nE (most : Int) = 0 := by unfold nE; rw [if_neg (by omega)]
  have hsz := nS_size most
  have hd5 := dec_len_small most (by omega)
  obtain ⟨G, HG⟩ : ∃ D, Hid (nS (most : Int) = D) := ⟨_, rfl⟩
  obtain ⟨D, HD⟩ : ∃ D, Hid ((dgL most).length = D) := ⟨_, rfl⟩
  rw [HG.out, e2] at C
  rw [HG.out, HD.out] at hsz
  rw [HD.out] at hd5
  have C := hid C
  have hbyt : Byt8 l := h.2
  have hlc : l.length ≤ c ∧ c ≤ maxLen := by
    obtain ⟨p, c', e, h1, h2⟩ := h.open
    injection e with e1 e2 e3
    subst e3
    exact ⟨h1, h2⟩
  have hm63 : l.length ≤ 9223372036854775807 := by have := hlc.2; unfold maxLen at this; omega
  have hcells : ∀ j, j < l.length → w.cell? ⟨b, off + j, none⟩ = some (.int .u8 (l.getD j 0)) := by
    intro j hj
    obtain ⟨b', o', c', e, _, _, hc⟩ := h.ne (by omega)
    injection e with e1 e2 e3
    injection e1 with e1
    injection e1 with e1 e4
    subst e1 e4
    exact hc j hj
  have hcells0 : ∀ j, j < l.length → w0.cell? ⟨b, off + j, none⟩ = some (.int .u8 (l.getD j 0)) := by
    intro j hj
    obtain ⟨b', o', c', e, _, _, hc⟩ := h0.ne (by omega)
    injection e with e1 e2 e3
    injection e1 with e1
    injection e1 with e1 e4
    subst e1 e4
    exact hc j hj
  have HC0 := hid hcells0
  have HK := hid hk
  have HH := hid h
  have HBY := hid hbyt
  have HCE := hid hcells
  obtain ⟨n, HN⟩ : ∃ n, Hid (l.length = n) := ⟨_, rfl⟩
  rw [HN.out] at hlc hm63
  rw [HN.out]
  obtain ⟨m, HM⟩ : ∃ m, Hid (min n (D + 1) = m) := ⟨_, rfl⟩
  have hmn : m ≤ n := by rw [← HM.out]; omega
  have hmin : min (n : Int) ((D : Int) + 1) = (m : Int) := by rw [← HM.out]; omega
  have HT : Hid (l.take m = l.take (D + 1)) := by
    refine hid ?_
    rw [← HM.out, ← HN.out]
    by_cases q : l.length ≤ D + 1
    · rw [Nat.min_eq_left q, List.take_of_length_le (Nat.le_refl _), List.take_of_length_le q]
    · rw [Nat.min_eq_right (by omega)]
  clear hbyt hcells h hk e2 hcells0 h0 hB0
  go_enter Tryd.func12, Tryd.ntmps12
  go_wp2_with fail
  refine C.out.mono ?_
  rintro e w1 ⟨rfl, hb1⟩
  have B1 := hid hb1
  have H1 := hid (HH.out.below hb1)
  have C2 := Tryd.bytes_IndexByte b off m c (l.take m) 58 w1 (by rw [List.length_take, HN.out]; omega) (by
    intro i hi
    rw [hb1.cell (World.block_lt_of_cell? w _ (HCE.out i (by have := HN.out; omega))), HCE.out i (by have := HN.out; omega)]
    simp [List.getD, List.getElem?_take, hi])
  have C2 := hid C2
  clear hb1 C
  go_wp2_with fail
  refine C2.out.mono ?_
  rintro e w1' ⟨rfl, hw⟩
  rw [hw]
  clear C2 hw w1'
  rcases idx58 (l.take m) (fun x hx => HBY.out x (List.mem_of_mem_take hx)) with ⟨hi, hno⟩ | ⟨pre, suf, hsp, hno, hi⟩
  · have hi2 : Lib.indexByte (Lib.bytesOf (l.take m)) (58 : Int).toNat.toUInt8 = -1 := hi
    rw [hi2]
    have HQ : Hid (∀ f x : List Int, f.length ≤ most → l ≠ fld f ++ x) := by
      refine hid fun f x hf => fld_none (most := most) ?_ f x hf
      rw [HD.out, ← HT.out]
      exact hno
    clear hi hi2 hno
    go_wp2
    go_ret3
    exact ⟨_, _, _, rfl, Or.inr ⟨rfl, HQ.out⟩, B1.out⟩
  · have hi2 : Lib.indexByte (Lib.bytesOf (l.take m)) (58 : Int).toNat.toUInt8 = (pre.length : Int) := hi
    rw [hi2]
    obtain ⟨l', hl', hpl⟩ := take_colon hsp
    have HL := hid hl'
    have hpn : pre.length + 1 ≤ n := by rw [← HN.out, hl']; simp
    have HNO := hid hno
    have hpb : Byt8 pre := fun x hx => HBY.out x (by rw [hl']; simp [hx])
    have HPB := hid hpb
    have hpre : l.take pre.length = pre := by rw [hl']; simp
    have hH2 := H1.out.preC pre.length (by rw [HN.out]; omega)
    rw [hpre] at hH2
    have qc := conv_str hH2
    have C3 := read_any w1 (bS pre) (most : Int) (by rw [bS_size]; omega) (by omega) (by omega) (HK.out.below B1.out)
    rw [bS_bytes] at C3
    have HP := hid hpre
    clear hi hi2 hno hsp hl' hpb hpre hH2
    by_cases hr : rdOk (Lib.bytesOf pre) (most : Int)
    · obtain ⟨r1, r2⟩ := rd_ok hr
      have hvle := hr.2
      have hpd := pre_dgL HPB.out hr
      obtain ⟨v, HV⟩ : ∃ v, Hid (valD (Lib.bytesOf pre) = v) := ⟨_, rfl⟩
      rw [HV.out] at r1 hvle hpd
      rw [r1, r2] at C3
      have HPD := hid hpd
      have C3 := hid C3
      clear r1 r2 hr hpd
      obtain ⟨cl, HCL⟩ : ∃ x, Hid (pre.length = x) := ⟨_, rfl⟩
      rw [HCL.out] at hpn hpl qc
      rw [HCL.out]
      go_wp2_with fail
      refine C3.out.mono ?_
      rintro e w2 ⟨rfl, hb2⟩
      have B2 := hid (B1.out.trans (hb2.mono B1.out.size))
      have H2 := hid (H1.out.below hb2)
      have HCE2 : Hid (∀ j, j < n → w2.cell? ⟨b, off + j, none⟩ = some (.int .u8 (l.getD j 0))) := by
        refine hid fun j hj => ?_
        have hj2 := HCE.out j (by have := HN.out; omega)
        rw [B2.out.cell (World.block_lt_of_cell? w _ hj2), hj2]
      clear hb2 C3
      have hlen : Hid (cl + 1 + l'.length = n) := by
        refine hid ?_
        rw [← HN.out, HL.out, ← HCL.out]
        simp
        omega
      have hg : ∀ j, l.getD (cl + 1 + j) 0 = l'.getD j 0 := by
        intro j
        rw [HL.out, ← HCL.out, show pre.length + 1 + j = pre.length + (j + 1) by omega, getD_app_right]
        rfl
      have HPL : Hid (l = dgL v ++ 58 :: l') := by
        refine hid ?_
        rw [← HPD.out]
        exact HL.out
      have HGE := hid hg
      by_cases he : cl + 1 + v < n
      · have hc := HCE2.out (cl + 1 + v) he
        rw [hg] at hc
        clear hg
        by_cases h44 : l'.getD v 0 = 44
        · rw [h44] at hc
          have HV5 : Hid (HB w0 (.slice (some ⟨b, off + (cl + 1), none⟩) (cl + 1 + v - (cl + 1)) (c - (cl + 1))) (l'.take v)) := by
            have hlv : (l'.take v).length = v := by rw [List.length_take]; have := hlen.out; omega
            refine hid ⟨⟨_, _, by rw [hlv, show cl + 1 + v - (cl + 1) = v by omega], by rw [hlv]; omega, by have := hlc.2; omega, (fun e => by cases e), fun _ => ⟨b, off + (cl + 1), rfl, fun j hj => ?_⟩⟩, fun x hx => HBY.out x (by rw [HL.out]; simp [List.mem_of_mem_take hx])⟩
            rw [hlv] at hj
            rw [show off + (cl + 1) + j = off + (cl + 1 + j) by omega, HC0.out (cl + 1 + j) (by have := HN.out; omega), HGE.out]
            simp [List.getD, List.getElem?_take, hj]
          obtain ⟨g1, g2⟩ := fld_hit HPL.out (by have := hlen.out; omega) h44
          have HQ1 := hid g1
          have HQ2 := hid g2
          have HN5 : Hid ((cl : Int) + 1 + (v : Int) + 1 = ((fld (l'.take v)).length : Nat)) := by
            refine hid ?_
            rw [fld_len, g2, ← HPD.out, HCL.out]
            omega
          clear g1 g2 h44
          go_wp2
          go_ret3
          exact ⟨_, _, _, rfl, Or.inl ⟨rfl, _, _, HQ1.out, by rw [HQ2.out]; omega, HN5.out, HV5.out⟩, B2.out⟩
        · have HQ := hid (fld_short (most := most) HPL.out (Or.inr h44))
          obtain ⟨x, hx⟩ : ∃ x, l'.getD v 0 = x := ⟨_, rfl⟩
          rw [hx] at hc h44
          have hne : (x != 44) = true := by rw [bne_iff_ne]; exact h44
          clear hx
          go_wp2
          go_ret3
          exact ⟨_, _, _, rfl, Or.inr ⟨rfl, HQ.out⟩, B2.out⟩
      · have HQ := hid (fld_short (most := most) HPL.out (Or.inl (by have := hlen.out; omega)))
        clear hg
        have he2 : (n : Int) ≤ (cl : Int) + 1 + (v : Int) := by omega
        go_wp2
        go_ret3
        exact ⟨_, _, _, rfl, Or.inr ⟨rfl, HQ.out⟩, B2.out⟩
    · have HQ := hid (fld_bad HL.out HNO.out hr)
      obtain ⟨r1, r2⟩ := rd_no hr
      rw [r1, r2] at C3
      have C3 := hid C3
      clear r1 r2 hr
      obtain ⟨cl, HCL⟩ : ∃ x, Hid (pre.length = x) := ⟨_, rfl⟩
      rw [HCL.out] at hpn hpl qc
      rw [HCL.out]
      go_wp2_with fail
      refine C3.out.mono ?_
      rintro e w2 ⟨rfl, hb2⟩
      have B2 := hid (B1.out.trans (hb2.mono B1.out.size))
      clear hb2 C3
      go_wp2
      go_ret3
      exact ⟨_, _, _, rfl, Or.inr ⟨rfl, HQ.out⟩, B2.out⟩
theorem info_row : (Tryd.prog.info? 39).map (fun i => (i.zero, i.size, i.bytes)) = some (some (.agg #[.string ⟨#[]⟩, .slice none 0 0]), 2, 40) := by kernel_rfl
theorem size_row : (Tryd.prog.info? 39).map (·.size) = some 2 := by kernel_rfl
theorem getD_get {rs : List Rw} {k : Nat} (h : k < rs.length) : rs.getD k rw0 = rs[k] := by simp [List.getD, List.getElem?_eq_getElem h]
theorem take_snoc {rs : List Rw} {k : Nat} (h : k < rs.length) : rs.take (k + 1) = rs.take k ++ [rs.getD k rw0] := by rw [List.take_succ_eq_append_getElem h, getD_get h]
theorem okRows_not {rs : List Rw} {k : Nat} (h : k < rs.length) (hn : ¬ okRow (lastN noS (rs.take k)) (rs.getD k rw0)) : ¬ mayT rs := by
  intro hm
  have := okRows_take hm.2 (k + 1)
  rw [take_snoc h, okRows_snoc] at this
  exact hn this.2
end Go.Proofs.YtabflkecjaphnaaDoor
namespace Go.Proofs.YtabflkecjaphnaaDoor
open Go.RowKit
def cellsB (l : List Int) : Array Value := (l.map (Value.int .u8)).toArray
theorem cellsB_size (l : List Int) : (cellsB l).size = l.length := by simp [cellsB]
theorem cellsB_one (l : List Int) : (cellsB l).all (·.oneCell') = true := all_oneCell_toArray (fun v hv => by obtain ⟨x, _, rfl⟩ := List.mem_map.1 hv; rfl)
def zeros32 : List Int := List.replicate 32 0
theorem isAgg_u8 (w : World) : (isAgg 5).run Tryd.prog w = .ok false w := by
  unfold isAgg
  rw [Sem.run_bind, run_underlying Tryd.underlying5 w]
  rfl
theorem part_u8 (w : World) (l : List Int) (i : Nat) (hi : i < l.length) : (part 5 (cellsB l) i).run Tryd.prog w = .ok (.int .u8 (l.getD i 0)) w := by
  have e : (cellsB l)[i]? = some (.int .u8 (l.getD i 0)) := by simp [cellsB, List.getD, List.getElem?_eq_getElem hi]
  simp [part, e]
def eqRound (d : Nat) (xs ys : List Int) (i : Nat) (_ : Option Bool × Unit) : Sem (ForInStep (Option Bool × Unit)) := do
  let a ← part 5 (cellsB xs) (i * 1)
  let b ← part 5 (cellsB ys) (i * 1)
  let c ← Op.equalIn (d + 1) 5 a b
  if (!c) = true then pure (ForInStep.done (some false, ())) else pure (ForInStep.yield (none, ()))
theorem run_eqRound (w : World) (d : Nat) (xs ys : List Int) (i : Nat) (s : Option Bool × Unit) (hx : i < xs.length) (hy : i < ys.length) :
    (eqRound d xs ys i s).run Tryd.prog w = .ok (if xs.getD i 0 = ys.getD i 0 then .yield (none, ()) else .done (some false, ())) w := by
  unfold eqRound
  simp only [Sem.run_bind, Nat.mul_one, part_u8 w xs i hx, part_u8 w ys i hy, Result.andThen_ok, run_equalIn_int w d 5 .u8 .u8 _ _ Tryd.underlying5]
  by_cases h : xs.getD i 0 = ys.getD i 0
  · have e : (xs.getD i 0 == ys.getD i 0) = true := by simpa using h
    rw [e, if_pos h]; rfl
  · have e : (xs.getD i 0 == ys.getD i 0) = false := by simpa using h
    rw [e, if_neg h]; rfl
theorem run_eqRounds (w : World) (d n : Nat) (xs ys : List Int) (hx : xs.length = n) (hy : ys.length = n) : ∀ (m k : Nat), k + m = n → xs.take k = ys.take k →
    (forIn (List.range' k m 1) ((none : Option Bool), ()) (eqRound d xs ys)).run Tryd.prog w = .ok (if xs = ys then (none, ()) else (some false, ())) w
  | 0, k, hk, ht => by
    have e : xs = ys := by rw [← List.take_of_length_le (show xs.length ≤ k by omega), ← List.take_of_length_le (show ys.length ≤ k by omega), ht]
    simp [e]
  | m + 1, k, hk, ht => by
    rw [List.range'_succ, List.forIn_cons, Sem.run_bind, run_eqRound w d xs ys k _ (by omega) (by omega), Result.andThen_ok]
    by_cases h : xs.getD k 0 = ys.getD k 0
    · rw [if_pos h]
      have h2 : xs.take (k + 1) = ys.take (k + 1) := by
        rw [List.take_succ_eq_append_getElem (by omega), List.take_succ_eq_append_getElem (by omega), ht]
        rw [getD_of_lt (by omega), getD_of_lt (by omega)] at h
        rw [h]
      exact run_eqRounds w d n xs ys hx hy m (k + 1) (by omega) h2
    · rw [if_neg h, if_neg (fun e => h (by rw [e]))]
      rfl
theorem run_equalIn_bytes (w : World) (d n : Nat) (t : TypeId) (ht : Tryd.prog.underlying t = some (.array n 5)) (xs ys : List Int) (hx : xs.length = n) (hy : ys.length = n) :
    (Op.equalIn (d + 2) t (.agg (cellsB xs)) (.agg (cellsB ys))).run Tryd.prog w = .ok (decide (xs = ys)) w := by
  rw [Op.equalIn]
  simp only [Sem.run_bind, run_underlying ht, Result.andThen_ok, size_u8]
  have hr := run_eqRounds w d n xs ys hx hy n 0 (by omega) rfl
  have e : (forIn (m := Sem) [:n] ((none : Option Bool), ()) (eqRound d xs ys)) = forIn (List.range' 0 n 1) ((none : Option Bool), ()) (eqRound d xs ys) := by
    rw [Std.Legacy.Range.forIn_eq_forIn_range']
    simp [Std.Legacy.Range.size]
  rw [← e] at hr
  refine (congrArg (fun r => Result.andThen r _) hr).trans ?_
  by_cases h : xs = ys
  · simp [h]
  · simp [h]
theorem run_neq_bytes (w : World) (n : Nat) (t : TypeId) (ht : Tryd.prog.underlying t = some (.array n 5)) (xs ys : List Int) (hx : xs.length = n) (hy : ys.length = n) :
    (binOp .neq t (.agg (cellsB xs)) (.agg (cellsB ys))).run Tryd.prog w = .ok (.bool (!decide (xs = ys))) w := by
  rw [run_neq_struct, run_equalIn_bytes w 9998 n t ht xs ys hx hy]
  rfl
theorem run_eql_bytes (w : World) (n : Nat) (t : TypeId) (ht : Tryd.prog.underlying t = some (.array n 5)) (xs ys : List Int) (hx : xs.length = n) (hy : ys.length = n) :
    (binOp .eql t (.agg (cellsB xs)) (.agg (cellsB ys))).run Tryd.prog w = .ok (.bool (decide (xs = ys))) w := by
  rw [run_eql_struct, run_equalIn_bytes w 9998 n t ht xs ys hx hy]
  rfl
theorem below_setRow {B : Nat} {a w : World} (h : Below B a w) {g : Nat} (hg : B ≤ g) (cs : Array Value) : Below B a (w.setRow g cs) :=
  h.trans ⟨rfl, rfl, rfl, by simp [World.setRow], fun k hk => setRow_other w g k _ (by omega)⟩
end Go.Proofs.YtabflkecjaphnaaDoor
namespace Go.Proofs.YtabflkecjaphnaaDoor
open Go Go.RowKit
def Bk (w : World) (x : Nat) (cs : Array Value) (T : TypeId) : Prop := w.heap[x]? = some (.cells cs T (0, 0))
theorem Bk.below {w w' : World} {x : Nat} {cs : Array Value} {T : TypeId} (h : Bk w x cs T) (hb : Below w.heap.size w w') : Bk w' x cs T := (hb.block x (Array.getElem?_eq_some_iff.1 h).1).trans h
theorem Bk.cell {w : World} {x : Nat} {cs : Array Value} {T : TypeId} (h : Bk w x cs T) (i : Nat) (v : Value) (hi : cs[i]? = some v) : w.cell? ⟨x, i, none⟩ = some v := by rw [cell_of_row _ _ _ _ _ _ h]; exact hi
theorem Bk.free {w : World} {x : Nat} {cs : Array Value} {T : TypeId} (h : Bk w x cs T) (i : Nat) : w.frozen? ⟨x, i, none⟩ = false := by
  have h' : w.heap[x]? = some (.cells cs T (0, 0)) := h
  simp [World.frozen?, h']
theorem Bk.set {w : World} {x : Nat} {cs : Array Value} {T : TypeId} (h : Bk w x cs T) (i : Nat) (v : Value) : Bk (w.setCell ⟨x, i, none⟩ v) x (cs.setIfInBounds i v) T := by
  have h' : w.heap[x]? = some (.cells cs T (0, 0)) := h
  simp [Bk, World.setCell, Array.getElem?_modify, h']
theorem Bk.setOther {w : World} {x y : Nat} {cs : Array Value} {T : TypeId} (h : Bk w x cs T) (hne : y ≠ x) (i : Nat) (v : Value) : Bk (w.setCell ⟨y, i, none⟩ v) x cs T := by
  have h' : w.heap[x]? = some (.cells cs T (0, 0)) := h
  simp [Bk, World.setCell, Array.getElem?_modify, hne, h']
end Go.Proofs.YtabflkecjaphnaaDoor
namespace Go.Proofs.YtabflkecjaphnaaDoor
open Go.RowKit
set_option maxHeartbeats 1000000 in
theorem clone_any (w : World) (v : Value) (l : List Int) (h : HB w v l) (hbig : l.length ≤ 140737488355328) :
    Calls Tryd.prog 13 #[v] w fun e w' => ∃ v', e = .returned v' ∧ w'.ownsRow w.heap.size 5 1 v' l.length (l.map (Value.int .u8)) ∧ Below w.heap.size w w' := by
  obtain ⟨i0, hi, hz0, hz1, hz2⟩ := info_parts info_u8
  have q22 := eql_nil_bytes
  obtain ⟨⟨p, c, rfl, hlc, hm, _, hcell⟩, hby⟩ := h
  cases p with
  | none =>
    have e : l = [] := by
      apply Classical.byContradiction
      intro hne
      obtain ⟨b, off, e, _⟩ := hcell hne
      cases e
    subst e
    go_enter Tryd.func13, Tryd.ntmps13
    go_wp2
    go_ret
    exact ⟨_, rfl, World.ownsRow_nil _ _ _ _, Below.refl _ _⟩
  | some a =>
    have A : Hid (l ≠ [] → ∃ b off, some a = some ⟨b, off, none⟩ ∧ ∀ j, j < l.length → w.cell? ⟨b, off + j, none⟩ = some (.int .u8 (l.getD j 0))) := hcell
    clear hcell
    go_enter Tryd.func13, Tryd.ntmps13
    go_wp2_with (at_builtin; refine wpList_append_own _ rfl _ _ 22 rfl w.heap.size 5 i0 (.int .u8 0) 1 1 Tryd.underlying22 hi hz0 hz1 hz2 rfl (by decide) _ _ _ rfl (World.ownsRow_made w #[] 0 (Nat.le_refl _) (Nat.zero_le _) rfl) a l.length c (l.map (Value.int .u8)) rfl ?qc1 ?qc2 ?qc3 ?qc4 ?qc5 ?qc6 ?_)
    case qc1 => simp
    case qc2 =>
      intro j u hj
      have hjn : j < l.length := by
        have := (List.getElem?_eq_some_iff.1 hj).1
        simpa using this
      refine Lib.cell?_alloc_some _ ?_
      obtain ⟨b, off, e, hh⟩ := A.out (by intro e; subst e; simp at hjn)
      cases e
      rw [Go.WideShapes.add_plain, hh j hjn]
      have e : (l.map (Value.int .u8))[j]? = some (Value.int .u8 (l.getD j 0)) := by simp [List.getD, List.getElem?_eq_getElem hjn]
      rw [e] at hj
      exact hj
    case qc3 => intro u hu; obtain ⟨x, _, rfl⟩ := List.mem_map.1 hu; rfl
    case qc4 => unfold maxLen; omega
    case qc5 => omega
    case qc6 => simp
    intro v' w1 hown hgrow hnil
    go_wp2
    go_ret
    exact ⟨v', rfl, by simpa using hown, ((Below.refl _ w).alloc (Nat.le_refl _) _).grown hgrow (by simp) (by intro k hk; simp [Value.ownBlock] at hk; omega)⟩
end Go.Proofs.YtabflkecjaphnaaDoor
