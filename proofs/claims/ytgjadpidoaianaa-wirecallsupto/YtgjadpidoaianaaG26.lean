/- Of the road to wireCallsUpto_holds: WrAskAny, ApartF, WrCallsWalk, OpensOp. -/
import Derived.Test.YtgjadpidoaianaaG19
import Derived.Test.YtgjadpidoaianaaG20
import Derived.Test.YtgjadpidoaianaaG21
import Derived.Test.YtgjadpidoaianaaG25
import Derived.Test.YtgjadpidoaianaaG11
import Derived.Test.YtgjadpidoaianaaG10
import Derived.Test.YtgjadpidoaianaaG00
import Derived.Deep.RegionHeld3
import Derived.Test.YtgjadpidoaianaaG09
import Derived.Deep.Slices
set_option linter.unusedVariables false
set_option linter.unusedSimpArgs false
namespace Go.Proofs.Ytgjadpidoaianaa
open Go Go.RowKit
theorem ask_any (w0 w : World) (g n : Nat) (cl : Int) (r : Rq) (qv : Value) (qb : List Int) (k : Int) (nv : Value) (ns : List Int) (rv : Value) (rb : List Int) (dv : Value) (db : List Int) (h0 : OpH w0 r qv qb k nv ns rv rb dv db) (hbel : Below w0.heap.size w0 w) (hb : BKE w0.heap.size w g n) (hgB : w0.heap.size ≤ g) (hn : n ≤ 4000000) :
    Calls Try.prog 9 #[.pointer (some ⟨g, 0, none⟩), .agg (opL cl r qv k nv rv dv).toArray] w fun e w' => e = .returned (.bool true) ∧ BKE w0.heap.size w' g (n + 1) ∧ Below w0.heap.size w0 w' := by
  by_cases c0 : cl = 0
  · exact ask_0 w0 w g n cl r qv qb k nv ns rv rb dv db h0 hbel hb hgB hn c0
  by_cases c1 : cl = 1
  · exact ask_1 w0 w g n cl r qv qb k nv ns rv rb dv db h0 hbel hb hgB hn c1
  by_cases c2 : cl = 2
  · exact ask_2 w0 w g n cl r qv qb k nv ns rv rb dv db h0 hbel hb hgB hn c2
  by_cases c3 : cl = 3
  · exact ask_3 w0 w g n cl r qv qb k nv ns rv rb dv db h0 hbel hb hgB hn c3
  exact ask_d w0 w g n cl r qv qb k nv ns rv rb dv db h0 hbel hb hgB hn c0 c1 c2 c3
structure Opv where
  cl : Int
  r : Rq
  qv : Value
  qb : List Int
  k : Int
  nv : Value
  ns : List Int
  rv : Value
  rb : List Int
  dv : Value
  db : List Int
def Opv.cs (o : Opv) : List Value := opL o.cl o.r o.qv o.k o.nv o.rv o.dv
def Opv.H (o : Opv) (w : World) : Prop := OpH w o.r o.qv o.qb o.k o.nv o.ns o.rv o.rb o.dv o.db
def HOps (w : World) (v : Value) (os : List Opv) : Prop :=
  (∃ (p : Option Addr) (c : Nat), v = .slice p os.length c ∧ os.length ≤ c ∧ c ≤ maxLen ∧ (0 < os.length → ∃ b off, p = some ⟨b, off, none⟩ ∧ ∀ i (hi : i < os.length), w.rangeAt b (off + i * 28) (os[i]).cs)) ∧ ∀ o ∈ os, o.H w
theorem BKE.start {w : World} {B g : Nat} (hB : B ≤ w.heap.size) (hg : w.heap[g]? = some (.cells #[nlS, nlS, nlS, nlS] TB (0, 0))) : BKE B w g 0 := by
  have e : ∀ (t : TypeId) (κ : IntKind), Els B w.heap.size w.heap.size t κ w [] [] := fun t κ => ⟨rfl, fun k hk => by simp at hk, fun k hk => by simp at hk⟩
  refine ⟨nlS, nlS, nlS, nlS, [], [], [], [], [], [], ⟨hg, World.ownsRow_nil _ _ _ _, World.ownsRow_nil _ _ _ _, World.ownsRow_nil _ _ _ _, World.ownsRow_nil _ _ _ _, .inl rfl, .inl rfl, e _ _, e _ _, e _ _, e _ _, fun i j hi => by simp at hi, fun i j hi => by simp at hi, fun l hl => (by cases hl), fun l hl => (by cases hl), hB⟩, Nat.le_refl _, Nat.le_refl _, fun l hl => (by cases hl), fun l hl => (by cases hl)⟩
theorem getD_lt {α : Type} {xs : List α} {d : α} {j : Nat} (h : j < xs.length) : xs.getD j d = xs[j] := by simp [List.getD, List.getElem?_eq_getElem h]
theorem mem_getD {ls : List (List Int)} {j : Nat} (h : j < ls.length) : ls.getD j [] ∈ ls := by
  rw [getD_lt h]
  exact List.getElem_mem h
theorem rows_HL {w : World} {B S C : Nat} {v : Value} {xs : List Value} {ls : List (List Int)} (hr : w.ownsRow B 36 1 v ls.length xs) (he : Els B S C 5 .u8 w xs ls) (hy : ∀ l ∈ ls, ∀ x ∈ l, 0 ≤ x ∧ x < 256) : HL w v ls := by
  by_cases h0 : 0 < ls.length
  · obtain ⟨g, cap, rfl, _, hn, hm, hc⟩ := ownsRow_cells hr h0
    refine ⟨_, cap, rfl, hn, hm, (fun e => by cases e), fun _ => ⟨g, 0, rfl, fun j hj => ⟨xs.getD j undef, ?_, HB.of_own (he.own j (by rw [he.len]; exact hj)) (hy _ (mem_getD hj))⟩⟩⟩
    exact hc j _ (by rw [getD_lt (by rw [he.len]; exact hj), List.getElem?_eq_getElem (by rw [he.len]; exact hj)])
  · have e : ls = [] := List.length_eq_zero_iff.1 (by omega)
    subst e
    rcases hr.2 with ⟨rfl, _⟩ | ⟨g, cap, cur, rfl, _, _, hn, hm, _⟩
    · exact HL.nil _
    · exact ⟨_, cap, rfl, hn, hm, (fun e => by cases e), fun h => absurd rfl h⟩
theorem rows_HV {w : World} {B : Nat} {v : Value} {xs : List Value} (hr : w.ownsRow B 36 1 v xs.length xs) : HV w v xs := by
  by_cases h0 : 0 < xs.length
  · obtain ⟨g, cap, rfl, _, hn, hm, hc⟩ := ownsRow_cells hr h0
    obtain ⟨_, _, cs, hh⟩ := own_at hr (b := g) rfl
    exact ⟨_, cap, rfl, hn, hm, fun _ => ⟨g, 0, rfl, ⟨cs, (0, 0), hh⟩, fun k hk => hc k _ (by rw [getD_lt hk, List.getElem?_eq_getElem hk])⟩⟩
  · have e : xs = [] := List.length_eq_zero_iff.1 (by omega)
    subst e
    rcases hr.2 with ⟨rfl, _⟩ | ⟨g, cap, cur, rfl, _, _, hn, hm, _⟩
    · exact ⟨none, 0, rfl, Nat.le_refl _, Nat.zero_le _, fun h => absurd rfl h⟩
    · exact ⟨_, cap, rfl, hn, hm, fun h => absurd rfl h⟩
theorem rows_HVI {w : World} {B : Nat} {v : Value} {xs : List Value} (hr : w.ownsRow B 40 1 v xs.length xs) : I.HV w v xs := by
  by_cases h0 : 0 < xs.length
  · obtain ⟨g, cap, rfl, _, hn, hm, hc⟩ := ownsRow_cells hr h0
    obtain ⟨_, _, cs, hh⟩ := own_at hr (b := g) rfl
    exact ⟨_, cap, rfl, hn, hm, fun _ => ⟨g, 0, rfl, ⟨cs, (0, 0), hh⟩, fun k hk => hc k _ (by rw [getD_lt hk, List.getElem?_eq_getElem hk])⟩⟩
  · have e : xs = [] := List.length_eq_zero_iff.1 (by omega)
    subst e
    rcases hr.2 with ⟨rfl, _⟩ | ⟨g, cap, cur, rfl, _, _, hn, hm, _⟩
    · exact ⟨none, 0, rfl, Nat.le_refl _, Nat.zero_le _, fun h => absurd rfl h⟩
    · exact ⟨_, cap, rfl, hn, hm, fun h => absurd rfl h⟩
theorem rows_at {w : World} {B S C : Nat} {v : Value} {xs : List Value} {ls : List (List Int)} (hr : w.ownsRow B 40 1 v ls.length xs) (he : Els B S C 3 .i64 w xs ls) (hy : ∀ l ∈ ls, ∀ x ∈ l, 0 ≤ x ∧ x < 256) (h0 : 0 < ls.length) :
    ∃ g cap, v = .slice (some ⟨g, 0, none⟩) ls.length cap ∧ ls.length ≤ cap ∧ g < w.heap.size ∧ ∀ j, j < ls.length → w.cell? ⟨g, 0 + j, none⟩ = some (xs.getD j undef) ∧ I.HB w (xs.getD j undef) (ls.getD j []) := by
  obtain ⟨g, cap, rfl, _, hn, hm, hc⟩ := ownsRow_cells hr h0
  refine ⟨g, cap, rfl, hn, (own_at hr (b := g) rfl).1, fun j hj => ⟨hc j _ (by rw [getD_lt (by rw [he.len]; exact hj), List.getElem?_eq_getElem (by rw [he.len]; exact hj)]), I.HB.of_own (he.own j (by rw [he.len]; exact hj)) (fun x hx => by have := hy _ (mem_getD hj) x hx; omega)⟩⟩
end Go.Proofs.Ytgjadpidoaianaa
namespace Go.Proofs.Ytgjadpidoaianaa
open Go.RowKit
structure BF (B : Nat) (w w' : World) : Prop where
  bel : Below B w w'
  typ : ∀ (b : Nat) (cs : Array Value) (T : TypeId) (fz : Nat × Nat), w.heap[b]? = some (.cells cs T fz) → T ≠ 5 → w'.heap[b]? = w.heap[b]?
theorem BF.refl (B : Nat) (w : World) : BF B w w := ⟨Below.refl _ _, fun _ _ _ _ _ _ => rfl⟩
theorem BF.size {B : Nat} {w w' : World} (h : BF B w w') : w.heap.size ≤ w'.heap.size := h.bel.size
theorem BF.drew {B : Nat} {w w' : World} (h : BF B w w') : BF B w w'.drew := ⟨h.bel.drew, h.typ⟩
theorem BF.alloc {B : Nat} {w w' : World} (h : BF B w w') (hB : B ≤ w'.heap.size) (o : Obj) : BF B w (w'.alloc o) :=
  ⟨h.bel.alloc hB o, fun b cs T fz q n => (heap_alloc_old w' o (Nat.lt_of_lt_of_le (Array.getElem?_eq_some_iff.1 q).1 h.size)).trans (h.typ b cs T fz q n)⟩
theorem BF.setCell {B : Nat} {w w' : World} (h : BF B w w') {g i : Nat} (hp : B ≤ g) (u : Value) (hT : BT w' g 5) : BF B w (w'.setCell ⟨g, i, none⟩ u) :=
  ⟨h.bel.setCell hp u, fun b cs T fz q n => by
    have e := h.typ b cs T fz q n
    rw [← e]
    obtain ⟨cur, f2, hh⟩ := hT
    have : g ≠ b := fun x => by
      rw [← x] at q e
      rw [e, q] at hh
      simp only [Option.some.injEq, Obj.cells.injEq] at hh
      exact n hh.2.1
    simp [World.setCell, Array.getElem?_modify, this]⟩
theorem BF.grown {B : Nat} {w w' w2 : World} {row : Option Nat} (h : BF B w w') (hg : w'.grownBy w2 row) (hB : B ≤ w'.heap.size) (hr : ∀ k, row = some k → B ≤ k) (hT : ∀ k, row = some k → BT w' k 5 ∨ w.heap.size ≤ k) : BF B w w2 :=
  ⟨h.bel.grown hg hB hr, fun b cs T fz q n => by
    have e := h.typ b cs T fz q n
    have hb := (Array.getElem?_eq_some_iff.1 q).1
    rw [← e]
    refine hg.block b (Nat.lt_of_lt_of_le hb h.size) (fun x => ?_)
    rcases hT b x.symm with ⟨cur, f2, hh⟩ | h2
    · rw [e, q] at hh
      simp only [Option.some.injEq, Obj.cells.injEq] at hh
      exact n hh.2.1
    · omega⟩
set_option maxHeartbeats 4000000 in
theorem apart_anyF (B : Nat) (w : World) (v : Value) (us : List Value) (ls : List (List Int)) (hv : HV w v us) (ha : Apt B w us ls) (hB : B ≤ w.heap.size) (hn : us.length ≤ 5864062014634) (hls : ∀ k, (ls.getD k []).length ≤ 140737488351232) :
    Calls Try.prog 12 #[v] w fun e w' => e = .returned (.bool true) ∧ BF B w w' := by
  obtain ⟨p, c, e, hlc, hm, hcell⟩ := id hv
  unfold maxLen at hm
  subst e
  have A : Hid (0 < us.length → ∃ b off, p = some ⟨b, off, none⟩) := fun h0 => by
    obtain ⟨b, off, e, _⟩ := hcell (by intro e; subst e; simp at h0)
    exact ⟨b, off, e⟩
  have HV0 := hid hv
  have HA0 := hid (Ph1.start ha)
  have HLS := hid hls
  clear hcell hv ha hls
  go_enter Try.func12, Try.ntmps12
  go_wp2
  go_loopw [3] (fun k wr => ∃ K : Nat, K ≤ us.length ∧ k = .int .i64 K ∧ Hid (Ph1 B wr us ls K 0) ∧ Hid (HV wr (.slice p us.length c) us) ∧ Hid (BF B w wr)) (fun k _ => us.length - (intOf k).toNat)
  case atStart => exact ⟨0, Nat.zero_le _, rfl, HA0, HV0, BF.refl _ _⟩
  case round =>
    clear HA0 HV0
    obtain ⟨K, hK, rfl, HP, HVr, HBr⟩ := hrel
    by_cases hlt : K < us.length
    · obtain ⟨b, off, rfl⟩ := A.out (by omega)
      have hcells : Hid (∀ wz, HV wz (.slice (some ⟨b, off, none⟩) us.length c) us → wz.cell? ⟨b, off + K, none⟩ = some (us.getD K undef)) := by
        intro wz hz
        obtain ⟨p', c', e', _, _, h4⟩ := hz
        obtain ⟨b', off', e2, _, hc⟩ := h4 (by intro e; subst e; simp at hlt)
        simp only [Value.slice.injEq, true_and] at e'
        rw [← e'.1] at e2
        simp only [Option.some.injEq, Addr.mk.injEq, and_true] at e2
        obtain ⟨rfl, rfl⟩ := e2
        exact hc K hlt
      obtain ⟨n, HN⟩ : ∃ n, Hid ((ls.getD K []).length = n) := ⟨_, rfl⟩
      have hn2 : n ≤ 140737488351232 := by rw [← HN.out]; exact HLS.out K
      obtain ⟨pk, ck, HU⟩ : ∃ pk ck, Hid (us.getD K undef = .slice pk n ck) := by
        obtain ⟨pk, ck, e⟩ := HP.out.slice K hlt
        rw [HN.out] at e
        exact ⟨pk, ck, e⟩
      go_wp2
      go_loopw [4] (fun i wz => ∃ I : Nat, I ≤ n ∧ i = .int .i64 I ∧ Hid (Ph1 B wz us ls K I) ∧ Hid (HV wz (.slice (some ⟨b, off, none⟩) us.length c) us) ∧ Hid (BF B w wz)) (fun i _ => n - (intOf i).toNat)
      case atStart => exact ⟨0, Nat.zero_le _, rfl, HP, HVr, HBr⟩
      case round =>
        clear HP HVr HBr
        obtain ⟨I, hI, rfl, HP, HVr, HBr⟩ := hrel
        have hc1 := hcells.out wr HVr.out
        rw [HU.out] at hc1
        by_cases hli : I < n
        · obtain ⟨g, ck', e, hck, hck2, hgB, hBT, hcc⟩ := HP.out.some K hlt (by rw [HN.out]; omega)
          rw [HU.out, HN.out] at e
          simp only [Value.slice.injEq, true_and] at e
          obtain ⟨rfl, rfl⟩ := e
          obtain ⟨⟨z, hz⟩, hfz⟩ := hcc I (by rw [HN.out]; exact hli)
          rw [HN.out] at hck2
          unfold maxLen at hck
          have HBT := hid hBT
          have hgb : b ≠ g := (HVr.out.block (by omega)).ne hBT (by decide)
          have hbg : g ≠ b := Ne.symm hgb
          clear hcc hBT
          go_wp2
          go_region_held3 (fun w' => w'.cell? ⟨b, off + K, none⟩ = some (.slice (some ⟨g, 0, none⟩) n ck)) (go_keep) ((go_at_call 34; refine (mark_eq _ (K + 1) I _ _ (wrap_succ K (by omega)) rfl (by omega) (by omega)).mono ?_; rintro e wz ⟨rfl, hw⟩; have hw' := hw.symm; subst hw'; clear hw))
          have hst := HP.out.step hlt (by rw [HN.out]; exact hli) HU.out
          have HP2 := hid hst.1.drew
          have HV2 := hid (HVr.out.grown hst.2 (fun g' e => by cases e; exact HBT.out)).drew
          have HB2 := hid (HBr.out.setCell (g := g) (i := I) hgB (.int .u8 (mkB (K + 1) I)) HBT.out).drew
          clear hst
          go_wp2
          exact ⟨⟨I + 1, by omega, by go_num, HP2, HV2, HB2⟩, by simp [intOf]; omega⟩
        · have HP2 := hid (HP.out.next (by rw [HN.out]; omega))
          go_wp2
          exact ⟨⟨K + 1, by omega, by go_num, HP2, HVr, HBr⟩, by simp [intOf]; omega⟩
    · have hKn : K = us.length := by omega
      have HPl : Hid (Pool B wr us ls 0 0 []) := by
        have := HP.out
        rw [hKn] at this
        exact this.pool
      obtain ⟨N, HN⟩ : ∃ N, Hid (wr.heap.size = N) := ⟨_, rfl⟩
      have HNu : Hid (∀ j b, j < us.length → (us.getD j undef).ownBlock = some b → b < N) := fun j b hj hb => by rw [← HN.out]; exact (HPl.out.2.1.2.1 j b hj hb).1
      have HNv : Hid (∀ b off n c', Value.slice p us.length c = .slice (some ⟨b, off, none⟩) n c' → 0 < us.length → b < N) := fun b off n c' e h0 => by
        rw [← HN.out]
        have h1 := HVr.out
        rw [e] at h1
        obtain ⟨cur, fz, hh⟩ := h1.block h0
        exact (Array.getElem?_eq_some_iff.1 hh).1
      have HNW : Hid (w.heap.size ≤ N) := by rw [← HN.out]; exact HBr.out.size
      have HNB : Hid (B ≤ N) := by rw [← HN.out]; exact Nat.le_trans hB HBr.out.size
      have HNs : Hid (N ≤ wr.heap.size) := by rw [HN.out]; exact Nat.le_refl N
      clear HP hKn HN
      go_wp2
      go_loopw [5, 6] (fun gs k wz => ∃ (K : Nat) (gl : List Value), K ≤ us.length ∧ k = .int .i64 K ∧ Hid (Pool B wz us ls K K gl) ∧ Hid (wz.ownsRow N 36 1 gs K gl) ∧ Hid (HV wz (.slice p us.length c) us) ∧ Hid (BF B w wz) ∧ Hid (N ≤ wz.heap.size)) (fun _ k _ => us.length - (intOf k).toNat)
      case atStart => exact ⟨0, [], Nat.zero_le _, rfl, HPl, World.ownsRow_nil _ _ _ _, HVr, HBr, HNs⟩
      case round =>
        clear HPl HVr HBr HNs hlt hK
        obtain ⟨K, gl, hK, rfl, HP, HG, HVr, HBr, HNs⟩ := hrel
        by_cases hlt : K < us.length
        · obtain ⟨b, off, rfl⟩ := A.out (by omega)
          obtain ⟨n, HNn⟩ : ∃ n, Hid ((ls.getD K []).length = n) := ⟨_, rfl⟩
          have hn2 : n ≤ 140737488351232 := by rw [← HNn.out]; exact HLS.out K
          obtain ⟨pk, ck, HU⟩ : ∃ pk ck, Hid (us.getD K undef = .slice pk n ck) := by
            obtain ⟨pk, ck, e⟩ := HP.out.2.1.2.2 K hlt
            rw [HNn.out] at e
            exact ⟨pk, ck, e⟩
          have hc1 := HVr.out.cellAt K hlt
          rw [HU.out] at hc1
          have HC := hid (Cur.start HP.out hlt)
          rw [HU.out] at HC
          go_wp2
          go_loopw [7, 8] (fun g i wz => ∃ m : Nat, m ≤ 70 ∧ i = .int .i64 m ∧ Hid (Cur B wz us ls K gl g m) ∧ Hid (wz.ownsRow N 36 1 u5 K gl) ∧ Hid (HV wz (.slice (some ⟨b, off, none⟩) us.length c) us) ∧ Hid (BF B w wz) ∧ Hid (N ≤ wz.heap.size)) (fun _ i _ => 70 - (intOf i).toNat)
          case atStart => exact ⟨0, Nat.zero_le _, rfl, HC, HG, HVr, HBr, HNs⟩
          case round =>
            clear HC HG HVr HBr HNs hc1
            obtain ⟨m, hm70, rfl, HC, HG, HVr, HBr, HNs⟩ := hrel
            have hc1 := HVr.out.cellAt K hlt
            rw [HU.out] at hc1
            by_cases hlm : m < 70
            · have hlm2 : (m : Int) < 70 := by omega
              go_wp2_with fail
              refine (mark_eq wr (K + 1) (n + m) _ _ (by omega) (by omega) (by omega) (by omega)).mono ?_
              rintro e wz ⟨rfl, hw⟩
              have hw' := hw.symm
              subst hw'
              clear hw
              have HCa := hid (HC.out.alloc hlt (.cells #[.int .u8 (mkB (K + 1) (n + m))] 5))
              have HO := HCa.out.2.1
              rw [HNn.out] at HO
              have HOh := hid HO
              clear HO
              go_wp2_with (at_builtin; refine wpList_append_byte rfl _ _ rfl B _ (n + m) _ rfl HOh.out ⟨wr.heap.size, 0, none⟩ 1 (mkB (K + 1) (n + m)) rfl (by simp) ?q1 ?q2 ?_)
              case q1 => omega
              case q2 => have := HBr.out.size; simp; omega
              intro g' w2 hown2 hgr2 hd2
              have hBT := own_BT HOh.out
              have hal := World.grownBy_alloc wr (.cells #[.int .u8 (mkB (K + 1) (n + m))] 5) none
              have HC2 := hid (HCa.out.step hlt (by rw [HNn.out]; exact hown2) hgr2 (by rw [World.size_alloc]; exact hd2))
              have HG2 : Hid (w2.ownsRow N 36 1 u5 K gl) := by
                have h1 := HG.out.alloc (.cells #[.int .u8 (mkB (K + 1) (n + m))] 5)
                refine h1.kept hgr2 ?_
                cases hx : u7.ownBlock with
                | none => cases hy : u5.ownBlock <;> simp
                | some q =>
                  obtain ⟨cur, fz, hh⟩ := hBT q hx
                  exact .inr (own_block_ne h1 hh (by decide))
              have HV2 := hid ((HVr.out.grown hal (fun g e => by cases e)).grown hgr2 hBT)
              have HB2 := hid ((HBr.out.alloc (Nat.le_trans hB HBr.out.size) (.cells #[.int .u8 (mkB (K + 1) (n + m))] 5)).grown hgr2 (by have := HBr.out.size; simp; omega) (fun k e => (HOh.out.lt k e).1) (fun k e => .inl (hBT k e)))
              have HN2 : Hid (N ≤ w2.heap.size) := by have h1 := hgr2.size; have h2 := HNs.out; simp at h1; exact Nat.le_trans h2 (by omega)
              clear hown2 hgr2 hd2 hBT hal
              go_wp2
              exact ⟨⟨m + 1, by omega, by go_num, HC2, HG2, HV2, HB2, HN2⟩, by simp [intOf]; omega⟩
            · have e70 : m = 70 := by omega
              subst e70
              have HPn := hid (HC.out.finish hlt)
              have HOg := HC.out.2.1
              rw [HNn.out] at HOg
              obtain ⟨pg, cg, eg, _, _⟩ : ∃ pg cg, u7 = .slice pg (n + 70) cg ∧ True ∧ True := by
                rcases HOg.2 with ⟨_, e⟩ | ⟨g', cap, cur, e, _⟩
                · omega
                · exact ⟨_, _, e, trivial, trivial⟩
              subst eg
              obtain ⟨i0, hi, hz0, hz1, hz2⟩ := info_parts info_bytes
              have HGa := hid (HG.out.alloc (.cells #[.slice pg (n + 70) cg] 36))
              have hal := World.grownBy_alloc wr (.cells #[.slice pg (n + 70) cg] 36) none
              have tr : ∀ x : Option Nat, x = none ∨ x ≠ none := fun x => by cases x <;> simp
              have HPa := hid (HPn.out.grown hal (fun i _ => tr _) (fun j _ _ => tr _) (by omega))
              have HVa := hid (HVr.out.grown hal (fun g e => by cases e))
              have HBa := hid (HBr.out.alloc (Nat.le_trans hB HBr.out.size) (.cells #[.slice pg (n + 70) cg] 36))
              clear HOg tr hal
              go_wp2_with (at_builtin; refine wpList_append_own _ rfl _ _ 24 rfl N 36 i0 (.slice none 0 0) 1 24 Try.underlying24 hi hz0 hz1 hz2 rfl (by decide) _ K gl rfl HGa.out ⟨wr.heap.size, 0, none⟩ 1 1 [_] rfl rfl (cell_one_new _ _ _) ?q1 ?q2 ?q3 ?q4 ?_)
              case q1 => intro u hu; simp only [List.mem_singleton] at hu; subst hu; rfl
              case q2 => unfold maxLen; omega
              case q3 => omega
              case q4 => have := HNs.out; simp; omega
              intro gs' w2 hown2 hgr2 _
              have hlo : ∀ g, u5.ownBlock = some g → N ≤ g := fun g e => (HGa.out.lt g e).1
              have HP2 : Hid (Pool B w2 us ls (K + 1) (K + 1) (gl ++ [.slice pg (n + 70) cg])) := by
                refine HPa.out.grown hgr2 (fun i hi => ?_) (fun j hj _ => ?_) (by omega)
                · cases hx : u5.ownBlock with
                  | none => cases hy : ((gl ++ [Value.slice pg (n + 70) cg]).getD i undef).ownBlock <;> simp
                  | some q =>
                    obtain ⟨cur, fz, hh⟩ := own_BT HGa.out q hx
                    exact .inr (own_block_ne (HPa.out.2.2.1 i hi).1 hh (by decide))
                · cases hx : (us.getD j undef).ownBlock with
                  | none => exact .inl rfl
                  | some q =>
                    right
                    intro e
                    have h1 := HNu.out j q hj hx
                    have h2 := hlo q e.symm
                    omega
              have HV2 := hid (HVa.out.apart hgr2 hlo HNv.out)
              have HB2 := hid (HBa.out.grown hgr2 (by have := HBr.out.size; simp; omega) (fun k e => Nat.le_trans HNB.out (hlo k e)) (fun k e => .inr (Nat.le_trans HNW.out (hlo k e))))
              have HG2 : Hid (w2.ownsRow N 36 1 gs' (K + 1) (gl ++ [.slice pg (n + 70) cg])) := hown2
              have HN2 : Hid (N ≤ w2.heap.size) := by have h1 := hgr2.size; have h2 := HNs.out; simp at h1; exact Nat.le_trans h2 (by omega)
              clear hown2 hgr2 hlo
              go_wp2
              exact ⟨⟨K + 1, _, by omega, by go_num, HP2, HG2, HV2, HB2, HN2⟩, by simp [intOf]; omega⟩
        · have hKn : K = us.length := by omega
          subst hKn
          obtain ⟨pg, cg, eg⟩ : ∃ pg cg, u5 = .slice pg us.length cg := by
            rcases HG.out.2 with ⟨e, e2⟩ | ⟨g', cap, cur, e, _⟩
            · exact ⟨none, 0, by rw [e, e2]⟩
            · exact ⟨_, _, e⟩
          subst eg
          go_wp2
          go_loop [9] (fun k => ∃ Q : Nat, Q ≤ us.length ∧ k = .int .i64 Q) (fun k => us.length - (intOf k).toNat)
          case atStart => exact ⟨0, Nat.zero_le _, rfl⟩
          case round =>
            obtain ⟨Q, hQ, rfl⟩ := hrel
            by_cases hlq : Q < us.length
            · obtain ⟨b, off, rfl⟩ := A.out (by omega)
              obtain ⟨n, HNn⟩ : ∃ n, Hid ((ls.getD Q []).length = n) := ⟨_, rfl⟩
              have hn2 : n ≤ 140737488351232 := by rw [← HNn.out]; exact HLS.out Q
              have hc1 := HVr.out.cellAt Q hlq
              obtain ⟨hrow, hu⟩ := HP.out.2.2.1 Q hlq
              rw [HNn.out] at hrow hu
              obtain ⟨pk, ck, HU⟩ : ∃ pk ck, Hid (us.getD Q undef = .slice pk n ck) := by
                obtain ⟨pk, ck, e⟩ := HP.out.2.1.2.2 Q hlq
                rw [HNn.out] at e
                exact ⟨pk, ck, e⟩
              rw [HU.out] at hc1 hu
              obtain ⟨gg, capg, eg, _, hcg1, hcg2, hgc⟩ := ownsRow_cells HG.out (by omega)
              simp only [Value.slice.injEq, true_and] at eg
              obtain ⟨rfl, rfl⟩ := eg
              have hgl : gl.length = us.length := HP.out.1
              have hc2 := hgc Q (gl.getD Q undef) (by simp [List.getD, List.getElem?_eq_getElem (show Q < gl.length by omega)])
              rw [Nat.zero_add] at hc2
              obtain ⟨gq, capq, eq, _, hq1, hq2, hqc⟩ := ownsRow_cells hrow (by omega)
              rw [eq] at hc2
              have HQ : Hid (∀ I, I < n + 70 → wr.cell? ⟨gq, I, none⟩ = some (.int .u8 (mkB (Q + 1) I))) := fun I hI => by
                have hjl : I < (marksL (Q + 1) (n + 70)).length := by rw [marksL_length]; exact hI
                have := hqc I (.int .u8 (mkB (Q + 1) I)) (by rw [List.getElem?_map, List.getElem?_eq_getElem hjl, ← getD_of_lt hjl, marksL_getD _ _ _ hI]; rfl)
                rwa [Nat.zero_add] at this
              have HUc : Hid (∀ I, I < n → ∃ b' off', pk = some ⟨b', off', none⟩ ∧ wr.cell? ⟨b', off' + I, none⟩ = some (.int .u8 (mkB (Q + 1) I)) ∧ n ≤ ck) := fun I hI => by
                obtain ⟨b', off', c', e, h1, h2, hh⟩ := hu.ne (by rw [marksL_length]; omega)
                rw [marksL_length] at e hh h1
                simp only [Value.slice.injEq, true_and] at e
                obtain ⟨rfl, rfl⟩ := e
                have := hh I hI
                rw [marksL_getD _ _ _ hI] at this
                exact ⟨b', off', rfl, this, h1⟩
              unfold maxLen at hcg2 hq2
              clear hrow hu hgc hqc eq hgl
              go_wp2
              go_loop [10] (fun i => ∃ I : Nat, I ≤ n + 70 ∧ i = .int .i64 I) (fun i => n + 70 - (intOf i).toNat)
              case atStart => exact ⟨0, Nat.zero_le _, rfl⟩
              case round =>
                obtain ⟨I, hI, rfl⟩ := hrel
                by_cases hli : I < n + 70
                · have hx1 := HQ.out I hli
                  have hli2 : (I : Int) < (n : Int) + 70 := by omega
                  go_wp2_with fail
                  refine (mark_eq wr (Q + 1) I _ _ (by omega) rfl (by omega) (by omega)).mono ?_
                  rintro e wz ⟨rfl, hw⟩
                  have hw' := hw.symm
                  subst hw'
                  clear hw
                  obtain ⟨x, HX⟩ : ∃ x, Hid (mkB (Q + 1) I = x) := ⟨_, rfl⟩
                  rw [HX.out] at hx1 ⊢
                  have hxx : (x != x) = false := by simp
                  by_cases hln : I < n
                  · have hdn : decide ((I : Int) < (n : Int)) = true := by simp; omega
                    have hln2 : (I : Int) < (n : Int) := by omega
                    obtain ⟨b', off', rfl, hx2, _⟩ := HUc.out I hln
                    rw [HX.out] at hx2
                    go_wp2
                    exact ⟨⟨I + 1, by omega, by go_num⟩, by simp [intOf]; omega⟩
                  · have hdn : decide ((I : Int) < (n : Int)) = false := by simp; omega
                    go_wp2
                    exact ⟨⟨I + 1, by omega, by go_num⟩, by simp [intOf]; omega⟩
                · have hli2 : ¬ ((I : Int) < (n : Int) + 70) := by omega
                  go_wp2
                  exact ⟨⟨Q + 1, by omega, by go_num⟩, by simp [intOf]; omega⟩
            · go_wp2
              go_ret
              exact ⟨rfl, HBr.out⟩
end Go.Proofs.Ytgjadpidoaianaa
namespace Go.Proofs.Ytgjadpidoaianaa
open Go Go.RowKit
theorem size_op : (Try.prog.info? 44).map (·.size) = some 28 := by kernel_rfl
theorem dr_bel {w w' : World} (h : Dr w w') : Below w.heap.size w w' := h.below _
set_option maxRecDepth 100000 in
set_option maxHeartbeats 64000000 in
theorem wcalls_walk (w : World) (v : Value) (os : List Opv) (h : HOps w v os) (hlen : os.length ≤ 250000) :
    Calls Try.prog 3 #[v] w fun e w' => e = .returned (.bool true) ∧ Below w.heap.size w w' := by
  obtain ⟨⟨p, c, rfl, hlc, hm, hcell⟩, hops⟩ := h
  unfold maxLen at hm
  have HC := hid hcell
  have HO := hid hops
  have CL := hid (lives_any w)
  clear hcell hops
  go_enter Try.func3, Try.ntmps3
  go_wp2_with fail
  refine CL.out.mono ?_
  rintro e W1 ⟨rfl, hb1⟩
  obtain ⟨W2, HW2⟩ : ∃ W : World, Hid (W1.alloc (.cells #[.slice none 0 0, .slice none 0 0, .slice none 0 0, .slice none 0 0] TB) = W) := ⟨_, hid rfl⟩
  have B2 : Hid (Below w.heap.size w W2) := hid (hb1.trans (by rw [← HW2.out]; exact (Below.refl _ W1).alloc hb1.size _))
  have K2 : Hid (BKE w.heap.size W2 W1.heap.size 0) := hid (BKE.start B2.out.size (by rw [← HW2.out]; exact heap_alloc_new W1 _))
  obtain ⟨g, HG⟩ : ∃ g, Hid (W1.heap.size = g) := ⟨_, hid rfl⟩
  have hgB : w.heap.size ≤ g := by rw [← HG.out]; exact hb1.size
  rw [HG.out] at K2
  clear hb1 CL
  go_wp2_with (first | rw [HW2.out, HG.out] | fail)
  go_loopw [4] (fun i wr => ∃ j : Nat, j ≤ os.length ∧ i = .int .i64 (j : Int) ∧ Hid (Below w.heap.size w wr) ∧ Hid (BKE w.heap.size wr g (2 * j))) (fun i _ => os.length - (intOf i).toNat)
  case atStart => exact ⟨0, Nat.zero_le _, rfl, B2, K2⟩
  case round =>
    clear B2 K2 HW2 HG
    obtain ⟨j, hj, rfl, HB, HK⟩ := hrel
    by_cases hlt : j < os.length
    · obtain ⟨b, off, rfl, hr⟩ := HC.out (by omega)
      have hr0 := hr j hlt
      have hH : (os[j]).H w := HO.out _ (List.getElem_mem hlt)
      obtain ⟨o, HOO⟩ : ∃ o, Hid (os[j] = o) := ⟨_, hid rfl⟩
      rw [HOO.out] at hr0 hH
      have RG : Hid (∀ W, Below w.heap.size w W → W.rangeAt b (off + j * 28) o.cs) := hid (fun W hW i u hi => (hW.cell (World.block_lt_of_cell? w _ (hr0 i u hi))).trans (hr0 i u hi))
      have SZ : Hid ((Try.prog.info? 44).map (·.size) = some o.cs.length) := hid (by rw [show o.cs.length = 28 from opL_len hH.ok _ _ _ _ _]; exact size_op)
      have A1 : Hid (Calls Try.prog 9 #[.pointer (some ⟨g, 0, none⟩), .agg o.cs.toArray] wr fun e w' => e = .returned (.bool true) ∧ BKE w.heap.size w' g (2 * j + 1) ∧ Below w.heap.size w w') := hid (ask_any w wr g (2 * j) o.cl o.r o.qv o.qb o.k o.nv o.ns o.rv o.rb o.dv o.db hH HB.out HK.out hgB (by omega))
      have A2 : Hid (∀ W, Below w.heap.size w W → BKE w.heap.size W g (2 * j + 1) → Calls Try.prog 9 #[.pointer (some ⟨g, 0, none⟩), .agg o.cs.toArray] W fun e w' => e = .returned (.bool true) ∧ BKE w.heap.size w' g (2 * j + 1 + 1) ∧ Below w.heap.size w w') := hid (fun W hW hK => ask_any w W g (2 * j + 1) o.cl o.r o.qv o.qb o.k o.nv o.ns o.rv o.rb o.dv o.db hH hW hK hgB (by omega))
      obtain ⟨oa, HOA⟩ : ∃ x, Hid (o.cs.toArray = x) := ⟨_, hid rfl⟩
      rw [HOA.out] at A1 A2
      have hjl : (j : Int) < (os.length : Int) := by omega
      clear hr hr0 hH HOO
      go_wp2_with (first | (refine wpList_load_mid rfl 44 _ rfl b (off + j * 28) rfl o.cs _ (RG.out _ HB.out) Try.underlying44 rfl SZ.out ?_; rw [HOA.out]) | fail)
      refine A1.out.mono ?_
      rintro e V1 ⟨rfl, hk1, hv1⟩
      go_wp2_with (first | (refine wpList_load_midW (by rfl) 44 _ rfl b (off + j * 28) rfl o.cs _ (RG.out _ hv1) Try.underlying44 rfl SZ.out ?_; rw [HOA.out]) | fail)
      refine (A2.out _ hv1 hk1).mono ?_
      rintro e V2 ⟨rfl, hk2, hv2⟩
      have w9 : IntKind.i64.wrap ((j : Int) + 1) = ((j + 1 : Nat) : Int) := by rw [IntKind.wrap_i64]; omega
      have HK2 : Hid (BKE w.heap.size V2 g (2 * (j + 1))) := hid (by rw [show 2 * (j + 1) = 2 * j + 1 + 1 by omega]; exact hk2)
      have HV2 := hid hv2
      clear hk1 hk2 hv1 hv2 A1 A2
      go_wp2
      exact ⟨⟨j + 1, hlt, by go_num, HV2, HK2⟩, by simp [intOf]; omega⟩
    · obtain ⟨vb, vw, vi, vm, xb, xw, xi, xm, bs, is, hk, hl1, hl2, hl3, hl4⟩ := HK.out
      have KB := hid hk
      obtain ⟨pb, cb, eb⟩ := own_slice hk.rb
      obtain ⟨pw, cw, ew⟩ := own_slice hk.rw'
      obtain ⟨pi, ci, ei⟩ := own_slice hk.ri
      obtain ⟨pm, cm, em⟩ := own_slice hk.rm
      subst eb ew ei em
      have CB : Hid (∀ W : World, W.heap[g]? = some (.cells #[.slice pb bs.length cb, .slice pw bs.length cw, .slice pi is.length ci, .slice pm is.length cm] TB (0, 0)) → W.cell? ⟨g, 0, none⟩ = some (.slice pb bs.length cb) ∧ W.cell? ⟨g, 1, none⟩ = some (.slice pw bs.length cw) ∧ W.cell? ⟨g, 2, none⟩ = some (.slice pi is.length ci) ∧ W.cell? ⟨g, 3, none⟩ = some (.slice pm is.length cm)) := hid (fun W q => ⟨by rw [cell_of_row _ _ _ _ _ _ q]; rfl, by rw [cell_of_row _ _ _ _ _ _ q]; rfl, by rw [cell_of_row _ _ _ _ _ _ q]; rfl, by rw [cell_of_row _ _ _ _ _ _ q]; rfl⟩)
      have hjl : ¬ ((j : Int) < (os.length : Int)) := by omega
      have hi1 : is.length ≤ 1000000 := by omega
      have hb1 : bs.length ≤ 1000000 := by omega
      have HL3 := hid hl3
      have HL4 := hid hl4
      obtain ⟨Wf, HWf⟩ : ∃ W : World, Hid (wr = W) := ⟨_, hid rfl⟩
      rw [HWf.out] at KB HB ⊢
      clear hk hl3 hl4 HK HWf hl1 hl2 hlt hj
      go_wp2
      go_loopw [5] (fun i wz => ∃ q : Nat, q ≤ is.length ∧ i = .int .i64 (q : Int) ∧ Hid (Below Wf.heap.size Wf wz)) (fun i _ => is.length - (intOf i).toNat)
      case atStart => exact ⟨0, Nat.zero_le _, rfl, hid (Below.refl _ _)⟩
      case round =>
        obtain ⟨q, hq, rfl, HD⟩ := hrel
        have kz := KB.out.below HD.out
        obtain ⟨y0, y1, y2, y3⟩ := CB.out _ kz.blk
        by_cases hqt : q < is.length
        · obtain ⟨gi, capi, ei, hni, hgi, hai⟩ := rows_at KB.out.ri KB.out.ei KB.out.yi (by omega)
          obtain ⟨gm, capm, em, hnm, hgm, ham⟩ := rows_at KB.out.rm KB.out.em KB.out.yi (by omega)
          simp only [Value.slice.injEq, true_and] at ei em
          obtain ⟨rfl, rfl⟩ := ei
          obtain ⟨rfl, rfl⟩ := em
          obtain ⟨ha1, ha2⟩ := hai q hqt
          obtain ⟨hb1', hb2⟩ := ham q hqt
          rw [Nat.zero_add] at ha1 hb1'
          have CI : Hid (∀ W, Below Wf.heap.size Wf W → W.cell? ⟨g, 2, none⟩ = some (.slice (some ⟨gi, 0, none⟩) is.length ci) ∧ W.cell? ⟨g, 3, none⟩ = some (.slice (some ⟨gm, 0, none⟩) is.length cm) ∧ W.cell? ⟨gi, q, none⟩ = some (xi.getD q undef) ∧ W.cell? ⟨gm, q, none⟩ = some (xm.getD q undef)) := hid (fun W hW => by
            obtain ⟨_, _, z2, z3⟩ := CB.out _ (KB.out.below hW).blk
            exact ⟨z2, z3, (hW.cell (World.block_lt_of_cell? Wf _ ha1)).trans ha1, (hW.cell (World.block_lt_of_cell? Wf _ hb1')).trans hb1'⟩)
          obtain ⟨pu, cu, eu, _, _⟩ := ha2.open
          obtain ⟨pv, cv, ev, _, _⟩ := hb2.open
          rw [eu] at CI ha2
          rw [ev] at CI hb2
          have CS : Hid (∀ W, Below Wf.heap.size Wf W → Calls Try.prog 10 #[.slice pu (is.getD q []).length cu, .slice pv (is.getD q []).length cv] W fun e w' => e = .returned (.bool true) ∧ Below W.heap.size W w') := hid (fun W hW => (I.sameBytes_any W _ _ (is.getD q []) (is.getD q []) (ha2.below hW) (hb2.below hW)).mono fun e w' ⟨z1, z2⟩ => ⟨by rw [z1, decide_eq_true rfl], dr_bel z2⟩)
          generalize (is.getD q []).length = nn at CI CS
          have hql : (q : Int) < (is.length : Int) := by omega
          have w9 : IntKind.i64.wrap ((q : Int) + 1) = ((q + 1 : Nat) : Int) := by rw [IntKind.wrap_i64]; omega
          clear y0 y1 y3 kz ha1 ha2 hb1' hb2 eu ev hai ham
          go_wp2_with fail
          refine wp_region_held_drew (S := (Below Wf.heap.size Wf)) (by kernel_rfl) (HD.out.trans ((Below.refl _ wr).drew.mono HD.out.size)) (fun hHeld => ?_)
          have HS := hid hHeld
          clear hHeld
          change wpAnyH _ _ _ _ _ _ _ _ (World.drew _)
          refine wpAnyH_take (i := 0) (v := ?_) rfl (by kernel_rfl) (by kernel_rfl) (by kernel_rfl) (fun _ _ _ h => h) (Or.inl ⟨by rfl, ?q0⟩) HS.out ?_
          case q0 => intro w hSw; obtain ⟨z1, z2, z3, z4⟩ := CI.out _ hSw; go_simp; rfl
          simp only [Act.put, List.getElem_toArray, List.getElem_cons_zero, List.getElem_cons_succ, List.setIfInBounds_toArray, List.set_cons_zero, List.set_cons_succ]
          refine wpAnyH_take (i := 1) (v := ?_) rfl (by kernel_rfl) (by kernel_rfl) (by kernel_rfl) (fun _ _ _ h => h) (Or.inl ⟨by rfl, ?q1⟩) HS.out ?_
          case q1 => intro w hSw; obtain ⟨z1, z2, z3, z4⟩ := CI.out _ hSw; go_simp; rfl
          simp only [Act.put, List.getElem_toArray, List.getElem_cons_zero, List.getElem_cons_succ, List.setIfInBounds_toArray, List.set_cons_zero, List.set_cons_succ]
          refine wpAnyH_take (i := 2) (v := ?_) rfl (by kernel_rfl) (by kernel_rfl) (by kernel_rfl) (fun _ _ _ h => h) (Or.inl ⟨by rfl, ?q2⟩) HS.out ?_
          case q2 => intro w hSw; obtain ⟨z1, z2, z3, z4⟩ := CI.out _ hSw; go_simp; rfl
          simp only [Act.put, List.getElem_toArray, List.getElem_cons_zero, List.getElem_cons_succ, List.setIfInBounds_toArray, List.set_cons_zero, List.set_cons_succ]
          refine wpAnyH_take (i := 3) (v := ?_) rfl (by kernel_rfl) (by kernel_rfl) (by kernel_rfl) (fun _ _ _ h => h) (Or.inl ⟨by rfl, ?q3⟩) HS.out ?_
          case q3 => intro w hSw; obtain ⟨z1, z2, z3, z4⟩ := CI.out _ hSw; go_simp; rfl
          simp only [Act.put, List.getElem_toArray, List.getElem_cons_zero, List.getElem_cons_succ, List.setIfInBounds_toArray, List.set_cons_zero, List.set_cons_succ]
          refine wpAnyH_take (i := 4) (v := ?_) rfl (by kernel_rfl) (by kernel_rfl) (by kernel_rfl) (fun _ _ _ h => h) (Or.inl ⟨by rfl, ?q4⟩) HS.out ?_
          case q4 => intro w hSw; obtain ⟨z1, z2, z3, z4⟩ := CI.out _ hSw; go_simp; rfl
          simp only [Act.put, List.getElem_toArray, List.getElem_cons_zero, List.getElem_cons_succ, List.setIfInBounds_toArray, List.set_cons_zero, List.set_cons_succ]
          refine wpAnyH_take (i := 5) (v := ?_) rfl (by kernel_rfl) (by kernel_rfl) (by kernel_rfl) (fun _ _ _ h => h) (Or.inl ⟨by rfl, ?q5⟩) HS.out ?_
          case q5 => intro w hSw; obtain ⟨z1, z2, z3, z4⟩ := CI.out _ hSw; go_simp; rfl
          simp only [Act.put, List.getElem_toArray, List.getElem_cons_zero, List.getElem_cons_succ, List.setIfInBounds_toArray, List.set_cons_zero, List.set_cons_succ]
          refine wpAnyH_take (i := 6) (v := ?_) rfl (by kernel_rfl) (by kernel_rfl) (by kernel_rfl) (fun _ _ _ h => h) (Or.inl ⟨by rfl, ?q6⟩) HS.out ?_
          case q6 => intro w hSw; obtain ⟨z1, z2, z3, z4⟩ := CI.out _ hSw; go_simp; rfl
          simp only [Act.put, List.getElem_toArray, List.getElem_cons_zero, List.getElem_cons_succ, List.setIfInBounds_toArray, List.set_cons_zero, List.set_cons_succ]
          refine wpAnyH_take (i := 7) (v := ?_) rfl (by kernel_rfl) (by kernel_rfl) (by kernel_rfl) (fun _ _ _ h => h) (Or.inl ⟨by rfl, ?q7⟩) HS.out ?_
          case q7 => intro w hSw; obtain ⟨z1, z2, z3, z4⟩ := CI.out _ hSw; go_simp; rfl
          simp only [Act.put, List.getElem_toArray, List.getElem_cons_zero, List.getElem_cons_succ, List.setIfInBounds_toArray, List.set_cons_zero, List.set_cons_succ]
          refine wpAnyH_take (i := 8) (v := ?_) rfl (by kernel_rfl) (by kernel_rfl) (by kernel_rfl) (fun _ _ _ h => h) (Or.inl ⟨by rfl, ?q8⟩) HS.out ?_
          case q8 => intro w hSw; obtain ⟨z1, z2, z3, z4⟩ := CI.out _ hSw; go_simp; rfl
          simp only [Act.put, List.getElem_toArray, List.getElem_cons_zero, List.getElem_cons_succ, List.setIfInBounds_toArray, List.set_cons_zero, List.set_cons_succ]
          refine wpAnyH_take (i := 9) (v := ?_) rfl (by kernel_rfl) (by kernel_rfl) (by kernel_rfl) (fun _ _ _ h => h) (Or.inl ⟨by rfl, ?q9⟩) HS.out ?_
          case q9 => intro w hSw; obtain ⟨z1, z2, z3, z4⟩ := CI.out _ hSw; go_simp; rfl
          simp only [Act.put, List.getElem_toArray, List.getElem_cons_zero, List.getElem_cons_succ, List.setIfInBounds_toArray, List.set_cons_zero, List.set_cons_succ]
          refine wpAnyH_ready (rs := [10]) (by kernel_rfl) (by simp) ?_
          refine AllReadyH.cons rfl (fun K hK => ?_) AllReadyH.nil
          replace hK := hid hK
          go_simp
          refine (CS.out _ HS.out).mono ?_
          rintro e U1 ⟨rfl, hu1⟩
          have BU1 := hid (HS.out.trans (hu1.mono HS.out.size))
          clear HS
          have HS := BU1
          refine hK.out _ _ HS.out (fun _ => ?_)
          clear hK K
          try simp only [Act.put, List.getElem_toArray, List.getElem_cons_zero, List.getElem_cons_succ, List.setIfInBounds_toArray, List.set_cons_zero, List.set_cons_succ]
          refine wpAnyH_take (i := 11) (v := ?_) rfl (by kernel_rfl) (by kernel_rfl) (by kernel_rfl) (fun _ _ _ h => h) (Or.inl ⟨by rfl, ?q11⟩) HS.out ?_
          case q11 => intro w hSw; obtain ⟨z1, z2, z3, z4⟩ := CI.out _ hSw; go_simp; rfl
          simp only [Act.put, List.getElem_toArray, List.getElem_cons_zero, List.getElem_cons_succ, List.setIfInBounds_toArray, List.set_cons_zero, List.set_cons_succ]
          refine wpAnyH_done (by kernel_rfl) ?_ _
          clear y2 HD
          go_wp2
          exact ⟨⟨q + 1, hqt, by go_num, BU1⟩, by simp [intOf]; omega⟩
        · have hql : ¬ ((q : Int) < (is.length : Int)) := by omega
          have KZ := hid kz
          have CS : Hid (Calls Try.prog 11 #[.slice pb bs.length cb, .slice pw bs.length cw] wr fun e w' => e = .returned (.bool true) ∧ Below wr.heap.size wr w') := hid ((sameLists_any wr _ _ bs bs (rows_HL kz.rb kz.eb kz.yb) (rows_HL kz.rw' kz.ew kz.yb)).mono fun e w' ⟨z1, z2⟩ => ⟨by rw [z1, decide_eq_true rfl], dr_bel z2⟩)
          have BZ := hid (HB.out.trans (HD.out.mono HB.out.size))
          clear kz hq hqt HB HC HO
          go_wp2_with fail
          refine CS.out.mono ?_
          rintro e U1 ⟨rfl, hu1⟩
          have k1 := KZ.out.below hu1
          have K1 := hid k1
          clear y0 y1 y2 y3
          obtain ⟨y0, y1, y2, y3⟩ := CB.out _ k1.blk
          have AB := hid (apart_anyF w.heap.size U1 (.slice pb bs.length cb) xb bs (rows_HV (by rw [k1.eb.len]; exact k1.rb)) ⟨k1.eb.len, k1.eb.own, k1.pb⟩ k1.low (by rw [k1.eb.len]; omega) (fun k => by
            by_cases hk' : k < bs.length
            · have := HL3.out _ (mem_getD hk'); omega
            · simp [List.getD, List.getElem?_eq_none (show bs.length ≤ k by omega)]))
          clear k1
          go_wp2_with fail
          refine AB.out.mono ?_
          rintro e U2 ⟨rfl, hu2⟩
          have blk2 : U2.heap[g]? = some (.cells #[.slice pb bs.length cb, .slice pw bs.length cw, .slice pi is.length ci, .slice pm is.length cm] TB (0, 0)) := (hu2.typ _ _ _ _ K1.out.blk (by decide)).trans K1.out.blk
          clear y0 y1 y2 y3
          obtain ⟨y0, y1, y2, y3⟩ := CB.out _ blk2
          have ri2 := own_of K1.out.ri (w' := U2) fun b hb => by obtain ⟨_, _, cs, q3⟩ := own_at K1.out.ri hb; exact hu2.typ b cs _ _ q3 (by decide)
          have ei2 := K1.out.ei.of (w' := U2) fun b _ _ ⟨cs, q3⟩ => hu2.typ b cs _ _ q3 (by decide)
          have AI := hid (I.apart_any w.heap.size U2 (.slice pi is.length ci) xi is (rows_HVI (by rw [ei2.len]; exact ri2)) ⟨ei2.len, ei2.own, K1.out.pi'⟩ (Nat.le_trans K1.out.low hu2.size) (by rw [ei2.len]; omega) (fun k => by
            by_cases hk' : k < is.length
            · have := HL4.out _ (mem_getD hk'); omega
            · simp [List.getD, List.getElem?_eq_none (show is.length ≤ k by omega)]))
          go_wp2_with fail
          refine AI.out.mono ?_
          rintro e U3 ⟨rfl, hu3⟩
          have FIN : Below w.heap.size w U3 := (BZ.out.trans (hu1.mono BZ.out.size)).trans (hu2.bel.trans hu3)
          go_wp2_with fail
          go_ret
          exact ⟨rfl, FIN⟩
end Go.Proofs.Ytgjadpidoaianaa
namespace Go.Proofs.Ytgjadpidoaianaa
open Go.ChangeShapes Go.WideShapes Go.ChangeAt Go.RowKit
variable {H : Type} {enc : TypeId × Value → H} {W : World}
theorem bulk_memO {H : Type} {d : DataW H} : ∀ {l : List (DataW H)}, d ∈ l → Rows.uptoBulk d ≤ Rows.uptoBulkAll l
  | [], h => by cases h
  | x :: r, h => by
    rcases List.mem_cons.1 h with rfl | h
    · simp only [Rows.uptoBulkAll]; omega
    · have := bulk_memO h
      simp only [Rows.uptoBulkAll]; omega
theorem bulk_posO {H : Type} (d : DataW H) : 1 ≤ Rows.uptoBulk d := by
  cases d with
  | lit l => cases l <;> simp [Rows.uptoBulk]
  | _ => simp [Rows.uptoBulk]
theorem bulk_lenO {H : Type} {n : Nat} : ∀ (l : List (DataW H)), (∀ d ∈ l, n ≤ Rows.uptoBulk d) → l.length * n ≤ Rows.uptoBulkAll l
  | [], _ => by simp
  | x :: r, h => by
    have h1 := h x (by simp)
    have h2 := bulk_lenO r (fun d hd => h d (by simp [hd]))
    simp only [Rows.uptoBulkAll, List.length_cons]
    rw [Nat.add_mul]
    omega
theorem open_bytB {base fuel : Nat} {cs : List Value} {x : DataW H × List MemPlace} (h : DataW.trod enc Try.prog W base (fun _ => true) true fuel 36 cs = some x) : ∃ v l, cs = [v] ∧ HB W v l ∧ l.length ≤ Rows.uptoBulk x.1 := by
  obtain ⟨d, p⟩ := x
  obtain ⟨q, c', l, hcs, h1, h2, h3, h4, h5, h6⟩ := open_row Try.underlying36 Try.underlying5 Opn.cells_u8 h
  exact ⟨_, l, hcs, ⟨⟨q, c', rfl, h1, h2, h3, h4⟩, byte_wf h5⟩, by show l.length ≤ Rows.uptoBulk d; omega⟩
theorem open_intsB {base fuel : Nat} {cs : List Value} {x : DataW H × List MemPlace} (h : DataW.trod enc Try.prog W base (fun _ => true) true fuel 40 cs = some x) : ∃ v l, cs = [v] ∧ I.HB W v l ∧ l.length ≤ Rows.uptoBulk x.1 := by
  obtain ⟨d, p⟩ := x
  obtain ⟨q, c', l, hcs, h1, h2, h3, h4, h5, h6⟩ := open_row Try.underlying40 Try.underlying3 Opn.cells_int h
  exact ⟨_, l, hcs, ⟨⟨q, c', rfl, h1, h2, h3, h4⟩, fun x hx => by have := bounds_i64 (h5 x hx); omega⟩, by show l.length ≤ Rows.uptoBulk d; omega⟩
theorem part_bulk {xs : List (DataW H × List MemPlace)} {i : Nat} {x : DataW H × List MemPlace} (h : xs[i]? = some x) : Rows.uptoBulk x.1 ≤ Rows.uptoBulkAll (xs.map (·.1)) :=
  bulk_memO (List.mem_map.2 ⟨x, List.mem_of_getElem? h, rfl⟩)
set_option maxRecDepth 100000 in
theorem open_reqL {base fuel : Nat} {cs : List Value} {x : DataW H × List MemPlace} (hm : DataW.trod enc Try.prog W base (fun _ => true) true fuel 38 cs = some x) :
    ∃ (r : Rq) (u : Value) (l : List Int), r.ok ∧ (0 ≤ r.k ∧ r.k < 256) ∧ (0 ≤ r.who ∧ r.who < 4294967296) ∧ HB W u l ∧ cs = rqL r u ∧ l.length ≤ Rows.uptoBulk x.1 := by
  obtain ⟨xs, n, rfl, rfl, hl, hxl, hf⟩ := DataW.trod_struct Try.underlying38 hm
  rw [Opn.cells_req] at hl
  have g : ∀ (i : Nat) (f : Field), _ → DataW.trod enc Try.prog W base (fun _ => true) true n f.type ((cs.drop f.offset).take (Try.prog.cellsOf f.type)) = xs[i]? := fun i f hi => hf i f hi
  have hx : ∀ i, i < 7 → ∃ x, xs[i]? = some x := fun i hi => ⟨_, List.getElem?_eq_getElem (by rw [hxl]; exact hi)⟩
  obtain ⟨x0, e0⟩ := hx 0 (by omega)
  have f0 : DataW.trod enc Try.prog W base (fun _ => true) true n 30 ((cs.drop 0).take (Try.prog.cellsOf 30)) = xs[0]? := g 0 _ rfl
  obtain ⟨x1, e1⟩ := hx 1 (by omega)
  have f1 : DataW.trod enc Try.prog W base (fun _ => true) true n 32 ((cs.drop 1).take (Try.prog.cellsOf 32)) = xs[1]? := g 1 _ rfl
  obtain ⟨x2, e2⟩ := hx 2 (by omega)
  have f2 : DataW.trod enc Try.prog W base (fun _ => true) true n 3 ((cs.drop 17).take (Try.prog.cellsOf 3)) = xs[2]? := g 2 _ rfl
  obtain ⟨x3, e3⟩ := hx 3 (by omega)
  have f3 : DataW.trod enc Try.prog W base (fun _ => true) true n 3 ((cs.drop 18).take (Try.prog.cellsOf 3)) = xs[3]? := g 3 _ rfl
  obtain ⟨x4, e4⟩ := hx 4 (by omega)
  have f4 : DataW.trod enc Try.prog W base (fun _ => true) true n 3 ((cs.drop 19).take (Try.prog.cellsOf 3)) = xs[4]? := g 4 _ rfl
  obtain ⟨x5, e5⟩ := hx 5 (by omega)
  have f5 : DataW.trod enc Try.prog W base (fun _ => true) true n 35 ((cs.drop 20).take (Try.prog.cellsOf 35)) = xs[5]? := g 5 _ rfl
  obtain ⟨x6, e6⟩ := hx 6 (by omega)
  have f6 : DataW.trod enc Try.prog W base (fun _ => true) true n 36 ((cs.drop 22).take (Try.prog.cellsOf 36)) = xs[6]? := g 6 _ rfl
  rw [e0, Opn.cells_kind] at f0
  rw [e1, Opn.cells_ix] at f1
  rw [e2, Opn.cells_int] at f2
  rw [e3, Opn.cells_int] at f3
  rw [e4, Opn.cells_int] at f4
  rw [e5, Opn.cells_lease] at f5
  rw [e6, Opn.cells_bytes] at f6
  obtain ⟨k, q0, _, w0⟩ := DataW.trod_int Try.underlying30 f0
  obtain ⟨ix, hix, q1⟩ := open_ixQ f1
  obtain ⟨nb, q2⟩ := open_intQ f2
  obtain ⟨pl, q3⟩ := open_intQ f3
  obtain ⟨ln, q4⟩ := open_intQ f4
  obtain ⟨who, til, hw, q5⟩ := open_leaseQ f5
  obtain ⟨u, l, q6, hu, hbu⟩ := open_bytB f6
  refine ⟨⟨k, ix, nb, pl, ln, who, til⟩, u, l, hix, by have := bounds_u8 w0; simp only; omega, hw, hu, ?_, ?_⟩
  · have h7 : cs.drop 23 = [] := List.drop_eq_nil_of_le (by omega)
    have h6 := part_ofQ q6 rfl _ h7
    have h5 := part_ofQ q5 rfl _ h6
    have h4 := part_ofQ q4 rfl _ h5
    have h3 := part_ofQ q3 rfl _ h4
    have h2 := part_ofQ q2 rfl _ h3
    have h1 := part_ofQ q1 (by simp [hix.1]) _ h2
    have h0 := part_ofQ q0 rfl _ h1
    rw [List.drop_zero] at h0
    rw [h0]
    simp [rqL]
  · have := part_bulk e6
    show l.length ≤ Rows.uptoBulk (.agg (xs.map (·.1)))
    simp only [Rows.uptoBulk]
    omega
set_option maxRecDepth 100000 in
theorem open_repL {base fuel : Nat} {cs : List Value} {x : DataW H × List MemPlace} (hm : DataW.trod enc Try.prog W base (fun _ => true) true fuel 42 cs = some x) :
    ∃ (k : Int) (un u : Value) (ns l : List Int), (0 ≤ k ∧ k < 256) ∧ I.HB W un ns ∧ HB W u l ∧ cs = [.int .u8 k, un, u] ∧ ns.length ≤ Rows.uptoBulk x.1 ∧ l.length ≤ Rows.uptoBulk x.1 := by
  obtain ⟨xs, n, rfl, rfl, hl, hxl, hf⟩ := DataW.trod_struct Try.underlying42 hm
  rw [Opn.cells_rep] at hl
  have g : ∀ (i : Nat) (f : Field), _ → DataW.trod enc Try.prog W base (fun _ => true) true n f.type ((cs.drop f.offset).take (Try.prog.cellsOf f.type)) = xs[i]? := fun i f hi => hf i f hi
  have hx : ∀ i, i < 3 → ∃ x, xs[i]? = some x := fun i hi => ⟨_, List.getElem?_eq_getElem (by rw [hxl]; exact hi)⟩
  obtain ⟨x0, e0⟩ := hx 0 (by omega)
  have f0 : DataW.trod enc Try.prog W base (fun _ => true) true n 39 ((cs.drop 0).take (Try.prog.cellsOf 39)) = xs[0]? := g 0 _ rfl
  obtain ⟨x1, e1⟩ := hx 1 (by omega)
  have f1 : DataW.trod enc Try.prog W base (fun _ => true) true n 40 ((cs.drop 1).take (Try.prog.cellsOf 40)) = xs[1]? := g 1 _ rfl
  obtain ⟨x2, e2⟩ := hx 2 (by omega)
  have f2 : DataW.trod enc Try.prog W base (fun _ => true) true n 36 ((cs.drop 2).take (Try.prog.cellsOf 36)) = xs[2]? := g 2 _ rfl
  rw [e0, Opn.cells_rkind] at f0
  rw [e1, Opn.cells_ints] at f1
  rw [e2, Opn.cells_bytes] at f2
  obtain ⟨k, q0, _, w0⟩ := DataW.trod_int Try.underlying39 f0
  obtain ⟨un, ns, q1, hn, hbn⟩ := open_intsB f1
  obtain ⟨u, l, q2, hu, hbu⟩ := open_bytB f2
  have b1 := part_bulk e1
  have b2 := part_bulk e2
  refine ⟨k, un, u, ns, l, by have := bounds_u8 w0; omega, hn, hu, ?_, ?_, ?_⟩
  · have h3 : cs.drop 3 = [] := List.drop_eq_nil_of_le (by omega)
    have h2 := part_ofQ q2 rfl _ h3
    have h1 := part_ofQ q1 rfl _ h2
    have h0 := part_ofQ q0 rfl _ h1
    rw [List.drop_zero] at h0
    rw [h0]
    rfl
  · show ns.length ≤ Rows.uptoBulk (.agg (xs.map (·.1)))
    simp only [Rows.uptoBulk]
    omega
  · show l.length ≤ Rows.uptoBulk (.agg (xs.map (·.1)))
    simp only [Rows.uptoBulk]
    omega
theorem Opn.cells_op : Try.prog.cellsOf 44 = 28 := by kernel_rfl
set_option maxRecDepth 100000 in
theorem open_opL {base fuel : Nat} {cs : List Value} {x : DataW H × List MemPlace} (hm : DataW.trod enc Try.prog W base (fun _ => true) true fuel 44 cs = some x) (hB : Rows.uptoBulk x.1 ≤ 1048576) :
    (∃ o : Opv, o.H W ∧ cs = o.cs) ∧ 5 ≤ Rows.uptoBulk x.1 := by
  obtain ⟨xs, n, rfl, rfl, hl, hxl, hf⟩ := DataW.trod_struct Try.underlying44 hm
  rw [Opn.cells_op] at hl
  have g : ∀ (i : Nat) (f : Field), _ → DataW.trod enc Try.prog W base (fun _ => true) true n f.type ((cs.drop f.offset).take (Try.prog.cellsOf f.type)) = xs[i]? := fun i f hi => hf i f hi
  have hx : ∀ i, i < 4 → ∃ x, xs[i]? = some x := fun i hi => ⟨_, List.getElem?_eq_getElem (by rw [hxl]; exact hi)⟩
  obtain ⟨x0, e0⟩ := hx 0 (by omega)
  have f0 : DataW.trod enc Try.prog W base (fun _ => true) true n 3 ((cs.drop 0).take (Try.prog.cellsOf 3)) = xs[0]? := g 0 _ rfl
  obtain ⟨x1, e1⟩ := hx 1 (by omega)
  have f1 : DataW.trod enc Try.prog W base (fun _ => true) true n 38 ((cs.drop 1).take (Try.prog.cellsOf 38)) = xs[1]? := g 1 _ rfl
  obtain ⟨x2, e2⟩ := hx 2 (by omega)
  have f2 : DataW.trod enc Try.prog W base (fun _ => true) true n 42 ((cs.drop 24).take (Try.prog.cellsOf 42)) = xs[2]? := g 2 _ rfl
  obtain ⟨x3, e3⟩ := hx 3 (by omega)
  have f3 : DataW.trod enc Try.prog W base (fun _ => true) true n 36 ((cs.drop 27).take (Try.prog.cellsOf 36)) = xs[3]? := g 3 _ rfl
  rw [e0, Opn.cells_int] at f0
  rw [e1, Opn.cells_req] at f1
  rw [e2, Opn.cells_rep] at f2
  rw [e3, Opn.cells_bytes] at f3
  obtain ⟨cl, q0⟩ := open_intQ f0
  obtain ⟨r, qv, qb, hok, hrk, hwho, hq, q1, l1⟩ := open_reqL f1
  obtain ⟨k, nv, rv, ns, rb, hk, hn, hr, q2, l2, l2'⟩ := open_repL f2
  obtain ⟨dv, db, q3, hd, l3⟩ := open_bytB f3
  have b1 := part_bulk e1
  have b2 := part_bulk e2
  have b3 := part_bulk e3
  have hB' : Rows.uptoBulkAll (xs.map (·.1)) + 1 ≤ 1048576 := by
    have : Rows.uptoBulk (.agg (xs.map (·.1))) ≤ 1048576 := hB
    simpa only [Rows.uptoBulk] using this
  refine ⟨⟨⟨cl, r, qv, qb, k, nv, ns, rv, rb, dv, db⟩, ⟨hok, hrk, hwho, hk, hq, hn, hr, hd, by show qb.length ≤ 1048576; omega, by show ns.length ≤ 1048576; omega, by show rb.length ≤ 1048576; omega, by show db.length ≤ 1048576; omega⟩, ?_⟩, ?_⟩
  · have h4 : cs.drop 28 = [] := List.drop_eq_nil_of_le (by omega)
    have h3 := part_ofQ q3 rfl _ h4
    have h2 := part_ofQ q2 rfl _ h3
    have h1 := part_ofQ q1 (rqL_len hok _) _ h2
    have h0 := part_ofQ q0 rfl _ h1
    rw [List.drop_zero] at h0
    rw [h0]
    simp [Opv.cs, opL]
  · show 5 ≤ Rows.uptoBulk (.agg (xs.map (·.1)))
    simp only [Rows.uptoBulk]
    have := bulk_lenO (n := 1) (xs.map (·.1)) (fun d _ => bulk_posO d)
    rw [List.length_map, hxl] at this
    have h4 : (4 : Nat) * 1 ≤ Rows.uptoBulkAll (xs.map (·.1)) := this
    omega
theorem open_HOps {base : Nat} {v : Value} {d : DataW H} {p : List MemPlace} (h : DataW.Trod enc Try.prog W base (fun _ => true) true 22 v d p) (hv : ∃ a n c, v = .slice a n c) (hB : Rows.uptoBulk d ≤ 1048576) : ∃ os, HOps W v os ∧ os.length ≤ 250000 := by
  obtain ⟨a, n, c, rfl⟩ := hv
  obtain ⟨fuel, hf⟩ := h
  rcases Go.Deep.open_slice Try.underlying22 hf with ⟨hcs, hx⟩ | ⟨a, len, cap, m, n, D, Pl, hcs, hb, hl, hm, hmm, hx, hel⟩
  · simp only [Value.cells, List.cons.injEq, and_true] at hcs
    rw [hcs]
    exact ⟨[], ⟨⟨none, 0, rfl, Nat.le_refl _, Nat.zero_le _, fun h => absurd h (by simp)⟩, fun d hd => by cases hd⟩, by simp⟩
  · simp only [Value.cells, List.cons.injEq, and_true] at hcs
    rw [hcs]
    simp only [if_true] at hmm
    subst hmm
    simp only [Prod.mk.injEq] at hx
    obtain ⟨rfl, _⟩ := hx
    have hBe : ∀ i, i < len → Rows.uptoBulk (D i) ≤ 1048576 := fun i hi => by
      have h1 : Rows.uptoBulk (D i) ≤ Rows.uptoBulkAll ((List.range len).map D) := bulk_memO (List.mem_map.2 ⟨i, List.mem_range.2 hi, rfl⟩)
      simp only [Rows.uptoBulk] at hB
      omega
    have each : ∀ i, i < len → ∃ o : Opv, o.H W ∧ (∀ j u, o.cs[j]? = some u → W.cell? ((a.add (i * 28)).add j) = some u) ∧ 5 ≤ Rows.uptoBulk (D i) := by
      intro i hi
      obtain ⟨cs', h1, h2⟩ := hel i (by omega)
      rw [Opn.cells_op] at h1
      obtain ⟨⟨o, d1, d2⟩, d3⟩ := open_opL h2 (hBe i hi)
      obtain ⟨_, _, hc⟩ := World.cells?_some h1
      refine ⟨o, d1, fun j u hj => ?_, d3⟩
      have hj2 : j < 28 := by
        have := (List.getElem?_eq_some_iff.1 hj).1
        rwa [show o.cs.length = 28 from opL_len d1.ok _ _ _ _ _] at this
      rw [hc j hj2, d2]
      exact hj
    have hch : ∃ T : Nat → Opv, ∀ i, i < len → (T i).H W ∧ (∀ j u, (T i).cs[j]? = some u → W.cell? ((a.add (i * 28)).add j) = some u) ∧ 5 ≤ Rows.uptoBulk (D i) := by
      refine ⟨fun i => if hi : i < len then Classical.choose (each i hi) else ⟨0, rq0, undef, [], 0, undef, [], undef, [], undef, []⟩, fun i hi => ?_⟩
      simp only [hi, dif_pos]
      exact Classical.choose_spec (each i hi)
    obtain ⟨T, hT⟩ := hch
    have hlen : ((List.range len).map T).length = len := by simp
    have h5 : len * 5 ≤ Rows.uptoBulkAll ((List.range len).map D) := by
      have := bulk_lenO (n := 5) ((List.range len).map D) (fun d hd => by
        obtain ⟨i, hi, rfl⟩ := List.mem_map.1 hd
        exact (hT i (List.mem_range.1 hi)).2.2)
      simpa using this
    have hB2 := hB
    simp only [Rows.uptoBulk] at hB2
    refine ⟨(List.range len).map T, ⟨⟨some a, _, by rw [hlen], by rw [hlen]; exact hl, hm, fun h0 => ?_⟩, fun o ho => ?_⟩, by rw [hlen]; omega⟩
    · rw [hlen] at h0
      obtain ⟨b, off, sp⟩ := a
      have hsp : sp = none := by
        have := (hT 0 h0).2.1 0 _ (List.getElem?_eq_getElem (by rw [show (T 0).cs.length = 28 from opL_len (hT 0 h0).1.ok _ _ _ _ _]; omega))
        simpa [Addr.add] using World.cell?_spot this
      subst hsp
      refine ⟨b, off, rfl, fun i hi => ?_⟩
      rw [hlen] at hi
      have e : ((List.range len).map T)[i]'(by rw [hlen]; exact hi) = T i := by simp
      rw [e]
      intro j u hj
      have := (hT i hi).2.1 j u hj
      rwa [Go.WideShapes.add_plain, Go.WideShapes.add_plain] at this
    · obtain ⟨i, hi, rfl⟩ := List.mem_map.1 ho
      exact (hT i (List.mem_range.1 hi)).1
end Go.Proofs.Ytgjadpidoaianaa
