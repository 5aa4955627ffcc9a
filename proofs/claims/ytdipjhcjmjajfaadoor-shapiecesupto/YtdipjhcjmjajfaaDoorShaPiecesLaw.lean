/- ShaPieces, walked. -/
import Derived.Test.YtdipjhcjmjajfaaDoorShaSums
namespace Go.Proofs.YtdipjhcjmjajfaaDoor
open Go.RowKit

/-- A slice of bools. -/
def HO (w : World) (v : Value) (ls : List Bool) : Prop :=
  ∃ (p : Option Addr) (c : Nat), v = .slice p ls.length c ∧ ls.length ≤ c ∧ c ≤ maxLen ∧ (0 < ls.length → ∃ b off, p = some ⟨b, off, none⟩ ∧ ∀ j, j < ls.length → w.cell? ⟨b, off + j, none⟩ = some (.bool (ls.getD j false)))

theorem HM.block {A C : World} {g : Nat} {m : List Int} (h : HM A g m) (hb : C.heap[g]? = A.heap[g]?) : HM C g m := by
  obtain ⟨rest, h1, h2⟩ := h
  exact ⟨rest, h1.block hb, h2⟩

theorem own_later {A C : World} {B e n : Nat} {v : Value} {xs : List Value} (h : A.ownsRow B e 1 v n xs) (hb : Below A.heap.size A C) : C.ownsRow B e 1 v n xs := by
  cases hx : v.ownBlock with
  | none => exact h.kept (row := some 0) (grown_below hb) (.inl hx)
  | some y => exact h.kept (row := some (y + 1)) (grown_below hb) (.inr (by rw [hx]; simp))

theorem sum_dig (w : World) (g : Nat) (m : List Int) (h : HM w g m) (hk : KC w) (hlen : m.length ≤ 576460752303423488) :
    Calls Tryd.prog 25 #[.pointer (some ⟨g, 0, none⟩)] w fun e w' => e = .returned (.agg (cellsB (digL m))) ∧ Below w.heap.size w w' := sum_any w g m h hk hlen

/-- sha.Sum of one list. -/
theorem sums_one (w : World) (v : Value) (m : List Int) (h : HB w v m) (hk : KC w) (hlen : m.length ≤ 576460752303423488) :
    Calls Tryd.prog 31 #[.slice (some ⟨w.heap.size, 0, none⟩) 1 1] (w.alloc (.cells #[v] 32)) fun e w' => e = .returned (.agg (cellsB (digL m))) ∧ Below w.heap.size w w' := by
  have hB : Below w.heap.size w (w.alloc (.cells #[v] 32)) := (Below.refl _ w).alloc (Nat.le_refl _) _
  have hL : HL (w.alloc (.cells #[v] 32)) (.slice (some ⟨w.heap.size, 0, none⟩) 1 1) [m] := by
    refine ⟨_, 1, rfl, Nat.le_refl _, by decide, (fun e => by cases e), fun _ => ⟨w.heap.size, 0, rfl, fun j hj => ?_⟩⟩
    have hrow : (w.alloc (.cells #[v] 32)).heap[w.heap.size]? = some (.cells #[v] 32 (0, 0)) := heap_alloc_new w _
    match j, hj with
    | 0, _ => exact ⟨_, by rw [cell_of_row _ w.heap.size 0 _ _ _ hrow]; rfl, h.below hB⟩
  have := sums_any _ _ [m] hL (hk.below hB) (by simpa using hlen)
  refine this.mono ?_
  rintro e w' ⟨rfl, hb⟩
  exact ⟨by simp, hB.trans (hb.mono hB.size)⟩

set_option maxHeartbeats 1000000 in
theorem size_any (w : World) (g : Nat) (m : List Int) (h : HM w g m) :
    Calls Tryd.prog 27 #[.pointer (some ⟨g, 0, none⟩)] w fun e w' => e = .returned (.int .i64 (m.length : Int)) ∧ Below w.heap.size w w' := by
  have CM := hid (made_yes w g m h)
  have H := hid h
  obtain ⟨n, HN⟩ : ∃ n, Hid (m.length = n) := ⟨_, rfl⟩
  rw [HN.out]
  clear h
  go_enter Tryd.func27, Tryd.ntmps27
  go_wp2_with fail
  refine CM.out.mono ?_
  rintro e w1 ⟨rfl, hB1⟩
  have HB1 := hid hB1
  obtain ⟨rest, hs, _⟩ := H.out.below hB1
  have c80 := hs.sz
  rw [HN.out] at c80
  clear hs hB1
  go_wp2
  go_ret
  exact ⟨rfl, HB1.out⟩

set_option maxRecDepth 100000 in
set_option maxHeartbeats 4000000 in
theorem shaPieces_walk (w : World) (v va : Value) (ps : List (List Int)) (ls : List Bool) (h : HL w v ps) (ha : HO w va ls) (hbig : ps.flatten.length ≤ 140737488351232) (hk : KC w) : Calls Tryd.prog 5 #[v, va] w fun e w' => e = .returned (.bool true) ∧ Below w.heap.size w w' := by
  obtain ⟨p, c, ev, hlc, hcm⟩ := h.open
  obtain ⟨pa, ca, ea, hla, hca, hha⟩ := ha
  unfold maxLen at hcm hca
  have A : Hid (0 < ps.length → ∃ b off, p = some ⟨b, off, none⟩ ∧ ∀ j, j < ps.length → ∃ u, w.cell? ⟨b, off + j, none⟩ = some u ∧ HB w u (ps.getD j [])) := by
    intro h0
    obtain ⟨b, off, c', e', _, _, hh⟩ := h.ne h0
    rw [ev] at e'
    simp only [Value.slice.injEq, true_and] at e'
    exact ⟨b, off, e'.1, hh⟩
  have HA2 := hid hha
  have HK := hid hk
  have HH := hid h
  have h0b := World.block_lt_of_cell? w _ (hk 0 (by decide))
  obtain ⟨n, HN⟩ : ∃ n, Hid (ps.length = n) := ⟨_, rfl⟩
  obtain ⟨na, HNA⟩ : ∃ na, Hid (ls.length = na) := ⟨_, rfl⟩
  rw [HN.out] at ev hlc
  rw [HNA.out] at ea hla
  have HLen := hid hbig
  subst ev ea
  clear h hk hbig hha
  go_enter Tryd.func5, Tryd.ntmps5
  go_wp2_with fail
  refine (lives_any _ HK.out).mono ?_
  rintro e w1 ⟨rfl, hB1⟩
  have HB1 := hid hB1
  clear hB1
  go_wp2_with fail
  refine (new_any w1).mono ?_
  rintro e w2 ⟨g, rfl, hg1, hblk, hB2⟩
  have HM2 := hid (HM.nil hblk)
  have hgl := HM2.out.lt
  have hwg : w.heap.size ≤ g := by have := HB1.out.size; omega
  have HB2 := hid (HB1.out.trans (hB2.mono HB1.out.size))
  clear hblk hB2
  go_wp2
  go_loopw [6, 7] (fun v i wr => ∃ k : Nat, k ≤ n ∧ i = .int .i64 k ∧ Hid (wr.ownsRow w2.heap.size 5 1 v (ps.take k).flatten.length ((ps.take k).flatten.map (Value.int .u8))) ∧ Hid (HM wr g (ps.take k).flatten) ∧ Hid (Below g w2 wr)) (fun v i _ => n - (intOf i).toNat)
  case atStart => exact ⟨0, Nat.zero_le _, rfl, World.ownsRow_nil _ _ _ _, HM2, Below.refl _ _⟩
  case round =>
    obtain ⟨k, hkn, rfl, HO0, HMk, HBk⟩ := hrel
    have HBW : Hid (Below w.heap.size w wr) := HB2.out.trans (HBk.out.mono hwg)
    have HKr : Hid (KC wr) := HK.out.below HBW.out
    obtain ⟨F, HF⟩ : ∃ F, Hid ((ps.take k).flatten = F) := ⟨_, rfl⟩
    rw [HF.out] at HO0 HMk
    have HFL : Hid (F.length ≤ 140737488351232) := by rw [← HF.out]; exact Nat.le_trans (flat_le ps k) HLen.out
    have HFB : Hid (∀ x ∈ F, 0 ≤ x ∧ x < 256) := by obtain ⟨_, _, _, h3⟩ := HMk.out; exact h3
    have hlast := HMk.out.lt
    by_cases hlt : k < n
    · obtain ⟨b, off, rfl, hh⟩ := A.out (by rw [HN.out]; omega)
      obtain ⟨u, hu, hbu⟩ := hh k (by rw [HN.out]; exact hlt)
      have hur := (HBW.out.cell (World.block_lt_of_cell? w _ hu)).trans hu
      obtain ⟨l, HL⟩ : ∃ l, Hid (ps.getD k [] = l) := ⟨_, rfl⟩
      rw [HL.out] at hbu
      have HS : Hid ((ps.take (k + 1)).flatten = F ++ l) := by
        show _ = _
        rw [flat_step ps k (by rw [HN.out]; exact hlt), HL.out, HF.out]
      have hFl : F.length + l.length ≤ 140737488351232 := by
        have h1 := flat_le ps (k + 1)
        rw [HS.out, List.length_append] at h1
        have := HLen.out
        omega
      have CW := hid (write_any wr g F u l HMk.out (hbu.below HBW.out) (hbu.off (by omega)) HKr.out (by omega) (by omega))
      have HBU := hid hbu
      have HU := hid hu
      clear hh hu hbu
      go_wp2_with fail
      refine CW.out.mono ?_
      rintro e w3 ⟨rfl, hm3, hg3⟩
      have HM3 := hid hm3
      have HO3 : Hid (w3.ownsRow w2.heap.size 5 1 u6 F.length (F.map (Value.int .u8))) := HO0.out.kept hg3 (by
        cases hx : u6.ownBlock with
        | none => exact .inl rfl
        | some y =>
          refine .inr (fun e => ?_)
          have h1 := (HO0.out.lt y hx).1
          have h2 : y = g := Option.some.inj e
          omega)
      have HB3 : Hid (Below w.heap.size w w3) := HBW.out.grown hg3 HBW.out.size (fun q e => by cases e; exact hwg)
      have HBg3 : Hid (Below g w2 w3) := HBk.out.grown hg3 (by omega) (fun q e => by cases e; exact Nat.le_refl _)
      have hur3 := (HB3.out.cell (World.block_lt_of_cell? w _ HU.out)).trans HU.out
      have HBU3 := hid (HBU.out.below HB3.out)
      have hs3 := HBg3.out.size
      clear hm3 hg3 CW hur
      go_wp2_with (at_builtin; refine wpList_append_HB rfl _ _ rfl w2.heap.size _ _ _ rfl HO3.out _ _ rfl HBU3.out ?q1 ?q2 ?_)
      case q1 => omega
      case q2 => exact hs3
      intro v4 w4 ho4 hg4
      have hrow : ∀ q, u6.ownBlock = some q → w2.heap.size ≤ q := fun q e => (HO3.out.lt q e).1
      have HM4 : Hid (HM w4 g (F ++ l)) := HM3.out.block (hg4.block g HM3.out.lt (fun e => by have := hrow g e.symm; omega))
      have HB4 : Hid (Below w.heap.size w w4) := HB3.out.grown hg4 HB3.out.size (fun q e => by have := hrow q e; omega)
      have HBg4 : Hid (Below g w2 w4) := HBg3.out.grown hg4 (by omega) (fun q e => by have := hrow q e; omega)
      obtain ⟨G, HG⟩ : ∃ G, Hid (F ++ l = G) := ⟨_, rfl⟩
      have HGB : Hid (∀ x ∈ G, 0 ≤ x ∧ x < 256) := by rw [HG.out] at HM4; obtain ⟨_, _, _, h3⟩ := HM4.out; exact h3
      have hGl : G.length ≤ 140737488351232 := by rw [← HG.out, List.length_append]; exact hFl
      rw [← List.map_append, ← List.length_append, HG.out] at ho4
      rw [HG.out] at HM4 HS
      have HO4 := hid ho4
      have HH4 : Hid (HB w4 v4 G) := HB.of_own ho4 HGB.out
      obtain ⟨p4, c4, e4, _, _⟩ := HH4.out.open
      obtain ⟨L4, HL4⟩ : ∃ L4, Hid (G.length = L4) := ⟨_, rfl⟩
      rw [HL4.out] at e4
      subst e4
      have HK4 : Hid (KC w4) := HK.out.below HB4.out
      clear ho4 hg4 hrow hur3
      have HNext : Hid (∀ w', Below w4.heap.size w4 w' → Hid (w'.ownsRow w2.heap.size 5 1 (.slice p4 L4 c4) (ps.take (k + 1)).flatten.length ((ps.take (k + 1)).flatten.map (Value.int .u8))) ∧ Hid (HM w' g (ps.take (k + 1)).flatten) ∧ Hid (Below g w2 w')) := fun w' hb => by
        rw [HS.out]
        exact ⟨own_later HO4.out hb, HM4.out.below hb, HBg4.out.trans (hb.mono (by have := HM4.out.lt; omega))⟩
      clear HO4
      by_cases hka : k < na
      · obtain ⟨ba, oa, rfl, hca2⟩ := HA2.out (by rw [HNA.out]; omega)
        have hcb := hca2 k (by rw [HNA.out]; exact hka)
        have hcb4 := (HB4.out.cell (World.block_lt_of_cell? w _ hcb)).trans hcb
        clear hca2 hcb
        obtain ⟨D, HD⟩ : ∃ D, Hid (digL G = D) := ⟨_, rfl⟩
        obtain ⟨dm, HDM⟩ : ∃ dm, Hid (cellsB D = dm) := ⟨_, rfl⟩
        have hne : ∀ W, (binOp .neq 52 (.agg dm) (.agg dm)).run Tryd.prog W = .ok (.bool false) W := fun W => by
          have := run_neq_bytes W 32 52 Tryd.underlying52 D D (by rw [← HD.out, digL_length]) (by rw [← HD.out, digL_length])
          rw [decide_eq_true rfl, HDM.out] at this
          exact this
        cases hx : ls.getD k false with
        | false =>
          rw [hx] at hcb4
          clear hx hne
          go_wp2
          exact ⟨⟨k + 1, by omega, by go_num, HNext.out _ (Below.refl _ _)⟩, by simp [intOf]; omega⟩
        | true =>
          rw [hx] at hcb4
          clear hx
          have CS := hid (sum_dig w4 g G HM4.out HK4.out (by omega))
          rw [HD.out, HDM.out] at CS
          go_wp2_with fail
          refine CS.out.mono ?_
          rintro e w5 ⟨rfl, hB5⟩
          have HB5 := hid hB5
          have CT := hid (sums_one w5 _ G (HH4.out.below hB5) (HK4.out.below hB5) (by omega))
          rw [HD.out, HDM.out] at CT
          clear hB5 CS
          go_wp2_with fail
          refine CT.out.mono ?_
          rintro e w6 ⟨rfl, hB6⟩
          have HB6 := hid (HB5.out.trans (hB6.mono HB5.out.size))
          clear hB6 CT
          go_wp2
          exact ⟨⟨k + 1, by omega, by go_num, HNext.out _ HB6.out⟩, by simp [intOf]; omega⟩
      · go_wp2
        exact ⟨⟨k + 1, by omega, by go_num, HNext.out _ (Below.refl _ _)⟩, by simp [intOf]; omega⟩
    · have hkn2 : k = n := by omega
      have HFA : Hid (ps.flatten = F) := by
        show _ = _
        rw [← HF.out, hkn2, ← HN.out, List.take_length]
      have HH4 : Hid (HB wr u6 F) := HB.of_own HO0.out HFB.out
      obtain ⟨p4, c4, e4, _, _⟩ := HH4.out.open
      obtain ⟨L4, HL4⟩ : ∃ L4, Hid (F.length = L4) := ⟨_, rfl⟩
      rw [HL4.out] at e4
      subst e4
      have hFL := HFL.out
      obtain ⟨D, HD⟩ : ∃ D, Hid (digL F = D) := ⟨_, rfl⟩
      obtain ⟨dm, HDM⟩ : ∃ dm, Hid (cellsB D = dm) := ⟨_, rfl⟩
      have heq : ∀ W, (binOp .eql 52 (.agg dm) (.agg dm)).run Tryd.prog W = .ok (.bool true) W := fun W => by
        have := run_eql_bytes W 32 52 Tryd.underlying52 D D (by rw [← HD.out, digL_length]) (by rw [← HD.out, digL_length])
        rw [decide_eq_true rfl, HDM.out] at this
        exact this
      have CS := hid (sum_dig wr g F HMk.out HKr.out (by omega))
      rw [HD.out, HDM.out] at CS
      clear hlt HO0
      go_wp2_with fail
      refine CS.out.mono ?_
      rintro e w5 ⟨rfl, hB5⟩
      have HB5 := hid hB5
      have CT := hid (sums_one w5 _ F (HH4.out.below hB5) (HKr.out.below hB5) (by omega))
      rw [HD.out, HDM.out] at CT
      clear hB5 CS
      go_wp2_with fail
      refine CT.out.mono ?_
      rintro e w6 ⟨rfl, hB6⟩
      have HB6 := hid (HB5.out.trans (hB6.mono HB5.out.size))
      have CA := hid (sums_any w6 _ ps (HH.out.below (HBW.out.trans (HB6.out.mono HBW.out.size))) (HKr.out.below HB6.out) (by rw [HFA.out]; omega))
      rw [HFA.out, HD.out, HDM.out] at CA
      clear hB6 CT
      go_wp2_with fail
      refine CA.out.mono ?_
      rintro e w7 ⟨rfl, hB7⟩
      have HB7 := hid (HB6.out.trans (hB7.mono HB6.out.size))
      have CT := hid (sums_one w7 _ F (HH4.out.below HB7.out) (HKr.out.below HB7.out) (by omega))
      rw [HD.out, HDM.out] at CT
      clear hB7 CA
      go_wp2_with fail
      refine CT.out.mono ?_
      rintro e w8 ⟨rfl, hB8⟩
      have HB8 := hid (HB7.out.trans (hB8.mono HB7.out.size))
      have CZ := hid (size_any w8 g F (HMk.out.below HB8.out))
      rw [HL4.out] at CZ
      clear hB8 CT
      go_wp2_with fail
      refine CZ.out.mono ?_
      rintro e w9 ⟨rfl, hB9⟩
      have HB9 := hid (HBW.out.trans ((HB8.out.trans (hB9.mono HB8.out.size)).mono HBW.out.size))
      clear hB9 CZ
      go_wp2
      go_ret
      exact ⟨by simp, HB9.out⟩
end Go.Proofs.YtdipjhcjmjajfaaDoor
