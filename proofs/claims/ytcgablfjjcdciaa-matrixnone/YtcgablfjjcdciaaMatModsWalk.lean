/- The law MatrixMods, walked. -/
import Derived.Test.YtcgablfjjcdciaaMatRef
set_option linter.unusedSimpArgs false
set_option linter.unusedVariables false
namespace Go.Proofs.Ytcgablfjjcdciaa
open Go Go.RowKit

/-- n pairs of numbers. -/
def HAsk (w : World) (v : Value) (n : Nat) (X Y : Nat → Nat) : Prop :=
  ∃ (p : Option Addr) (c : Nat), v = .slice p n c ∧ n ≤ c ∧ c ≤ maxLen ∧ (∀ i, X i < 4294967296) ∧ (∀ i, Y i < 4294967296) ∧
    (0 < n → ∃ b off, p = some ⟨b, off, none⟩ ∧ ∀ i, i < n → w.cell? ⟨b, off + i * 2, none⟩ = some (.int .u32 (X i : Int)) ∧ w.cell? ⟨b, off + (i * 2 + 1), none⟩ = some (.int .u32 (Y i : Int)))
theorem HAsk.below {w w' : World} {v : Value} {n : Nat} {X Y : Nat → Nat} (h : HAsk w v n X Y) (hb : Below w.heap.size w w') : HAsk w' v n X Y := by
  obtain ⟨p, c, h1, h2, h3, h4, h5, h6⟩ := h
  refine ⟨p, c, h1, h2, h3, h4, h5, fun hn => ?_⟩
  obtain ⟨b, off, e, hh⟩ := h6 hn
  exact ⟨b, off, e, fun i hi => ⟨(hb.cell (World.block_lt_of_cell? w _ (hh i hi).1)).trans (hh i hi).1, (hb.cell (World.block_lt_of_cell? w _ (hh i hi).2)).trans (hh i hi).2⟩⟩
theorem info_ask : (Try.prog.info? 31).map (fun i => (i.zero, i.size)) = some (some (.agg #[.int .u32 0, .int .u32 0]), 2) := by kernel_rfl
theorem size_ask : ∀ w, Sem.run Try.prog (Go.sizeOf 31) w = .ok 2 w := fun w => by
  have h := info_ask
  cases hi : Try.prog.info? 31 with
  | none => rw [hi] at h; cases h
  | some i =>
    rw [hi] at h
    simp only [Option.map_some, Option.some.injEq, Prod.mk.injEq] at h
    simp [Go.sizeOf, typeInfo, hi, h.2]
set_option maxRecDepth 100000 in
set_option maxHeartbeats 8000000 in
theorem mods_walk (w : World) (v : Value) (n : Nat) (X Y : Nat → Nat) (p : Nat) (h : HAsk w v n X Y) (hp : p < 4294967296) :
    Calls Try.prog 3 #[.int .u32 (p : Int), v] w fun e w' => e = .returned (.bool true) ∧ Below w.heap.size w w' := by
  have HP := hid h
  obtain ⟨q, c, rfl, hnc, hcm, hX, hY, -⟩ := id h
  have HX := hid hX
  have HY := hid hY
  unfold maxLen at hcm
  have sz := size_ask
  clear h hX hY
  have C1 := hid (newMod_any w p hp)
  have C2 : Hid (∀ W, Calls Try.prog 7 #[.int .u32 (p : Int)] W fun e w' => e = .returned (.bool (okP p)) ∧ w' = W) := fun W => rprime_any W p hp
  go_enter Try.func3, Try.ntmps3
  cases hk : okP p with
  | false =>
    rw [hk] at C2
    go_wp2_with fail
    refine C1.out.mono ?_
    rintro e w1 ⟨-, h1⟩
    obtain ⟨rfl, rfl⟩ := h1 hk
    clear C1 h1 hk
    go_wp2_with fail
    refine (C2.out _).mono ?_
    rintro e w2 ⟨rfl, rfl⟩
    go_wp2
    go_ret
    exact ⟨rfl, Below.refl _ _⟩
  | true =>
    rw [hk] at C2
    obtain ⟨hp3, hp2⟩ := okP_is hk
    go_wp2_with fail
    refine C1.out.mono ?_
    rintro e w1 ⟨h1, -⟩
    obtain ⟨rfl, e1⟩ := h1 hk
    have B1 : Hid (Below w.heap.size w w1) := by rw [e1]; exact (Below.refl _ w).alloc (Nat.le_refl _) _
    have HM : Hid (HMod w1 w.heap.size p) := by
      rw [e1]
      exact cell_of_row _ w.heap.size 0 _ _ _ (heap_alloc_new w _)
    obtain ⟨f, Hf⟩ : ∃ f, Hid (f = w.heap.size) := ⟨_, rfl⟩
    rw [← Hf.out] at HM
    rw [← Hf.out]
    clear C1 h1 hk e1
    go_wp2_with fail
    refine (C2.out _).mono ?_
    rintro e w2 ⟨rfl, rfl⟩
    go_wp2_with fail
    refine (zero_any _ f).mono ?_
    rintro e w2 ⟨rfl, rfl⟩
    go_wp2_with fail
    refine (one_any _ f p HM.out hp2 hp).mono ?_
    rintro e w2 ⟨rfl, rfl⟩
    clear C2
    go_wp2
    go_loopw [7] (fun i wr => ∃ k : Nat, k ≤ n ∧ i = .int .i64 (k : Int) ∧ Hid (Below w.heap.size w wr) ∧ Hid (HMod wr f p)) (fun i _ => n - (intOf i).toNat)
    case atStart => exact ⟨0, Nat.zero_le _, rfl, B1, HM⟩
    case round =>
      clear B1 HM
      obtain ⟨k, hk, rfl, B1, HM⟩ := hrel
      by_cases hlast : k = n
      · have hl1 : ¬ (k : Int) < (n : Int) := by omega
        go_wp2
        go_ret
        exact ⟨rfl, B1.out⟩
      · have hl1 : (k : Int) < (n : Int) := by omega
        obtain ⟨p', c', ee, -, -, -, -, h6⟩ := HP.out.below B1.out
        simp only [Value.slice.injEq, true_and] at ee
        obtain ⟨rfl, rfl⟩ := ee
        obtain ⟨b, off, rfl, hcl⟩ := h6 (by omega)
        have r0 := (hcl k (by omega)).1
        have r1 : wr.cell? ⟨b, off + k * 2 + 1, none⟩ = some (.int .u32 (Y k : Int)) := by rw [Nat.add_assoc]; exact (hcl k (by omega)).2
        obtain ⟨x, Hx⟩ : ∃ x, Hid (X k = x) := ⟨_, rfl⟩
        obtain ⟨y, Hy⟩ : ∃ y, Hid (Y k = y) := ⟨_, rfl⟩
        rw [Hx.out] at r0
        rw [Hy.out] at r1
        have hx : x < 4294967296 := by rw [← Hx.out]; exact HX.out k
        have hy : y < 4294967296 := by rw [← Hy.out]; exact HY.out k
        obtain ⟨iv, ib, Hi⟩ : ∃ iv ib, Hid (invV p x = (iv, ib)) := ⟨_, _, rfl⟩
        have hivl : iv < 4294967296 := by
          have hh := Hi.out
          unfold invV at hh
          split at hh
          · cases hh; decide
          · cases hh
            have := pwm_lt (p := p) (by omega) (p - 2) 1 x (by omega)
            omega
        have q1 : (iv != iv) = false := by simp
        have q2 : (ib != ib) = false := by simp
        clear hcl h6
        go_wp2_with fail
        refine (minv_any _ f p x iv ib HM.out hp2 hp hx Hi.out).mono ?_
        rintro e w2 ⟨rfl, rfl⟩
        go_wp2_with fail
        refine (rinv_any _ p x iv ib hp2 hp hx Hi.out).mono ?_
        rintro e w3 ⟨rfl, hD3⟩
        have HM3 : Hid (HMod w3 f p) := (hD3.cell _).trans HM.out
        have B3 := hid (B1.out.trans ((hD3.below _).mono (Nat.le_refl _)))
        clear hD3 HM B1 r0 r1
        obtain ⟨s1, Hs1⟩ : ∃ s, Hid ((x + y) % p = s) := ⟨_, rfl⟩
        obtain ⟨s2, Hs2⟩ : ∃ s, Hid ((x + (p - y % p)) % p = s) := ⟨_, rfl⟩
        go_wp2_with fail
        refine (madd_any _ f p x y s1 HM3.out (by omega) hp hx hy Hs1.out).mono ?_
        rintro e w4 ⟨rfl, rfl⟩
        go_wp2_with fail
        refine (radd_any _ p x y s1 (by omega) hp hx hy Hs1.out).mono ?_
        rintro e w4 ⟨rfl, hD4⟩
        have HM4 : Hid (HMod w4 f p) := (hD4.cell _).trans HM3.out
        have B4 := hid (B3.out.trans ((hD4.below _).mono (Nat.le_refl _)))
        clear hD4 HM3 B3
        go_wp2_with fail
        refine (msub_any _ f p x y s2 HM4.out (by omega) hp hx hy Hs2.out).mono ?_
        rintro e w5 ⟨rfl, rfl⟩
        go_wp2_with fail
        refine (rsub_any _ p x y s2 (by omega) hp hx hy Hs2.out).mono ?_
        rintro e w5 ⟨rfl, hD5⟩
        have HM5 : Hid (HMod w5 f p) := (hD5.cell _).trans HM4.out
        have B5 := hid (B4.out.trans ((hD5.below _).mono (Nat.le_refl _)))
        clear hD5 HM4 B4
        obtain ⟨s3, Hs3⟩ : ∃ s, Hid (x * y % p = s) := ⟨_, rfl⟩
        go_wp2_with fail
        refine (mmul_any _ f p x y s3 HM5.out (by omega) hp hx hy Hs3.out).mono ?_
        rintro e w6 ⟨rfl, rfl⟩
        go_wp2_with fail
        refine (rmul_any _ p x y s3 (by omega) hp hx hy Hs3.out).mono ?_
        rintro e w6 ⟨rfl, hD6⟩
        have HM6 : Hid (HMod w6 f p) := (hD6.cell _).trans HM5.out
        have B6 := hid (B5.out.trans ((hD6.below _).mono (Nat.le_refl _)))
        clear hD6 HM5 B5
        go_wp2
        exact ⟨⟨k + 1, by omega, by go_num, B6, HM6⟩, by simp [intOf]; omega⟩
end Go.Proofs.Ytcgablfjjcdciaa
