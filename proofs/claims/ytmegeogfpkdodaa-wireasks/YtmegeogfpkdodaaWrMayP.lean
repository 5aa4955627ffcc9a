/- wire: whether a reply may be. -/
import Derived.Test.YtmegeogfpkdodaaWrRpl
set_option linter.unusedVariables false
set_option linter.unusedSimpArgs false
namespace Go.Proofs.Ytmegeogfpkdodaa
open Go Go.RowKit

theorem elmI : Try.prog.elem 40 = 3 := by kernel_rfl
theorem slice_hI (W : World) (b off n c hi : Nat) (h1 : hi ≤ c) (h2 : 0 < c) : (Instr.slice 40 (.slice (some ⟨b, off, none⟩) n c) none (some (.int .i64 (hi : Int))) none).run Try.prog W = .ok (.slice (some ⟨b, off, none⟩) hi c) W := by
  have h := run_slice_h (P := Try.prog) W 40 (some ⟨b, off, none⟩) n c (by rw [elmI]; exact Try.underlying40) .i64 (hi : Int) (by omega) (by omega)
  rw [h, elmI, I.size_i64, Result.andThen_ok, Int.toNat_natCast]
  unfold sliced
  rw [if_neg (by omega)]
  simp [Go.WideShapes.add_plain]
theorem I.HB.pre {w : World} {b off n c : Nat} {ns : List Int} (h : I.HB w (.slice (some ⟨b, off, none⟩) ns.length c) ns) (i : Nat) (hi : i ≤ ns.length) : I.HB w (.slice (some ⟨b, off, none⟩) i c) (ns.take i) := by
  obtain ⟨⟨p, c', e, h1, h2, h3, h4⟩, h5⟩ := h
  cases e
  refine ⟨⟨_, c, by rw [List.length_take, Nat.min_eq_left hi], by rw [List.length_take]; omega, h2, (fun e => by cases e), fun hne => ⟨b, off, rfl, fun j hj => ?_⟩⟩, fun x hx => h5 x (List.mem_of_mem_take hx)⟩
  have hj2 : j < i := by rw [List.length_take] at hj; omega
  obtain ⟨b', off', e, hh⟩ := h4 (by intro e; rw [e] at hi; simp at hi; omega)
  cases e
  rw [hh j (by omega)]
  simp [List.getD, List.getElem?_take, hj2]
/-- Each number may stand behind those ahead of it. -/
def risTo (ns : List Int) : Nat → Bool
  | 0 => true
  | i + 1 => risTo ns i && folB (ns.take i) (ns.getD i 0)
def risB (ns : List Int) : Bool := risTo ns ns.length
theorem risTo_false {ns : List Int} {i : Nat} (h : risTo ns i = false) : ∀ j, i ≤ j → risTo ns j = false := by
  intro j hj
  induction j with
  | zero => have : i = 0 := by omega
            subst this; exact h
  | succ j ih =>
    rcases Nat.lt_or_ge j i with h1 | h1
    · have : i = j + 1 := by omega
      subst this; exact h
    · rw [risTo, ih h1]; rfl
set_option maxRecDepth 100000 in
set_option maxHeartbeats 4000000 in
theorem rise_any (w : World) (v : Value) (ns : List Int) (h : I.HB w v ns) : Calls Try.prog 66 #[v] w fun e w' => e = .returned (.bool (risB ns)) ∧ w' = w := by
  obtain ⟨rb, HRB⟩ : ∃ x, Hid (risB ns = x) := ⟨_, hid rfl⟩
  rw [HRB.out]
  by_cases h0 : 0 < ns.length
  · obtain ⟨b, off, c, rfl, h1, h2, hh⟩ := h.ne h0
    have HH := hid hh
    have HV := hid h
    have hle : ns.length ≤ 9223372036854775807 := Nat.le_trans h1 h2
    clear hh h
    go_enter Try.func66, Try.ntmps66
    go_wp2
    go_loop [7] (fun i => ∃ k : Nat, k ≤ ns.length ∧ i = .int .i64 k ∧ risTo ns k = true) (fun i => ns.length - (intOf i).toNat)
    case atStart => exact ⟨0, Nat.zero_le _, rfl, rfl⟩
    case round =>
      obtain ⟨k, hk, rfl, hr⟩ := hrel
      by_cases hlt : k < ns.length
      · have hu := HH.out k hlt
        have hsl := fun W => slice_hI W b off ns.length c k (by omega) (by omega)
        have CF := hid (follows_any w _ (ns.take k) (HV.out.pre (n := 0) k hk) (ns.getD k 0))
        have ST : Hid (risTo ns (k + 1) = folB (ns.take k) (ns.getD k 0)) := hid (by rw [risTo, hr]; simp)
        obtain ⟨fb, HF⟩ : ∃ x, Hid (folB (ns.take k) (ns.getD k 0) = x) := ⟨_, hid rfl⟩
        rw [HF.out] at CF ST
        generalize ns.getD k 0 = y at hu CF
        clear HF
        cases fb with
        | false =>
          have hF : Hid (rb = false) := hid (by rw [← HRB.out]; exact risTo_false ST.out _ (by omega))
          go_wp2_with fail
          refine CF.out.mono ?_
          rintro e w' ⟨rfl, hw'⟩
          subst hw'
          go_wp2_with fail
          go_ret
          exact ⟨by rw [hF.out]; rfl, rfl⟩
        | true =>
          go_wp2_with fail
          refine CF.out.mono ?_
          rintro e w' ⟨rfl, hw'⟩
          subst hw'
          go_wp2_with fail
          exact ⟨⟨k + 1, by omega, by go_num, ST.out⟩, by simp [intOf]; omega⟩
      · have hF : Hid (rb = true) := hid (by rw [← HRB.out, risB, show ns.length = k by omega]; exact hr)
        go_wp2_with fail
        go_ret
        exact ⟨by rw [hF.out]; rfl, rfl⟩
  · obtain ⟨p, c, rfl, h1, h2⟩ := h.open
    have h00 : ns.length = 0 := by omega
    have hF : Hid (rb = true) := hid (by rw [← HRB.out, risB, h00]; rfl)
    rw [h00]
    clear h
    go_enter Try.func66, Try.ntmps66
    go_wp2
    go_loop [7] (fun i => i = .int .i64 0) (fun _ => 0)
    case atStart => rfl
    case round =>
      subst hrel
      go_wp2_with fail
      go_ret
      exact ⟨by rw [hF.out]; rfl, rfl⟩
/-- May the reply be, of so many bytes? -/
def mayP (k : Int) (ns : List Int) (n : Nat) : Bool :=
  if k = 1 then risB ns && decide (n = 0)
  else if k = 5 then decide (ns.length = 0) && flB n
  else rkB k && (decide (ns.length = 0) && decide (n = 0))
set_option maxRecDepth 100000 in
set_option maxHeartbeats 4000000 in
theorem mayRep_any (w : World) (k : Int) (vn : Value) (ns : List Int) (hn : I.HB w vn ns) (p : Option Addr) (n c : Nat) : Calls Try.prog 43 #[.agg #[.int .u8 k, vn, .slice p n c]] w fun e w' => e = .returned (.bool (mayP k ns n)) ∧ Below w.heap.size w w' := by
  obtain ⟨W1, HW1⟩ : ∃ W : World, Hid (w.alloc (.cells #[.int .u8 k, vn, .slice p n c] 42) = W) := ⟨_, hid rfl⟩
  have B1 : Hid (Below w.heap.size w W1) := by rw [← HW1.out]; exact hid ((Below.refl _ w).alloc (Nat.le_refl _) _)
  have hbx : W1.heap[w.heap.size]? = some (.cells #[.int .u8 k, vn, .slice p n c] 42 (0, 0)) := by rw [← HW1.out]; exact heap_alloc_new w _
  have c0 : W1.cell? ⟨w.heap.size, 0, none⟩ = some (.int .u8 k) := by simp [World.cell?, hbx]
  have c1 : W1.cell? ⟨w.heap.size, 1, none⟩ = some vn := by simp [World.cell?, hbx]
  have c2 : W1.cell? ⟨w.heap.size, 2, none⟩ = some (.slice p n c) := by simp [World.cell?, hbx]
  have CR := hid (fun q => rise_any (W1.drewN q) vn ns ((hn.below B1.out).drewN q))
  have CI := hid (fun q => isReply_any (W1.drewN q) k)
  have CF := hid (fun q => isFetchLen_any (W1.drewN q) (n : Int))
  have BB : Hid (∀ q, Below w.heap.size w (W1.drewN q)) := hid (fun q => bel_drewN B1.out q)
  obtain ⟨pn, cn, rfl, _, _⟩ := hn.open
  have HMP : Hid (mayP k ns n = if k = 1 then risB ns && decide (n = 0) else if k = 5 then decide (ns.length = 0) && flB n else rkB k && (decide (ns.length = 0) && decide (n = 0))) := hid rfl
  obtain ⟨mp, HM⟩ : ∃ x, Hid (mayP k ns n = x) := ⟨_, hid rfl⟩
  rw [HM.out] at HMP ⊢
  clear hn hbx HM
  generalize risB ns = rs at CR HMP
  generalize ns.length = nl at c1 CR HMP HW1 ⊢
  generalize rkB k = rk at CI HMP
  generalize flB n = fl at CF HMP
  go_enter Try.func43, Try.ntmps43
  go_wp2_with (first | rw [HW1.out] | fail)
  go_quiet (fail)
  go_wp2_with (first | (go_at_call 66; refine (CR.out _).mono ?_; rintro e w' ⟨rfl, hw'⟩; subst hw') | (go_at_call 67; refine (CI.out _).mono ?_; rintro e w' ⟨rfl, hw'⟩; subst hw') | (go_at_call 55; refine (CF.out _).mono ?_; rintro e w' ⟨rfl, hw'⟩; subst hw'))
  all_goals go_ret
  all_goals (refine ⟨?_, BB.out _⟩; rw [HMP.out]; clear HMP CR CI CF BB B1 HW1 c0 c1 c2; simp_all [nat0])
end Go.Proofs.Ytmegeogfpkdodaa
