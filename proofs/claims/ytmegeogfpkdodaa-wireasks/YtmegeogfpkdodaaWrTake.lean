/- wire: take goes through its fields, whatever they are. -/
import Derived.Test.YtmegeogfpkdodaaWrIx
set_option linter.unusedVariables false
set_option linter.unusedSimpArgs false
namespace Go.Proofs.Ytmegeogfpkdodaa
open Go Go.RowKit

/-- Fields that are taken one behind the other: what each begins with, and what it tells. -/
structure Fds (R g m : Nat) (fid : Nat → Nat) (S : Nat → Prop) (J : Nat → World → Prop) (f : Nat → Bool) (l : Nat → List Int) (bk : Nat → Bool) : Prop where
  rd : ∀ k u, J k u → RD u g true (f k) (l k)
  stay : ∀ k u u', J k u → Below u.heap.size u u' → J k u'
  ask : ∀ k, k < m → ∀ u, J k u → Calls Try.prog (fid k) #[.pointer (some ⟨R, 0, none⟩)] u fun e u' => e = .returned (.bool (bk k)) ∧ J (k + 1) u' ∧ Ex S u u'
  ent : ∀ k, k < m → ∀ args w, (callFunc (fid k) args).run Try.prog w = .ok (.enter (fid k) args) w
/-- Where the first fault is, and whether there is none, behind k fields. -/
def tkA (n : Nat) (l : Nat → List Int) (bk : Nat → Bool) : Nat → Int × Bool
  | 0 => (0, true)
  | k + 1 => if (!bk k && (tkA n l bk k).2) = true then ((n : Int) - (l k).length, false) else tkA n l bk k
def tkE (n m : Nat) (f : Nat → Bool) (l : Nat → List Int) (bk : Nat → Bool) : Int × Bool := if f m = true then ((n : Int), false) else tkA n l bk m
theorem tkA_le {n : Nat} {l : Nat → List Int} {bk : Nat → Bool} (hl : ∀ k, (l k).length ≤ n) : ∀ k, 0 ≤ (tkA n l bk k).1 ∧ (tkA n l bk k).1 ≤ n
  | 0 => by simp [tkA]
  | k + 1 => by
    unfold tkA
    split
    · have := hl k; simp only; omega
    · exact tkA_le hl k
set_option maxRecDepth 100000 in
set_option maxHeartbeats 8000000 in
theorem takeS_any {R g m n : Nat} {fid : Nat → Nat} {S : Nat → Prop} {J : Nat → World → Prop} {f : Nat → Bool} {l : Nat → List Int} {bk : Nat → Bool} (D : Fds R g m fid S J f l bk) (w : World) (hJ : J 0 w) (hn : n ≤ 140737488355328) (hl : ∀ k, (l k).length ≤ n)
    (hSx : ¬ S w.heap.size) (b o c : Nat) (p : Option Addr) (hp : 0 < m → p = some ⟨b, o, none⟩) (hmc : m ≤ c) (hcm : c ≤ maxLen) (hm : m ≤ 1000) (hSb : 0 < m → ¬ S b) (hc : ∀ k, k < m → w.cell? ⟨b, o + k, none⟩ = some (.func (.func (fid k)) #[.pointer (some ⟨R, 0, none⟩)] #[])) :
    Calls Try.prog 61 #[.agg #[.pointer (some ⟨g, 0, none⟩), .int .i64 (n : Int)], .slice p m c] w fun e w' => e = .returned (.tuple #[.int .i64 (tkE n m f l bk).1, .bool (tkE n m f l bk).2]) ∧ J m w' ∧ Ex S w w' := by
  obtain ⟨TE, HTE⟩ : ∃ x, Hid (tkE n m f l bk = x) := ⟨_, hid rfl⟩
  rw [HTE.out]
  have TEQ : Hid (TE = if f m = true then ((n : Int), false) else tkA n l bk m) := hid HTE.out.symm
  clear HTE
  obtain ⟨W1, HW1⟩ : ∃ W : World, Hid (w.alloc (.cells #[.pointer (some ⟨g, 0, none⟩), .int .i64 (n : Int)] 80) = W) := ⟨_, hid rfl⟩
  have B1 : Hid (Below w.heap.size w W1) := by rw [← HW1.out]; exact hid ((Below.refl _ w).alloc (Nat.le_refl _) _)
  have hs1 : Hid (W1.heap.size = w.heap.size + 1) := hid (by rw [← HW1.out]; simp)
  have hbx : Hid (W1.heap[w.heap.size]? = some (.cells #[.pointer (some ⟨g, 0, none⟩), .int .i64 (n : Int)] 80 (0, 0))) := hid (by rw [← HW1.out]; exact heap_alloc_new w _)
  have KX : Hid (∀ W, Ex S W1 W → W.cell? ⟨w.heap.size, 0, none⟩ = some (.pointer (some ⟨g, 0, none⟩)) ∧ W.cell? ⟨w.heap.size, 1, none⟩ = some (.int .i64 (n : Int)) ∧ ∀ k, k < m → W.cell? ⟨b, o + k, none⟩ = some (.func (.func (fid k)) #[.pointer (some ⟨R, 0, none⟩)] #[])) := hid (fun W hW => by
    have h1 := (hW.block w.heap.size (by have := hs1.out; omega) hSx).trans hbx.out
    refine ⟨by simp [World.cell?, h1], by simp [World.cell?, h1], fun k hk => ?_⟩
    have h2 := hc k hk
    have hlt : b < w.heap.size := World.block_lt_of_cell? w _ h2
    have h3 : W.heap[b]? = w.heap[b]? := (hW.block b (by have := hs1.out; omega) (hSb (by omega))).trans (B1.out.block b hlt)
    simpa only [World.cell?, h3] using h2)
  have J1 : Hid (J 0 W1) := hid (D.stay 0 w W1 hJ B1.out)
  have FIN : Hid (∀ W, Ex S W1 W → Ex S w W) := hid (fun W hW => (Ex.of_below B1.out).trans hW (fun _ q => .inl q))
  have DD := hid D
  have HLn := hid hl
  have hp' := hid hp
  clear hc hJ hl D hp
  have hn' : (n : Int) ≤ 140737488355328 := by omega
  go_enter Try.func61, Try.ntmps61
  go_wp2_with (first | rw [HW1.out] | fail)
  go_loopw [6, 7, 13] (fun a s i wr => ∃ k : Nat, k ≤ m ∧ i = .int .i64 k ∧ a = .int .i64 (tkA n l bk k).1 ∧ s = .bool (tkA n l bk k).2 ∧ J k wr ∧ Ex S W1 wr) (fun _ _ i _ => m - (intOf i).toNat)
  case atStart => exact ⟨0, Nat.zero_le _, rfl, rfl, rfl, J1.out, Ex.refl _ _⟩
  case round =>
    obtain ⟨k, hk, rfl, rfl, rfl, hJ, hE⟩ := hrel
    by_cases hlt : k < m
    · obtain ⟨x0, x1, x2⟩ := KX.out wr hE
      have x3 := x2 k hlt
      have hpe := hp'.out (by omega)
      have CL : Hid (∀ q, Calls Try.prog 70 #[.pointer (some ⟨g, 0, none⟩)] (wr.drewN q) fun e w' => e = .returned (.int .i64 ((l k).length : Int)) ∧ w' = wr.drewN q) := hid (fun q => left_any _ g true (f k) (l k) (DD.out.rd k _ (DD.out.stay k wr _ hJ ⟨rfl, rfl, rfl, Nat.le_refl _, fun _ _ => rfl⟩)))
      have CA : Hid (∀ q, Calls Try.prog (fid k) #[.pointer (some ⟨R, 0, none⟩)] (wr.drewN q) fun e u' => e = .returned (.bool (bk k)) ∧ J (k + 1) u' ∧ Ex S (wr.drewN q) u') := hid (fun q => DD.out.ask k hlt _ (DD.out.stay k wr _ hJ ⟨rfl, rfl, rfl, Nat.le_refl _, fun _ _ => rfl⟩))
      have EN : Hid (∀ args w, (callFunc (fid k) args).run Try.prog w = .ok (.enter (fid k) args) w) := hid (DD.out.ent k hlt)
      have hlk := HLn.out k
      have ST : Hid (tkA n l bk (k + 1) = if (!bk k && (tkA n l bk k).2) = true then ((n : Int) - (l k).length, false) else tkA n l bk k) := hid rfl
      obtain ⟨at0, sd0, hT⟩ : ∃ a b, tkA n l bk k = (a, b) := ⟨_, _, rfl⟩
      rw [hT] at ST ⊢
      simp only at ST ⊢
      have HE := hid hE
      generalize (l k).length = L at hlk CL ST
      generalize bk k = bb at CA ST
      obtain ⟨fd, HFD⟩ : ∃ x, Hid (fid k = x) := ⟨_, hid rfl⟩
      rw [HFD.out] at CA EN x3
      clear x2 hJ hE hT
      have hw : IntKind.i64.wrap ((n : Int) - (L : Int)) = (n : Int) - (L : Int) := by rw [IntKind.wrap_i64]; omega
      subst hpe
      go_wp2_with fail
      go_quiet ((go_at_call 70; exact Calls.quiet_of_same (CL.out _)))
      go_wp2_with fail
      rw [EN.out, Oper.upon_enter]
      refine (CA.out _).mono ?_
      rintro e w2 ⟨rfl, hJ2, hE2⟩
      have HE2 : Hid (Ex S W1 w2) := hid ((HE.out.drewN _).trans hE2 (fun _ q => .inl q))
      have HJ2 := hid hJ2
      clear hJ2 hE2 CA CL HE x0 x1 x3
      cases bb <;> cases sd0 <;> (
        go_wp2_with fail
        refine ⟨⟨k + 1, by omega, by go_num, ?_, ?_, HJ2.out, HE2.out⟩, by simp [intOf]; omega⟩ <;> rw [ST.out] <;> rfl)
    · obtain rfl : k = m := by omega
      obtain ⟨x0, x1, x2⟩ := KX.out wr hE
      have CE := hid (end_any wr g true (f k) (l k) (DD.out.rd k _ hJ))
      have HJ := hid hJ
      have HE := hid (FIN.out wr hE)
      obtain ⟨en, HEN⟩ : ∃ x, Hid (endNo true (f k) (l k) = x) := ⟨_, hid rfl⟩
      rw [HEN.out] at CE
      obtain ⟨at0, sd0, hT⟩ : ∃ a b, tkA n l bk k = (a, b) := ⟨_, _, rfl⟩
      rw [hT] at TEQ ⊢
      simp only
      have FE : (f k = true ∧ en = 10) ∨ (f k = false ∧ (en == 10) = false) := by
        rw [← HEN.out]
        unfold endNo
        cases f k
        · right; simp; split <;> decide
        · left; simp
      clear x2 hJ hE hT HEN hlt hk J1 FIN KX HLn DD hp'
      rcases FE with ⟨hf, rfl⟩ | ⟨hf, hen⟩ <;> rw [hf] at TEQ <;> clear hf
      · go_wp2_with fail
        refine CE.out.mono ?_
        rintro e w2 ⟨rfl, hw2⟩
        subst hw2
        go_wp2_with fail
        go_ret2
        exact ⟨by rw [TEQ.out]; rfl, HJ.out, HE.out⟩
      · go_wp2_with fail
        refine CE.out.mono ?_
        rintro e w2 ⟨rfl, hw2⟩
        subst hw2
        go_wp2_with fail
        go_ret2
        exact ⟨by rw [TEQ.out]; rfl, HJ.out, HE.out⟩
end Go.Proofs.Ytmegeogfpkdodaa
