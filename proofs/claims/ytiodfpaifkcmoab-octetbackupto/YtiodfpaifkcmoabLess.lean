/- octet.Less, by bytes.Compare and the model's own entry internal/bytealg.Compare, walked: the first byte that differs decides, else the length. -/
import Derived.Test.YtiodfpaifkcmoabBase
import Derived.Test.YtiodfpaifkcmoabChecked
import Derived.Lib.Bytealg
namespace Go.Proofs.Ytiodfpaifkcmoab
open Go.RowKit

def toB (l : List Int) : List UInt8 := l.map fun x => x.toNat.toUInt8

/-- Does la stand ahead of lb? -/
def ltL : List Int → List Int → Bool
  | [], [] => false
  | [], _ :: _ => true
  | _ :: _, [] => false
  | a :: la, b :: lb => if a < b then true else if b < a then false else ltL la lb

theorem byte_lt {a b : Int} (ha : 0 ≤ a ∧ a < 256) (hb : 0 ≤ b ∧ b < 256) : (a.toNat.toUInt8 < b.toNat.toUInt8) ↔ a < b := by
  rw [UInt8.lt_iff_toNat_lt]
  have e1 : a.toNat.toUInt8.toNat = a.toNat := by simp; omega
  have e2 : b.toNat.toUInt8.toNat = b.toNat := by simp; omega
  rw [e1, e2]
  omega

theorem cmp_ltL : ∀ (la lb : List Int), (∀ x ∈ la, 0 ≤ x ∧ x < 256) → (∀ x ∈ lb, 0 ≤ x ∧ x < 256) → decide (Lib.compareBytes (toB la) (toB lb) < 0) = ltL la lb
  | [], [], _, _ => rfl
  | [], _ :: _, _, _ => rfl
  | _ :: _, [], _, _ => rfl
  | a :: la, b :: lb, h1, h2 => by
    have ih := cmp_ltL la lb (fun x hx => h1 x (List.mem_cons_of_mem _ hx)) (fun x hx => h2 x (List.mem_cons_of_mem _ hx))
    have ha := h1 a (by simp)
    have hb := h2 b (by simp)
    simp only [toB, List.map_cons, Lib.compareBytes, ltL]
    by_cases hab : a < b
    · rw [if_pos ((byte_lt ha hb).2 hab), if_pos hab]; rfl
    · rw [if_neg (fun h => hab ((byte_lt ha hb).1 h)), if_neg hab]
      by_cases hba : b < a
      · rw [if_pos ((byte_lt hb ha).2 hba), if_pos hba]; rfl
      · rw [if_neg (fun h => hba ((byte_lt hb ha).1 h)), if_neg hba]
        exact ih

theorem run_loadOwn {P : Program} {w : World} : ∀ (xs : List Int) (a : Addr) (acc : ByteArray), (∀ (j : Nat) x, xs[j]? = some x → w.cell? (a.add j) = some (.int .u8 x)) →
    (Extern.Bytes.loadBytes a xs.length acc).run P w = .ok ⟨acc.data ++ (toB xs).toArray⟩ w
  | [], a, acc, _ => by simp [Extern.Bytes.loadBytes, toB]
  | x :: l, a, acc, h => by
    have h0 : w.cell? a = some (.int .u8 x) := by
      have := h 0 x rfl
      simpa [Addr.add] using this
    have ih := run_loadOwn (P := P) (w := w) l (a.add 1) (acc.push x.toNat.toUInt8) (fun j y hy => by
      have := h (j + 1) y (by simpa using hy)
      have e : (a.add 1).add j = a.add (j + 1) := by
        unfold Addr.add
        by_cases hj : j = 0
        · subst hj; simp
        · simp [hj]; omega
      rw [e]; exact this)
    simp only [List.length_cons, Extern.Bytes.loadBytes, Sem.run_bind, run_load, h0, Result.andThen]
    rw [ih]
    congr 1
    apply ByteArray.ext
    simp [ByteArray.push, toB]

theorem run_bytesOf_HB {P : Program} {w : World} {v : Value} {l : List Int} (h : HB w v l) : (Extern.Bytes.bytesOf v).run P w = .ok ⟨(toB l).toArray⟩ w := by
  obtain ⟨⟨p, c, rfl, _, _, _, h4⟩, _⟩ := h
  cases p with
  | none =>
    have e : l = [] := by
      apply Classical.byContradiction
      intro hne
      obtain ⟨b, off, e, _⟩ := h4 hne
      cases e
    subst e
    rfl
  | some a =>
    have := run_loadOwn (P := P) (w := w) l a .empty (fun j x hj => by
      have hjl : j < l.length := (List.getElem?_eq_some_iff.1 hj).1
      obtain ⟨b, off, e, hh⟩ := h4 (by intro e; subst e; simp at hjl)
      cases e
      rw [Go.WideShapes.add_plain, hh j hjl]
      simp [List.getD, hj])
    show (Extern.Bytes.loadBytes a l.length .empty).run P w = _
    rw [this]
    congr 1
    apply ByteArray.ext
    show (#[] : Array UInt8) ++ (toB l).toArray = (toB l).toArray
    simp

theorem run_compare_HB {P : Program} {w : World} {va vb : Value} {la lb : List Int} (ha : HB w va la) (hb : HB w vb lb) :
    (Extern.BytealgCompare.compare #[va, vb]).run P w = .ok (.int .i64 (Lib.compareBytes (toB la) (toB lb))) w := by
  change Sem.run P (do pure (goInt (Extern.BytealgCompare.cmp (← Extern.Bytes.bytesOf va) (← Extern.Bytes.bytesOf vb)))) w = _
  simp only [Sem.run_bind, Sem.run_pure, run_bytesOf_HB ha, run_bytesOf_HB hb, Result.andThen]
  rw [Lib.cmp_eq]
  rfl

set_option maxHeartbeats 1000000 in
set_option maxRecDepth 100000 in
theorem compare_any (w : World) (va vb : Value) (la lb : List Int) (ha : HB w va la) (hb : HB w vb lb) :
    Calls Try.prog 33 #[va, vb] w fun e w' => e = .returned (.int .i64 (Lib.compareBytes (toB la) (toB lb))) ∧ w' = w := by
  have hrun := run_compare_HB (P := Try.prog) ha hb
  obtain ⟨p1, c1, rfl, _, _⟩ := ha.open
  obtain ⟨p2, c2, rfl, _, _⟩ := hb.open
  go_enter Try.func33, Try.ntmps33
  go_wp2
  rw [run_callFunc_extern Try.func45 (by kernel_rfl) (by kernel_rfl) (by kernel_rfl) (e := Extern.BytealgCompare.compare) (by kernel_rfl), hrun]
  simp only [Result.andThen]
  rw [Oper.upon_value]
  go_wp2
  go_ret
  exact ⟨rfl, rfl⟩

set_option maxHeartbeats 1000000 in
theorem less_any (w : World) (va vb : Value) (la lb : List Int) (ha : HB w va la) (hb : HB w vb lb) :
    Calls Try.prog 11 #[va, vb] w fun e w' => e = .returned (.bool (ltL la lb)) ∧ w' = w := by
  have hd := cmp_ltL la lb ha.2 hb.2
  obtain ⟨z, HZ⟩ : ∃ z, Hid (ltL la lb = z) := ⟨_, rfl⟩
  rw [HZ.out] at hd ⊢
  have HA := hid ha
  have HBb := hid hb
  obtain ⟨p1, c1, rfl, _, _⟩ := ha.open
  obtain ⟨p2, c2, rfl, _, _⟩ := hb.open
  clear ha hb
  obtain ⟨y, HY⟩ : ∃ y, Hid (Lib.compareBytes (toB la) (toB lb) = y) := ⟨_, rfl⟩
  rw [HY.out] at hd
  have hc := compare_any w _ _ la lb HA.out HBb.out
  rw [HY.out] at hc
  have HC := hid hc
  clear hc
  go_enter Try.func11, Try.ntmps11
  go_wp2_with fail
  refine HC.out.mono ?_
  rintro e w' ⟨rfl, hw⟩
  have hw' := hw.symm
  subst hw'
  clear hw
  go_wp2
  go_ret
  exact ⟨by rfl, rfl⟩
end Go.Proofs.Ytiodfpaifkcmoab
