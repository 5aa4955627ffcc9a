/- The document's own Reader (strongroomref01), the kit's CopyBytes and Pick, walked. -/
import Derived.Test.YtiodfpaifkcmoaaRefNum
import Derived.Test.YtiodfpaifkcmoaaReaderMore
import Derived.Test.YtiodfpaifkcmoaaArrays
import Derived.Test.YtiodfpaifkcmoaaLists
namespace Go.Proofs.Ytiodfpaifkcmoaa
open Go.RowKit

set_option maxHeartbeats 400000 in
theorem copy_any (w : World) (v : Value) (l : List Int) (h : HB w v l) (hbig : l.length ≤ 140737488355328) :
    Calls Try.prog 39 #[v] w fun e w' => ∃ v', e = .returned v' ∧ w'.ownsRow w.heap.size 5 1 v' l.length (l.map (Value.int .u8)) ∧ Below w.heap.size w w' := by
  have H := hid h
  obtain ⟨p, c, rfl, _, _⟩ := h.open
  clear h
  go_enter Try.func39, Try.ntmps39
  go_wp2_with (at_builtin; refine wpList_append_HB rfl _ _ rfl w.heap.size _ 0 [] rfl (World.ownsRow_nil _ _ _ _) _ _ rfl H.out ?q1 ?q2 ?_)
  case q1 => omega
  case q2 => exact Nat.le_refl _
  intro v' w2 hown hgr
  have HO : Hid (w2.ownsRow w.heap.size 5 1 v' l.length (l.map (Value.int .u8))) := by
    show World.ownsRow _ _ _ _ _ _ _
    simpa using hown
  have HB2 := hid ((Below.refl _ w).grown hgr (Nat.le_refl _) (fun k e => by cases e))
  clear hown hgr
  go_wp2
  go_ret
  exact ⟨_, rfl, HO.out, HB2.out⟩

set_option maxHeartbeats 400000 in
theorem pick2_any (w : World) (x : Int) : Calls Try.prog 40 #[.int .i64 x, .int .i64 2] w fun e w' => (∃ p, e = .returned (.int .i64 p)) ∧ w' = w := by
  go_enter Try.func40, Try.ntmps40
  go_wp2
  all_goals go_ret
  all_goals exact ⟨⟨_, rfl⟩, rfl⟩

/-- At block g lies a reader of the document's: at fault or not, with the bytes l. -/
def RR (w : World) (g : Nat) (bad : Bool) (l : List Int) : Prop :=
  ∃ v, w.heap[g]? = some (.cells #[v, .bool bad] 66 (0, 0)) ∧ HB5 g w v l

theorem two_cells {w : World} {g : Nat} {a b : Value} {T : TypeId} (h : w.heap[g]? = some (.cells #[a, b] T (0, 0))) :
    w.cell? ⟨g, 0, none⟩ = some a ∧ w.cell? ⟨g, 1, none⟩ = some b ∧ w.frozen? ⟨g, 0, none⟩ = false ∧ w.frozen? ⟨g, 1, none⟩ = false := by
  simp [World.cell?, World.frozen?, h]

theorem RR.block {w : World} {g : Nat} {bad : Bool} {l : List Int} (h : RR w g bad l) : BT w g 66 := by
  obtain ⟨v, hb, _⟩ := h
  exact ⟨_, _, hb⟩

/-- A reader stays as it is where another row is written. -/
theorem RR.other {w w' : World} {g : Nat} {bad : Bool} {l : List Int} {row : Option Nat} (h : RR w g bad l) (hg : w.grownBy w' row) (hr : ∀ k, row = some k → k ≠ g ∧ ∃ e, BT w k e ∧ e ≠ 5) : RR w' g bad l := by
  obtain ⟨v, hblk, hv⟩ := h
  refine ⟨v, ?_, hv.grown hg fun k e => ?_⟩
  · rw [hg.block g (Array.getElem?_eq_some_iff.1 hblk).1 ?_]
    · exact hblk
    · intro e
      exact (hr g e.symm).1 rfl
  · obtain ⟨_, e', ⟨cur, fz, hh⟩, hne⟩ := hr k e
    exact ⟨cur, e', fz, hh, Ne.symm hne⟩
theorem RR.below {w w' : World} {g : Nat} {bad : Bool} {l : List Int} (h : RR w g bad l) (hb : Below w.heap.size w w') : RR w' g bad l :=
  h.other (grown_below (r := none) hb) (fun k e => by cases e)

/-- What the document's reader hands out, and what it leaves. -/
def rtk (bad : Bool) (l : List Int) (n : Int) : List Int := if bad then [] else taken l n
def rlf (bad : Bool) (l : List Int) (n : Int) : List Int := if bad || !okTake l n then l else l.drop n.toNat

set_option maxHeartbeats 1000000 in
theorem rbytes_ok (w : World) (g : Nat) (l : List Int) (n : Nat) (h : RR w g false l) (hn : n ≤ l.length) (hbig : l.length ≤ 140737488355328) :
    Calls Try.prog 45 #[.pointer (some ⟨g, 0, none⟩), .int .i64 n] w fun e w' => ∃ v', e = .returned v' ∧ w'.ownsRow w.heap.size 5 1 v' n ((l.take n).map (Value.int .u8)) ∧ RR w' g false (l.drop n) ∧ w.grownBy w' (some g) := by
  obtain ⟨v, hblk, hv0⟩ := h
  obtain ⟨hv, ht5⟩ := id hv0
  obtain ⟨p, c, rfl, hlc, hm⟩ := hv.open
  obtain ⟨c0, c1, f0, f1⟩ := two_cells hblk
  unfold maxLen at hm
  have g1' : decide ((n : Int) < 0) = false := by simp
  have g2 : decide ((l.length : Int) < (n : Int)) = false := by simp; omega
  have g3 : (n : Int) ≤ l.length := by omega
  have g4 : (n : Int) ≤ c := by omega
  have sz := size_u8
  have HBk := hid hblk
  have HV := hid hv0
  have PRE : Hid (HB w (.slice p n c) (l.take n)) := by
    have h3 := hv.sliced 0 n c (Nat.zero_le _) hn (by omega) (Nat.le_refl _)
    have e : (if c = 0 then p else p.map (·.add 0)) = p := by
      split
      · rfl
      · cases p <;> simp [Addr.add]
    rw [e] at h3
    show HB _ _ _
    simpa using h3
  have hln : (l.take n).length = n := by simp; omega
  have HLN := hid hln
  clear hblk hv0 hv ht5 hln
  go_enter Try.func45, Try.ntmps45
  go_wp2_with (at_builtin; refine wpList_append_HB rfl _ _ rfl w.heap.size _ 0 [] rfl (World.ownsRow_nil _ _ _ _) _ _ rfl PRE.out ?q1 ?q2 ?_)
  case q1 => rw [HLN.out]; omega
  case q2 => exact Nat.le_refl _
  intro v' w2 hown hgr
  have HO : Hid (w2.ownsRow w.heap.size 5 1 v' n ((l.take n).map (Value.int .u8))) := by
    show World.ownsRow _ _ _ _ _ _ _
    rw [List.map_take]
    exact hown
  have hgr0 : w.grownBy w2 none := hgr
  have HB2 := hid ((Below.refl _ w).grown hgr (Nat.le_refl _) (fun k e => by cases e))
  have hblk2 : w2.heap[g]? = some (.cells #[.slice p l.length c, .bool false] 66 (0, 0)) := by
    rw [HB2.out.block g (Array.getElem?_eq_some_iff.1 HBk.out).1]
    exact HBk.out
  have hv2 : HB5 g w2 (.slice p l.length c) l := HV.out.grown hgr0 (fun k e => by cases e)
  obtain ⟨c0', c1', f0', f1'⟩ := two_cells hblk2
  have suf : HB5 g w2 _ (l.drop n) := ⟨hv2.1.suf n hn, fun hne a m c' e => by
    have hl0 : l ≠ [] := by intro e; subst e; simp at hne
    simp only [Value.slice.injEq] at e
    obtain ⟨e, _, _⟩ := e
    split at e
    · subst e
      exact hv2.2 hl0 _ _ _ rfl
    · obtain ⟨a0, rfl, rfl⟩ := Option.map_eq_some_iff.1 e
      have : (a0.add n).block = a0.block := by unfold Addr.add; split <;> rfl
      rw [this]
      exact hv2.2 hl0 _ _ _ rfl⟩
  have fin : ∀ u, HB5 g w2 u (l.drop n) → ∃ v'', Ending.returned v' = .returned v'' ∧ (w2.setCell ⟨g, 0, none⟩ u).ownsRow w.heap.size 5 1 v'' n ((l.take n).map (Value.int .u8)) ∧ RR (w2.setCell ⟨g, 0, none⟩ u) g false (l.drop n) ∧ w.grownBy (w2.setCell ⟨g, 0, none⟩ u) (some g) := fun u hu => by
    have hgs := grown_set w2 g 0 u
    refine ⟨_, rfl, HO.out.kept hgs (.inr (own_block_ne HO.out hblk2 (by decide))), ⟨u, by rw [heap_setCell_same w2 g 0 _ _ u hblk2]; rfl, hu.grown hgs (fun k e => by cases e; exact ⟨_, _, _, hblk2, by decide⟩)⟩, grown_trans (grown_below HB2.out) hgs⟩
  have FIN := hid fin
  have SUF := hid suf
  clear hown hgr hgr0 hblk2 hv2 fin suf c0 c1 f0 f1
  by_cases hcn : c = n
  · have hl2 : l.length - n = 0 := by omega
    have hc2 : c - n = 0 := by omega
    rw [if_pos hcn, hl2, hc2] at SUF
    subst hcn
    go_wp2
    go_ret
    exact FIN.out _ SUF.out
  · rw [if_neg hcn] at SUF
    go_wp2
    go_ret
    exact FIN.out _ SUF.out

set_option maxHeartbeats 1000000 in
theorem rbytes_bad (w : World) (g : Nat) (bad : Bool) (l : List Int) (n : Int) (h : RR w g bad l) (hn : bad = true ∨ n < 0 ∨ (l.length : Int) < n) :
    Calls Try.prog 45 #[.pointer (some ⟨g, 0, none⟩), .int .i64 n] w fun e w' => e = .returned (.slice none 0 0) ∧ RR w' g true l ∧ w.grownBy w' (some g) := by
  obtain ⟨v, hblk, hv⟩ := h
  have fin : RR (w.setCell ⟨g, 1, none⟩ (.bool true)) g true l ∧ w.grownBy (w.setCell ⟨g, 1, none⟩ (.bool true)) (some g) := by
    have hgs := grown_set w g 1 (.bool true)
    exact ⟨⟨v, by rw [heap_setCell_same w g 1 _ _ _ hblk]; rfl, hv.grown hgs (fun k e => by cases e; exact ⟨_, _, _, hblk, by decide⟩)⟩, hgs⟩
  obtain ⟨p, c, rfl, hlc, hm⟩ := hv.1.open
  obtain ⟨c0, c1, f0, f1⟩ := two_cells hblk
  have FIN := hid fin
  clear hblk hv fin
  cases bad with
  | true =>
    clear hn
    go_enter Try.func45, Try.ntmps45
    go_wp2
    go_ret
    exact ⟨rfl, FIN.out.1, FIN.out.2⟩
  | false =>
    by_cases h0 : n < 0
    · have g1' : decide (n < 0) = true := by simpa using h0
      clear hn
      go_enter Try.func45, Try.ntmps45
      go_wp2
      go_ret
      exact ⟨rfl, FIN.out.1, FIN.out.2⟩
    · have g1' : decide (n < 0) = false := by simpa using h0
      have g2 : (l.length : Int) < n := by
        rcases hn with h | h | h
        · cases h
        · omega
        · exact h
      have g2' : decide ((l.length : Int) < n) = true := by simpa using g2
      clear hn
      go_enter Try.func45, Try.ntmps45
      go_wp2
      go_ret
      exact ⟨rfl, FIN.out.1, FIN.out.2⟩

theorem rtk_le (bad : Bool) (l : List Int) (n : Int) : (rtk bad l n).length ≤ l.length := by
  unfold rtk
  split
  · simp
  · exact taken_le l n

theorem rbytes_any (w : World) (g : Nat) (bad : Bool) (l : List Int) (n : Int) (h : RR w g bad l) (hbig : l.length ≤ 140737488355328) :
    Calls Try.prog 45 #[.pointer (some ⟨g, 0, none⟩), .int .i64 n] w fun e w' => ∃ v', e = .returned v' ∧ w'.ownsRow w.heap.size 5 1 v' (rtk bad l n).length ((rtk bad l n).map (Value.int .u8)) ∧ HB w' v' (rtk bad l n) ∧ RR w' g (bad || !okTake l n) (rlf bad l n) ∧ w.grownBy w' (some g) := by
  obtain ⟨_, _, hv0⟩ := id h
  have hby := hv0.1.2
  by_cases hb : bad = true
  · refine (rbytes_bad w g bad l n h (.inl hb)).mono ?_
    rintro e w' ⟨rfl, b, c⟩
    subst hb
    simp only [rtk, rlf, if_true, Bool.true_or]
    exact ⟨_, rfl, World.ownsRow_nil _ _ _ _, HB.nil _, b, c⟩
  · have hb' : bad = false := by simpa using hb
    subst hb'
    by_cases hk : okTake l n = true
    · obtain ⟨h0, h1⟩ := okTake_iff.1 hk
      obtain ⟨k, rfl⟩ := Int.eq_ofNat_of_zero_le h0
      refine (rbytes_ok w g l k h (by omega) hbig).mono ?_
      rintro e w' ⟨v', rfl, a, b, c⟩
      have et : rtk false l (k : Int) = l.take k := by simp [rtk, taken, hk]
      have el : rlf false l (k : Int) = l.drop k := by simp [rlf, hk]
      have hlen : (l.take k).length = k := by simp; omega
      rw [et, el, hlen, hk]
      exact ⟨v', rfl, a, HB.of_own (by rw [hlen]; exact a) (fun x hx => hby x (List.mem_of_mem_take hx)), b, c⟩
    · have hk' : okTake l n = false := by simpa using hk
      refine (rbytes_bad w g false l n h (.inr ?_)).mono ?_
      · have : ¬ (0 ≤ n ∧ n ≤ l.length) := fun e => hk (okTake_iff.2 e)
        omega
      rintro e w' ⟨rfl, b, c⟩
      have et : rtk false l n = [] := by simp [rtk, taken, hk']
      have el : rlf false l n = l := by simp [rlf, hk']
      rw [et, el, hk']
      exact ⟨_, rfl, World.ownsRow_nil _ _ _ _, HB.nil _, b, c⟩

set_option maxHeartbeats 400000 in
theorem rleft_any (w : World) (g : Nat) (bad : Bool) (l : List Int) (h : RR w g bad l) :
    Calls Try.prog 43 #[.pointer (some ⟨g, 0, none⟩)] w fun e w' => e = .returned (.int .i64 (if bad then 0 else (l.length : Int))) ∧ w' = w := by
  obtain ⟨v, hblk, hv⟩ := h
  obtain ⟨p, c, rfl, hlc, hm⟩ := hv.1.open
  obtain ⟨c0, c1, f0, f1⟩ := two_cells hblk
  clear hblk hv
  cases bad with
  | true =>
    go_enter Try.func43, Try.ntmps43
    go_wp2
    go_ret
    exact ⟨rfl, rfl⟩
  | false =>
    go_enter Try.func43, Try.ntmps43
    go_wp2
    go_ret
    exact ⟨rfl, rfl⟩

set_option maxHeartbeats 1000000 in
theorem rend_any (w : World) (g : Nat) (bad : Bool) (l : List Int) (h : RR w g bad l) :
    Calls Try.prog 47 #[.pointer (some ⟨g, 0, none⟩)] w fun e w' => e = .returned (.int .i64 (endNo true bad l)) ∧ w' = w := by
  obtain ⟨v, hblk, hv⟩ := h
  obtain ⟨p, c, rfl, hlc, hm⟩ := hv.1.open
  obtain ⟨c0, c1, f0, f1⟩ := two_cells hblk
  clear hblk hv
  cases bad with
  | true =>
    go_enter Try.func47, Try.ntmps47
    go_wp2
    go_ret
    exact ⟨rfl, rfl⟩
  | false =>
    by_cases hl : l.length = 0
    · have hd : decide (0 < (l.length : Int)) = false := decide_eq_false (by omega)
      have HL : Hid (endNo true false l = 0) := by show _ = _; simp [endNo, hl]
      have hd2 : ¬ (0 < l.length) := by omega
      clear hl
      go_enter Try.func47, Try.ntmps47
      go_wp2
      all_goals go_ret
      all_goals exact ⟨by rw [HL.out]; rfl, rfl⟩
    · have hd : decide (0 < (l.length : Int)) = true := by simp; omega
      have hd2 : 0 < l.length := by omega
      have HL : Hid (endNo true false l = 11) := by show _ = _; unfold endNo; rw [if_neg (by simp), if_neg (by simp), if_neg hl]
      clear hl
      go_enter Try.func47, Try.ntmps47
      go_wp2
      all_goals go_ret
      all_goals exact ⟨by rw [HL.out]; rfl, rfl⟩

theorem smallErr_zero (n : Nat) (l : List Int) (h : smallErr n l ≠ 0) : smallNo n l = 0 := by
  unfold smallErr at h
  unfold smallNo
  rw [if_neg]
  intro e
  apply h
  rw [if_neg (by omega), if_neg (by omega)]

set_option maxHeartbeats 1000000 in
theorem rnumber_any (w : World) (g : Nat) (bad : Bool) (l : List Int) (n : Nat) (h : RR w g bad l) (hbig : l.length ≤ 140737488355328) (hn1 : 1 ≤ n) (hn8 : n ≤ 8) :
    Calls Try.prog 65 #[.pointer (some ⟨g, 0, none⟩), .int .i64 (n : Int)] w fun e w' => e = .returned (.int .u64 (smallNo n (rtk bad l n))) ∧ RR w' g (bad || !okTake l n) (rlf bad l n) ∧ w.grownBy w' (some g) := by
  obtain ⟨sn, HSN⟩ : ∃ sn, Hid (smallNo n (rtk bad l n) = sn) := ⟨_, rfl⟩
  obtain ⟨se, HSE⟩ : ∃ se, Hid (smallErr n (rtk bad l n) = se) := ⟨_, rfl⟩
  have HZ : Hid (se ≠ 0 → sn = 0) := fun hz => by rw [← HSN.out]; exact smallErr_zero _ _ (by rw [HSE.out]; exact hz)
  rw [HSN.out]
  go_enter Try.func65, Try.ntmps65
  go_wp2_with fail
  refine (rbytes_any w g bad l n h hbig).mono ?_
  rintro e w1 ⟨v1, rfl, _, hb1, hr1, hg1⟩
  have HB1 := hid hb1
  have HR1 := hid hr1
  have HG1 := hid hg1
  obtain ⟨p, c, e, _, _⟩ := hb1.open
  clear hb1 hr1 hg1
  subst e
  have hs := rsmall_any w1 _ _ n HB1.out hn1 hn8
  rw [HSN.out, HSE.out] at hs
  have HS := hid hs
  clear hs
  go_wp2_with fail
  refine HS.out.mono ?_
  rintro e w' ⟨rfl, hw⟩
  have hw' := hw.symm
  subst hw'
  clear hw
  by_cases hz : se = 0
  · subst hz
    go_wp2
    go_ret
    exact ⟨rfl, HR1.out, HG1.out⟩
  · have hzz : (se != 0) = true := by rw [bne_iff_ne]; exact hz
    have e0 := HZ.out hz
    subst e0
    clear hz
    go_wp2
    go_ret
    exact ⟨rfl, HR1.out, HG1.out⟩
end Go.Proofs.Ytiodfpaifkcmoaa
