/- Write and Size of a hash that New or Clone made, walked; of nil, and of one that nothing made. -/
import Derived.Test.YtdipjhcjmjajfaaDoorShaTake
import Derived.Test.YtdipjhcjmjajfaaDoorShaMade
namespace Go.Proofs.YtdipjhcjmjajfaaDoor
open Go.RowKit

theorem HM.below {A C : World} {g : Nat} {m : List Int} (h : HM A g m) (hb : Below A.heap.size A C) : HM C g m := by
  obtain ⟨rest, h1, h2, h3⟩ := h
  exact ⟨rest, h1.below hb, h2, h3⟩
theorem HM.lt {w : World} {g : Nat} {m : List Int} (h : HM w g m) : g < w.heap.size := by
  obtain ⟨rest, h1, _⟩ := h
  exact h1.lt
theorem made_yes (w : World) (g : Nat) (m : List Int) (h : HM w g m) :
    Calls Tryd.prog 45 #[.pointer (some ⟨g, 0, none⟩)] w fun e w' => e = .returned (.bool true) ∧ Below w.heap.size w w' := by
  obtain ⟨rest, h1, _⟩ := h
  have := made_any w g iv rfl h1.bw
  rwa [decide_eq_true rfl] at this

set_option maxHeartbeats 1000000 in
theorem write_any (w : World) (g : Nat) (m : List Int) (v : Value) (b : List Int) (h : HM w g m) (hb : HB w v b) (hv : Off v g) (hk : KC w) (hg0 : g ≠ 0) (hlen : m.length + b.length ≤ 1152921504606846976) :
    Calls Tryd.prog 22 #[.pointer (some ⟨g, 0, none⟩), v] w fun e w' => e = .returned (.int .i64 0) ∧ HM w' g (m ++ b) ∧ w.grownBy w' (some g) := by
  have CM := hid (made_yes w g m h)
  have H := hid h
  have HB0 := hid hb
  have HK := hid hk
  have HV := hid hv
  clear h hb hk hv
  go_enter Tryd.func22, Tryd.ntmps22
  go_wp2_with fail
  refine CM.out.mono ?_
  rintro e w1 ⟨rfl, hB1⟩
  have CT := hid (take_hash w1 g m v b (H.out.below hB1) (HB0.out.below hB1) HV.out (HK.out.below hB1) hg0 hlen)
  have G1 : Hid (w.grownBy w1 (some g)) := grown_below hB1
  clear hB1 CM
  go_wp2_with fail
  refine CT.out.mono ?_
  rintro e w2 ⟨rfl, hm2, hg2⟩
  have F2 := hid (And.intro hm2 (grown_tr G1.out hg2))
  clear hm2 hg2 CT
  go_wp2
  go_ret
  exact ⟨rfl, F2.out.1, F2.out.2⟩

set_option maxHeartbeats 1000000 in
theorem write_nil (w : World) (v : Value) : Calls Tryd.prog 22 #[.pointer none, v] w fun e w' => e = .returned (.int .i64 1) ∧ Below w.heap.size w w' := by
  go_enter Tryd.func22, Tryd.ntmps22
  go_wp2_with fail
  refine (made_nil w).mono ?_
  rintro e w1 ⟨rfl, hB1⟩
  have B1 := hid hB1
  clear hB1
  go_wp2
  go_ret
  exact ⟨rfl, B1.out⟩
end Go.Proofs.YtdipjhcjmjajfaaDoor
