/- base.Letters, walked. -/
import Derived.Test.YtmfamecadomipaaDoorBsLen
import Derived.Test.YtmfamecadomipaaDoorBsArr
import Derived.Test.YtmfamecadomipaaDoorBsIdx
set_option linter.unusedSimpArgs false
set_option linter.unusedVariables false
namespace Go.Proofs.YtmfamecadomipaaDoor
open Go Go.RowKit

def alphN : List Nat := [97, 98, 99, 100, 101, 102, 103, 104, 105, 106, 107, 108, 109, 110, 111, 112, 113, 114, 115, 116, 117, 118, 119, 120, 121, 122, 50, 51, 52, 53, 54, 55]
theorem alphN_alph (v : Nat) (h : v < 32) : ((alphN.getD v 0 : Nat) : Int) = alph.getD v 0 := by
  have : ∀ v : Fin 32, ((alphN.getD v.val 0 : Nat) : Int) = alph.getD v.val 0 := by decide
  exact this ⟨v, h⟩
set_option maxRecDepth 100000 in
set_option maxHeartbeats 4000000 in
theorem alphabet_any (w : World) : Calls Tryd.prog 22 #[] w fun e w' => e = .returned (.agg (cells8 alphN)) ∧ Below w.heap.size w w' := by
  obtain ⟨z, HZ⟩ : ∃ z, Hid (cells8 (zeros8 32) = z) := ⟨_, rfl⟩
  have hz := zero_b32
  rw [HZ.out] at hz
  have HZ0 := hid hz
  clear hz
  obtain ⟨m, Hm⟩ : ∃ m, Hid (cells8 alphN = m) := ⟨_, rfl⟩
  have HmL : Hid (Value.agg #[.int .u8 97, .int .u8 98, .int .u8 99, .int .u8 100, .int .u8 101, .int .u8 102, .int .u8 103, .int .u8 104, .int .u8 105, .int .u8 106, .int .u8 107, .int .u8 108, .int .u8 109, .int .u8 110, .int .u8 111, .int .u8 112, .int .u8 113, .int .u8 114, .int .u8 115, .int .u8 116, .int .u8 117, .int .u8 118, .int .u8 119, .int .u8 120, .int .u8 121, .int .u8 122, .int .u8 50, .int .u8 51, .int .u8 52, .int .u8 53, .int .u8 54, .int .u8 55] = Value.agg m) := by rw [← Hm.out]; exact rfl
  have hms : m.size = 32 := by rw [← Hm.out, cells8_size]; rfl
  have HIm : Hid ((Tryd.prog.info? 49).map (·.size) = some m.size) := by rw [hms]; exact size_b32
  have H1m : Hid (m.all (·.oneCell') = true) := by rw [← Hm.out]; exact cells8_one _
  have HZM : Hid (z.size = m.size) := by rw [hms, ← HZ.out, cells8_size, zeros8_length]; exact rfl
  have H0q : Hid ((w.alloc (.cells z 49)).heap[w.heap.size]? = some (.cells z 49 (0, 0))) := heap_alloc_new w _
  have HBF := hid (below_setRow ((Below.refl w.heap.size w).alloc (Nat.le_refl _) (.cells z 49)) (g := w.heap.size) (Nat.le_refl _) m)
  rw [Hm.out]
  go_enter Tryd.func22, Tryd.ntmps22
  go_wp2_with (first | (refine wpList_alloc_agg HZ0.out rfl rfl ?_) | (refine wpList_store_row rfl 49 _ _ rfl w.heap.size m rfl (by exact HmL.out) 49 _ H0q.out HIm.out HZM.out H1m.out ?_))
  refine bodyPost_ret (v := .agg m) (results_cell_row (p := 0) (ty := 49) rfl _ _ w.heap.size 49 m (0, 0) _ rfl (setRow_heap _ _ _ _ _ _ H0q.out) Tryd.underlying49 rfl HIm.out) rfl ?_
  exact ⟨rfl, HBF.out⟩
end Go.Proofs.YtmfamecadomipaaDoor
