/- base.kinds, walked: what each byte is in a name. -/
import Derived.Test.YtmfamecadomipaaDoorBsArr
set_option linter.unusedSimpArgs false
set_option linter.unusedVariables false
namespace Go.Proofs.YtmfamecadomipaaDoor
open Go Go.RowKit

def tab256 (f : Nat → Int) : Array Value := ((List.range 256).map fun c => Value.int .i64 (f c)).toArray
theorem tab256_size (f : Nat → Int) : (tab256 f).size = 256 := by simp [tab256]
theorem tab256_one (f : Nat → Int) : (tab256 f).all (·.oneCell') = true := all_oneCell_toArray (fun v hv => by obtain ⟨x, _, rfl⟩ := List.mem_map.1 hv; rfl)
theorem tab256_get (f : Nat → Int) (i : Nat) (h : i < 256) : (tab256 f)[i]? = some (.int .i64 (f i)) := by simp [tab256, h]
theorem tab256_congr {f g : Nat → Int} (h : ∀ c, c < 256 → f c = g c) : tab256 f = tab256 g := by
  unfold tab256
  congr 1
  apply List.map_congr_left
  intro c hc
  rw [h c (List.mem_range.1 hc)]
def upd (f : Nat → Int) (i : Nat) (v : Int) : Nat → Int := fun c => if c = i then v else f c
theorem tab256_set (f : Nat → Int) (i : Nat) (v : Int) : (tab256 f).setIfInBounds i (.int .i64 v) = tab256 (upd f i v) := by
  apply Array.ext
  · simp [tab256]
  · intro j h1 h2
    rw [tab256_size] at h2
    simp only [Array.getElem_setIfInBounds, tab256, upd]
    simp
    by_cases h : i = j
    · subst h; simp
    · have : ¬ j = i := fun e => h e.symm
      simp [h, this]
theorem zero_i256 : (Tryd.prog.info? 55).map (·.zero) = some (some (.agg (tab256 fun _ => 0))) := by kernel_rfl
theorem size_i256 : (Tryd.prog.info? 55).map (·.size) = some 256 := by kernel_rfl
/-- Does a byte stand for itself? -/
def plN (c : Nat) : Prop := (97 ≤ c ∧ c ≤ 122) ∨ (65 ≤ c ∧ c ≤ 90) ∨ (48 ≤ c ∧ c ≤ 57) ∨ c = 45 ∨ c = 46 ∨ c = 95
instance (c : Nat) : Decidable (plN c) := by unfold plN; infer_instance
/-- What a byte is in a name. -/
def kd (c : Nat) : Int := if plN c then 1 else if c = 37 then 2 else 0
/-- So far gone, a and b letters and digits. -/
def plT (a b c : Nat) : Prop := (97 ≤ c ∧ c < 97 + a) ∨ (65 ≤ c ∧ c < 65 + a) ∨ (48 ≤ c ∧ c < 48 + b) ∨ c = 45 ∨ c = 46 ∨ c = 95
instance (a b c : Nat) : Decidable (plT a b c) := by unfold plT; infer_instance
def kdT (a b : Nat) (c : Nat) : Int := if plT a b c then 1 else if c = 37 then 2 else 0
theorem kdT_yes {a b c : Nat} (h : plT a b c) : kdT a b c = 1 := by unfold kdT; rw [if_pos h]
theorem kdT_congr {a b a' b' c : Nat} (h : plT a b c ↔ plT a' b' c) : kdT a b c = kdT a' b' c := by
  unfold kdT
  by_cases q : plT a b c
  · rw [if_pos q, if_pos (h.1 q)]
  · rw [if_neg q, if_neg (fun r => q (h.2 r))]
theorem kdT_all : ∀ c, c < 256 → kdT 26 10 c = kd c := by
  intro c _
  have e : plT 26 10 c ↔ plN c := by unfold plT plN; omega
  unfold kdT kd
  by_cases q : plN c
  · rw [if_pos q, if_pos (e.2 q)]
  · rw [if_neg q, if_neg (fun r => q (e.1 r))]
theorem kdT_none : tab256 (upd (upd (upd (upd (fun _ => 0) 45 1) 46 1) 95 1) 37 2) = tab256 (kdT 0 0) := by
  apply tab256_congr
  intro c _
  unfold upd
  by_cases h1 : c = 37
  · subst h1; rfl
  · by_cases h2 : c = 95
    · subst h2; rfl
    · by_cases h3 : c = 46
      · subst h3; rfl
      · by_cases h4 : c = 45
        · subst h4; rfl
        · have e : ¬ plT 0 0 c := by unfold plT; omega
          unfold kdT
          rw [if_neg h1, if_neg h2, if_neg h3, if_neg h4, if_neg e, if_neg h1]
theorem kdT_step1 (a : Nat) (h : a < 26) : tab256 (upd (upd (kdT a 0) (97 + a) 1) (65 + a) 1) = tab256 (kdT (a + 1) 0) := by
  apply tab256_congr
  intro c _
  unfold upd
  by_cases h1 : c = 65 + a
  · rw [if_pos h1, kdT_yes (by unfold plT; omega)]
  · rw [if_neg h1]
    by_cases h2 : c = 97 + a
    · rw [if_pos h2, kdT_yes (by unfold plT; omega)]
    · rw [if_neg h2]
      exact kdT_congr (by unfold plT; omega)
theorem kdT_step2 (b : Nat) (h : b < 10) : tab256 (upd (kdT 26 b) (48 + b) 1) = tab256 (kdT 26 (b + 1)) := by
  apply tab256_congr
  intro c _
  unfold upd
  by_cases h1 : c = 48 + b
  · rw [if_pos h1, kdT_yes (by unfold plT; omega)]
  · rw [if_neg h1]
    exact kdT_congr (by unfold plT; omega)
/-- A store into the table. -/
theorem tab_store {w : World} {g : Nat} {f : Nat → Int} {i : Nat} {v : Int} (h : w.heap[g]? = some (.cells (tab256 f) 55 (0, 0))) (hi : i < 256) :
    (∃ o, w.cell? ⟨g, i, none⟩ = some o) ∧ w.frozen? ⟨g, i, none⟩ = false ∧ (w.setCell ⟨g, i, none⟩ (.int .i64 v)).heap[g]? = some (.cells (tab256 (upd f i v)) 55 (0, 0)) := by
  refine ⟨⟨_, (cell_of_row w g i _ _ _ h).trans (tab256_get f i hi)⟩, by simp [World.frozen?, h], ?_⟩
  rw [← tab256_set]
  exact heap_setCell_same w g i _ _ _ h
set_option maxRecDepth 100000 in
set_option maxHeartbeats 4000000 in
theorem kinds_any (w : World) : Calls Tryd.prog 25 #[] w fun e w' => e = .returned (.agg (tab256 kd)) ∧ Below w.heap.size w w' := by
  obtain ⟨z, HZ⟩ : ∃ z, Hid (tab256 (fun _ => 0) = z) := ⟨_, rfl⟩
  have hz := zero_i256
  rw [HZ.out] at hz
  have HZ0 := hid hz
  clear hz
  have hzs : z.size = 256 := by rw [← HZ.out]; exact tab256_size _
  go_enter Tryd.func25, Tryd.ntmps25
  go_wp2_with (first | (refine wpList_alloc_agg HZ0.out rfl rfl ?_) | fail)
  go_loopw [8] (fun i wr => ∃ I : Nat, I ≤ 26 ∧ i = .int .i64 (I : Int) ∧ Hid (wr.heap[w.heap.size]? = some (.cells z 55 (0, 0))) ∧ Hid (wr.heap[w.heap.size + 1]? = some (.cells (tab256 (kdT I 0)) 55 (0, 0))) ∧ Hid (Below w.heap.size w wr)) (fun i _ => 26 - (intOf i).toNat)
  case atStart =>
    refine ⟨0, by omega, rfl, hid ?_, hid ?_, hid ?_⟩
    · exact (heap_alloc_old _ _ (by simp)).trans (heap_alloc_new w _)
    · rw [← HZ.out, tab256_set, tab256_set, tab256_set, tab256_set, kdT_none]
      have := heap_alloc_new (w.alloc (.cells (tab256 fun _ => 0) 55)) (.cells (tab256 (kdT 0 0)) 55)
      simpa using this
    · exact ((Below.refl w.heap.size w).alloc (Nat.le_refl _) _).alloc (by simp) _
  case round =>
    obtain ⟨I, hI, rfl, H0, H1, B⟩ := hrel
    by_cases hlt : I < 26
    · obtain ⟨⟨o1, hc1⟩, hf1, hs1⟩ := tab_store (v := 1) H1.out (show 97 + I < 256 by omega)
      obtain ⟨wa, hwa⟩ : ∃ wa, Hid (wr.setCell ⟨w.heap.size + 1, 97 + I, none⟩ (.int .i64 1) = wa) := ⟨_, rfl⟩
      rw [hwa.out] at hs1
      obtain ⟨⟨o2, hc2⟩, hf2, hs2⟩ := tab_store (v := 1) hs1 (show 65 + I < 256 by omega)
      rw [kdT_step1 I hlt] at hs2
      have H0a : wa.heap[w.heap.size]? = some (.cells z 55 (0, 0)) := by rw [← hwa.out]; exact (heap_setCell_other wr ⟨w.heap.size + 1, 97 + I, none⟩ _ _ (by simp)).trans H0.out
      have Ba : Below w.heap.size w wa := by rw [← hwa.out]; exact B.out.setCell (p := ⟨w.heap.size + 1, 97 + I, none⟩) (by simp) _
      have HS2 := hid hs2
      have H02 := hid ((heap_setCell_other wa ⟨w.heap.size + 1, 65 + I, none⟩ w.heap.size (.int .i64 1) (by simp)).trans H0a)
      have B2 := hid (Ba.setCell (p := ⟨w.heap.size + 1, 65 + I, none⟩) (by simp) (.int .i64 1))
      rw [← hwa.out] at hc2 hf2 HS2 H02 B2
      clear hs1 hs2 H0a Ba hwa
      go_wp2
      exact ⟨⟨I + 1, by omega, by go_num, H02, HS2, B2⟩, by simp [intOf]; omega⟩
    · have hI' : I = 26 := by omega
      subst hI'
      go_wp2
      go_loopw [18] (fun i wr => ∃ I : Nat, I ≤ 10 ∧ i = .int .i64 (I : Int) ∧ Hid (wr.heap[w.heap.size]? = some (.cells z 55 (0, 0))) ∧ Hid (wr.heap[w.heap.size + 1]? = some (.cells (tab256 (kdT 26 I)) 55 (0, 0))) ∧ Hid (Below w.heap.size w wr)) (fun i _ => 10 - (intOf i).toNat)
      case atStart => exact ⟨0, by omega, rfl, H0, H1, B⟩
      case round =>
        clear H0 H1 B
        obtain ⟨I, hI, rfl, H0, H1, B⟩ := hrel
        by_cases hlt : I < 10
        · obtain ⟨⟨o1, hc1⟩, hf1, hs1⟩ := tab_store (v := 1) H1.out (show 48 + I < 256 by omega)
          rw [kdT_step2 I hlt] at hs1
          have HS := hid hs1
          have H02 := hid ((heap_setCell_other wr ⟨w.heap.size + 1, 48 + I, none⟩ w.heap.size (.int .i64 1) (by simp)).trans H0.out)
          have B2 := hid (B.out.setCell (p := ⟨w.heap.size + 1, 48 + I, none⟩) (by simp) (.int .i64 1))
          clear hs1
          go_wp2
          exact ⟨⟨I + 1, by omega, by go_num, H02, HS, B2⟩, by simp [intOf]; omega⟩
        · have hI' : I = 10 := by omega
          subst hI'
          obtain ⟨m, Hm⟩ : ∃ m, Hid (tab256 kd = m) := ⟨_, rfl⟩
          rw [tab256_congr kdT_all, Hm.out] at H1
          have hms : m.size = 256 := by rw [← Hm.out]; exact tab256_size _
          have HIm : Hid ((Tryd.prog.info? 55).map (·.size) = some m.size) := by rw [hms]; exact size_i256
          have H1m : Hid (m.all (·.oneCell') = true) := by rw [← Hm.out]; exact tab256_one _
          have HZM : Hid (z.size = m.size) := by rw [hms]; exact hzs
          have HBF := hid (below_setRow B.out (g := w.heap.size) (Nat.le_refl _) m)
          clear hms hzs
          go_wp2_with (first | (refine wpList_load_row rfl 55 _ rfl (w.heap.size + 1) rfl 55 m (0, 0) _ H1.out Tryd.underlying55 rfl HIm.out ?_) | (refine wpList_store_row rfl 55 _ _ rfl w.heap.size m rfl rfl 55 _ H0.out HIm.out HZM.out H1m.out ?_))
          refine bodyPost_ret (v := .agg m) (results_cell_row (p := 0) (ty := 55) rfl _ _ w.heap.size 55 m (0, 0) _ rfl (setRow_heap _ _ _ _ _ _ H0.out) Tryd.underlying55 rfl HIm.out) rfl ?_
          exact ⟨by rw [Hm.out], HBF.out⟩
end Go.Proofs.YtmfamecadomipaaDoor
