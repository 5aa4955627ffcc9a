/- Check of ueb, walked. -/
import Derived.Test.YtfaojnnpekpomaaDoorUbCheck
import Derived.Test.YtfaojnnpekpomaaDoorUbPack
set_option linter.unusedSimpArgs false
set_option linter.unusedVariables false
namespace Go.Proofs.YtfaojnnpekpomaaDoor
open Go Go.RowKit

/-- A Ueb: K, N, Seg, Size, Shares, Segs. -/
structure Ub where
  k : Int
  n : Int
  g : Int
  z : Int
  a : List Int
  b : List Int
def Ub.ok (u : Ub) : Prop := (u.a.length = 32 ∧ Byt8 u.a) ∧ u.b.length = 32 ∧ Byt8 u.b
def ubL (u : Ub) : List Value := .int .i64 u.k :: .int .i64 u.n :: .int .i64 u.g :: .int .i64 u.z :: (u.a.map (Value.int .u8) ++ u.b.map (Value.int .u8))
def ubA (u : Ub) : Array Value := (ubL u).toArray
theorem ubL_length {u : Ub} (h : u.ok) : (ubL u).length = 68 := by simp [ubL, h.1.1, h.2.1]
theorem ubA_size {u : Ub} (h : u.ok) : (ubA u).size = 68 := by rw [ubA, List.size_toArray]; exact ubL_length h
theorem ubA_one (u : Ub) : (ubA u).all (·.oneCell') = true := by
  rw [Array.all_eq_true_iff_forall_mem]
  intro v hv
  have hv' : v ∈ ubL u := by simpa [ubA] using hv
  unfold ubL at hv'
  simp only [List.mem_cons, List.mem_append, List.mem_map] at hv'
  rcases hv' with rfl | rfl | rfl | rfl | ⟨x, _, rfl⟩ | ⟨x, _, rfl⟩ <;> rfl
theorem size_ueb : (Tryd.prog.info? 39).map (·.size) = some 68 := by kernel_rfl
theorem size_ub {u : Ub} (h : u.ok) : (Tryd.prog.info? 39).map (·.size) = some (ubA u).size := by rw [ubA_size h]; exact size_ueb
def zeros32' : List Int := List.replicate 32 0
def ub0 : Ub := ⟨0, 0, 0, 0, zeros32', zeros32'⟩
theorem ub0_ok : ub0.ok := ⟨⟨rfl, fun x hx => by have := (List.mem_replicate.1 hx).2; omega⟩, rfl, fun x hx => by have := (List.mem_replicate.1 hx).2; omega⟩
theorem zero_ueb : (Tryd.prog.info? 39).map (·.zero) = some (some (.agg (ubA ub0))) := by kernel_rfl
/-- What Check answers. -/
def chE (u : Ub) : Int := if OkS u.k u.n u.g u.z then 0 else 133

set_option maxRecDepth 100000 in
set_option maxHeartbeats 4000000 in
theorem ucheck_any (w : World) (u : Ub) (hu : u.ok) : Calls Tryd.prog 25 #[.agg (ubA u)] w fun e w' => e = .returned (.int .i64 (chE u)) ∧ Below w.heap.size w w' := by
  have C := hid fun w => again_hand w u.k u.n u.g u.z
  have HS := hid (size_ub hu)
  have H1 := hid (ubA_one u)
  have q0 : (ubA u)[0]? = some (.int .i64 u.k) := rfl
  have q1 : (ubA u)[1]? = some (.int .i64 u.n) := rfl
  have q2 : (ubA u)[2]? = some (.int .i64 u.g) := rfl
  have q3 : (ubA u)[3]? = some (.int .i64 u.z) := rfl
  obtain ⟨m, HM⟩ : ∃ x, Hid (ubA u = x) := ⟨_, rfl⟩
  obtain ⟨k, Hk⟩ : ∃ x, Hid (u.k = x) := ⟨_, rfl⟩
  obtain ⟨n, Hn⟩ : ∃ x, Hid (u.n = x) := ⟨_, rfl⟩
  obtain ⟨g, Hg⟩ : ∃ x, Hid (u.g = x) := ⟨_, rfl⟩
  obtain ⟨z, Hz⟩ : ∃ x, Hid (u.z = x) := ⟨_, rfl⟩
  rw [Hk.out, Hn.out, Hg.out, Hz.out] at C
  rw [Hk.out] at q0
  rw [Hn.out] at q1
  rw [Hg.out] at q2
  rw [Hz.out] at q3
  rw [HM.out] at HS H1 q0 q1 q2 q3 ⊢
  have E : Hid (chE u = if OkS k n g z then 0 else 133) := by unfold chE; rw [Hk.out, Hn.out, Hg.out, Hz.out]; exact rfl
  rw [E.out]
  by_cases hok : OkS k n g z
  · have e1 : agE k n g z = 0 := by unfold agE; rw [if_pos hok]
    rw [if_pos hok]
    have C : Hid (∀ w, Calls Tryd.prog 28 #[.int .i64 k, .int .i64 n, .int .i64 g, .int .i64 z] w fun e w' => ∃ cs, e = .returned (.tuple #[.agg cs, .int .i64 0]) ∧ cs.size = 8 ∧ cs.all (·.oneCell') = true ∧ Below w.heap.size w w') := by
      rw [← e1]
      exact C.out
    clear e1 hok
    go_enter Tryd.func25, Tryd.ntmps25
    go_wp2_with fail
    refine (C.out _).mono ?_
    rintro e w1 ⟨cs, rfl, hcs, hone, hb1⟩
    have B1 := hid ((((Below.refl _ w).alloc (Nat.le_refl _) _)).trans (hb1.mono (by simp)))
    have hsz := B1.out.size
    have HC1 : Hid ((Tryd.prog.info? 24).map (·.size) = some cs.size) := by refine hid ?_; rw [hcs]; exact size_shape
    have HC2 : Hid ((shA sh0).size = cs.size) := by refine hid ?_; rw [hcs]; exact rfl
    have HC3 := hid hone
    clear hb1 hcs hone
    go_wp2_with (refine wpList_store_row rfl 24 _ _ rfl w1.heap.size cs rfl rfl 24 (shA sh0) (heap_alloc_new w1 _) HC1.out HC2.out HC3.out ?_)
    go_ret
    exact ⟨rfl, bel_setRow (B1.out.alloc hsz _) (by omega) _⟩
  · have e1 : agE k n g z = 92 := by unfold agE; rw [if_neg hok]
    rw [if_neg hok]
    have C : Hid (∀ w, Calls Tryd.prog 28 #[.int .i64 k, .int .i64 n, .int .i64 g, .int .i64 z] w fun e w' => ∃ cs, e = .returned (.tuple #[.agg cs, .int .i64 92]) ∧ cs.size = 8 ∧ cs.all (·.oneCell') = true ∧ Below w.heap.size w w') := by
      rw [← e1]
      exact C.out
    clear e1 hok
    go_enter Tryd.func25, Tryd.ntmps25
    go_wp2_with fail
    refine (C.out _).mono ?_
    rintro e w1 ⟨cs, rfl, hcs, hone, hb1⟩
    have B1 := hid ((((Below.refl _ w).alloc (Nat.le_refl _) _)).trans (hb1.mono (by simp)))
    have hsz := B1.out.size
    have HC1 : Hid ((Tryd.prog.info? 24).map (·.size) = some cs.size) := by refine hid ?_; rw [hcs]; exact size_shape
    have HC2 : Hid ((shA sh0).size = cs.size) := by refine hid ?_; rw [hcs]; exact rfl
    have HC3 := hid hone
    clear hb1 hcs hone
    go_wp2_with (refine wpList_store_row rfl 24 _ _ rfl w1.heap.size cs rfl rfl 24 (shA sh0) (heap_alloc_new w1 _) HC1.out HC2.out HC3.out ?_)
    go_ret
    exact ⟨rfl, bel_setRow (B1.out.alloc hsz _) (by omega) _⟩
theorem sB_nS (n : Nat) : sB (nS (n : Int)) = dgL n := by unfold nS sB dgL; rw [if_neg (by omega)]; simp
theorem ch_ok {u : Ub} (h : chE u = 0) : OkS u.k u.n u.g u.z := by
  unfold chE at h
  by_cases q : OkS u.k u.n u.g u.z
  · exact q
  · rw [if_neg q] at h; omega
theorem ch_or (u : Ub) : chE u = 0 ∨ chE u = 133 := by unfold chE; by_cases q : OkS u.k u.n u.g u.z <;> simp [q]
set_option maxRecDepth 100000 in
set_option maxHeartbeats 4000000 in
theorem udigits_any (w : World) (x : Int) (h0 : 0 ≤ x) (h1 : x ≤ 2147483647) (hk : KP w) : Calls Tryd.prog 27 #[.int .i64 x] w fun e w' => ∃ v, e = .returned v ∧ HB w' v (dgL x.toNat) ∧ Below w.heap.size w w' := by
  have C := number_tab w x (by omega) (by omega) hk
  have e2 : nE x = 0 := by unfold nE; rw [if_neg (by omega)]
  have e3 : nS x = nS ((x.toNat : Nat) : Int) := by rw [Int.toNat_of_nonneg h0]
  have hsz := nS_size x.toNat
  have hsB : sB (nS ((x.toNat : Nat) : Int)) = dgL x.toNat := sB_nS _
  have hd : (dgL x.toNat).length ≤ 10 := by
    rw [dgL_length]
    have := dec_len_mono 2147483647 x.toNat (by omega)
    have h2 : (Lib.decDigits 2147483647).length = 10 := by decide +kernel
    omega
  rw [e2, e3] at C
  obtain ⟨D, HD⟩ : ∃ D, Hid (nS ((x.toNat : Nat) : Int) = D) := ⟨_, rfl⟩
  rw [HD.out] at C hsB hsz
  have hs47 : D.size ≤ 140737488355328 := by omega
  have C := hid C
  have HSB := hid hsB
  clear hsB hsz hd e2 e3
  go_enter Tryd.func27, Tryd.ntmps27
  go_wp2_with fail
  refine C.out.mono ?_
  rintro e w1 ⟨rfl, hb1⟩
  have B1 := hid hb1
  clear hb1 C
  go_wp2_with (refine wpList_bytes_strD rfl _ rfl D rfl hs47 ?_)
  intro c2 w2 hf2 hb2 hz2
  rw [HSB.out] at hf2
  have HF := hid hf2
  have B2 := hid (B1.out.trans (hb2.mono B1.out.size))
  clear hf2 hb2 hz2
  go_wp2
  go_ret
  exact ⟨_, rfl, HF.out, B2.out⟩
end Go.Proofs.YtfaojnnpekpomaaDoor
