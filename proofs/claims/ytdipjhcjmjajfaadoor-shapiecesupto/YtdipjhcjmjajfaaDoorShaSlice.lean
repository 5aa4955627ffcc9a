/- The rest of a hash as a slice; a copy into it. -/
import Derived.Test.YtdipjhcjmjajfaaDoorShaMsg
import Derived.Test.YtdipjhcjmjajfaaDoorSlices
import Derived.Lib.SlBuf
namespace Go.Proofs.YtdipjhcjmjajfaaDoor
open Go.RowKit

theorem size_u8' : (Tryd.prog.info? 5).map (·.size) = some 1 := by kernel_rfl
theorem alen64 : Tryd.prog.arrayLen 28 = 64 := by kernel_rfl
theorem aelem64 : Tryd.prog.elem 28 = 5 := by kernel_rfl
theorem run_slice_rest (g i : Nat) (hi : i < 64) (w : World) : (Instr.sliceAt 28 (.pointer (some ⟨g, 16, none⟩)) (some (.int .i64 (i : Int))) none none).run Tryd.prog w = .ok (.slice (some ⟨g, 16 + i, none⟩) (64 - i) (64 - i)) w := by
  have h := run_sliceAt_array_l (P := Tryd.prog) w 28 ⟨g, 16, none⟩ (by rw [alen64, aelem64]; exact Tryd.underlying28) .i64 (i : Int) (by omega) (by rw [alen64]; omega)
  rw [h, alen64, aelem64, size_u8, Result.andThen_ok, Int.toNat_natCast]
  unfold slicedAt
  rw [if_neg (by omega), Nat.mul_one, Addr.add_mid]
theorem run_slice_all (g : Nat) (w : World) : (Instr.sliceAt 28 (.pointer (some ⟨g, 16, none⟩)) none none none).run Tryd.prog w = .ok (.slice (some ⟨g, 16, none⟩) 64 64) w := by
  have h := run_sliceAt_array_all (P := Tryd.prog) w 28 ⟨g, 16, none⟩ (by rw [alen64, aelem64]; exact Tryd.underlying28)
  rw [h, alen64, aelem64, size_u8, Result.andThen_ok]
  rfl

/-- A copy of bytes into the rest: as many as there is room for. -/
theorem run_copy_rest (w : World) (g i : Nat) (ww : List Nat) (rest : List Int) (n : Nat) (hs : HSt w g ww rest n) (hi : i ≤ 64) (ty : TypeId) (u : Value) (b : List Int) (hb : HB w u b) (k : Nat) (hk : k = min (64 - i) b.length) :
    (Builtin.copy_ #[32, 32] ty #[.slice (some ⟨g, 16 + i, none⟩) (64 - i) (64 - i), u]).run Tryd.prog w = .ok (.int .i64 (k : Int)) (w.setCells g (16 + i) (bcells (b.take k))) := by
  obtain ⟨⟨p, c, rfl, hlc, hm, hpc, hcell⟩, hby⟩ := hb
  by_cases hk0 : k = 0
  · have hr := run_copy_none (P := Tryd.prog) w 32 32 ty 5 (some ⟨g, 16 + i, none⟩) p (64 - i) (64 - i) b.length c Tryd.underlying32 size_u8' (by show min b.length (64 - i) = 0; omega)
    rw [hr, hk0]
    rfl
  · obtain ⟨bb, off, rfl, hh⟩ := hcell (by intro e; subst e; simp at hk; omega)
    have hl : (bcells (b.take k)).length = k := by rw [bcells_length, List.length_take]; omega
    have hr := run_copy_cells (P := Tryd.prog) w 32 32 ty 5 g (16 + i) (64 - i) (64 - i) ⟨bb, off, none⟩ b.length c (bcells (b.take k)) Tryd.underlying32 size_u8' (by rw [hl, hk]; exact Nat.min_comm _ _) (fun j v hv => ?_) (fun j hj => (there_sub hs.th (16 + i) k (by omega) j (by omega)).1) (fun j hj => (there_sub hs.th (16 + i) k (by omega) j (by omega)).2) (fun v hv => by obtain ⟨x, _, rfl⟩ := List.mem_map.1 hv; rfl)
    · rw [hr, hl]
      rfl
    · have hj : j < k := by have := (List.getElem?_eq_some_iff.1 hv).1; omega
      rw [Addr.add_mid, hh j (by omega)]
      simp only [bcells, List.getElem?_map, List.getElem?_take, if_pos hj, List.getElem?_eq_getElem (show j < b.length by omega), Option.map_some] at hv
      rw [getD_of_lt (by omega)]
      exact hv
theorem grown_setCells (g : Nat) : ∀ (vs : List Value) (o : Nat) (w : World), w.grownBy (w.setCells g o vs) (some g)
  | [], _, _ => ⟨rfl, rfl, rfl, Nat.le_refl _, fun _ _ _ => rfl⟩
  | v :: vs, o, w => grown_tr (grown_sets w g o v) (grown_setCells g vs (o + 1) _)
theorem belem : Tryd.prog.elem 32 = 5 := by kernel_rfl
theorem run_slice_suf (p : Option Addr) (l c k : Nat) (hk : k ≤ l) (w : World) : (Instr.slice 32 (.slice p l c) (some (.int .i64 (k : Int))) none none).run Tryd.prog w = .ok (.slice (if c = k then p else p.map (·.add k)) (l - k) (c - k)) w := by
  have h := run_slice_l (P := Tryd.prog) w 32 p l c (by rw [belem]; exact Tryd.underlying32) .i64 (k : Int) (by omega) (by omega)
  rw [h, belem, size_u8, Result.andThen_ok, Int.toNat_natCast]
  unfold sliced
  rw [Nat.mul_one]
theorem suf_own (p : Option Addr) (c k l n g : Nat) (h : Value.ownBlock (.slice p l n) ≠ some g) : Value.ownBlock (.slice (if c = k then p else p.map (·.add k)) (l - k) (c - k)) ≠ some g := by
  split
  · cases p with
    | none => simp [Value.ownBlock]
    | some a => simpa [Value.ownBlock] using h
  · cases p with
    | none => simp [Value.ownBlock]
    | some a =>
      have : (a.add k).block = a.block := by unfold Addr.add; split <;> rfl
      simp only [Option.map_some, Value.ownBlock, this]
      simpa [Value.ownBlock] using h

/-- The rest is not filled: the hash has taken the bytes. -/
theorem HM.fill {w : World} {g : Nat} {m b rest : List Int} (hs : HSt w g (wAt m (m.length / 64)) (putAt rest (m.length % 64) b) (m.length + b.length)) (hrt : rest.take (m.length % 64) = m.drop (64 * (m.length / 64))) (hrl : rest.length = 64)
    (hm : ∀ x ∈ m, 0 ≤ x ∧ x < 256) (hb : ∀ x ∈ b, 0 ≤ x ∧ x < 256) (hlt : m.length % 64 + b.length < 64) : HM w g (m ++ b) := by
  have e1 : (m ++ b).length = m.length + b.length := by simp
  have e2 : (m.length + b.length) / 64 = m.length / 64 := by omega
  have e3 : (m.length + b.length) % 64 = m.length % 64 + b.length := by omega
  have e4 : (rest.take (m.length % 64)).length = m.length % 64 := by rw [List.length_take]; omega
  refine ⟨putAt rest (m.length % 64) b, ?_, ?_, ?_⟩
  · rw [e1, e2, wAt_app (by omega)]
    exact hs
  · rw [e1, e2, e3]
    unfold putAt
    rw [List.take_append, e4, List.take_of_length_le (by omega), show m.length % 64 + b.length - m.length % 64 = b.length by omega, List.take_append_of_le_length (Nat.le_refl _), List.take_of_length_le (Nat.le_refl _), hrt, List.drop_append_of_le_length (by omega)]
  · intro x hx
    rcases List.mem_append.1 hx with h | h
    · exact hm x h
    · exact hb x h
/-- The rest, filled, is the message's next block. -/
theorem blk_fill {m b rest : List Int} (hrt : rest.take (m.length % 64) = m.drop (64 * (m.length / 64))) (hrl : rest.length = 64) {k : Nat} (hk : m.length % 64 + k = 64) (hkb : k ≤ b.length) : putAt rest (m.length % 64) (b.take k) = blkOf (m ++ b) (m.length / 64) := by
  have e4 : (m.drop (64 * (m.length / 64))).length = m.length % 64 := by rw [List.length_drop]; omega
  unfold putAt blkOf
  rw [List.length_take, Nat.min_eq_left hkb, hk, List.drop_eq_nil_of_le (by omega), List.append_nil, hrt, List.drop_append_of_le_length (by omega), List.take_append, e4, List.take_of_length_le (l := m.drop (64 * (m.length / 64))) (by omega), show 64 - m.length % 64 = k by omega]
/-- Behind whole blocks: the last bytes are copied to the rest's head. -/
theorem HM.last {w : World} {g : Nat} {M rest : List Int} {c : Nat} (hs : HSt w g (wAt M c) (putAt rest 0 (M.drop (64 * c))) M.length) (hc : 64 * c ≤ M.length) (hlt : M.length < 64 * (c + 1)) (hm : ∀ x ∈ M, 0 ≤ x ∧ x < 256) : HM w g M := by
  have e1 : M.length / 64 = c := by omega
  have e2 : M.length % 64 = (M.drop (64 * c)).length := by rw [List.length_drop]; omega
  refine ⟨_, by rw [e1]; exact hs, ?_, hm⟩
  rw [e1, e2]
  unfold putAt
  rw [List.take_zero, List.nil_append, List.take_append_of_le_length (Nat.le_refl _), List.take_of_length_le (Nat.le_refl _)]
theorem wpOp_of_wp {P : Program} {ops : Array Oper} {Q : Exit → Act → World → Prop} {i : Nat} {o : Oper} {K : Act → World → Prop} {a : Act} {w : World} (hi : ops[i]? = some o) (hw : Region.wanted o (yielded ops a.tmps) = true) (h : o.wp P a w K Q) : wpOp P ops Q i K a w := by
  unfold wpOp
  rw [hi]
  simp only [hw, if_true]
  exact .inl h
theorem run_arrayAt_b64 (b off L c : Nat) (hL : 64 ≤ L) (W : World) : (Instr.arrayAt 28 (.slice (some ⟨b, off, none⟩) L c)).run Tryd.prog W = .ok (.pointer (some ⟨b, off, none⟩)) W := by
  unfold Instr.arrayAt
  simp only [Sem.run_bind, run_underlying Tryd.underlying28, Result.andThen_ok]
  simp [show ¬ L < 64 by omega]
/-- How many elements a slice has. -/
def lenV : Value → Nat
  | .slice _ n _ => n
  | _ => 0
end Go.Proofs.YtdipjhcjmjajfaaDoor
