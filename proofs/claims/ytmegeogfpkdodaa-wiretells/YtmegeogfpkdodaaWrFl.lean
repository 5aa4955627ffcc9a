/- wire: which fields stand behind the kind of a request. -/
import Derived.Test.YtmegeogfpkdodaaWrTake
import Derived.Test.YtmegeogfpkdodaaJoin
set_option linter.unusedVariables false
set_option linter.unusedSimpArgs false
namespace Go.Proofs.Ytmegeogfpkdodaa
open Go Go.RowKit

def cl (R fid : Nat) : Value := .func (.func fid) #[.pointer (some ⟨R, 0, none⟩)] #[]
abbrev TF : TypeId := 107
theorem info_fd : (Try.prog.info? TF).map (fun i => (i.zero, i.size, i.bytes)) = some (some Value.nilFunc, 1, 8) := by kernel_rfl
/-- append of a literal of fields onto a row of the call's own. -/
theorem wpList_append_fd {w : World} {ops : Array Oper} {rest : List Oper} {o : Oper} {a : Act} {Q : Exit → Act → World → Prop} (hgd : o.guard = none) (s x : Operand)
    (ho : o.op = .call { callee := .builtin .append, args := #[s, x], argTypes := #[100, 100] })
    (base R : Nat) (v : Value) (n : Nat) (xs : List Value) (hs : a.eval s = v) (hown : w.ownsRow base TF 1 v n xs)
    (b m : Nat) (ys : List Nat) (hx : a.eval x = .slice (some ⟨b, 0, none⟩) m m) (hm : ys.length = m) (hy : w.heap[b]? = some (.cells (ys.map (cl R)).toArray TF (0, 0)))
    (hn : n + m ≤ 1000) (hbase : base ≤ w.heap.size)
    (h : ∀ v' w', w'.ownsRow base TF 1 v' (n + m) (xs ++ ys.map (cl R)) → w.grownBy w' v.ownBlock → wpList Try.prog ops Q rest (a.put o.dst v') w') : wpList Try.prog ops Q (o :: rest) a w := by
  obtain ⟨i0, hi, hz0, hz1, hz2⟩ := info_parts info_fd
  refine wpList_append_own w hgd s x 100 ho base TF i0 _ 1 8 Try.underlying100 hi hz0 hz1 hz2 rfl (by decide) v n xs hs hown ⟨b, 0, none⟩ m m (ys.map (cl R)) hx (by simp [hm]) ?_ ?_ (by unfold maxLen; omega) (by omega) hbase ?_
  · intro j u hj
    rw [Go.WideShapes.add_plain, cell_of_row _ _ _ _ _ _ hy]
    simpa using hj
  · intro u hu
    obtain ⟨x, _, rfl⟩ := List.mem_map.1 hu
    rfl
  · intro v' w' h1 h2 _
    exact h v' w' h1 h2
theorem own_lit (w : World) (R B : Nat) (ys : List Nat) (hB : B ≤ w.heap.size) (hl : ys.length ≤ 1000) : (w.alloc (.cells (ys.map (cl R)).toArray TF)).ownsRow B TF 1 (.slice (some ⟨w.heap.size, 0, none⟩) ys.length ys.length) ys.length (ys.map (cl R)) :=
  ⟨by simp, .inr ⟨_, _, _, rfl, hB, heap_alloc_new w _, Nat.le_refl _, by unfold maxLen; omega, by simp, by simp [List.take_of_length_le]⟩⟩
theorem own_alloc {w : World} {B : Nat} {v : Value} {n : Nat} {xs : List Value} (h : w.ownsRow B TF 1 v n xs) (o : Obj) : (w.alloc o).ownsRow B TF 1 v n xs := by
  obtain ⟨h0, h⟩ := h
  refine ⟨h0, h.elim .inl fun ⟨g, cap, cur, h1, h2, h3, h4⟩ => .inr ⟨g, cap, cur, h1, h2, ?_, h4⟩⟩
  rw [← h3]
  have := (Array.getElem?_eq_some_iff.1 h3).1
  show (w.heap.push o)[g]? = _
  rw [Array.getElem?_push, if_neg (by omega)]
/-- The fields behind the kind. -/
def flF : Int → List Nat
  | 1 => [78]
  | 2 => [78, 79, 80, 81, 84]
  | 3 => [78, 79, 82, 83]
  | 4 => [78, 80, 81]
  | 5 => [78, 80]
  | _ => []
set_option maxRecDepth 100000 in
set_option maxHeartbeats 8000000 in
theorem fields_1 (w : World) (R : Nat) (hk : w.cell? ⟨R, 2, none⟩ = some (.int .u8 1)) (hR : R < w.heap.size) :
    Calls Try.prog 63 #[.pointer (some ⟨R, 0, none⟩)] w fun e w' => ∃ v, e = .returned v ∧ w'.ownsRow w.heap.size TF 1 v 1 ((flF 1).map (cl R)) ∧ Below w.heap.size w w' := by
  obtain ⟨W1, HW1⟩ : ∃ W : World, Hid (w.alloc (.cells #[cl R 78] TF) = W) := ⟨_, hid rfl⟩
  have HW1' : w.alloc (.cells #[.func (.func 78) #[.pointer (some ⟨R, 0, none⟩)] #[]] TF) = W1 := HW1.out
  have O1 : Hid (W1.ownsRow w.heap.size TF 1 (.slice (some ⟨w.heap.size, 0, none⟩) 1 1) 1 ([78].map (cl R))) := hid (by rw [← HW1.out]; exact own_lit w R _ [78] (Nat.le_refl _) (by decide))
  have B1 : Hid (Below w.heap.size w W1) := by rw [← HW1.out]; exact hid ((Below.refl _ w).alloc (Nat.le_refl _) _)
  have KX : Hid (∀ W, Below w.heap.size w W → W.cell? ⟨R, 2, none⟩ = some (.int .u8 1)) := hid (fun W hW => (hW.cell (p := ⟨R, 2, none⟩) hR).trans hk)
  clear hk
  have hk1 := KX.out W1 B1.out
  go_enter Try.func63, Try.ntmps63
  go_wp2_with (first | rw [HW1'] | fail)
  go_ret
  exact ⟨_, rfl, O1.out, B1.out⟩
set_option maxRecDepth 100000 in
set_option maxHeartbeats 8000000 in
theorem fields_2 (w : World) (R : Nat) (hk : w.cell? ⟨R, 2, none⟩ = some (.int .u8 2)) (hR : R < w.heap.size) :
    Calls Try.prog 63 #[.pointer (some ⟨R, 0, none⟩)] w fun e w' => ∃ v, e = .returned v ∧ w'.ownsRow w.heap.size TF 1 v 5 ((flF 2).map (cl R)) ∧ Below w.heap.size w w' := by
  obtain ⟨W1, HW1⟩ : ∃ W : World, Hid (w.alloc (.cells #[cl R 78] TF) = W) := ⟨_, hid rfl⟩
  have HW1' : w.alloc (.cells #[.func (.func 78) #[.pointer (some ⟨R, 0, none⟩)] #[]] TF) = W1 := HW1.out
  have O1 : Hid (W1.ownsRow w.heap.size TF 1 (.slice (some ⟨w.heap.size, 0, none⟩) 1 1) 1 ([78].map (cl R))) := hid (by rw [← HW1.out]; exact own_lit w R _ [78] (Nat.le_refl _) (by decide))
  have B1 : Hid (Below w.heap.size w W1) := by rw [← HW1.out]; exact hid ((Below.refl _ w).alloc (Nat.le_refl _) _)
  have KX : Hid (∀ W, Below w.heap.size w W → W.cell? ⟨R, 2, none⟩ = some (.int .u8 2)) := hid (fun W hW => (hW.cell (p := ⟨R, 2, none⟩) hR).trans hk)
  clear hk
  have hk1 := KX.out W1 B1.out
  go_enter Try.func63, Try.ntmps63
  obtain ⟨V0, HV0⟩ : ∃ W : World, Hid (W1.alloc (.cells #[cl R 79] TF) = W) := ⟨_, hid rfl⟩
  have HV0' : W1.alloc (.cells #[.func (.func 79) #[.pointer (some ⟨R, 0, none⟩)] #[]] TF) = V0 := HV0.out
  have OV0 : Hid (V0.ownsRow w.heap.size TF 1 (.slice (some ⟨w.heap.size, 0, none⟩) 1 1) 1 ([78].map (cl R))) := hid (by rw [← HV0.out]; exact own_alloc O1.out _)
  have BV0 : Hid (Below w.heap.size w V0) := by rw [← HV0.out]; exact hid (B1.out.alloc B1.out.size _)
  have LV0 : Hid (V0.heap[W1.heap.size]? = some (.cells ([79].map (cl R)).toArray TF (0, 0))) := hid (by rw [← HV0.out]; exact heap_alloc_new W1 _)
  go_wp2_with (first | rw [HW1'] | rw [HV0'] | (at_builtin; refine wpList_append_fd rfl _ _ rfl w.heap.size R _ _ _ rfl OV0.out _ 1 [79] rfl rfl LV0.out (by decide) BV0.out.size ?_) | fail)
  intro v0 X0 ow0 gr0
  have OX0 := hid ow0
  have BX0 : Hid (Below w.heap.size w X0) := hid (BV0.out.grown gr0 BV0.out.size (fun k e => (OV0.out.lt k e).1))
  clear ow0 gr0
  have hk2 := KX.out X0 BX0.out
  obtain ⟨V1, HV1⟩ : ∃ W : World, Hid (X0.alloc (.cells #[cl R 80, cl R 81] TF) = W) := ⟨_, hid rfl⟩
  have HV1' : X0.alloc (.cells #[.func (.func 80) #[.pointer (some ⟨R, 0, none⟩)] #[], .func (.func 81) #[.pointer (some ⟨R, 0, none⟩)] #[]] TF) = V1 := HV1.out
  have OV1 : Hid (V1.ownsRow w.heap.size TF 1 v0 2 ([78, 79].map (cl R))) := hid (by rw [← HV1.out]; exact own_alloc OX0.out _)
  have BV1 : Hid (Below w.heap.size w V1) := by rw [← HV1.out]; exact hid (BX0.out.alloc BX0.out.size _)
  have LV1 : Hid (V1.heap[X0.heap.size]? = some (.cells ([80, 81].map (cl R)).toArray TF (0, 0))) := hid (by rw [← HV1.out]; exact heap_alloc_new X0 _)
  go_wp2_with (first | rw [HV1'] | (at_builtin; refine wpList_append_fd rfl _ _ rfl w.heap.size R _ _ _ rfl OV1.out _ 2 [80, 81] rfl rfl LV1.out (by decide) BV1.out.size ?_) | fail)
  intro v1 X1 ow1 gr1
  have OX1 := hid ow1
  have BX1 : Hid (Below w.heap.size w X1) := hid (BV1.out.grown gr1 BV1.out.size (fun k e => (OV1.out.lt k e).1))
  clear ow1 gr1
  have hk3 := KX.out X1 BX1.out
  obtain ⟨V2, HV2⟩ : ∃ W : World, Hid (X1.alloc (.cells #[cl R 84] TF) = W) := ⟨_, hid rfl⟩
  have HV2' : X1.alloc (.cells #[.func (.func 84) #[.pointer (some ⟨R, 0, none⟩)] #[]] TF) = V2 := HV2.out
  have OV2 : Hid (V2.ownsRow w.heap.size TF 1 v1 4 ([78, 79, 80, 81].map (cl R))) := hid (by rw [← HV2.out]; exact own_alloc OX1.out _)
  have BV2 : Hid (Below w.heap.size w V2) := by rw [← HV2.out]; exact hid (BX1.out.alloc BX1.out.size _)
  have LV2 : Hid (V2.heap[X1.heap.size]? = some (.cells ([84].map (cl R)).toArray TF (0, 0))) := hid (by rw [← HV2.out]; exact heap_alloc_new X1 _)
  go_wp2_with (first | rw [HV2'] | (at_builtin; refine wpList_append_fd rfl _ _ rfl w.heap.size R _ _ _ rfl OV2.out _ 1 [84] rfl rfl LV2.out (by decide) BV2.out.size ?_) | fail)
  intro v2 X2 ow2 gr2
  have OX2 := hid ow2
  have BX2 : Hid (Below w.heap.size w X2) := hid (BV2.out.grown gr2 BV2.out.size (fun k e => (OV2.out.lt k e).1))
  clear ow2 gr2
  have hk4 := KX.out X2 BX2.out
  go_wp2_with fail
  go_ret
  exact ⟨_, rfl, OX2.out, BX2.out⟩
set_option maxRecDepth 100000 in
set_option maxHeartbeats 8000000 in
theorem fields_3 (w : World) (R : Nat) (hk : w.cell? ⟨R, 2, none⟩ = some (.int .u8 3)) (hR : R < w.heap.size) :
    Calls Try.prog 63 #[.pointer (some ⟨R, 0, none⟩)] w fun e w' => ∃ v, e = .returned v ∧ w'.ownsRow w.heap.size TF 1 v 4 ((flF 3).map (cl R)) ∧ Below w.heap.size w w' := by
  obtain ⟨W1, HW1⟩ : ∃ W : World, Hid (w.alloc (.cells #[cl R 78] TF) = W) := ⟨_, hid rfl⟩
  have HW1' : w.alloc (.cells #[.func (.func 78) #[.pointer (some ⟨R, 0, none⟩)] #[]] TF) = W1 := HW1.out
  have O1 : Hid (W1.ownsRow w.heap.size TF 1 (.slice (some ⟨w.heap.size, 0, none⟩) 1 1) 1 ([78].map (cl R))) := hid (by rw [← HW1.out]; exact own_lit w R _ [78] (Nat.le_refl _) (by decide))
  have B1 : Hid (Below w.heap.size w W1) := by rw [← HW1.out]; exact hid ((Below.refl _ w).alloc (Nat.le_refl _) _)
  have KX : Hid (∀ W, Below w.heap.size w W → W.cell? ⟨R, 2, none⟩ = some (.int .u8 3)) := hid (fun W hW => (hW.cell (p := ⟨R, 2, none⟩) hR).trans hk)
  clear hk
  have hk1 := KX.out W1 B1.out
  go_enter Try.func63, Try.ntmps63
  obtain ⟨V0, HV0⟩ : ∃ W : World, Hid (W1.alloc (.cells #[cl R 79, cl R 82, cl R 83] TF) = W) := ⟨_, hid rfl⟩
  have HV0' : W1.alloc (.cells #[.func (.func 79) #[.pointer (some ⟨R, 0, none⟩)] #[], .func (.func 82) #[.pointer (some ⟨R, 0, none⟩)] #[], .func (.func 83) #[.pointer (some ⟨R, 0, none⟩)] #[]] TF) = V0 := HV0.out
  have OV0 : Hid (V0.ownsRow w.heap.size TF 1 (.slice (some ⟨w.heap.size, 0, none⟩) 1 1) 1 ([78].map (cl R))) := hid (by rw [← HV0.out]; exact own_alloc O1.out _)
  have BV0 : Hid (Below w.heap.size w V0) := by rw [← HV0.out]; exact hid (B1.out.alloc B1.out.size _)
  have LV0 : Hid (V0.heap[W1.heap.size]? = some (.cells ([79, 82, 83].map (cl R)).toArray TF (0, 0))) := hid (by rw [← HV0.out]; exact heap_alloc_new W1 _)
  go_wp2_with (first | rw [HW1'] | rw [HV0'] | (at_builtin; refine wpList_append_fd rfl _ _ rfl w.heap.size R _ _ _ rfl OV0.out _ 3 [79, 82, 83] rfl rfl LV0.out (by decide) BV0.out.size ?_) | fail)
  intro v0 X0 ow0 gr0
  have OX0 := hid ow0
  have BX0 : Hid (Below w.heap.size w X0) := hid (BV0.out.grown gr0 BV0.out.size (fun k e => (OV0.out.lt k e).1))
  clear ow0 gr0
  have hk2 := KX.out X0 BX0.out
  go_wp2_with fail
  go_ret
  exact ⟨_, rfl, OX0.out, BX0.out⟩
set_option maxRecDepth 100000 in
set_option maxHeartbeats 8000000 in
theorem fields_4 (w : World) (R : Nat) (hk : w.cell? ⟨R, 2, none⟩ = some (.int .u8 4)) (hR : R < w.heap.size) :
    Calls Try.prog 63 #[.pointer (some ⟨R, 0, none⟩)] w fun e w' => ∃ v, e = .returned v ∧ w'.ownsRow w.heap.size TF 1 v 3 ((flF 4).map (cl R)) ∧ Below w.heap.size w w' := by
  obtain ⟨W1, HW1⟩ : ∃ W : World, Hid (w.alloc (.cells #[cl R 78] TF) = W) := ⟨_, hid rfl⟩
  have HW1' : w.alloc (.cells #[.func (.func 78) #[.pointer (some ⟨R, 0, none⟩)] #[]] TF) = W1 := HW1.out
  have O1 : Hid (W1.ownsRow w.heap.size TF 1 (.slice (some ⟨w.heap.size, 0, none⟩) 1 1) 1 ([78].map (cl R))) := hid (by rw [← HW1.out]; exact own_lit w R _ [78] (Nat.le_refl _) (by decide))
  have B1 : Hid (Below w.heap.size w W1) := by rw [← HW1.out]; exact hid ((Below.refl _ w).alloc (Nat.le_refl _) _)
  have KX : Hid (∀ W, Below w.heap.size w W → W.cell? ⟨R, 2, none⟩ = some (.int .u8 4)) := hid (fun W hW => (hW.cell (p := ⟨R, 2, none⟩) hR).trans hk)
  clear hk
  have hk1 := KX.out W1 B1.out
  go_enter Try.func63, Try.ntmps63
  obtain ⟨V0, HV0⟩ : ∃ W : World, Hid (W1.alloc (.cells #[cl R 80, cl R 81] TF) = W) := ⟨_, hid rfl⟩
  have HV0' : W1.alloc (.cells #[.func (.func 80) #[.pointer (some ⟨R, 0, none⟩)] #[], .func (.func 81) #[.pointer (some ⟨R, 0, none⟩)] #[]] TF) = V0 := HV0.out
  have OV0 : Hid (V0.ownsRow w.heap.size TF 1 (.slice (some ⟨w.heap.size, 0, none⟩) 1 1) 1 ([78].map (cl R))) := hid (by rw [← HV0.out]; exact own_alloc O1.out _)
  have BV0 : Hid (Below w.heap.size w V0) := by rw [← HV0.out]; exact hid (B1.out.alloc B1.out.size _)
  have LV0 : Hid (V0.heap[W1.heap.size]? = some (.cells ([80, 81].map (cl R)).toArray TF (0, 0))) := hid (by rw [← HV0.out]; exact heap_alloc_new W1 _)
  go_wp2_with (first | rw [HW1'] | rw [HV0'] | (at_builtin; refine wpList_append_fd rfl _ _ rfl w.heap.size R _ _ _ rfl OV0.out _ 2 [80, 81] rfl rfl LV0.out (by decide) BV0.out.size ?_) | fail)
  intro v0 X0 ow0 gr0
  have OX0 := hid ow0
  have BX0 : Hid (Below w.heap.size w X0) := hid (BV0.out.grown gr0 BV0.out.size (fun k e => (OV0.out.lt k e).1))
  clear ow0 gr0
  have hk2 := KX.out X0 BX0.out
  go_wp2_with fail
  go_ret
  exact ⟨_, rfl, OX0.out, BX0.out⟩
set_option maxRecDepth 100000 in
set_option maxHeartbeats 8000000 in
theorem fields_5 (w : World) (R : Nat) (hk : w.cell? ⟨R, 2, none⟩ = some (.int .u8 5)) (hR : R < w.heap.size) :
    Calls Try.prog 63 #[.pointer (some ⟨R, 0, none⟩)] w fun e w' => ∃ v, e = .returned v ∧ w'.ownsRow w.heap.size TF 1 v 2 ((flF 5).map (cl R)) ∧ Below w.heap.size w w' := by
  obtain ⟨W1, HW1⟩ : ∃ W : World, Hid (w.alloc (.cells #[cl R 78] TF) = W) := ⟨_, hid rfl⟩
  have HW1' : w.alloc (.cells #[.func (.func 78) #[.pointer (some ⟨R, 0, none⟩)] #[]] TF) = W1 := HW1.out
  have O1 : Hid (W1.ownsRow w.heap.size TF 1 (.slice (some ⟨w.heap.size, 0, none⟩) 1 1) 1 ([78].map (cl R))) := hid (by rw [← HW1.out]; exact own_lit w R _ [78] (Nat.le_refl _) (by decide))
  have B1 : Hid (Below w.heap.size w W1) := by rw [← HW1.out]; exact hid ((Below.refl _ w).alloc (Nat.le_refl _) _)
  have KX : Hid (∀ W, Below w.heap.size w W → W.cell? ⟨R, 2, none⟩ = some (.int .u8 5)) := hid (fun W hW => (hW.cell (p := ⟨R, 2, none⟩) hR).trans hk)
  clear hk
  have hk1 := KX.out W1 B1.out
  go_enter Try.func63, Try.ntmps63
  obtain ⟨V0, HV0⟩ : ∃ W : World, Hid (W1.alloc (.cells #[cl R 80] TF) = W) := ⟨_, hid rfl⟩
  have HV0' : W1.alloc (.cells #[.func (.func 80) #[.pointer (some ⟨R, 0, none⟩)] #[]] TF) = V0 := HV0.out
  have OV0 : Hid (V0.ownsRow w.heap.size TF 1 (.slice (some ⟨w.heap.size, 0, none⟩) 1 1) 1 ([78].map (cl R))) := hid (by rw [← HV0.out]; exact own_alloc O1.out _)
  have BV0 : Hid (Below w.heap.size w V0) := by rw [← HV0.out]; exact hid (B1.out.alloc B1.out.size _)
  have LV0 : Hid (V0.heap[W1.heap.size]? = some (.cells ([80].map (cl R)).toArray TF (0, 0))) := hid (by rw [← HV0.out]; exact heap_alloc_new W1 _)
  go_wp2_with (first | rw [HW1'] | rw [HV0'] | (at_builtin; refine wpList_append_fd rfl _ _ rfl w.heap.size R _ _ _ rfl OV0.out _ 1 [80] rfl rfl LV0.out (by decide) BV0.out.size ?_) | fail)
  intro v0 X0 ow0 gr0
  have OX0 := hid ow0
  have BX0 : Hid (Below w.heap.size w X0) := hid (BV0.out.grown gr0 BV0.out.size (fun k e => (OV0.out.lt k e).1))
  clear ow0 gr0
  have hk2 := KX.out X0 BX0.out
  go_wp2_with fail
  go_ret
  exact ⟨_, rfl, OX0.out, BX0.out⟩
end Go.Proofs.Ytmegeogfpkdodaa
