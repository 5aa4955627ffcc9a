/- The closures that lay a row's value into its place, walked. -/
import Derived.Test.YthcdefidoibopabDoorUbLay
set_option linter.unusedSimpArgs false
set_option linter.unusedVariables false
namespace Go.Proofs.YthcdefidoibopabDoor
open Go Go.RowKit

def UB (w : World) (b : Nat) (u : Ub) : Prop := Bk w b (ubA u) 41
def setA (cs : Array Value) : Nat → List Value → Array Value
  | _, [] => cs
  | o, v :: vs => setA (cs.setIfInBounds o v) (o + 1) vs
theorem Bk.setCells {x : Nat} {T : TypeId} : ∀ (vs : List Value) (w : World) (cs : Array Value) (o : Nat), Bk w x cs T → Bk (w.setCells x o vs) x (setA cs o vs) T
  | [], w, cs, o, h => h
  | v :: vs, w, cs, o, h => Bk.setCells vs _ _ (o + 1) (h.set o v)
theorem below_setCells {B x : Nat} (hx : B ≤ x) {w : World} : ∀ (vs : List Value) (W : World) (o : Nat), Below B w W → Below B w (W.setCells x o vs)
  | [], W, o, h => h
  | v :: vs, W, o, h => below_setCells hx vs _ (o + 1) (h.setCell hx v)
theorem setA_list : ∀ (vs : List Value) (p q m : List Value), q.length = vs.length → setA (p ++ q ++ m).toArray p.length vs = (p ++ vs ++ m).toArray
  | [], p, q, m, h => by
    have : q = [] := List.length_eq_zero_iff.1 (by simpa using h)
    subst this
    rfl
  | v :: vs, p, [], m, h => by cases h
  | v :: vs, p, c :: q, m, h => by
    unfold setA
    have e : ((p ++ c :: q ++ m).toArray.setIfInBounds p.length v) = ((p ++ [v]) ++ q ++ m).toArray := by
      rw [List.setIfInBounds_toArray]
      simp
    rw [e, show p.length + 1 = (p ++ [v]).length by simp, setA_list vs (p ++ [v]) q m (by simpa using h)]
    simp
theorem setA_a {u : Ub} (hu : u.ok) {l : List Int} (hl : l.length = 32) : setA (ubA u) 4 (l.map (Value.int .u8)) = ubA { u with a := l } := by
  have := setA_list (l.map (Value.int .u8)) [.int .i64 u.k, .int .i64 u.n, .int .i64 u.g, .int .i64 u.z] (u.a.map (Value.int .u8)) (u.b.map (Value.int .u8)) (by simp [hl, hu.1.1])
  simpa [ubA, ubL] using this
theorem setA_b {u : Ub} (hu : u.ok) {l : List Int} (hl : l.length = 32) : setA (ubA u) 36 (l.map (Value.int .u8)) = ubA { u with b := l } := by
  have := setA_list (l.map (Value.int .u8)) ([.int .i64 u.k, .int .i64 u.n, .int .i64 u.g, .int .i64 u.z] ++ u.a.map (Value.int .u8)) (u.b.map (Value.int .u8)) [] (by simp [hl, hu.2.1])
  simpa [ubA, ubL, hu.1.1] using this
theorem set_i (u : Ub) (x : Int) : (ubA u).setIfInBounds 0 (.int .i64 x) = ubA { u with k := x } ∧ (ubA u).setIfInBounds 1 (.int .i64 x) = ubA { u with n := x } ∧ (ubA u).setIfInBounds 2 (.int .i64 x) = ubA { u with g := x } ∧ (ubA u).setIfInBounds 3 (.int .i64 x) = ubA { u with z := x } := by
  refine ⟨?_, ?_, ?_, ?_⟩ <;> simp [ubA, ubL]
set_option maxRecDepth 100000 in
set_option maxHeartbeats 4000000 in
theorem clN_any (w : World) (x b o : Nat) (u : Ub) (v : Value) (l : List Int) (c0 : Value) (hx : w.heap[x]? = some (.cells #[.pointer (some ⟨b, o, none⟩)] 81 (0, 0))) (hub : UB w b u) (ho : (ubA u)[o]? = some c0) (hv : HB w v l) (hl : l.length ≤ 281474976710656) (hk : KD w) :
    Calls Tryd.prog 35 #[v, .pointer (some ⟨x, 0, none⟩)] w fun e w' => e = .returned (.bool (decide (rdOk (Lib.bytesOf l) 2147483647))) ∧ ∃ w1, Below w.heap.size w w1 ∧ w' = w1.setCell ⟨b, o, none⟩ (.int .i64 (rdV (Lib.bytesOf l) 2147483647)) := by
  have qc := conv_str hv
  have C := read_any w (bS l) 2147483647 (by rw [bS_size]; exact hl) (by omega) (by omega) hk
  rw [bS_bytes] at C
  have hx0 := cell_of_row w x 0 _ _ _ hx
  have hx1 : w.cell? ⟨x, 0, none⟩ = some (.pointer (some ⟨b, o, none⟩)) := hx0
  have HX := hid hx1
  have HUB := hid hub
  have HO := hid ho
  obtain ⟨S, HS⟩ : ∃ S, Hid (bS l = S) := ⟨_, rfl⟩
  rw [HS.out] at qc C
  have hE : rdE (Lib.bytesOf l) 2147483647 = if rdOk (Lib.bytesOf l) 2147483647 then 0 else 102 := rfl
  obtain ⟨V, HV⟩ : ∃ S, Hid (rdV (Lib.bytesOf l) 2147483647 = S) := ⟨_, rfl⟩
  rw [HV.out] at C
  rw [HV.out]
  obtain ⟨p, c, rfl, _, _⟩ := hv.open
  clear hx hx0 hx1 hub ho hv
  by_cases hr : rdOk (Lib.bytesOf l) 2147483647
  · rw [if_pos hr] at hE
    rw [hE] at C
    rw [decide_eq_true hr]
    have C := hid C
    clear hE hr
    go_enter Tryd.func35, Tryd.ntmps35
    go_wp2_with fail
    refine C.out.mono ?_
    rintro e w1 ⟨rfl, hb1⟩
    have B1 := hid hb1
    have hc1 := (hb1.cell (World.block_lt_of_cell? w _ HX.out)).trans HX.out
    have hbk := HUB.out.below hb1
    have hc2 := hbk.cell o c0 HO.out
    have hf2 := hbk.free o
    clear hb1 C hbk
    go_wp2
    go_ret
    exact ⟨rfl, w1, B1.out, rfl⟩
  · rw [if_neg hr] at hE
    rw [hE] at C
    rw [decide_eq_false hr]
    have C := hid C
    clear hE hr
    go_enter Tryd.func35, Tryd.ntmps35
    go_wp2_with fail
    refine C.out.mono ?_
    rintro e w1 ⟨rfl, hb1⟩
    have B1 := hid hb1
    have hc1 := (hb1.cell (World.block_lt_of_cell? w _ HX.out)).trans HX.out
    have hbk := HUB.out.below hb1
    have hc2 := hbk.cell o c0 HO.out
    have hf2 := hbk.free o
    clear hb1 C hbk
    go_wp2
    go_ret
    exact ⟨rfl, w1, B1.out, rfl⟩
theorem run_arr (w : World) (bb off c : Nat) : (Instr.arrayAt 39 (.slice (some ⟨bb, off, none⟩) 32 c)).run Tryd.prog w = .ok (.pointer (some ⟨bb, off, none⟩)) w := by
  simp [Instr.arrayAt, run_underlying Tryd.underlying39]
theorem cell_setCells_ne {w : World} {b o : Nat} {vs : List Value} {a : Addr} (h : a.block ≠ b) : (w.setCells b o vs).cell? a = w.cell? a := World.cell?_setCells_out b vs o w a (fun hb _ => absurd hb h)
set_option maxRecDepth 100000 in
set_option maxHeartbeats 4000000 in
theorem clD_any (wz : World) (x b o : Nat) (u : Ub) (v : Value) (l : List Int) (hx : wz.heap[x]? = some (.cells #[.pointer (some ⟨b, o, none⟩)] 83 (0, 0))) (hub : UB wz b u) (hok : u.ok) (ho : o + 32 ≤ 68) (hv : HB wz v l) (hne : ∀ bb off n c, v = .slice (some ⟨bb, off, none⟩) n c → 0 < l.length → bb ≠ b) :
    Calls Tryd.prog 37 #[v, .pointer (some ⟨x, 0, none⟩)] wz fun e w' => e = .returned (.bool (decide (l.length = 32))) ∧ (l.length = 32 → ∃ w1, Below wz.heap.size wz w1 ∧ w' = w1.setCells b o (l.map (Value.int .u8))) ∧ (l.length ≠ 32 → Below wz.heap.size wz w') := by
  by_cases hl : l.length = 32
  · rw [decide_eq_true hl]
    obtain ⟨bb, off, c, rfl, hlc, hcm, hc⟩ := hv.ne (by omega)
    have HNB := hid (hne _ _ _ _ rfl (by omega))
    have HC := hid hc
    have hx1 : wz.cell? ⟨x, 0, none⟩ = some (.pointer (some ⟨b, o, none⟩)) := cell_of_row wz x 0 _ _ _ hx
    have HX := hid hx1
    have HXL := hid (World.block_lt_of_cell? wz _ hx1)
    have HXB : Hid (x ≠ b) := by
      refine hid fun e => ?_
      subst e
      have h1 : wz.heap[x]? = some (.cells (ubA u) 41 (0, 0)) := hub
      rw [hx] at h1
      have h2 := ubA_size hok
      simp only [Option.some.injEq, Obj.cells.injEq] at h1
      rw [← h1.1] at h2
      simp at h2
    have har := fun W => run_arr W bb off c
    have HAR := hid har
    clear har
    have HR : Hid (wz.rangeAt bb off (l.map (Value.int .u8))) := by
      refine hid fun j q hj => ?_
      have hjn : j < l.length := by
        have := (List.getElem?_eq_some_iff.1 hj).1
        simpa using this
      rw [hc j hjn, ← hj]
      simp [List.getD, List.getElem?_eq_getElem hjn]
    have HRL : Hid (bb < wz.heap.size) := World.block_lt_of_cell? wz _ (hc 0 (by omega))
    have HSZ : Hid ((Tryd.prog.info? 39).map (·.size) = some (l.map (Value.int .u8)).length) := by refine hid ?_; rw [List.length_map, hl]; kernel_rfl
    have HUB := hid hub
    have hsz : (ubA u).size = 68 := ubA_size hok
    have HLN := hid hl
    rw [hl]
    rw [hl] at hlc
    obtain ⟨m, HM⟩ : ∃ m, Hid ((l.map (Value.int .u8)).toArray = m) := ⟨_, rfl⟩
    clear hc hx hx1 hub hv hl hne
    go_enter Tryd.func37, Tryd.ntmps37
    go_wp2
    refine wp_region_held_drew (S := fun W => W.cell? ⟨x, 0, none⟩ = some (.pointer (some ⟨b, o, none⟩)) ∧ W.rangeAt bb off (l.map (Value.int .u8))) (by kernel_rfl) ⟨HX.out, HR.out⟩ (fun hHeld => ?_)
    have HS := hid hHeld
    clear hHeld
    change wpAnyH _ _ _ _ _ _ _ _ (World.drew _)
    refine wpAnyH_take (i := 0) (v := .pointer (some ⟨b, o, none⟩)) rfl (by kernel_rfl) (by kernel_rfl) (by kernel_rfl) (fun _ _ _ h => h) (Or.inl ⟨by rfl, ?q0⟩) HS.out ?_
    case q0 => intro w hSw; have s1 := hSw.1; have s2 := HAR.out; go_simp
    simp only [Act.put, List.getElem_toArray, List.getElem_cons_zero, List.getElem_cons_succ, List.setIfInBounds_toArray, List.set_cons_zero, List.set_cons_succ]
    refine wpAnyH_take (i := 1) (v := ?_) rfl (by kernel_rfl) (by kernel_rfl) (by kernel_rfl) (fun _ _ _ h => h) (Or.inl ⟨by rfl, ?q1⟩) HS.out ?_
    case q1 => intro w hSw; have s1 := hSw.1; have s2 := HAR.out; go_simp; rfl
    simp only [Act.put, List.getElem_toArray, List.getElem_cons_zero, List.getElem_cons_succ, List.setIfInBounds_toArray, List.set_cons_zero, List.set_cons_succ]
    refine wpAnyH_take (i := 2) (v := .pointer (some ⟨bb, off, none⟩)) rfl (by kernel_rfl) (by kernel_rfl) (by kernel_rfl) (fun _ _ _ h => h) (Or.inl ⟨by rfl, ?q2⟩) HS.out ?_
    case q2 => intro w hSw; have s1 := hSw.1; have s2 := HAR.out; go_simp
    simp only [Act.put, List.getElem_toArray, List.getElem_cons_zero, List.getElem_cons_succ, List.setIfInBounds_toArray, List.set_cons_zero, List.set_cons_succ]
    refine wpAnyH_take (i := 3) rfl (by kernel_rfl) (by kernel_rfl) (by kernel_rfl) (fun _ _ _ h => h) (yieldsIf_load_mid (by rfl) 39 _ rfl bb off rfl (l.map (Value.int .u8)) _ (fun W hW => hW.2) Tryd.underlying39 rfl HSZ.out) HS.out ?_
    simp only [Act.put, List.getElem_toArray, List.getElem_cons_zero, List.getElem_cons_succ, List.setIfInBounds_toArray, List.set_cons_zero, List.set_cons_succ]
    rw [HM.out]
    refine wpAnyH_take (i := 4) (v := .pointer (some ⟨b, o, none⟩)) rfl (by kernel_rfl) (by kernel_rfl) (by kernel_rfl) (fun _ _ _ h => h) (Or.inl ⟨by rfl, ?q4⟩) HS.out ?_
    case q4 => intro w hSw; have s1 := hSw.1; have s2 := HAR.out; go_simp
    simp only [Act.put, List.getElem_toArray, List.getElem_cons_zero, List.getElem_cons_succ, List.setIfInBounds_toArray, List.set_cons_zero, List.set_cons_succ]
    refine wpAnyH_ready (rs := [5]) (by kernel_rfl) (by simp) ?_
    refine AllReadyH.cons rfl (fun K hK => ?_) AllReadyH.nil
    have hbk : Bk (World.drew wz) b (ubA u) 41 := HUB.out
    refine wp_store_mid 39 _ _ rfl b o m rfl rfl ?_ (by rw [← HM.out, List.size_toArray]; exact HSZ.out) (by rw [← HM.out]; exact all_oneCell_toArray (fun v hv => by obtain ⟨x, _, rfl⟩ := List.mem_map.1 hv; rfl)) ?_
    · intro j hj
      rw [← HM.out, List.size_toArray, List.length_map, HLN.out] at hj
      have hj2 : o + j < (ubA u).size := by omega
      exact ⟨by rw [hbk.cell (o + j) _ (Array.getElem?_eq_getElem hj2)]; rfl, hbk.free _⟩
    have HS6 : Hid (Below wz.heap.size wz (World.drew wz)) := (Below.refl _ _).drew
    refine hK.out _ _ ?_ (fun _ => ?_)
    · exact ⟨(cell_setCells_ne HXB.out).trans HX.out, fun j q hj => (cell_setCells_ne HNB.out).trans (HR.out j q hj)⟩
    clear hK K
    simp only [Act.put]
    refine wpAnyH_done (by kernel_rfl) ?_ _
    go_wp2
    go_ret
    exact ⟨rfl, fun _ => ⟨_, HS6.out, by rw [← HM.out]⟩, fun h => absurd rfl h⟩
  · rw [decide_eq_false hl]
    obtain ⟨p, c, rfl, _, _⟩ := hv.open
    clear hne
    have hne : ((l.length : Int) != 32) = true := by rw [bne_iff_ne]; omega
    have HL := hid hl
    clear hl
    go_enter Tryd.func37, Tryd.ntmps37
    go_wp2
    go_ret
    exact ⟨rfl, fun h => absurd h HL.out, fun _ => Below.refl _ _⟩
end Go.Proofs.YthcdefidoibopabDoor
