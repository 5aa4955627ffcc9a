/- ClockWalks: the activation of a round, where one variable is laid down; the document's thing of a round. -/
import Derived.Test.YtajdopmhdagehaaCkWkB
set_option linter.unusedVariables false
set_option linter.unusedSimpArgs false
namespace Go.Proofs.Ytajdopmhdagehaa.Rc
open Go.Proofs.Ytajdopmhdagehaa
open Go Go.RowKit Go.Shelf
theorem dAct_one (a : Act) (s d db : Nat) (v : Value) : dAct a #[s] #[v] d db = { tmps := (a.tmps.setIfInBounds s v).setIfInBounds d (.pointer (some ⟨db, 0, none⟩)), defers := [] } := by simp [dAct]
theorem own3_item {w : World} {v : Value} {l : List Tr} {B : Nat} (h : w.ownsRow B 59 3 v l.length (flat l)) {i : Nat} (hi : i < l.length) : ∃ b cap, v = .slice (some ⟨b, 0, none⟩) l.length cap ∧ l.length ≤ cap ∧ w.cell? ⟨b, i * 3, none⟩ = some (.int .i64 (tA l i).1) ∧ w.cell? ⟨b, i * 3 + 1, none⟩ = some (.int .i64 (tA l i).2.1) ∧ w.cell? ⟨b, i * 3 + 2, none⟩ = some (.int .u32 (tA l i).2.2) := by
  rcases h.2 with ⟨_, q⟩ | ⟨b, cap, cur, hv, _, hw, q1, q2, q3, q4⟩
  · omega
  · have at' : ∀ j, j < 3 → w.cell? ⟨b, i * 3 + j, none⟩ = (tcL (tA l i))[j]? := fun j hj => by
      rw [cell_of_row _ _ _ _ _ _ hw, ← flat_get l i hi j hj, ← q4, List.getElem?_take, if_pos (by omega), Array.getElem?_toList]
    exact ⟨b, cap, hv, q1, at' 0 (by omega), at' 1 (by omega), at' 2 (by omega)⟩
theorem rx_up {R' : List (Rw Ds.Pr)} {R : List Tr} (h : R'.map (·.x) = R.map up) {k : Nat} (hk : k < R'.length) : (rat R' k).x = up (tA R k) := by
  have hl : R'.length = R.length := by simpa using congrArg List.length h
  have e : (R'.map (·.x))[k]? = (R.map up)[k]? := by rw [h]
  rw [List.getElem?_map, List.getElem?_map, rat_some hk, tA_some (by omega)] at e
  simpa using e
/-- What a round reads. -/
def S20 (b17 b15 db : Nat) (vo : Value) (bR k : Nat) (z : Tr) (W : World) : Prop :=
  W.cell? ⟨b17, 0, none⟩ = some (.int .i64 (k : Int)) ∧ W.cell? ⟨b15, 0, none⟩ = some vo ∧ W.cell? ⟨db, 0, none⟩ = some (.int .i64 z.1) ∧ W.cell? ⟨db, 1, none⟩ = some (.int .i64 z.2.1) ∧ W.cell? ⟨db, 2, none⟩ = some (.string (wordB z.2.2)) ∧
  W.cell? ⟨bR, k * 3, none⟩ = some (.int .i64 z.1) ∧ W.cell? ⟨bR, k * 3 + 1, none⟩ = some (.int .i64 z.2.1) ∧ W.cell? ⟨bR, k * 3 + 2, none⟩ = some (.int .u32 z.2.2)
theorem S20.below {b17 b15 db : Nat} {vo : Value} {bR k : Nat} {z : Tr} {W W' : World} (h : S20 b17 b15 db vo bR k z W) (hb : Below W.heap.size W W') : S20 b17 b15 db vo bR k z W' := by
  have hc : ∀ (a : Addr) (u : Value), W.cell? a = some u → W'.cell? a = some u := fun a u hu => (hb.cell (World.block_lt_of_cell? W a hu)).trans hu
  obtain ⟨h1, h2, h3, h4, h5, h6, h7, h8⟩ := h
  exact ⟨hc _ _ h1, hc _ _ h2, hc _ _ h3, hc _ _ h4, hc _ _ h5, hc _ _ h6, hc _ _ h7, hc _ _ h8⟩
/-- What a round reads before it calls the clock. -/
def S23 (B b7 b17 c : Nat) (dv : Value) (mo : Int) (k : Nat) (u : Addr) (a : Int) (W : World) : Prop :=
  W.cell? ⟨b7, 0, none⟩ = some (ptr c) ∧ W.cell? ⟨B, 0, none⟩ = some dv ∧ W.cell? ⟨b17, 0, none⟩ = some (.int .i64 (k : Int)) ∧ W.cell? u = some (.int .u8 a) ∧ W.cell? ⟨B + 1, 0, none⟩ = some (.int .u16 mo)
theorem s23_of {w : World} {E : Nat → Prop} {B b7 b15 b17 c k nx : Nat} {dv vo : Value} {mo now a : Int} {R : List Tr} {M : List (Rw Ds.Pr)} {S : Nat → Prop} {W0 W : World} {u : Addr} (hq : Wq w E ⟨B, b7, b15, b17, c, dv, vo, mo, R⟩ k now M nx S W0 W) (hu : w.cell? u = some (.int .u8 a)) : S23 B b7 b17 c dv mo k u a W :=
  ⟨(cell_of_row _ _ _ _ _ _ hq.wx.bx.x7).trans rfl, (cell_of_row _ _ _ _ _ _ hq.wx.bx.x4).trans rfl, (cell_of_row _ _ _ _ _ _ hq.wx.x17).trans rfl, (hq.bel.cell (World.block_lt_of_cell? w _ hu)).trans hu, (cell_of_row _ _ _ _ _ _ hq.wx.bx.x5).trans rfl⟩
theorem Wq.drew {w : World} {E : Nat → Prop} {p : Pm} {k nx : Nat} {now : Int} {M : List (Rw Ds.Pr)} {S : Nat → Prop} {W0 W : World} (h : Wq w E p k now M nx S W0 W) : Wq w E p k now M nx S W0 W.drew := h.below (Below.drew (Below.refl _ W))
set_option maxHeartbeats 1000000 in
theorem results_bool {fn : Func} {p : Tmp} (h : fn.results = #[.cell p 4]) (tmps : Array Value) (w : World) (g : Nat) (b : Bool) (hp : tmps.getD p undef = .pointer (some ⟨g, 0, none⟩)) (hc : w.cell? ⟨g, 0, none⟩ = some (.bool b)) : (results fn tmps).run Try.prog w = .ok (.bool b) w := by
  have hp' : tmps[p]?.getD undef = .pointer (some ⟨g, 0, none⟩) := by simpa using hp
  simp only [results, h]
  simp [hp', asAddr]
  clear hp hp'
  go_simp
theorem below_put {B b : Nat} {w W : World} (h : Below B w W) (hb : B ≤ b) (o : Obj) : Below B w (W.putObj b o) := h.trans ⟨rfl, rfl, rfl, by simp, fun k hk => World.putObj_heap_other (by omega)⟩
theorem cell_put {b : Nat} {W : World} {a : Addr} (h : a.block ≠ b) (o : Obj) : (W.putObj b o).cell? a = W.cell? a := by simp [World.cell?, World.putObj_heap_other h]
end Go.Proofs.Ytajdopmhdagehaa.Rc
