/- The document's Word, fits, Bytes and Digest of nodes and pads, walked. -/
import Derived.Test.YtjmlpkemjafifaaDoorTgRef
import Derived.Test.YtjmlpkemjafifaaDoorTgPad
set_option linter.unusedVariables false
set_option linter.unusedSimpArgs false
namespace Go.Proofs.YtjmlpkemjafifaaDoor
open Go.RowKit

/-- The bytes of a text. -/
def strI (s : ByteArray) : List Int := s.data.toList.map fun b => ((b.toNat : Nat) : Int)
theorem strI_length (s : ByteArray) : (strI s).length = s.size := by
  unfold strI
  rw [List.length_map, Array.length_toList]
  rfl
theorem wpList_bytes_str {ops : Array Oper} {rest : List Oper} {o : Oper} {a : Act} {w : World} {Q : Exit → Act → World → Prop} (hgd : o.guard = none) (x : Operand) (ho : o.op = .convert 9 40 x) (s : ByteArray) (hx : a.eval x = .string s) (hs : s.size ≤ 1000)
    (h : ∀ v' w', HB w' v' (strI s) → Below w.heap.size w w' → wpList Tryd.prog ops Q rest (a.put o.dst v') w') : wpList Tryd.prog ops Q (o :: rest) a w :=
  wpList_plain hgd fun _ hK => by
    have hr := run_bytes_of_string (P := Tryd.prog) w 9 40 5 s Tryd.underlying9 Tryd.underlying40 Tryd.underlying5
    unfold Oper.wp
    simp only [execOp, ho, hx, Sem.run_bind, hr, Result.andThen_ok]
    have hge := grownCap_ge w s.size 0 5
    have hle := grownCap_le_maxLen w s.size 0 5 (by unfold maxLen; omega)
    refine hK _ _ (h _ _ ⟨⟨_, _, by rw [strI_length], by rw [strI_length]; exact hge, hle, (fun e => by cases e), fun _ => ⟨w.heap.size, 0, rfl, fun j hj => ?_⟩⟩, fun x hx => ?_⟩ ((Below.refl _ w).drew.alloc (Nat.le_refl _) _))
    · have hb : (w.drew.alloc (.cells (bytesRow s (grownCap w s.size 0 5)) 5 ((bytesRow s (grownCap w s.size 0 5)).size, (bytesRow s (grownCap w s.size 0 5)).size + 1))).heap[w.heap.size]? = some (.cells (bytesRow s (grownCap w s.size 0 5)) 5 ((bytesRow s (grownCap w s.size 0 5)).size, (bytesRow s (grownCap w s.size 0 5)).size + 1)) := heap_alloc_new w.drew _
      rw [cell_of_row _ _ _ _ _ _ hb]
      have hj2 : j < s.data.size := by rw [strI_length] at hj; exact hj
      have hj3 : j < s.size := hj2
      simp [bytesRow, Array.getElem?_append, hj3, strI, List.getD, Array.getElem?_eq_getElem hj2]
    · unfold strI at hx
      obtain ⟨b, _, rfl⟩ := List.mem_map.1 hx
      have := b.toNat_lt
      omega

def snode : ByteArray := ⟨((if 6 = 6 then wNode else wPad).map fun x => UInt8.ofNat x.toNat).toArray⟩
theorem snode_strI : strI snode = if 6 = 6 then wNode else wPad := by decide
set_option maxRecDepth 100000 in
set_option maxHeartbeats 1000000 in
theorem rword_node (w : World) : Calls Tryd.prog 70 #[.int .u8 6] w fun e w' => e = .returned (.string snode) ∧ w' = w := by
  go_enter Tryd.func70, Tryd.ntmps70
  go_wp2
  go_ret
  exact ⟨rfl, rfl⟩
def spad : ByteArray := ⟨((if 7 = 6 then wNode else wPad).map fun x => UInt8.ofNat x.toNat).toArray⟩
theorem spad_strI : strI spad = if 7 = 6 then wNode else wPad := by decide
set_option maxRecDepth 100000 in
set_option maxHeartbeats 1000000 in
theorem rword_pad (w : World) : Calls Tryd.prog 70 #[.int .u8 7] w fun e w' => e = .returned (.string spad) ∧ w' = w := by
  go_enter Tryd.func70, Tryd.ntmps70
  go_wp2
  go_ret
  exact ⟨rfl, rfl⟩
set_option maxRecDepth 100000 in
set_option maxHeartbeats 1000000 in
theorem rfits_node (w : World) (v : Value) (l r : List Int) (h : HL w v [l, r]) (hl : l.length = 32) (hr : r.length = 32) : Calls Tryd.prog 71 #[.int .u8 6, v] w fun e w' => e = .returned (.bool true) ∧ w' = w := by
  obtain ⟨b, off, c, rfl, hc1, hc2, hh⟩ := h.ne (by simp)
  obtain ⟨u0, h0, hb0⟩ := hh 0 (by simp)
  obtain ⟨u1, h1, hb1⟩ := hh 1 (by simp)
  obtain ⟨p0, c0, rfl, _, _⟩ := hb0.open
  obtain ⟨p1, c1, rfl, _, _⟩ := hb1.open
  simp only [List.getD_cons_zero, List.getD_cons_succ, hl, hr, List.length_cons, List.length_nil, Nat.add_zero, Nat.zero_add, Nat.reduceAdd] at h0 h1 ⊢
  clear hh hb0 hb1 h
  go_enter Tryd.func71, Tryd.ntmps71
  go_wp2
  go_ret
  exact ⟨rfl, rfl⟩
set_option maxRecDepth 100000 in
set_option maxHeartbeats 1000000 in
theorem rfits_pad (w : World) (v : Value) (l : List Int) (h : HL w v [l]) (hl : l.length = 4) : Calls Tryd.prog 71 #[.int .u8 7, v] w fun e w' => e = .returned (.bool true) ∧ w' = w := by
  obtain ⟨b, off, c, rfl, hc1, hc2, hh⟩ := h.ne (by simp)
  obtain ⟨u0, h0, hb0⟩ := hh 0 (by simp)
  obtain ⟨p0, c0, rfl, _, _⟩ := hb0.open
  simp only [List.getD_cons_zero, List.getD_cons_succ, hl, List.length_cons, List.length_nil, Nat.add_zero, Nat.zero_add, Nat.reduceAdd] at h0 ⊢
  clear hh hb0 h
  go_enter Tryd.func71, Tryd.ntmps71
  go_wp2
  go_ret
  exact ⟨rfl, rfl⟩
/-- The frames of a word and the first k parts. -/
def frK (wd : List Int) (ps : List (List Int)) (k : Nat) : List Int := framed (wd :: ps.take k)
theorem frK_zero (wd : List Int) (ps : List (List Int)) : frK wd ps 0 = fr1 wd := by simp [frK, framed, pcs, fr1]
theorem frK_snoc (wd : List Int) (ps : List (List Int)) (k : Nat) (hk : k < ps.length) : frK wd ps (k + 1) = frK wd ps k ++ fr1 (ps.getD k []) := by
  unfold frK framed
  rw [List.take_succ_eq_append_getElem hk]
  have e : ps.getD k [] = ps[k] := by simp [List.getD, List.getElem?_eq_getElem hk]
  rw [e]
  simp only [pcs, fr1, List.flatMap_cons, List.flatMap_append, List.flatMap_nil, List.flatten_append, List.flatten_cons, List.flatten_nil, List.append_nil, List.append_assoc, List.cons_append, List.nil_append]
theorem frK_all (wd : List Int) (ps : List (List Int)) : frK wd ps ps.length = framed (wd :: ps) := by simp [frK]
theorem frK_le (wd : List Int) (ps : List (List Int)) (k : Nat) : (frK wd ps k).length ≤ wd.length + 8 + (ps.flatten.length + 8 * ps.length) := by
  unfold frK
  rw [framed_length]
  have := flat_take_le ps k
  simp only [List.flatten_cons, List.length_append, List.length_cons, List.length_take]
  omega
theorem framed_byt : ∀ (ps : List (List Int)), (∀ l ∈ ps, ∀ x ∈ l, 0 ≤ x ∧ x < 256) → ∀ x ∈ framed ps, 0 ≤ x ∧ x < 256 := by
  intro ps h x hx
  unfold framed pcs at hx
  obtain ⟨l, h1, h2⟩ := List.mem_flatten.1 hx
  obtain ⟨q, h3, h4⟩ := List.mem_flatMap.1 h1
  simp only [List.mem_cons, List.not_mem_nil, or_false] at h4
  rcases h4 with rfl | rfl
  · exact bigL_byt _ _ x h2
  · exact h _ h3 x h2
set_option maxRecDepth 100000 in
set_option maxHeartbeats 2000000 in
theorem rbytes_node (w : World) (v : Value) (ps : List (List Int)) (h : HL w v ps) (hF : ∀ w', Below w.heap.size w w' → Calls Tryd.prog 71 #[.int .u8 6, v] w' fun e w'' => e = .returned (.bool true) ∧ w'' = w') (hbig : ps.flatten.length + 8 * ps.length ≤ 100000000000000) :
    Calls Tryd.prog 46 #[.int .u8 6, v] w fun e w' => ∃ v', e = .returned (.tuple #[v', .int .i64 0]) ∧ w'.ownsRow w.heap.size 5 1 v' (framed (strI snode :: ps)).length ((framed (strI snode :: ps)).map (Value.int .u8)) ∧ Below w.heap.size w w' := by
  have hsz : snode.size ≤ 1000 := by decide
  have hse : snode.toList.isEmpty = false := by decide +kernel
  have A0 := hid h
  obtain ⟨p, c, e, hlc, hm⟩ := h.open
  unfold maxLen at hm
  have A : Hid (0 < ps.length → ∃ b off, p = some ⟨b, off, none⟩ ∧ ∀ j, j < ps.length → ∃ u, w.cell? ⟨b, off + j, none⟩ = some u ∧ HB w u (ps.getD j [])) := by
    intro h0
    obtain ⟨b, off, c', e', _, _, hh⟩ := h.ne h0
    rw [e] at e'
    simp only [Value.slice.injEq, true_and] at e'
    exact ⟨b, off, e'.1, hh⟩
  have HF := hid hF
  obtain ⟨n, HN⟩ : ∃ n, Hid (ps.length = n) := ⟨_, rfl⟩
  have HBig := hid hbig
  rw [HN.out] at e hlc hbig
  subst e
  clear h hF
  go_enter Tryd.func46, Tryd.ntmps46
  go_wp2_with fail
  refine (rword_node _).mono ?_
  rintro e w1 ⟨rfl, rfl⟩
  go_wp2_with fail
  refine (HF.out _ (Below.refl _ _)).mono ?_
  rintro e w2 ⟨rfl, rfl⟩
  go_wp2_with fail
  refine (rword_node _).mono ?_
  rintro e w3 ⟨rfl, rfl⟩
  go_wp2_with (refine wpList_bytes_str rfl _ rfl snode rfl hsz ?_)
  intro v4 w4 hb4 hB4
  have HB4 := hid hb4
  have BL4 := hid hB4
  clear hb4 hB4
  go_wp2_with fail
  refine (rframe_any w4 v4 _ HB4.out (by rw [strI_length]; omega)).mono ?_
  rintro e w5 ⟨v5, rfl, ho5, hB5⟩
  have HO5 : Hid (w5.ownsRow w3.heap.size 5 1 v5 (frK (strI snode) ps 0).length ((frK (strI snode) ps 0).map (Value.int .u8))) := by
    rw [frK_zero]
    exact own_mono ho5 BL4.out.size
  have BL5 := hid (BL4.out.trans (hB5.mono BL4.out.size))
  clear ho5 hB5
  go_wp2
  go_loopw [6, 7] (fun o i wr => ∃ k : Nat, k ≤ n ∧ i = .int .i64 k ∧ Hid (wr.ownsRow w3.heap.size 5 1 o (frK (strI snode) ps k).length ((frK (strI snode) ps k).map (Value.int .u8))) ∧ Hid (Below w3.heap.size w3 wr)) (fun _ i _ => n - (intOf i).toNat)
  case atStart => exact ⟨0, Nat.zero_le _, rfl, HO5, BL5⟩
  case round =>
    obtain ⟨k, hk, rfl, HO, HBel⟩ := hrel
    by_cases hlt : k < n
    · obtain ⟨b, off, rfl, hh⟩ := A.out (by rw [HN.out]; omega)
      obtain ⟨u, hu0, hb⟩ := hh k (by rw [HN.out]; exact hlt)
      have hu : wr.cell? ⟨b, off + k, none⟩ = some u := (HBel.out.cell (World.block_lt_of_cell? w3 _ hu0)).trans hu0
      have HBu := hid (hb.below HBel.out)
      have hls : (ps.getD k []).length ≤ 100000000000000 := by
        have h1 := flat_take_le ps (k + 1)
        rw [flat_snoc ps k (by rw [HN.out]; exact hlt), List.length_append] at h1
        have := HBig.out
        omega
      have HS := hid (frK_snoc (strI snode) ps k (by rw [HN.out]; exact hlt))
      have HLe := hid (frK_le (strI snode) ps (k + 1))
      rw [HS.out, List.length_append, strI_length] at HLe
      clear hh hb hu0
      go_wp2_with fail
      refine (rframe_any wr u _ HBu.out (by omega)).mono ?_
      rintro e w6 ⟨v6, rfl, ho6, hB6⟩
      have HB6 : Hid (HB w6 v6 (fr1 (ps.getD k []))) := HB.of_own ho6 (fr1_byt HBu.out.2)
      have HO6 := hid (own_below HO.out hB6)
      have BL6 := hid (HBel.out.trans (hB6.mono HBel.out.size))
      clear ho6 hB6
      go_wp2_with (at_builtin; refine wpList_append_HB rfl _ _ rfl w3.heap.size _ _ _ rfl HO6.out _ _ rfl HB6.out ?q1 ?q2 ?_)
      case q1 => have := HLe.out; have := HBig.out; omega
      case q2 => exact BL6.out.size
      intro v7 w7 ho7 hg7
      have HO7 : Hid (w7.ownsRow w3.heap.size 5 1 v7 (frK (strI snode) ps (k + 1)).length ((frK (strI snode) ps (k + 1)).map (Value.int .u8))) := by
        rw [HS.out, List.length_append, List.map_append]
        exact ho7
      have BL7 : Hid (Below w3.heap.size w3 w7) := BL6.out.grown hg7 BL6.out.size (fun k e => (HO6.out.lt k e).1)
      clear ho7 hg7
      go_wp2
      exact ⟨⟨k + 1, by omega, by go_num, HO7, BL7⟩, by simp [intOf]; omega⟩
    · have hkn : k = ps.length := by rw [HN.out]; omega
      have HO8 := hid HO.out
      rw [hkn, frK_all] at HO8
      go_wp2
      go_ret2
      exact ⟨_, rfl, HO8.out, HBel.out⟩
set_option maxRecDepth 100000 in
set_option maxHeartbeats 2000000 in
theorem rbytes_pad (w : World) (v : Value) (ps : List (List Int)) (h : HL w v ps) (hF : ∀ w', Below w.heap.size w w' → Calls Tryd.prog 71 #[.int .u8 7, v] w' fun e w'' => e = .returned (.bool true) ∧ w'' = w') (hbig : ps.flatten.length + 8 * ps.length ≤ 100000000000000) :
    Calls Tryd.prog 46 #[.int .u8 7, v] w fun e w' => ∃ v', e = .returned (.tuple #[v', .int .i64 0]) ∧ w'.ownsRow w.heap.size 5 1 v' (framed (strI spad :: ps)).length ((framed (strI spad :: ps)).map (Value.int .u8)) ∧ Below w.heap.size w w' := by
  have hsz : spad.size ≤ 1000 := by decide
  have hse : spad.toList.isEmpty = false := by decide +kernel
  have A0 := hid h
  obtain ⟨p, c, e, hlc, hm⟩ := h.open
  unfold maxLen at hm
  have A : Hid (0 < ps.length → ∃ b off, p = some ⟨b, off, none⟩ ∧ ∀ j, j < ps.length → ∃ u, w.cell? ⟨b, off + j, none⟩ = some u ∧ HB w u (ps.getD j [])) := by
    intro h0
    obtain ⟨b, off, c', e', _, _, hh⟩ := h.ne h0
    rw [e] at e'
    simp only [Value.slice.injEq, true_and] at e'
    exact ⟨b, off, e'.1, hh⟩
  have HF := hid hF
  obtain ⟨n, HN⟩ : ∃ n, Hid (ps.length = n) := ⟨_, rfl⟩
  have HBig := hid hbig
  rw [HN.out] at e hlc hbig
  subst e
  clear h hF
  go_enter Tryd.func46, Tryd.ntmps46
  go_wp2_with fail
  refine (rword_pad _).mono ?_
  rintro e w1 ⟨rfl, rfl⟩
  go_wp2_with fail
  refine (HF.out _ (Below.refl _ _)).mono ?_
  rintro e w2 ⟨rfl, rfl⟩
  go_wp2_with fail
  refine (rword_pad _).mono ?_
  rintro e w3 ⟨rfl, rfl⟩
  go_wp2_with (refine wpList_bytes_str rfl _ rfl spad rfl hsz ?_)
  intro v4 w4 hb4 hB4
  have HB4 := hid hb4
  have BL4 := hid hB4
  clear hb4 hB4
  go_wp2_with fail
  refine (rframe_any w4 v4 _ HB4.out (by rw [strI_length]; omega)).mono ?_
  rintro e w5 ⟨v5, rfl, ho5, hB5⟩
  have HO5 : Hid (w5.ownsRow w3.heap.size 5 1 v5 (frK (strI spad) ps 0).length ((frK (strI spad) ps 0).map (Value.int .u8))) := by
    rw [frK_zero]
    exact own_mono ho5 BL4.out.size
  have BL5 := hid (BL4.out.trans (hB5.mono BL4.out.size))
  clear ho5 hB5
  go_wp2
  go_loopw [6, 7] (fun o i wr => ∃ k : Nat, k ≤ n ∧ i = .int .i64 k ∧ Hid (wr.ownsRow w3.heap.size 5 1 o (frK (strI spad) ps k).length ((frK (strI spad) ps k).map (Value.int .u8))) ∧ Hid (Below w3.heap.size w3 wr)) (fun _ i _ => n - (intOf i).toNat)
  case atStart => exact ⟨0, Nat.zero_le _, rfl, HO5, BL5⟩
  case round =>
    obtain ⟨k, hk, rfl, HO, HBel⟩ := hrel
    by_cases hlt : k < n
    · obtain ⟨b, off, rfl, hh⟩ := A.out (by rw [HN.out]; omega)
      obtain ⟨u, hu0, hb⟩ := hh k (by rw [HN.out]; exact hlt)
      have hu : wr.cell? ⟨b, off + k, none⟩ = some u := (HBel.out.cell (World.block_lt_of_cell? w3 _ hu0)).trans hu0
      have HBu := hid (hb.below HBel.out)
      have hls : (ps.getD k []).length ≤ 100000000000000 := by
        have h1 := flat_take_le ps (k + 1)
        rw [flat_snoc ps k (by rw [HN.out]; exact hlt), List.length_append] at h1
        have := HBig.out
        omega
      have HS := hid (frK_snoc (strI spad) ps k (by rw [HN.out]; exact hlt))
      have HLe := hid (frK_le (strI spad) ps (k + 1))
      rw [HS.out, List.length_append, strI_length] at HLe
      clear hh hb hu0
      go_wp2_with fail
      refine (rframe_any wr u _ HBu.out (by omega)).mono ?_
      rintro e w6 ⟨v6, rfl, ho6, hB6⟩
      have HB6 : Hid (HB w6 v6 (fr1 (ps.getD k []))) := HB.of_own ho6 (fr1_byt HBu.out.2)
      have HO6 := hid (own_below HO.out hB6)
      have BL6 := hid (HBel.out.trans (hB6.mono HBel.out.size))
      clear ho6 hB6
      go_wp2_with (at_builtin; refine wpList_append_HB rfl _ _ rfl w3.heap.size _ _ _ rfl HO6.out _ _ rfl HB6.out ?q1 ?q2 ?_)
      case q1 => have := HLe.out; have := HBig.out; omega
      case q2 => exact BL6.out.size
      intro v7 w7 ho7 hg7
      have HO7 : Hid (w7.ownsRow w3.heap.size 5 1 v7 (frK (strI spad) ps (k + 1)).length ((frK (strI spad) ps (k + 1)).map (Value.int .u8))) := by
        rw [HS.out, List.length_append, List.map_append]
        exact ho7
      have BL7 : Hid (Below w3.heap.size w3 w7) := BL6.out.grown hg7 BL6.out.size (fun k e => (HO6.out.lt k e).1)
      clear ho7 hg7
      go_wp2
      exact ⟨⟨k + 1, by omega, by go_num, HO7, BL7⟩, by simp [intOf]; omega⟩
    · have hkn : k = ps.length := by rw [HN.out]; omega
      have HO8 := hid HO.out
      rw [hkn, frK_all] at HO8
      go_wp2
      go_ret2
      exact ⟨_, rfl, HO8.out, HBel.out⟩
end Go.Proofs.YtjmlpkemjafifaaDoor
