/- mayBe of ueb, walked: it tells whether a table may be. -/
import Derived.Test.YtfaojnnpekpomaaDoorUbRow
import Derived.Laws.Cover1
set_option linter.unusedSimpArgs false
set_option linter.unusedVariables false
namespace Go.Proofs.YtfaojnnpekpomaaDoor
open Go Go.RowKit

theorem info_row : (Tryd.prog.info? 58).map (fun i => (i.zero, i.size, i.bytes)) = some (some (.agg #[.string ⟨#[]⟩, .slice none 0 0]), 2, 40) := by kernel_rfl
theorem size_row : (Tryd.prog.info? 58).map (·.size) = some 2 := by kernel_rfl
theorem getD_get {rs : List Rw} {k : Nat} (h : k < rs.length) : rs.getD k rw0 = rs[k] := by simp [List.getD, List.getElem?_eq_getElem h]
theorem take_snoc {rs : List Rw} {k : Nat} (h : k < rs.length) : rs.take (k + 1) = rs.take k ++ [rs.getD k rw0] := by rw [List.take_succ_eq_append_getElem h, getD_get h]
theorem okRows_not {rs : List Rw} {k : Nat} (h : k < rs.length) (hn : ¬ okRow (lastN noS (rs.take k)) (rs.getD k rw0)) : ¬ mayT rs := by
  intro hm
  have := okRows_take hm.2 (k + 1)
  rw [take_snoc h, okRows_snoc] at this
  exact hn this.2

set_option maxRecDepth 100000 in
set_option maxHeartbeats 2000000 in
theorem mayBe_any (w : World) (v : Value) (rs : List Rw) (h : HRw w v rs) :
    Calls Tryd.prog 31 #[v] w fun e w' => e = .returned (.bool (decide (mayT rs))) ∧ Below w.heap.size w w' := by
  obtain ⟨p, c, rfl, hlc, hcm, hrow⟩ := h.open
  have HR := hid hrow
  clear hrow h
  have hm63 : rs.length ≤ 9223372036854775807 := by unfold maxLen at hcm; omega
  obtain ⟨n, HN⟩ : ∃ n, Hid (rs.length = n) := ⟨_, rfl⟩
  rw [HN.out] at hlc hm63
  rw [HN.out]
  by_cases h64 : (64 : Int) < (n : Int)
  · have E := hid (show decide (mayT rs) = false by rw [decide_eq_false]; intro q; have := q.1; have := HN.out; omega)
    go_enter Tryd.func31, Tryd.ntmps31
    go_wp2
    go_ret
    exact ⟨by rw [E.out]; rfl, Below.refl _ _⟩
  · go_enter Tryd.func31, Tryd.ntmps31
    go_wp2
    go_loopw [3, 11] (fun last i wr => ∃ k : Nat, k ≤ n ∧ i = .int .i64 (k : Int) ∧ last = .string (lastN noS (rs.take k)) ∧ Hid (okRows noS (rs.take k)) ∧ Hid (Below w.heap.size w wr)) (fun _ i _ => n - (intOf i).toNat)
    case atStart => exact ⟨0, Nat.zero_le _, rfl, rfl, hid (by simp [okRows]), Below.refl _ _⟩
    case round =>
      obtain ⟨k, hk, rfl, rfl, HOK, HB0⟩ := hrel
      obtain ⟨last, HL⟩ : ∃ x, Hid (lastN noS (rs.take k) = x) := ⟨_, rfl⟩
      rw [HL.out]
      have hsz := HB0.out.size
      by_cases hlt : k < n
      · obtain ⟨b, off, rfl, hbl, hcell⟩ := HR.out (by have := HN.out; omega)
        obtain ⟨u, hu, hv⟩ := hcell k (by have := HN.out; omega)
        obtain ⟨⟨s, l⟩, Hx⟩ : ∃ x, Hid (rs.getD k rw0 = x) := ⟨_, rfl⟩
        rw [Hx.out] at hu hv
        have HU := hid (range_below2 hu HB0.out hbl)
        obtain ⟨pu, cu, rfl, hlu, hcu⟩ := hv.open
        have HV := hid hv
        clear hu hv hcell
        have HSZ := hid size_row
        have NO : Hid (¬ okRow last (s, l) → decide (mayT rs) = false) := by
          refine hid fun q => decide_eq_false (okRows_not (k := k) (by have := HN.out; omega) ?_)
          rw [HL.out, Hx.out]
          exact q
        by_cases hle : (Op.bytesLess s.toList last.toList || s.toList == last.toList) = true
        · have E := hid (NO.out (by rintro ⟨q, _⟩; unfold leS at q; simp only [hle] at q; cases q))
          go_wp2_with (refine wpList_load_mid rfl 58 _ rfl b (off + k * 2) rfl [.string s, .slice pu l.length cu] _ HU.out Tryd.underlying58 rfl HSZ.out ?_)
          go_ret
          exact ⟨by rw [E.out]; rfl, HB0.out.alloc hsz _⟩
        · have hle2 : (Op.bytesLess s.toList last.toList || s.toList == last.toList) = false := by simpa using hle
          clear hle
          by_cases hsz2 : (64 : Int) < (s.size : Int)
          · have E := hid (NO.out (by rintro ⟨_, q, _⟩; have q : s.size ≤ 64 := q; omega))
            go_wp2_with (refine wpList_load_mid rfl 58 _ rfl b (off + k * 2) rfl [.string s, .slice pu l.length cu] _ HU.out Tryd.underlying58 rfl HSZ.out ?_)
            go_ret
            exact ⟨by rw [E.out]; rfl, HB0.out.alloc hsz _⟩
          · by_cases hl2 : (65536 : Int) < (l.length : Int)
            · have E := hid (NO.out (by rintro ⟨_, _, q⟩; have q : l.length ≤ 65536 := q; omega))
              go_wp2_with (refine wpList_load_mid rfl 58 _ rfl b (off + k * 2) rfl [.string s, .slice pu l.length cu] _ HU.out Tryd.underlying58 rfl HSZ.out ?_)
              go_ret
              exact ⟨by rw [E.out]; rfl, HB0.out.alloc hsz _⟩
            · have HOK2 : Hid (okRows noS (rs.take (k + 1))) := by
                refine hid ?_
                rw [take_snoc (by have := HN.out; omega), okRows_snoc, Hx.out, HL.out]
                exact ⟨HOK.out, by unfold leS; exact hle2, by show s.size ≤ 64; omega, by show l.length ≤ 65536; omega⟩
              have HL2 : Hid (lastN noS (rs.take (k + 1)) = s) := by
                refine hid ?_
                rw [take_snoc (by have := HN.out; omega), lastN_snoc, Hx.out]
              go_wp2_with (refine wpList_load_mid rfl 58 _ rfl b (off + k * 2) rfl [.string s, .slice pu l.length cu] _ HU.out Tryd.underlying58 rfl HSZ.out ?_)
              exact ⟨⟨k + 1, by omega, by go_num, by rw [HL2.out], HOK2, HB0.out.alloc hsz _⟩, by simp [intOf]; omega⟩
      · have E : Hid (decide (mayT rs) = true) := by
          refine hid (decide_eq_true ⟨by have := HN.out; omega, ?_⟩)
          have := HOK.out
          rw [List.take_of_length_le (by have := HN.out; omega)] at this
          exact this
        go_wp2
        go_ret
        exact ⟨by rw [E.out]; rfl, HB0.out⟩
end Go.Proofs.YtfaojnnpekpomaaDoor
