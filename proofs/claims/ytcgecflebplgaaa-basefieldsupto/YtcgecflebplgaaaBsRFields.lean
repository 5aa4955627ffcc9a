/- The document's Fields, walked. -/
import Derived.Test.YtcgecflebplgaaaBsFields
set_option linter.unusedSimpArgs false
set_option linter.unusedVariables false
namespace Go.Proofs.Ytcgecflebplgaaa
open Go Go.RowKit

set_option maxRecDepth 100000 in
set_option maxHeartbeats 4000000 in
theorem rfields_any (w : World) (s : ByteArray) (hs : s.size ≤ 8796093022000) :
    Calls Try.prog 24 #[.string s] w fun e w' => ∃ v', e = .returned v' ∧ w'.ownsRow w.heap.size 9 1 v' (fieldsL (sB s)).length ((fieldsL (sB s)).map strV) ∧ Below w.heap.size w w' := by
  obtain ⟨l, HL⟩ : ∃ l, Hid (sB s = l) := ⟨_, rfl⟩
  have hll : l.length = s.size := by rw [← HL.out]; exact sB_length s
  rw [HL.out]
  obtain ⟨G, HG⟩ : ∃ G, Hid (fieldsL l = G) := ⟨_, rfl⟩
  have hgl : G.length ≤ s.size + 1 := by rw [← HG.out, ← hll]; exact fieldsL_len l
  rw [HG.out]
  go_enter Try.func24, Try.ntmps24
  go_wp2
  go_loopw [3, 4, 5] (fun o f i wr => ∃ I FR : Nat, ∃ fs : List (List Int), I ≤ s.size ∧ FR ≤ I ∧ f = .int .i64 (FR : Int) ∧ i = .int .i64 (I : Int) ∧ fs.length ≤ s.size ∧ Hid (wr.ownsRow w.heap.size 9 1 o fs.length (fs.map strV)) ∧ Hid (fs ++ fieldsL (l.drop FR) = G) ∧ Hid (58 ∉ (l.drop FR).take (I - FR)) ∧ Hid (Below w.heap.size w wr)) (fun _ _ i _ => s.size - (intOf i).toNat)
  case atStart => exact ⟨0, 0, [], Nat.zero_le _, Nat.le_refl _, rfl, rfl, Nat.zero_le _, World.ownsRow_nil _ _ _ _, by rw [List.drop_zero]; exact HG.out, hid (by simp), Below.refl _ _⟩
  case round =>
    obtain ⟨I, FR, fs, hI, hF, rfl, rfl, hfl, HO, HE, HN, HBw⟩ := hrel
    by_cases hlt : I < s.size
    · have q1 := idx_str wr s I hlt
      rw [HL.out] at q1
      by_cases hc : l.getD I 0 = 58
      · rw [hc] at q1
        have q2 := cut_str wr s FR I hF (by omega)
        rw [HL.out] at q2
        obtain ⟨f, Hf⟩ : ∃ f, Hid ((l.drop FR).take (I - FR) = f) := ⟨_, rfl⟩
        rw [Hf.out] at q2
        have HNf : Hid (58 ∉ f) := by rw [← Hf.out]; exact HN.out
        have HE2 : Hid ((fs ++ [f]) ++ fieldsL (l.drop (I + 1)) = G) := by
          refine hid ?_
          rw [← HE.out, drop_split hF (by omega : I < l.length), hc, Hf.out, fieldsL_cut _ _ HNf.out]
          simp
        have hlen2 : (fs ++ [f]).length + 1 ≤ s.size + 1 := by
          have h1 := congrArg List.length HE2.out
          have h2 := fieldsL_pos (l.drop (I + 1))
          rw [List.length_append] at h1
          omega
        have HO1 := HO
        have hsz0 := HBw.out.size
        have B2 := HBw
        go_wp2_with (at_builtin; refine wpList_append_str rfl _ _ rfl w.heap.size _ fs.length _ rfl (HO1.out.alloc _) ⟨wr.heap.size, 0, none⟩ 1 (bS f) rfl (by simp) ?q1 ?q2 ?_)
        case q1 => omega
        case q2 => simp; omega
        intro v' w2 hown2 hgr2
        have HO2 : Hid (w2.ownsRow w.heap.size 9 1 v' (fs ++ [f]).length ((fs ++ [f]).map strV)) := by
          rw [List.length_append, List.map_append]
          exact hown2
        have HB2 := hid ((B2.out.alloc (by omega) _).grown hgr2 (by simp; omega) (fun k e => (HO1.out.lt k e).1))
        clear hown2 hgr2
        go_wp2
        exact ⟨⟨I + 1, I + 1, fs ++ [f], by omega, Nat.le_refl _, by go_num, by go_num, by omega, HO2, HE2, hid (by simp), HB2⟩, by simp [intOf]; omega⟩
      · obtain ⟨x, Hx⟩ : ∃ x, Hid (l.getD I 0 = x) := ⟨_, rfl⟩
        rw [Hx.out] at q1 hc
        have HN2 : Hid (58 ∉ (l.drop FR).take (I + 1 - FR)) := by
          refine hid ?_
          rw [take_grow hF (by omega), Hx.out]
          intro h
          rcases List.mem_append.1 h with h | h
          · exact HN.out h
          · simp at h; exact hc h.symm
        go_wp2
        exact ⟨⟨I + 1, FR, fs, by omega, by omega, rfl, by go_num, hfl, HO, HE, HN2, HBw⟩, by simp [intOf]; omega⟩
    · have hI' : I = s.size := by omega
      have q2 := cut_str_end wr s FR (by omega)
      rw [HL.out] at q2
      have HG2 : Hid (G = fs ++ [l.drop FR]) := by
        refine hid ?_
        have := HN.out
        rw [List.take_of_length_le (by rw [List.length_drop]; omega)] at this
        rw [← HE.out, fieldsL_none _ this]
      obtain ⟨f, Hf⟩ : ∃ f, Hid (l.drop FR = f) := ⟨_, rfl⟩
      rw [Hf.out] at q2 HG2
      subst hI'
      have HO1 := HO
      have hsz0 := HBw.out.size
      have B2 := HBw
      go_wp2_with (at_builtin; refine wpList_append_str rfl _ _ rfl w.heap.size _ fs.length _ rfl (HO1.out.alloc _) ⟨wr.heap.size, 0, none⟩ 1 (bS f) rfl (by simp) ?q1 ?q2 ?_)
      case q1 => omega
      case q2 => simp; omega
      intro v' w2 hown2 hgr2
      have HO2 : Hid (w2.ownsRow w.heap.size 9 1 v' G.length (G.map strV)) := by
        rw [HG2.out, List.length_append, List.map_append]
        exact hown2
      have HB2 := hid ((B2.out.alloc (by omega) _).grown hgr2 (by simp; omega) (fun k e => (HO1.out.lt k e).1))
      clear hown2 hgr2
      go_wp2
      go_ret
      exact ⟨_, rfl, HO2.out, HB2.out⟩
end Go.Proofs.Ytcgecflebplgaaa
