/- UebKnown, walked. -/
import Derived.Test.YthcdefidoibopabDoorUbKnM
set_option linter.unusedSimpArgs false
set_option linter.unusedVariables false
namespace Go.Proofs.YthcdefidoibopabDoor
open Go Go.RowKit

def tx1 : ByteArray := ⟨#[49, 58, 97, 44, 51, 58, 120, 121, 122, 44, 49, 58, 97, 44, 48, 58, 44]⟩
def tx2 : ByteArray := ⟨#[48, 49, 58, 97, 44, 48, 58, 44]⟩
def tx3 : ByteArray := ⟨#[49, 58, 97, 44, 49, 58]⟩
theorem tx1_is : sB tx1 = k1 := by decide
theorem tx2_is : sB tx2 = k2 := by decide
theorem tx3_is : sB tx3 = k3 := by decide
theorem run_conv_lit (w : World) (l : List Int) : (convert 24 24 (.slice (some ⟨w.heap.size, 0, none⟩) l.length l.length)).run Tryd.prog (w.alloc (.cells (l.map (Value.int .u8)).toArray 5)) = .ok (.slice (some ⟨w.heap.size, 0, none⟩) l.length l.length) (w.alloc (.cells (l.map (Value.int .u8)).toArray 5 ((l.map (Value.int .u8)).toArray.size, (l.map (Value.int .u8)).toArray.size + 1))) :=
  Lib.run_convert_bytes_const (P := Tryd.prog) w 24 5 _ _ _ Tryd.underlying24 Tryd.underlying5
theorem packK_byt : Byt8 (packL (ubRows ubK)) := by
  have h : ∀ r ∈ ubRows ubK, Byt8 r.2 := by
    intro r hr
    simp only [ubRows, List.mem_cons, List.not_mem_nil, or_false] at hr
    rcases hr with rfl | rfl | rfl | rfl | rfl | rfl
    · exact dgL_byt _
    · exact dgL_byt _
    · exact dgL_byt _
    · exact ubK_ok.2.2
    · exact ubK_ok.1.2
    · exact dgL_byt _
  exact packL_byt h
set_option maxRecDepth 100000 in
set_option maxHeartbeats 16000000 in
theorem uebKnown_walk (w : World) (hk : KD w) : Calls Tryd.prog 4 #[] w fun e w' => e = .returned (.bool true) ∧ Below w.heap.size w w' := by
  have HK := hid hk
  have C0 := hid (uawake_any w hk.kp)
  clear hk
  go_enter Tryd.func4, Tryd.ntmps4
  go_wp2_with fail
  refine C0.out.mono ?_
  rintro e w1 ⟨rfl, hb1⟩
  have B1 := hid hb1
  clear hb1 C0
  obtain ⟨w2, HW2⟩ : ∃ x, Hid (w1.alloc (.cells #[.string ⟨#[98]⟩, .slice none 0 0, .string ⟨#[97]⟩, .slice none 0 0] 34) = x) := ⟨_, rfl⟩
  have hk2 : w2.heap[w1.heap.size]? = some (.cells #[.string ⟨#[98]⟩, .slice none 0 0, .string ⟨#[97]⟩, .slice none 0 0] 34 (0, 0)) := by rw [← HW2.out]; exact heap_alloc_new w1 _
  have hb2 : Below w1.heap.size w1 w2 := by rw [← HW2.out]; exact (Below.refl _ w1).alloc (Nat.le_refl _) _
  have B2 := hid (B1.out.trans (hb2.mono B1.out.size))
  have hR2 : HRw w2 (.slice (some ⟨w1.heap.size, 0, none⟩) 2 2) [(sBb, []), (sA, [])] := by
    refine HRw.of_own (base := 0) (e := 34) (vs := [.slice none 0 0, .slice none 0 0]) ⟨rfl, .inr ⟨w1.heap.size, 2, _, rfl, Nat.zero_le _, hk2, Nat.le_refl _, by unfold maxLen; omega, rfl, rfl⟩⟩ rfl ?_
    intro i hi
    match i, hi with
    | 0, _ => exact HB.nil _
    | 1, _ => exact HB.nil _
    | i + 2, h => exact absurd (show i + 2 < 2 from h) (by omega)
  have C2 := pack_any w2 _ _ hR2 (HK.out.below B2.out).kp
  rw [show pkE [(sBb, []), (sA, [])] = 130 from by unfold pkE; rw [if_neg ba_no], show pkL [(sBb, []), (sA, [])] = [] from by unfold pkL; rw [if_neg ba_no]] at C2
  have C2 := hid C2
  clear hk2 hb2 hR2
  go_wp2_with fail
  rw [HW2.out]
  refine C2.out.mono ?_
  rintro e w3 ⟨v3, rfl, hown3, hb3⟩
  have B3 := hid (B2.out.trans (hb3.mono B2.out.size))
  obtain ⟨p3, c3, rfl⟩ := own_slc hown3
  clear hown3 hb3 C2
  have qc4 : (convert 24 24 (.slice (some ⟨w3.heap.size, 0, none⟩) 17 17)).run Tryd.prog (w3.alloc (.cells #[.int .u8 49, .int .u8 58, .int .u8 97, .int .u8 44, .int .u8 51, .int .u8 58, .int .u8 120, .int .u8 121, .int .u8 122, .int .u8 44, .int .u8 49, .int .u8 58, .int .u8 98, .int .u8 44, .int .u8 48, .int .u8 58, .int .u8 44] 5)) = .ok (.slice (some ⟨w3.heap.size, 0, none⟩) 17 17) (w3.alloc (.cells #[.int .u8 49, .int .u8 58, .int .u8 97, .int .u8 44, .int .u8 51, .int .u8 58, .int .u8 120, .int .u8 121, .int .u8 122, .int .u8 44, .int .u8 49, .int .u8 58, .int .u8 98, .int .u8 44, .int .u8 48, .int .u8 58, .int .u8 44] 5 (17, 18))) := run_conv_lit w3 kb
  obtain ⟨w4, HW4⟩ : ∃ x, Hid (w3.alloc (.cells #[.int .u8 49, .int .u8 58, .int .u8 97, .int .u8 44, .int .u8 51, .int .u8 58, .int .u8 120, .int .u8 121, .int .u8 122, .int .u8 44, .int .u8 49, .int .u8 58, .int .u8 98, .int .u8 44, .int .u8 48, .int .u8 58, .int .u8 44] 5 (17, 18)) = x) := ⟨_, rfl⟩
  rw [HW4.out] at qc4
  have hk4 : w4.heap[w3.heap.size]? = some (.cells ((kb : List Int).map (Value.int .u8)).toArray 5 (17, 18)) := by rw [← HW4.out]; exact heap_alloc_new w3 _
  have hb4 : Below w3.heap.size w3 w4 := by rw [← HW4.out]; exact (Below.refl _ w3).alloc (Nat.le_refl _) _
  have HX4 : Hid (HB w4 (.slice (some ⟨w3.heap.size, 0, none⟩) 17 17) kb) := HB_lit hk4 (by decide) (by intro x hx; simp [kb] at hx; omega)
  have B4 := hid (B3.out.trans (hb4.mono B3.out.size))
  clear hk4 hb4
  have C4 := hid (unpack_any w4 _ kb HX4.out (HK.out.below B4.out))
  go_wp2_with fail
  refine C4.out.mono ?_
  rintro e w5 ⟨rv5, rs5, vs5, k5, e5, rfl, hq5, hown5, hb5⟩
  rw [← kb_is] at hq5
  obtain ⟨rfl, rfl, rfl⟩ := hq5.of_pack kb_may
  have B5 := hid (B4.out.trans (hb5.mono B4.out.size))
  have HH5 := hid hown5.held
  clear hown5 hb5 hq5 C4
  have qc6 : (convert 24 24 (.slice (some ⟨w5.heap.size, 0, none⟩) 3 3)).run Tryd.prog (w5.alloc (.cells #[.int .u8 120, .int .u8 121, .int .u8 122] 5)) = .ok (.slice (some ⟨w5.heap.size, 0, none⟩) 3 3) (w5.alloc (.cells #[.int .u8 120, .int .u8 121, .int .u8 122] 5 (3, 4))) := run_conv_lit w5 [120, 121, 122]
  obtain ⟨w6, HW6⟩ : ∃ x, Hid (w5.alloc (.cells #[.int .u8 120, .int .u8 121, .int .u8 122] 5 (3, 4)) = x) := ⟨_, rfl⟩
  rw [HW6.out] at qc6
  have hk6 : w6.heap[w5.heap.size]? = some (.cells (([120, 121, 122] : List Int).map (Value.int .u8)).toArray 5 (3, 4)) := by rw [← HW6.out]; exact heap_alloc_new w5 _
  have hb6 : Below w5.heap.size w5 w6 := by rw [← HW6.out]; exact (Below.refl _ w5).alloc (Nat.le_refl _) _
  have HX6 : Hid (HB w6 (.slice (some ⟨w5.heap.size, 0, none⟩) 3 3) [120, 121, 122]) := HB_lit hk6 (by decide) (by intro x hx; simp at hx; omega)
  have B6 := hid (B5.out.trans (hb6.mono B5.out.size))
  have B56 := hid hb6
  clear hk6 hb6
  obtain ⟨w7, HW7⟩ : ∃ x, Hid (w6.alloc (.cells #[.string ⟨#[97]⟩, .slice (some ⟨w5.heap.size, 0, none⟩) 3 3, .string ⟨#[98]⟩, .slice none 0 0] 34) = x) := ⟨_, rfl⟩
  have hk7 : w7.heap[w6.heap.size]? = some (.cells #[.string ⟨#[97]⟩, .slice (some ⟨w5.heap.size, 0, none⟩) 3 3, .string ⟨#[98]⟩, .slice none 0 0] 34 (0, 0)) := by rw [← HW7.out]; exact heap_alloc_new w6 _
  have hb7 : Below w6.heap.size w6 w7 := by rw [← HW7.out]; exact (Below.refl _ w6).alloc (Nat.le_refl _) _
  have B7 := hid (B6.out.trans (hb7.mono B6.out.size))
  have hR7 : HRw w7 (.slice (some ⟨w6.heap.size, 0, none⟩) 2 2) [(sA, [120, 121, 122]), (sBb, [])] := by
    refine HRw.of_own (base := 0) (e := 34) (vs := [.slice (some ⟨w5.heap.size, 0, none⟩) 3 3, .slice none 0 0]) ⟨rfl, .inr ⟨w6.heap.size, 2, _, rfl, Nat.zero_le _, hk7, Nat.le_refl _, by unfold maxLen; omega, rfl, rfl⟩⟩ rfl ?_
    intro i hi
    match i, hi with
    | 0, _ => exact HX6.out.below hb7
    | 1, _ => exact HB.nil _
    | i + 2, h => exact absurd (show i + 2 < 2 from h) (by omega)
  have C7 := sameRows_any w7 _ _ _ _ (HH5.out.below (B56.out.trans (hb7.mono B56.out.size))) hR7
  rw [decide_eq_true rfl] at C7
  have C7 := hid C7
  clear hk7 hb7 hR7
  go_wp2_with fail
  rw [HW7.out]
  refine C7.out.mono ?_
  rintro e w8 ⟨rfl, hd8⟩
  have B8 := hid (B7.out.trans (hd8.below _))
  clear hd8 C7
  obtain ⟨w9, HW9⟩ : ∃ x, Hid (w8.alloc (.cells #[.string tx1, .string tx2, .string tx3] 9) = x) := ⟨_, rfl⟩
  have hk9 : w9.heap[w8.heap.size]? = some (.cells #[.string tx1, .string tx2, .string tx3] 9 (0, 0)) := by rw [← HW9.out]; exact heap_alloc_new w8 _
  have hb9 : Below w8.heap.size w8 w9 := by rw [← HW9.out]; exact (Below.refl _ w8).alloc (Nat.le_refl _) _
  obtain ⟨w10, HW10⟩ : ∃ x, Hid (w9.alloc (.cells #[.int .i64 10, .int .i64 0, .int .i64 0] 3) = x) := ⟨_, rfl⟩
  have hk10 : w10.heap[w9.heap.size]? = some (.cells #[.int .i64 10, .int .i64 0, .int .i64 0] 3 (0, 0)) := by rw [← HW10.out]; exact heap_alloc_new w9 _
  have hb10 : Below w9.heap.size w9 w10 := by rw [← HW10.out]; exact (Below.refl _ w9).alloc (Nat.le_refl _) _
  have B10 := hid ((B8.out.trans (hb9.mono B8.out.size)).trans (hb10.mono (B8.out.trans (hb9.mono B8.out.size)).size))
  have HT10 : Hid (w10.heap[w8.heap.size]? = some (.cells #[.string tx1, .string tx2, .string tx3] 9 (0, 0))) := (hb10.block _ (Array.getElem?_eq_some_iff.1 hk9).1).trans hk9
  have HP10 := hid hk10
  have hl8 : w8.heap.size < w10.heap.size := (Array.getElem?_eq_some_iff.1 HT10.out).1
  have hl9 : w9.heap.size < w10.heap.size := (Array.getElem?_eq_some_iff.1 hk10).1
  have HS9 : Hid (w9.heap.size = w8.heap.size + 1) := by refine hid ?_; rw [← HW9.out]; simp
  clear hk9 hb9 hk10 hb10
  go_wp2
  change Code.wp _ _ _ _ ((w8.alloc (.cells #[.string tx1, .string tx2, .string tx3] 9)).alloc (.cells #[.int .i64 10, .int .i64 0, .int .i64 0] 3))
  rw [HW9.out, HW10.out]
  go_loopw [8] (fun i wr => ∃ k : Nat, k ≤ 3 ∧ i = .int .i64 (k : Int) ∧ Hid (Below w10.heap.size w10 wr)) (fun i _ => 3 - (intOf i).toNat)
  case atStart => exact ⟨0, Nat.zero_le _, rfl, Below.refl _ _⟩
  case round =>
    obtain ⟨k, hk3, rfl, HB0⟩ := hrel
    have BW := hid (B10.out.trans (HB0.out.mono B10.out.size))
    have hbt : Bk wr w8.heap.size #[.string tx1, .string tx2, .string tx3] 9 := (HB0.out.block _ hl8).trans HT10.out
    have hbp : Bk wr w9.heap.size #[.int .i64 10, .int .i64 0, .int .i64 0] 3 := (HB0.out.block _ hl9).trans HP10.out
    have HBT := hid hbt
    have HBP := hid hbp
    clear hbt hbp
    have hkk : k = 0 ∨ k = 1 ∨ k = 2 ∨ k = 3 := by omega
    rcases hkk with rfl | rfl | rfl | rfl
    · have hc1 := HBT.out.cell 0 (.string tx1) rfl
      have hs47 : tx1.size ≤ 140737488355328 := by decide
      go_wp2_with (refine wpList_bytes_strD rfl _ rfl tx1 rfl hs47 ?_)
      intro c11 w11 hf11 hb11 hz11
      rw [tx1_is] at hf11
      have C11 := hid (unpack_any w11 _ k1 hf11 (HK.out.below (BW.out.trans (hb11.mono BW.out.size))))
      have B11 := hid (HB0.out.trans (hb11.mono HB0.out.size))
      have HP11 := hid (HBP.out.below hb11)
      clear hf11 hb11 hz11 hc1 hs47
      go_wp2_with fail
      refine C11.out.mono ?_
      rintro e w12 ⟨rv, rs, vs, kq, eq, rfl, hq, hown, hb12⟩
      obtain ⟨rfl, rfl, rfl⟩ := k1_at hq
      have B12 := hid (B11.out.trans (hb12.mono B11.out.size))
      have hc2 := (HP11.out.below hb12).cell 0 (.int .i64 10) rfl
      rw [HS9.out] at hc2
      clear hq hown hb12 C11
      go_wp2
      exact ⟨⟨1, by omega, by go_num, B12⟩, by simp [intOf]⟩
    · have hc1 := HBT.out.cell 1 (.string tx2) rfl
      have hs47 : tx2.size ≤ 140737488355328 := by decide
      go_wp2_with (refine wpList_bytes_strD rfl _ rfl tx2 rfl hs47 ?_)
      intro c11 w11 hf11 hb11 hz11
      rw [tx2_is] at hf11
      have C11 := hid (unpack_any w11 _ k2 hf11 (HK.out.below (BW.out.trans (hb11.mono BW.out.size))))
      have B11 := hid (HB0.out.trans (hb11.mono HB0.out.size))
      have HP11 := hid (HBP.out.below hb11)
      clear hf11 hb11 hz11 hc1 hs47
      go_wp2_with fail
      refine C11.out.mono ?_
      rintro e w12 ⟨rv, rs, vs, kq, eq, rfl, hq, hown, hb12⟩
      obtain ⟨rfl, rfl, rfl⟩ := k2_at hq
      have B12 := hid (B11.out.trans (hb12.mono B11.out.size))
      have hc2 := (HP11.out.below hb12).cell 1 (.int .i64 0) rfl
      rw [HS9.out] at hc2
      clear hq hown hb12 C11
      go_wp2
      exact ⟨⟨2, by omega, by go_num, B12⟩, by simp [intOf]⟩
    · have hc1 := HBT.out.cell 2 (.string tx3) rfl
      have hs47 : tx3.size ≤ 140737488355328 := by decide
      go_wp2_with (refine wpList_bytes_strD rfl _ rfl tx3 rfl hs47 ?_)
      intro c11 w11 hf11 hb11 hz11
      rw [tx3_is] at hf11
      have C11 := hid (unpack_any w11 _ k3 hf11 (HK.out.below (BW.out.trans (hb11.mono BW.out.size))))
      have B11 := hid (HB0.out.trans (hb11.mono HB0.out.size))
      have HP11 := hid (HBP.out.below hb11)
      clear hf11 hb11 hz11 hc1 hs47
      go_wp2_with fail
      refine C11.out.mono ?_
      rintro e w12 ⟨rv, rs, vs, kq, eq, rfl, hq, hown, hb12⟩
      obtain ⟨rfl, rfl, rfl⟩ := k3_at hq
      have B12 := hid (B11.out.trans (hb12.mono B11.out.size))
      have hc2 := (HP11.out.below hb12).cell 2 (.int .i64 0) rfl
      rw [HS9.out] at hc2
      clear hq hown hb12 C11
      go_wp2
      exact ⟨⟨3, by omega, by go_num, B12⟩, by simp [intOf]⟩
    · have C13 := hid (unpack_any wr (.slice none 0 0) [] (HB.nil _) (HK.out.below BW.out))
      go_wp2_with fail
      refine C13.out.mono ?_
      rintro e w13 ⟨rv, rs, vs, kq, eq, rfl, hq, hown, hb13⟩
      obtain ⟨rfl, rfl, rfl⟩ := nil_at hq
      have B13 := hid (BW.out.trans (hb13.mono BW.out.size))
      obtain ⟨pr, cr, rfl⟩ : ∃ p c, rv = .slice p 0 c := by
        rcases hown.1.2 with ⟨e, e0⟩ | ⟨g, cap, cur, e, _⟩
        · exact ⟨none, 0, e⟩
        · exact ⟨_, cap, e⟩
      have C14 := hid (known_any w13)
      have C15 := hid fun w => write_any w ubK ubK_ok
      rw [ubK_ch, show wrL ubK = packL (ubRows ubK) from by unfold wrL; rw [if_pos ubK_ch]] at C15
      obtain ⟨m, HM⟩ : ∃ x, Hid (ubA ubK = x) := ⟨_, rfl⟩
      rw [HM.out] at C14 C15
      clear hq hown hb13 C13
      go_wp2_with fail
      refine C14.out.mono ?_
      rintro e w14 ⟨rfl, hb14⟩
      have B14 := hid (B13.out.trans (hb14.mono B13.out.size))
      clear hb14 C14
      go_wp2_with fail
      refine (C15.out w14 (HK.out.below B14.out).kp).mono ?_
      rintro e w15 ⟨v15, rfl, hown15, hb15⟩
      have B15 := hid (B14.out.trans (hb15.mono B14.out.size))
      have HO15 := hid hown15
      have hlK : (packL (ubRows ubK)).length = 134 := by have := ubK_len; unfold wrL at this; rw [if_pos ubK_ch] at this; exact this
      obtain ⟨PK, HPK⟩ : ∃ x, Hid (packL (ubRows ubK) = x) := ⟨_, rfl⟩
      rw [HPK.out] at HO15 hlK
      have hs14 := hb15.size
      clear hown15 hb15
      have qc16 : (convert 24 24 (.slice (some ⟨w15.heap.size, 0, none⟩) 7 7)).run Tryd.prog (w15.alloc (.cells #[.int .u8 49, .int .u8 58, .int .u8 122, .int .u8 44, .int .u8 48, .int .u8 58, .int .u8 44] 5)) = .ok (.slice (some ⟨w15.heap.size, 0, none⟩) 7 7) (w15.alloc (.cells #[.int .u8 49, .int .u8 58, .int .u8 122, .int .u8 44, .int .u8 48, .int .u8 58, .int .u8 44] 5 (7, 8))) := run_conv_lit w15 kz
      obtain ⟨w16, HW16⟩ : ∃ x, Hid (w15.alloc (.cells #[.int .u8 49, .int .u8 58, .int .u8 122, .int .u8 44, .int .u8 48, .int .u8 58, .int .u8 44] 5 (7, 8)) = x) := ⟨_, rfl⟩
      rw [HW16.out] at qc16
      have hk16 : w16.heap[w15.heap.size]? = some (.cells ((kz : List Int).map (Value.int .u8)).toArray 5 (7, 8)) := by rw [← HW16.out]; exact heap_alloc_new w15 _
      have hb16 : Below w15.heap.size w15 w16 := by rw [← HW16.out]; exact (Below.refl _ w15).alloc (Nat.le_refl _) _
      have HX16 : Hid (HB w16 (.slice (some ⟨w15.heap.size, 0, none⟩) 7 7) kz) := HB_lit hk16 (by decide) (by intro x hx; simp [kz] at hx; omega)
      have B16 := hid (B15.out.trans (hb16.mono B15.out.size))
      have HB16 := hid hb16
      clear hk16 hb16
      go_wp2_with (at_builtin; refine wpList_append_bytes rfl _ _ rfl w14.heap.size _ PK.length _ rfl (own_below HO15.out HB16.out) _ kz rfl HX16.out ?q1 ?q2 ?_)
      case q1 => rw [hlK]; decide
      case q2 => have := HB16.out.size; omega
      intro v17 w17 hown17 hg17 hp17
      have B17 := hid (B16.out.grown hg17 (by have := B16.out.size; omega) (fun q e => by have := (HO15.out.lt q e).1; have := B14.out.size; omega))
      have HO17 : Hid (w17.ownsRow w14.heap.size 5 1 v17 (PK ++ kz).length ((PK ++ kz).map (Value.int .u8))) := by
        refine hid ?_
        rw [List.length_append, List.map_append, hlK]
        exact hown17
      have hby : Byt8 (PK ++ kz) := by
        rw [← HPK.out]
        intro x hx
        rcases List.mem_append.1 hx with hx | hx
        · exact packK_byt x hx
        · exact kz_byt x hx
      have HRD : Hid (∀ (u : Ub) (k : Nat) (e : Int), ReadQ (PK ++ kz) u k e → e = 132 ∧ k = 0) := hid fun u k e h => kz_read (by rw [HPK.out]; exact h)
      obtain ⟨LL, HLL⟩ : ∃ x, Hid (PK ++ kz = x) := ⟨_, rfl⟩
      rw [HLL.out] at HO17 hby HRD
      have hH17 := HB.of_own HO17.out hby
      obtain ⟨p17, c17, hv17⟩ := own_slc HO17.out
      obtain ⟨nl, HNL⟩ : ∃ x, Hid (LL.length = x) := ⟨_, rfl⟩
      rw [HNL.out] at hv17
      subst hv17
      have C18 := hid (uread_any w17 _ LL hH17 (HK.out.below B17.out))
      clear HO17 HO15 HX16 hH17 qc16
      clear hown17 hg17 hp17 hby
      go_wp2_with fail
      refine C18.out.mono ?_
      rintro e w18 ⟨u18, k18, e18, rfl, hu18, hR18, hb18⟩
      obtain ⟨rfl, rfl⟩ := HRD.out _ _ _ hR18
      have B18 := hid (B17.out.trans (hb18.mono B17.out.size))
      obtain ⟨m18, HM18⟩ : ∃ x, Hid (ubA u18 = x) := ⟨_, rfl⟩
      rw [HM18.out]
      have C19 := hid (known_any w18)
      rw [HM.out] at C19
      clear hu18 hR18 hb18 C18
      go_wp2_with fail
      refine C19.out.mono ?_
      rintro e w19 ⟨rfl, hb19⟩
      have B19 := hid (B18.out.trans (hb19.mono B18.out.size))
      clear hb19 C19
      have S1 : Hid ((Tryd.prog.info? 41).map (·.size) = some m.size) := by rw [← HM.out]; exact size_ub ubK_ok
      have ZS : Hid (Tryd.zeroCells41.size = m.size) := by refine hid ?_; rw [zc_ueb, ← HM.out, ubA_size ub0_ok, ubA_size ubK_ok]
      have O1 : Hid (m.all (·.oneCell') = true) := by rw [← HM.out]; exact ubA_one _
      obtain ⟨w20, HW20⟩ : ∃ x, Hid ((w19.alloc (.cells Tryd.zeroCells41 41)).setRow w19.heap.size m = x) := ⟨_, rfl⟩
      have hb20 : Below w19.heap.size w19 w20 := by rw [← HW20.out]; exact bel_setRow ((Below.refl _ w19).alloc (Nat.le_refl _) _) (Nat.le_refl _) _
      have hk20 : Bk w20 w19.heap.size m 41 := by rw [← HW20.out]; exact setRow_heap _ _ _ _ _ _ (heap_alloc_new w19 _)
      have hm2 : m[2]? = some (.int .i64 66) := by rw [← HM.out]; rfl
      have hc20 := hk20.cell 2 _ hm2
      have hf20 := hk20.free 2
      have hk21 := hk20.set 2 (.int .i64 64)
      have e21 : m.setIfInBounds 2 (.int .i64 64) = ubA ub64 := by rw [← HM.out]; exact (set_i ubK 64).2.2.1
      rw [e21] at hk21
      have K21 : Hid ((w20.setCell ⟨w19.heap.size, 2, none⟩ (.int .i64 64)).heap[w19.heap.size]? = some (.cells (ubA ub64) 41 (0, 0))) := hk21
      have B21 := hid ((B19.out.trans (hb20.mono B19.out.size)).setCell (p := ⟨w19.heap.size, 2, none⟩) B19.out.size (.int .i64 64))
      have C22 := hid fun w => write_any w ub64 ubK_ok
      rw [ub64_ch] at C22
      have S64 := hid (size_ub (u := ub64) ubK_ok)
      obtain ⟨m6, HM6⟩ : ∃ x, Hid (ubA ub64 = x) := ⟨_, rfl⟩
      rw [HM6.out] at K21 C22 S64
      clear hb20 hk20 hk21 e21 hm2
      go_wp2_with (first | (refine wpList_store_row rfl 41 _ _ rfl w19.heap.size m rfl rfl 41 _ (heap_alloc_new w19 _) S1.out ZS.out O1.out ?_; rw [HW20.out]) | (refine wpList_load_row rfl 41 _ rfl w19.heap.size rfl 41 m6 (0, 0) _ K21.out Tryd.underlying41 rfl S64.out ?_) | fail)
      refine (C22.out _ (HK.out.below B21.out).kp).mono ?_
      rintro e w22 ⟨v22, rfl, hown22, hb22⟩
      have B22 := hid (B21.out.trans (hb22.mono B21.out.size))
      clear hown22 hb22 C22
      go_wp2
      go_ret
      exact ⟨rfl, B22.out⟩
end Go.Proofs.YthcdefidoibopabDoor
