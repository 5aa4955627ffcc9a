/- base.Escape, walked. -/
import Derived.Test.YtmfamecadomipaaDoorBsEscM
import Derived.Test.YtmfamecadomipaaDoorAppB
import Derived.Test.YtmfamecadomipaaDoorOwns
import Derived.Deep.AppendLies
import Derived.Deep.RegionLaw
import Derived.Deep.DrawnRows
import Derived.Laws.BitsAllLaws
set_option linter.unusedSimpArgs false
set_option linter.unusedVariables false
namespace Go.Proofs.YtmfamecadomipaaDoor
open Go Go.RowKit

def hexS : ByteArray := ⟨#[48, 49, 50, 51, 52, 53, 54, 55, 56, 57, 97, 98, 99, 100, 101, 102]⟩
theorem hexS_sB : sB hexS = hexL := by decide
theorem idx_hex (w : World) (k : IntKind) (x : Int) (h0 : 0 ≤ x) (h : x < 16) : (Instr.index 9 (.string ⟨#[48, 49, 50, 51, 52, 53, 54, 55, 56, 57, 97, 98, 99, 100, 101, 102]⟩) (.int k x)).run Tryd.prog w = .ok (.int .u8 (hexL.getD x.toNat 0)) w := by
  obtain ⟨n, rfl⟩ := Int.eq_ofNat_of_zero_le h0
  have hs : hexS.size = 16 := rfl
  show (Instr.index 9 (.string hexS) (.int k (n : Int))).run Tryd.prog w = _
  rw [run_index_string w 9 hexS k n Tryd.underlying9, dif_pos (by omega)]
  congr 2
  rw [← hexS_sB, ← sB_get hexS _ (by omega)]

theorem and15 (x : Nat) (h : x < 256) : bits .and .u8 (x : Int) 15 = (x : Int) % 16 := by
  rw [u8_and _ _ (by omega) (by omega) (by omega) (by omega)]
  have e : ((x : Int).toNat &&& (15 : Int).toNat) = x % 16 := by
    have := Nat.and_two_pow_sub_one_eq_mod x 4
    simpa using this
  rw [e]
  omega

set_option maxRecDepth 100000 in
set_option maxHeartbeats 8000000 in
theorem escape_any (w : World) (v : Value) (l : List Int) (h : HB w v l) (hbig : (escB l).length ≤ 140737488351232) :
    Calls Tryd.prog 16 #[v] w fun e w' => e = .returned (.string (bS (escL l))) ∧ Below w.heap.size w w' := by
  obtain ⟨i0, hi, hz0, hz1, hz2⟩ := info_parts info_u8
  have HA := hid h
  have hlB := escB_ge l
  have HTL : Hid (∀ i, (escB (l.take i)).length ≤ (escB l).length) := hid (escB_take_le l)
  obtain ⟨p, c, rfl, hlc, hc⟩ := h.open
  unfold maxLen at hc
  by_cases hl0 : l.length = 0
  · have e0 : l = [] := List.length_eq_zero_iff.1 hl0
    have E : Hid (bS (escL l) = ⟨#[37]⟩) := by rw [e0]; exact rfl
    clear h
    rw [hl0]
    go_enter Tryd.func16, Tryd.ntmps16
    go_wp2
    go_ret
    exact ⟨by rw [E.out]; rfl, Below.refl _ _⟩
  · have E : Hid (escL l = escB l) := by unfold escL; rw [if_neg (fun e => hl0 (by rw [e]; rfl))]; exact rfl
    rw [E.out]
    obtain ⟨R, HR⟩ : ∃ R, Hid (escB l = R) := ⟨_, rfl⟩
    have HRB : Hid (Byt8 R) := by rw [← HR.out]; exact escB_byt h.2
    rw [HR.out]
    rw [HR.out] at hbig hlB HTL
    clear h
    obtain ⟨z, HZ⟩ : ∃ z, Hid (tab256 (fun _ => 0) = z) := ⟨_, rfl⟩
    have hz := zero_i256
    rw [HZ.out] at hz
    have HZ0 := hid hz
    clear hz
    have C := hid (kinds_any w)
    obtain ⟨m, Hm⟩ : ∃ m, Hid (tab256 kd = m) := ⟨_, rfl⟩
    rw [Hm.out] at C
    have hms : m.size = 256 := by rw [← Hm.out]; exact tab256_size _
    have HIm : Hid ((Tryd.prog.info? 55).map (·.size) = some m.size) := by rw [hms]; exact size_i256
    have H1m : Hid (m.all (·.oneCell') = true) := by rw [← Hm.out]; exact tab256_one _
    have HZM : Hid (z.size = m.size) := by rw [hms, ← HZ.out]; exact tab256_size _
    clear hms
    go_enter Tryd.func16, Tryd.ntmps16
    go_wp2_with fail
    refine C.out.mono ?_
    rintro e w1 ⟨rfl, hB1⟩
    have B1 := hid hB1
    clear hB1 C
    obtain ⟨tb, Htb⟩ : ∃ tb, tb = w1.heap.size := ⟨_, rfl⟩
    have H0q : Hid ((w1.alloc (.cells z 55)).heap[tb]? = some (.cells z 55 (0, 0))) := by rw [Htb]; exact heap_alloc_new w1 _
    obtain ⟨w2, hw2⟩ : ∃ w2, Hid ((w1.alloc (.cells z 55)).setRow tb m = w2) := ⟨_, rfl⟩
    have HT2 : Hid (w2.heap[tb]? = some (.cells m 55 (0, 0))) := by rw [← hw2.out]; exact setRow_heap _ _ _ _ _ _ H0q.out
    have htb : w.heap.size ≤ tb := by rw [Htb]; exact B1.out.size
    have B2 : Hid (Below w.heap.size w w2) := by rw [← hw2.out]; exact below_setRow (B1.out.alloc B1.out.size _) htb m
    have hs2 : w2.heap.size = tb + 1 := by rw [← hw2.out, Htb]; simp [World.setRow]
    obtain ⟨w3, hmk, hown, hgr⟩ := run_make_own (P := Tryd.prog) w2 (tb + 1) 28 5 i0 (.int .u8 0) 1 Tryd.underlying28 hi hz0 hz1 .i64 .i64 l.length (by rw [hz2]; omega) (by unfold maxLen; omega) (by omega)
    have hmk2 : (Instr.makeSlice 28 (.int .i64 0) (.int .i64 (l.length : Int))).run Tryd.prog w2 = .ok (.slice (some ⟨w2.heap.size, 0, none⟩) 0 l.length) w3 := hmk
    clear hmk
    rw [hs2] at hmk2 hown
    have B3 : Hid (Below w.heap.size w w3) := B2.out.grown hgr (by omega) (fun k e => by cases e)
    have HT3 : Hid (w3.heap[tb]? = some (.cells m 55 (0, 0))) := (hgr.block tb (by omega) (by simp)).trans HT2.out
    have HO3 := hid hown
    have hs3 : tb + 1 ≤ w3.heap.size := by have := hgr.size; omega
    clear hown hgr B1
    subst Htb
    go_wp2_with (first | (refine wpList_alloc_agg HZ0.out rfl rfl ?_) | (refine wpList_store_row rfl 55 _ _ rfl _ m rfl rfl 55 _ H0q.out HIm.out HZM.out H1m.out ?_) | fail)
    rw [hw2.out]
    go_wp2
    rw [hmk2]
    go_wp2
    obtain ⟨tb, Htb⟩ : ∃ tb, w1.heap.size = tb := ⟨_, rfl⟩
    rw [Htb] at htb HT3 HO3 hs2 hs3
    rw [Htb]
    clear hmk2 HT2 B2 H0q hw2 HZM H1m HIm HZ0
    go_loopw [4, 16] (fun o i wr => ∃ I : Nat, I ≤ l.length ∧ i = .int .i64 (I : Int) ∧ Hid (wr.ownsRow (tb + 1) 5 1 o (escB (l.take I)).length ((escB (l.take I)).map (Value.int .u8))) ∧ Hid (wr.heap[tb]? = some (.cells m 55 (0, 0))) ∧ Hid (Below w.heap.size w wr)) (fun _ i _ => l.length - (intOf i).toNat)
    case atStart => exact ⟨0, Nat.zero_le _, rfl, HO3, HT3, B3⟩
    case round =>
      clear HO3 HT3 B3
      obtain ⟨I, hI, rfl, HO, HT, B⟩ := hrel
      by_cases hlt : I < l.length
      · obtain ⟨b1, o1, c1, e1, _, _, hc1⟩ := HA.out.ne (by omega)
        simp only [Value.slice.injEq] at e1
        obtain ⟨rfl, _, rfl⟩ := e1
        have q1 := (B.out.cell (World.block_lt_of_cell? w _ (hc1 I hlt))).trans (hc1 I hlt)
        obtain ⟨hx0, hx1⟩ := HA.out.byte I
        have HST := hid (escB_take l I hlt)
        have hlen := HTL.out I
        obtain ⟨x, Hx⟩ : ∃ x : Nat, Hid (l.getD I 0 = (x : Int)) := ⟨(l.getD I 0).toNat, hid (by omega)⟩
        rw [Hx.out] at q1 hx0 hx1 HST
        have hxl : x < 256 := by omega
        have q2 : wr.cell? ⟨tb, x, none⟩ = some (.int .i64 (kd x)) := by
          rw [cell_of_row wr tb x _ _ _ HT.out, ← Hm.out]
          exact tab256_get kd x hxl
        have hsz := B.out.size
        have htbw : tb < wr.heap.size := (Array.getElem?_eq_some_iff.1 HT.out).1
        obtain ⟨A, HAA⟩ : ∃ A, Hid (escB (l.take I) = A) := ⟨_, rfl⟩
        rw [HAA.out] at HO hlen HST
        obtain ⟨pO, cO, eO⟩ := own_slc HO.out
        subst eO
        clear hc1
        by_cases hpl : plN x
        · have hk : kd x = 1 := by unfold kd; rw [if_pos hpl]
          rw [hk] at q2
          have HS2 : Hid (escB (l.take (I + 1)) = A ++ [(x : Int)]) := by
            rw [HST.out]
            unfold esc1
            rw [Int.toNat_natCast, if_pos hpl]
            exact rfl
          clear hk hpl
          go_wp2_with (at_builtin; refine wpList_append_byte rfl _ _ rfl (tb + 1) _ A.length _ rfl (HO.out.alloc _) ⟨wr.heap.size, 0, none⟩ 1 (x : Int) rfl (by simp) ?q1 ?q2 ?_)
          case q1 => omega
          case q2 => simp; omega
          intro v' w4 hown4 hgr4 _
          have HO4 : Hid (w4.ownsRow (tb + 1) 5 1 v' (escB (l.take (I + 1))).length ((escB (l.take (I + 1))).map (Value.int .u8))) := by
            rw [HS2.out, List.map_append, List.length_append]
            exact hown4
          have B4 := hid ((B.out.alloc B.out.size _).grown hgr4 (by simp; omega) (fun k e => by have := (HO.out.lt k e).1; omega))
          have HT4 : Hid (w4.heap[tb]? = some (.cells m 55 (0, 0))) := (hgr4.block tb (by simp; omega) (fun e => by have := (HO.out.lt tb e.symm).1; omega)).trans ((heap_alloc_old _ _ htbw).trans HT.out)
          clear hown4 hgr4
          go_wp2
          exact ⟨⟨I + 1, by omega, by go_num, HO4, HT4, B4⟩, by simp [intOf]; omega⟩
        · have hk : (kd x == 1) = false := by
            unfold kd
            rw [if_neg hpl]
            split <;> decide
          obtain ⟨kx, Hkx⟩ : ∃ kx, Hid (kd x = kx) := ⟨_, rfl⟩
          rw [Hkx.out] at q2 hk
          have hand := and15 x hxl
          have a1 := fun W => idx_hex W .u8 ((x : Int) / 16) (by omega) (by omega)
          have a2 := fun W => idx_hex W .u8 ((x : Int) % 16) (by omega) (by omega)
          have HS2 : Hid (escB (l.take (I + 1)) = A ++ [37, hexL.getD ((x : Int) / 16).toNat 0, hexL.getD ((x : Int) % 16).toNat 0]) := by
            rw [HST.out]
            unfold esc1
            rw [Int.toNat_natCast, if_neg hpl, show ((x : Int) / 16).toNat = x / 16 by omega, show ((x : Int) % 16).toNat = x % 16 by omega]
            exact rfl
          obtain ⟨y1, Hy1⟩ : ∃ y, Hid (hexL.getD ((x : Int) / 16).toNat 0 = y) := ⟨_, rfl⟩
          obtain ⟨y2, Hy2⟩ : ∃ y, Hid (hexL.getD ((x : Int) % 16).toNat 0 = y) := ⟨_, rfl⟩
          simp only [Hy1.out] at a1
          simp only [Hy2.out] at a2
          rw [Hy1.out, Hy2.out] at HS2
          have FIN : Hid (∀ gO cO3 w4, w4.ownsRow (tb + 1) 5 1 (.slice (some ⟨gO, 0, none⟩) (A.length + 3) cO3) (A.length + 3) ((A.map (Value.int .u8)) ++ [.int .u8 37, .int .u8 y1, .int .u8 y2]) → ((wr.alloc (.cells #[.int .u8 37, .int .u8 y1, .int .u8 y2] 5)).drew).grownBy w4 (Value.ownBlock (.slice pO A.length cO)) →
              w4.ownsRow (tb + 1) 5 1 (.slice (some ⟨gO, 0, none⟩) (A.length + 3) cO3) (escB (l.take (I + 1))).length ((escB (l.take (I + 1))).map (Value.int .u8)) ∧ w4.heap[tb]? = some (.cells m 55 (0, 0)) ∧ Below w.heap.size w w4) := by
            refine hid fun gO cO3 w4 h1 h2 => ?_
            have hb0 := B.out.alloc hsz (.cells #[.int .u8 37, .int .u8 y1, .int .u8 y2] 5)
            have hb1 : Below w.heap.size w ((wr.alloc (.cells #[.int .u8 37, .int .u8 y1, .int .u8 y2] 5)).drew) := ⟨hb0.os, hb0.tape, hb0.output, hb0.size, hb0.block⟩
            refine ⟨by rw [HS2.out, List.map_append, List.length_append]; exact h1, ?_, hb1.grown h2 hb1.size (fun k e => by have := (HO.out.lt k e).1; omega)⟩
            refine (h2.block tb (by show tb < (wr.alloc _).heap.size; simp; omega) (fun e => by have := (HO.out.lt tb e.symm).1; omega)).trans ?_
            exact (heap_alloc_old wr _ htbw).trans HT.out
          clear hpl
          go_wp2
          go_region_law
            ((refine step_append_lies _ (by rfl) _ _ _ (by rfl) (tb + 1) 5 i0 _ 1 1 Tryd.underlying28 hi hz0 hz1 hz2 rfl (by omega) (.slice pO A.length cO) A.length _ (by rfl) ((HO.out.alloc _).drew)
                  ⟨wr.heap.size, 0, none⟩ 3 3 [.int .u8 37, .int .u8 y1, .int .u8 y2] (by rfl) (by rfl) (World.news_of_block (cs := #[.int .u8 37, .int .u8 y1, .int .u8 y2]) (t := 5) (fr := (0, 0)) (heap_alloc_new wr _)) (by simp [Value.oneCell'])
                  (by omega) (by unfold maxLen; omega) (by omega) (by simp; omega) (wr.heap.size + 1) (by simp) ?_; intro gO cO3 w3 hown3 hgrow hat hlt3))
          all_goals go_wp2
          all_goals exact ⟨⟨I + 1, by omega, by go_num, (FIN.out gO cO3 w3 hown3 hgrow).1, (FIN.out gO cO3 w3 hown3 hgrow).2.1, (FIN.out gO cO3 w3 hown3 hgrow).2.2⟩, by simp [intOf]; omega⟩
      · have hI' : I = l.length := by omega
        have HF : Hid (HB wr u4 R) := by
          refine hid (HB.of_own (B := tb + 1) (e := 5) ?_ HRB.out)
          have := HO.out
          rw [hI', List.take_of_length_le (Nat.le_refl _), HR.out] at this
          exact this
        have hcv := conv_str HF.out
        clear hI' HO
        go_wp2
        go_ret
        exact ⟨rfl, B.out⟩
end Go.Proofs.YtmfamecadomipaaDoor
