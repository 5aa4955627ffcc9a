/- Of the road to uebReadCard_holds: ShaMix, ShaInit, RefShaTurn, RefShaWords. -/
import Derived.Test.YtklklldmhoofnaaDoorG14
set_option linter.unusedVariables false
set_option linter.unusedSimpArgs false
namespace Go.Proofs.YtklklldmhoofnaaDoor
open Go.RowKit
def kW : List Nat := [1116352408, 1899447441, 3049323471, 3921009573, 961987163, 1508970993, 2453635748, 2870763221, 3624381080, 310598401, 607225278, 1426881987, 1925078388, 2162078206, 2614888103, 3248222580, 3835390401, 4022224774, 264347078, 604807628, 770255983, 1249150122, 1555081692, 1996064986, 2554220882, 2821834349, 2952996808, 3210313671, 3336571891, 3584528711, 113926993, 338241895, 666307205, 773529912, 1294757372, 1396182291, 1695183700, 1986661051, 2177026350, 2456956037, 2730485921, 2820302411, 3259730800, 3345764771, 3516065817, 3600352804, 4094571909, 275423344, 430227734, 506948616, 659060556, 883997877, 958139571, 1322822218, 1537002063, 1747873779, 1955562222, 2024104815, 2227730452, 2361852424, 2428436474, 2756734187, 3204031479, 3329325298]
theorem kW_length : kW.length = 64 := by rfl
theorem kW_lt : ∀ x ∈ kW, x < 4294967296 := by decide
def KC (w : World) : Prop := ∀ t, t < 64 → w.cell? ⟨2, t, none⟩ = some (.int .u32 ((kW.getD t 0 : Nat) : Int))
theorem KC.below {w w' : World} (h : KC w) (hb : Below w.heap.size w w') : KC w' := fun t ht => (hb.cell (World.block_lt_of_cell? w _ (h t ht))).trans (h t ht)
def bs1 (e : Nat) : Nat := rot e 6 ^^^ rot e 11 ^^^ rot e 25
def bs0 (a : Nat) : Nat := rot a 2 ^^^ rot a 13 ^^^ rot a 22
def chW (e f g : Nat) : Nat := (e &&& f) ^^^ ((4294967295 ^^^ e) &&& g)
def majW (a b c : Nat) : Nat := (a &&& b) ^^^ (a &&& c) ^^^ (b &&& c)
def rnd (k x : Nat) : List Nat → List Nat
  | [a, b, c, d, e, f, g, h] =>
    let u := (h + bs1 e + chW e f g + k + x) % 4294967296
    let v := (bs0 a + majW a b c) % 4294967296
    [(u + v) % 4294967296, a, b, c, (d + u) % 4294967296, e, f, g]
  | _ => []
def rnds (hs ws : List Nat) : Nat → List Nat
  | 0 => hs
  | t + 1 => rnd (kW.getD t 0) (ws.getD t 0) (rnds hs ws t)
def mixL (hs : List Nat) (l : List Int) : List Nat := List.zipWith add32 hs (rnds hs (wordsTo l 64) 64)
theorem xor32 {x y : Nat} (hx : x < 4294967296) (hy : y < 4294967296) : x ^^^ y < 4294967296 := Nat.xor_lt_two_pow (n := 32) hx hy
theorem and32 {x y : Nat} (hx : x < 4294967296) : x &&& y < 4294967296 := Nat.lt_of_le_of_lt Nat.and_le_left hx
theorem bs1_bits (x : Nat) (hx : x < 4294967296) : bits .xor .u32 (bits .xor .u32 ((rot x 6 : Nat) : Int) ((rot x 11 : Nat) : Int)) ((rot x 25 : Nat) : Int) = ((bs1 x : Nat) : Int) := by
  rw [u32_xor_nat _ _ (rot_lt hx) (rot_lt hx), u32_xor_nat _ _ (xor32 (rot_lt hx) (rot_lt hx)) (rot_lt hx)]
  rfl
theorem bs0_bits (x : Nat) (hx : x < 4294967296) : bits .xor .u32 (bits .xor .u32 ((rot x 2 : Nat) : Int) ((rot x 13 : Nat) : Int)) ((rot x 22 : Nat) : Int) = ((bs0 x : Nat) : Int) := by
  rw [u32_xor_nat _ _ (rot_lt hx) (rot_lt hx), u32_xor_nat _ _ (xor32 (rot_lt hx) (rot_lt hx)) (rot_lt hx)]
  rfl
theorem ch_bits (e f g : Nat) (he : e < 4294967296) (hf : f < 4294967296) (hg : g < 4294967296) :
    bits .xor .u32 (bits .and .u32 (e : Int) (f : Int)) (bits .and .u32 (bits .xor .u32 4294967295 (e : Int)) (g : Int)) = ((chW e f g : Nat) : Int) := by
  have h1 : bits .xor .u32 4294967295 (e : Int) = ((4294967295 ^^^ e : Nat) : Int) := u32_xor_nat 4294967295 e (by decide) he
  rw [h1, u32_and_nat _ _ he hf, u32_and_nat _ _ (xor32 (by decide) he) hg, u32_xor_nat _ _ (and32 he) (and32 (xor32 (by decide) he))]
  rfl
theorem maj_bits (a b c : Nat) (ha : a < 4294967296) (hb : b < 4294967296) (hc : c < 4294967296) :
    bits .xor .u32 (bits .xor .u32 (bits .and .u32 (a : Int) (b : Int)) (bits .and .u32 (a : Int) (c : Int))) (bits .and .u32 (b : Int) (c : Int)) = ((majW a b c : Nat) : Int) := by
  rw [u32_and_nat _ _ ha hb, u32_and_nat _ _ ha hc, u32_and_nat _ _ hb hc, u32_xor_nat _ _ (and32 ha) (and32 ha), u32_xor_nat _ _ (xor32 (and32 ha) (and32 ha)) (and32 hb)]
  rfl
theorem turn_i (w : World) (x : Nat) (i : Int) (hx : x < 4294967296) (hi : i = 6 ∨ i = 11 ∨ i = 25 ∨ i = 2 ∨ i = 13 ∨ i = 22) : Calls Tryd.prog 114 #[.int .u32 (x : Int), .int .i64 i] w fun e w' => e = .returned (.int .u32 ((rot x i.toNat : Nat) : Int)) ∧ w' = w := by
  rcases hi with rfl | rfl | rfl | rfl | rfl | rfl
  · exact turn_6 w x hx
  · exact turn_11 w x hx
  · exact turn_25 w x hx
  · exact turn_2 w x hx
  · exact turn_13 w x hx
  · exact turn_22 w x hx
def W8 (s : List Nat) : Prop := s.length = 8 ∧ ∀ x ∈ s, x < 4294967296
theorem W8.open {s : List Nat} (hs : W8 s) : ∃ a b c d e f g h, s = [a, b, c, d, e, f, g, h] ∧ a < 4294967296 ∧ b < 4294967296 ∧ c < 4294967296 ∧ d < 4294967296 ∧ e < 4294967296 ∧ f < 4294967296 ∧ g < 4294967296 ∧ h < 4294967296 := by
  obtain ⟨hl, hx⟩ := hs
  match s, hl with
  | [a, b, c, d, e, f, g, h], _ =>
    exact ⟨a, b, c, d, e, f, g, h, rfl, hx a (by simp), hx b (by simp), hx c (by simp), hx d (by simp), hx e (by simp), hx f (by simp), hx g (by simp), hx h (by simp)⟩
theorem W8.rnd {k x : Nat} {s : List Nat} (hs : W8 s) : W8 (rnd k x s) := by
  obtain ⟨a, b, c, d, e, f, g, h, rfl, ha, hb, hc, hd, he, hf, hg, hh⟩ := hs.open
  refine ⟨rfl, fun y hy => ?_⟩
  simp only [YtklklldmhoofnaaDoor.rnd, List.mem_cons, List.not_mem_nil, or_false] at hy
  rcases hy with rfl | rfl | rfl | rfl | rfl | rfl | rfl | rfl <;> first | assumption | exact Nat.mod_lt _ (by decide)
theorem W8.rnds {hs ws : List Nat} (h : W8 hs) : ∀ t, W8 (rnds hs ws t)
  | 0 => h
  | t + 1 => (W8.rnds h t).rnd
theorem W8.mix {hs : List Nat} {l : List Int} (h : W8 hs) : W8 (mixL hs l) := by
  have h2 := W8.rnds (ws := wordsTo l 64) h 64
  refine ⟨by simp [mixL, h.1, h2.1], fun x hx => ?_⟩
  obtain ⟨i, hi, rfl⟩ := List.getElem_of_mem hx
  simp only [mixL, List.getElem_zipWith]
  exact add32_lt _ _
theorem info_u32 : (Tryd.prog.info? 100).map (fun i => (i.zero, i.size, i.bytes)) = some (some (.int .u32 0), 1, 4) := by kernel_rfl
theorem size_u32 : ∀ w, Sem.run Tryd.prog (Go.sizeOf 100) w = .ok 1 w := fun w => by
  obtain ⟨i0, hi, hz0, hz1, hz2⟩ := info_parts info_u32
  simp [Go.sizeOf, typeInfo, hi, hz1]
theorem part_u32 (w : World) (l : List Nat) (i : Nat) (hi : i < l.length) : (part 100 (cellsW l) i).run Tryd.prog w = .ok (.int .u32 ((l.getD i 0 : Nat) : Int)) w := by
  simp [part, cellsW_get hi]
theorem run_index_w8 (w : World) (l : List Nat) (hl : l.length = 8) (i : Nat) (hi : i < 8) : (Instr.index 101 (.agg (cellsW l)) (.int .i64 (i : Int))).run Tryd.prog w = .ok (.int .u32 ((l.getD i 0 : Nat) : Int)) w := by
  have h1 := part_u32 w l i (by omega)
  simp [Instr.index, run_underlying Tryd.underlying101, asIntOf, h1, hi]
def curM (hs st : List Nat) (i : Nat) : List Nat := (List.zipWith add32 hs st).take i ++ hs.drop i
theorem curM_length {hs st : List Nat} (h1 : hs.length = 8) (h2 : st.length = 8) (i : Nat) : (curM hs st i).length = 8 := by simp [curM, h1, h2]; omega
theorem curM_get {hs st : List Nat} (h1 : hs.length = 8) (h2 : st.length = 8) {i : Nat} (hi : i < 8) : (curM hs st i).getD i 0 = hs.getD i 0 := by
  have hl : (List.zipWith add32 hs st).length = 8 := by simp [h1, h2]
  simp only [curM, List.getD, List.getElem?_append, List.length_take, hl, List.getElem?_drop]
  rw [if_neg (by omega), show i + (i - min i 8) = i by omega]
theorem curM_step {hs st : List Nat} (h1 : hs.length = 8) (h2 : st.length = 8) {i : Nat} (hi : i < 8) : (curM hs st i).set i (add32 (hs.getD i 0) (st.getD i 0)) = curM hs st (i + 1) := by
  have hl : (List.zipWith add32 hs st).length = 8 := by simp [h1, h2]
  have ht : ((List.zipWith add32 hs st).take i).length = i := by rw [List.length_take]; omega
  unfold curM
  rw [List.set_append_right _ _ (by omega), ht, Nat.sub_self, List.drop_eq_getElem_cons (show i < hs.length by omega), List.set_cons_zero, List.take_succ_eq_append_getElem (by omega), List.append_assoc]
  simp [List.getD, List.getElem?_eq_getElem (show i < hs.length by omega), List.getElem?_eq_getElem (show i < st.length by omega)]
set_option maxRecDepth 100000 in
set_option maxHeartbeats 4000000 in
theorem mix_core (w : World) (hs ws : List Nat) (l : List Int) (h8 : W8 hs) (hl : l.length = 64) (hwl : ws.length = 64) (hwb : ∀ x ∈ ws, x < 4294967296) (hk : KC w)
    (hS : ∀ W, Calls Tryd.prog 113 #[.agg (cellsB l)] W fun e w' => e = .returned (.agg (cellsW ws)) ∧ Below W.heap.size W w') :
    Calls Tryd.prog 95 #[.agg (cellsW hs), .agg (cellsB l)] w fun e w' => e = .returned (.agg (cellsW (List.zipWith add32 hs (rnds hs ws 64)))) ∧ Below w.heap.size w w' := by
  obtain ⟨z, HZ⟩ : ∃ z, Hid (cellsW (zerosW 64) = z) := ⟨_, rfl⟩
  obtain ⟨z8, HZ8⟩ : ∃ z8, Hid (cellsW (zerosW 8) = z8) := ⟨_, rfl⟩
  have hz := zero_w64
  rw [HZ.out] at hz
  have HZ0 := hid hz
  have hz8 := zero_w8
  rw [HZ8.out] at hz8
  have HZ1 := hid hz8
  obtain ⟨bl, HBL⟩ : ∃ bl, Hid (cellsB l = bl) := ⟨_, rfl⟩
  obtain ⟨hw, HHW⟩ : ∃ hw, Hid (cellsW hs = hw) := ⟨_, rfl⟩
  rw [HBL.out, HHW.out]
  have HKC := hid hk
  have HWB := hid hwb
  clear hz hz8 hk hwb
  obtain ⟨W0, hW0⟩ : ∃ W0, Hid (((w.alloc (.cells hw 101)).alloc (.cells bl 103)).alloc (.cells z8 101) = W0) := ⟨_, rfl⟩
  have HB0 : Hid (Below w.heap.size w W0) := by rw [← hW0.out]; exact (((Below.refl _ w).alloc (Nat.le_refl _) _).alloc (by simp) _).alloc (by simp; omega) _
  have hS0 : W0.heap.size = w.heap.size + 3 := by rw [← hW0.out]; simp
  have H0 : Hid (W0.heap[w.heap.size]? = some (.cells hw 101 (0, 0))) := by
    rw [← hW0.out]
    exact (Below.heap_alloc _ _ _ (by simp; omega)).trans ((Below.heap_alloc _ _ _ (by simp)).trans (heap_alloc_new w _))
  have H1 : Hid (W0.heap[w.heap.size + 1]? = some (.cells bl 103 (0, 0))) := by
    rw [← hW0.out]
    refine (Below.heap_alloc _ _ _ (by simp)).trans ?_
    have := heap_alloc_new (w.alloc (.cells hw 101)) (.cells bl 103)
    rwa [World.size_alloc] at this
  have H2 : Hid (W0.heap[w.heap.size + 2]? = some (.cells z8 101 (0, 0))) := by
    have := heap_alloc_new ((w.alloc (.cells hw 101)).alloc (.cells bl 103)) (.cells z8 101)
    rw [World.size_alloc, World.size_alloc, hW0.out] at this
    exact this
  have hbs : bl.size = 64 := by rw [← HBL.out, cellsB_size, hl]
  have HIb : Hid ((Tryd.prog.info? 103).map (·.size) = some bl.size) := by rw [hbs]; exact size_b64
  have CS := hS W0
  clear hS
  rw [HBL.out] at CS
  obtain ⟨y, HY⟩ : ∃ y, Hid (cellsW ws = y) := ⟨_, rfl⟩
  rw [HY.out] at CS
  have C1 := hid CS
  have hys : y.size = 64 := by rw [← HY.out, cellsW_size, hwl]
  have HIy : Hid ((Tryd.prog.info? 113).map (·.size) = some y.size) := by rw [hys]; exact size_w64
  have H1y : Hid (y.all (·.oneCell') = true) := by rw [← HY.out]; exact cellsW_one _
  have HZY : Hid (z.size = y.size) := by rw [hys, ← HZ.out, cellsW_size, zerosW_length]; exact rfl
  clear CS hbs hys
  go_enter Tryd.func95, Tryd.ntmps95
  go_wp2_with (first | (refine wpList_alloc_agg HZ1.out rfl rfl ?_; rw [hW0.out]) | refine wpList_load_row rfl 103 _ rfl (w.heap.size + 1) rfl 103 bl (0, 0) _ H1.out Tryd.underlying103 rfl HIb.out ?_)
  refine C1.out.mono ?_
  rintro e w1 ⟨rfl, hB1⟩
  have HF1 : Hid ((w1.alloc (.cells z 113)).heap[w1.heap.size]? = some (.cells z 113 (0, 0))) := heap_alloc_new w1 _
  have HB1 := hid hB1
  have hs1 := hB1.size
  clear hB1 C1
  go_wp2_with (first | (refine wpList_alloc_agg HZ0.out rfl rfl ?_) | (refine wpList_store_row rfl 113 _ _ rfl w1.heap.size y rfl rfl 113 _ HF1.out HIy.out HZY.out H1y.out ?_))
  obtain ⟨W2, hW2⟩ : ∃ W2, Hid ((w1.alloc (.cells z 113)).setRow w1.heap.size y = W2) := ⟨_, rfl⟩
  rw [hW2.out]
  have HB2 : Hid (Below w.heap.size w W2) := by
    rw [← hW2.out]
    exact below_setRow ((HB0.out.trans (HB1.out.mono (by omega))).alloc (by omega) _) (by omega) y
  have HB2' : Hid (Below W0.heap.size W0 W2) := by
    rw [← hW2.out]
    exact below_setRow (HB1.out.alloc hs1 _) hs1 y
  have HY2 : Hid (W2.heap[w1.heap.size]? = some (.cells y 113 (0, 0))) := by
    rw [← hW2.out]
    exact setRow_heap _ _ _ _ _ _ HF1.out
  have hS2 : W2.heap.size = w1.heap.size + 1 := by rw [← hW2.out]; simp [World.setRow]
  have HH2 : Hid (W2.heap[w.heap.size]? = some (.cells hw 101 (0, 0))) := (HB2'.out.block w.heap.size (by omega)).trans H0.out
  have HR2 : Hid (W2.heap[w.heap.size + 2]? = some (.cells z8 101 (0, 0))) := (HB2'.out.block (w.heap.size + 2) (by omega)).trans H2.out
  have HK2 := hid (HKC.out.below HB2.out)
  clear hW2 hW0 HF1 H0 H1 H2 HIb
  obtain ⟨a, b, c, d, e, f, g, h, ehs, ha, hb, hc, hd, he, hf, hg, hh⟩ := h8.open
  have hcl : ∀ j, j < 8 → W2.cell? ⟨w.heap.size, j, none⟩ = some (.int .u32 ((hs.getD j 0 : Nat) : Int)) := fun j hj => by
    rw [cell_of_row W2 w.heap.size j _ _ _ HH2.out, ← HHW.out]
    exact cellsW_get (by rw [h8.1]; exact hj)
  have c0 := hcl 0 (by decide)
  have c1 := hcl 1 (by decide)
  have c2 := hcl 2 (by decide)
  have c3 := hcl 3 (by decide)
  have c4 := hcl 4 (by decide)
  have c5 := hcl 5 (by decide)
  have c6 := hcl 6 (by decide)
  have c7 := hcl 7 (by decide)
  rw [ehs] at c0 c1 c2 c3 c4 c5 c6 c7
  simp only [List.getD_cons_zero, List.getD_cons_succ] at c0 c1 c2 c3 c4 c5 c6 c7
  have HHS := hid ehs
  have H8 := hid h8
  clear ehs hcl h8
  go_quiet (fail)
  go_wp2
  go_loopw [6, 7, 8, 9, 10, 11, 12, 13, 37] (fun va vb vc vd ve vf vg vh i wr => ∃ t : Nat, t ≤ 64 ∧ i = .int .i64 t ∧ ∃ a b c d e f g h : Nat, Hid (rnds hs ws t = [a, b, c, d, e, f, g, h]) ∧ va = .int .u32 a ∧ vb = .int .u32 b ∧ vc = .int .u32 c ∧ vd = .int .u32 d ∧ ve = .int .u32 e ∧ vf = .int .u32 f ∧ vg = .int .u32 g ∧ vh = .int .u32 h ∧ Hid (Dr W2 wr)) (fun _ _ _ _ _ _ _ _ i _ => 64 - (intOf i).toNat)
  case atStart => exact ⟨0, by decide, rfl, a, b, c, d, e, f, g, h, HHS.out, rfl, rfl, rfl, rfl, rfl, rfl, rfl, rfl, Dr.one _ _⟩
  case round =>
    clear c0 c1 c2 c3 c4 c5 c6 c7 ha hb hc hd he hf hg hh HHS
    obtain ⟨t, ht, rfl, a, b, c, d, e, f, g, h, HR, rfl, rfl, rfl, rfl, rfl, rfl, rfl, rfl, HDr⟩ := hrel
    have hb8 := W8.rnds (ws := ws) H8.out t
    rw [HR.out] at hb8
    have hbd : a < 4294967296 ∧ b < 4294967296 ∧ c < 4294967296 ∧ d < 4294967296 ∧ e < 4294967296 ∧ f < 4294967296 ∧ g < 4294967296 ∧ h < 4294967296 := ⟨hb8.2 a (by simp), hb8.2 b (by simp), hb8.2 c (by simp), hb8.2 d (by simp), hb8.2 e (by simp), hb8.2 f (by simp), hb8.2 g (by simp), hb8.2 h (by simp)⟩
    obtain ⟨ha, hb, hc, hd, he, hf, hg, hh⟩ := hbd
    clear hb8
    by_cases hlt : t < 64
    · obtain ⟨k, HK⟩ : ∃ k, Hid (kW.getD t 0 = k) := ⟨_, rfl⟩
      obtain ⟨x, HX⟩ : ∃ x, Hid (ws.getD t 0 = x) := ⟨_, rfl⟩
      have ck := (HDr.out.cell _).trans (HK2.out t hlt)
      rw [HK.out] at ck
      have cx : wr.cell? ⟨w1.heap.size, t, none⟩ = some (.int .u32 (x : Int)) := by
        rw [HDr.out.cell, cell_of_row W2 w1.heap.size t _ _ _ HY2.out, ← HY.out, cellsW_get (by rw [hwl]; exact hlt), HX.out]
      have hkl : k < 4294967296 := by rw [← HK.out]; exact getW_lt kW_lt t
      have hxl : x < 4294967296 := by rw [← HX.out]; exact getW_lt HWB.out t
      have hmx : (if IntKind.u32.signed = true then (-1 : Int) else IntKind.u32.max) = 4294967295 := by decide
      have B1 := hid (bs1_bits e he)
      have B0 := hid (bs0_bits a ha)
      have BC := hid (ch_bits e f g he hf hg)
      have BM := hid (maj_bits a b c ha hb hc)
      go_wp2
      go_quiet ((go_at_call 114; exact Calls.quiet_of_same (turn_i _ _ _ (by assumption) (by decide))))
      rw [B1.out, BC.out]
      clear hmx
      obtain ⟨u, HU⟩ : ∃ u : Nat, Hid ((((h : Int) + ((bs1 e : Nat) : Int) + ((chW e f g : Nat) : Int) + (k : Int)) % 4294967296 + (x : Int)) % 4294967296 = (u : Int)) := ⟨((h + bs1 e + chW e f g + k) % 4294967296 + x) % 4294967296, by show _ = _; omega⟩
      rw [HU.out]
      have hu : u < 4294967296 := by have := HU.out; omega
      go_wp2_with fail
      refine (turn_2 _ a ha).mono ?_
      rintro e' w' ⟨rfl, hw'⟩
      subst hw'
      go_wp2_with fail
      refine (turn_13 _ a ha).mono ?_
      rintro e' w' ⟨rfl, hw'⟩
      subst hw'
      go_wp2_with fail
      refine (turn_22 _ a ha).mono ?_
      rintro e' w' ⟨rfl, hw'⟩
      subst hw'
      go_wp2_with fail
      rw [B0.out, BM.out]
      have HUN : Hid (u = (h + bs1 e + chW e f g + k + x) % 4294967296) := by
        show _ = _
        have := HU.out
        omega
      refine ⟨⟨t + 1, by omega, by go_num, (u + (bs0 a + majW a b c) % 4294967296) % 4294967296, a, b, c, (d + u) % 4294967296, e, f, g, ?_, ?_, rfl, rfl, rfl, ?_, rfl, rfl, rfl, HDr.out.drewN nq⟩, by simp [intOf]; omega⟩
      · show rnd (kW.getD t 0) (ws.getD t 0) (rnds hs ws t) = _
        rw [HR.out, HK.out, HX.out, HUN.out]
        rfl
      · congr 1
      · congr 1
    · have H64 : Hid (t = 64) := by show _ = _; omega
      rw [H64.out] at HR
      have hnlt : ¬ ((t : Int) < 64) := by omega
      have HM0 : Hid (wr.heap[w.heap.size]? = some (.cells (cellsW (curM hs [a, b, c, d, e, f, g, h] 0)) 101 (0, 0))) := by
        rw [show curM hs [a, b, c, d, e, f, g, h] 0 = hs from by simp [curM], HDr.out.heap, HHW.out]
        exact HH2
      have HR3 : Hid (wr.heap[w.heap.size + 2]? = some (.cells z8 101 (0, 0))) := by
        rw [HDr.out.heap]
        exact HR2
      have HB3 := hid (HB2.out.trans ((HDr.out.below W2.heap.size).mono HB2.out.size))
      clear hlt ht
      go_wp2
      clear hnlt
      go_loopw [109] (fun i wq => ∃ I : Nat, I ≤ 8 ∧ i = .int .i64 I ∧ Hid (wq.heap[w.heap.size]? = some (.cells (cellsW (curM hs [a, b, c, d, e, f, g, h] I)) 101 (0, 0))) ∧ Hid (wr.grownBy wq (some w.heap.size))) (fun i _ => 8 - (intOf i).toNat)
      case atStart => exact ⟨0, by decide, rfl, HM0, ⟨rfl, rfl, rfl, Nat.le_refl _, fun _ _ _ => rfl⟩⟩
      case round =>
        obtain ⟨I, hI, rfl, HF, HG⟩ := hrel
        by_cases hlt : I < 8
        · have hci := cell_of_row wr w.heap.size I _ _ _ HF.out
          rw [cellsW_get (by rw [curM_length H8.out.1 rfl]; exact hlt), curM_get H8.out.1 rfl hlt] at hci
          obtain ⟨p, HP⟩ : ∃ p, Hid (hs.getD I 0 = p) := ⟨_, rfl⟩
          rw [HP.out] at hci
          have hfz : wr.frozen? ⟨w.heap.size, I, none⟩ = false := by simp [World.frozen?, HF.out]
          have FIN : Hid (∀ q : Nat, q = ([a, b, c, d, e, f, g, h] : List Nat).getD I 0 → ∀ v : Int, v = ((p : Int) + (q : Int)) % 4294967296 → (wr.setCell ⟨w.heap.size, I, none⟩ (.int .u32 v)).heap[w.heap.size]? = some (.cells (cellsW (curM hs [a, b, c, d, e, f, g, h] (I + 1))) 101 (0, 0))) := fun q hq v hv => by
            rw [← curM_step H8.out.1 rfl hlt, HP.out, ← hq, ← cellsW_set, show v = ((add32 p q : Nat) : Int) by rw [hv]; unfold add32; omega]
            exact heap_setCell_same wr w.heap.size I _ _ _ HF.out
          obtain ⟨q, HQ⟩ : ∃ q, Hid (([a, b, c, d, e, f, g, h] : List Nat).getD I 0 = q) := ⟨_, rfl⟩
          have hix : ∀ W, (Instr.index 101 (.agg #[.int .u32 (a : Int), .int .u32 (b : Int), .int .u32 (c : Int), .int .u32 (d : Int), .int .u32 (e : Int), .int .u32 (f : Int), .int .u32 (g : Int), .int .u32 (h : Int)]) (.int .i64 (I : Int))).run Tryd.prog W = .ok (.int .u32 (q : Int)) W := fun W => by
            rw [← HQ.out]
            exact run_index_w8 W [a, b, c, d, e, f, g, h] rfl I hlt
          go_wp2
          refine ⟨⟨I + 1, by omega, by go_num, FIN.out q HQ.out.symm _ ?_, grown_tr HG.out (grown_sets _ _ _ _)⟩, by simp [intOf]; omega⟩
          rfl
        · have hI8 : I = 8 := by omega
          have HCM : Hid (curM hs [a, b, c, d, e, f, g, h] I = List.zipWith add32 hs (rnds hs ws 64)) := by
            show _ = _
            rw [hI8, HR.out]
            unfold curM
            rw [List.take_of_length_le (by simp; omega), List.drop_eq_nil_of_le (by rw [H8.out.1]; exact Nat.le_refl _), List.append_nil]
          rw [HCM.out] at HF
          obtain ⟨m, HMM⟩ : ∃ m, Hid (cellsW (List.zipWith add32 hs (rnds hs ws 64)) = m) := ⟨_, rfl⟩
          rw [HMM.out] at HF
          have hms : m.size = 8 := by
            rw [← HMM.out, cellsW_size, ← HCM.out, curM_length H8.out.1 rfl]
          have HIm : Hid ((Tryd.prog.info? 101).map (·.size) = some m.size) := by rw [hms]; exact size_w8
          have H1m : Hid (m.all (·.oneCell') = true) := by rw [← HMM.out]; exact cellsW_one _
          have HR4 : Hid (wr.heap[w.heap.size + 2]? = some (.cells z8 101 (0, 0))) := by
            rw [HG.out.block (w.heap.size + 2) (Array.getElem?_eq_some_iff.1 HR3.out).1 (by simp)]
            exact HR3
          have HZM : Hid (z8.size = m.size) := by rw [hms, ← HZ8.out, cellsW_size, zerosW_length]; exact rfl
          have HBF := hid (below_setRow (HB3.out.grown HG.out HB3.out.size (fun k e => by cases e; exact Nat.le_refl _)) (g := w.heap.size + 2) (by omega) m)
          have hnl : ¬ ((I : Int) < 8) := by omega
          clear hms hlt hI8
          go_wp2_with (first | (refine wpList_load_row rfl 101 _ rfl w.heap.size rfl 101 m (0, 0) _ HF.out Tryd.underlying101 rfl HIm.out ?_) | (refine wpList_store_row rfl 101 _ _ rfl (w.heap.size + 2) m rfl rfl 101 _ HR4.out HIm.out HZM.out H1m.out ?_))
          refine bodyPost_ret (v := .agg m) (results_cell_row (p := 4) (ty := 101) rfl _ _ (w.heap.size + 2) 101 m (0, 0) _ rfl (setRow_heap _ _ _ _ _ _ HR4.out) Tryd.underlying101 rfl HIm.out) rfl ?_
          rw [HMM.out]
          exact ⟨rfl, HBF.out⟩
theorem mix_any (w : World) (hs : List Nat) (l : List Int) (h8 : W8 hs) (hl : l.length = 64) (hby : ∀ x ∈ l, 0 ≤ x ∧ x < 256) (hk : KC w) :
    Calls Tryd.prog 95 #[.agg (cellsW hs), .agg (cellsB l)] w fun e w' => e = .returned (.agg (cellsW (mixL hs l))) ∧ Below w.heap.size w w' :=
  mix_core w hs (wordsTo l 64) l h8 hl (wordsTo_length l 64) (wordsTo_lt hby 64) hk (fun W => sched_any W l hl hby)
def iv : List Nat := [1779033703, 3144134277, 1013904242, 2773480762, 1359893119, 2600822924, 528734635, 1541459225]
theorem iv_W8 : W8 iv := ⟨rfl, by decide⟩
theorem built_iv : Tryd.prog.built 101 [(0, .int .u32 1779033703), (1, .int .u32 3144134277), (2, .int .u32 1013904242), (3, .int .u32 2773480762), (4, .int .u32 1359893119), (5, .int .u32 2600822924), (6, .int .u32 528734635), (7, .int .u32 1541459225)] = some (cellsW iv) := by kernel_rfl
set_option maxRecDepth 100000 in
set_option maxHeartbeats 1000000 in
theorem initial_any (w : World) : Calls Tryd.prog 94 #[] w fun e w' => e = .returned (.agg (cellsW iv)) ∧ Below w.heap.size w w' := by
  obtain ⟨z8, HZ8⟩ : ∃ z8, Hid (cellsW (zerosW 8) = z8) := ⟨_, rfl⟩
  have hz8 := zero_w8
  rw [HZ8.out] at hz8
  have HZ1 := hid hz8
  have HIm : Hid ((Tryd.prog.info? 101).map (·.size) = some (cellsW iv).size) := size_w8
  have H1m : Hid ((cellsW iv).all (·.oneCell') = true) := cellsW_one _
  have HZM : Hid (z8.size = (cellsW iv).size) := by rw [← HZ8.out, cellsW_size, zerosW_length]; exact rfl
  have HR : Hid ((w.alloc (.cells z8 101)).heap[w.heap.size]? = some (.cells z8 101 (0, 0))) := heap_alloc_new w _
  have HB := hid (below_setRow ((Below.refl _ w).alloc (Nat.le_refl _) (.cells z8 101)) (g := w.heap.size) (Nat.le_refl _) (cellsW iv))
  clear hz8
  go_enter Tryd.func94, Tryd.ntmps94
  go_wp2_with (first | (refine wpList_alloc_agg HZ1.out rfl rfl ?_) | (refine wpList_store_row rfl 101 _ _ rfl w.heap.size (cellsW iv) rfl rfl 101 _ HR.out HIm.out HZM.out H1m.out ?_))
  refine bodyPost_ret (v := .agg (cellsW iv)) (results_cell_row (p := 0) (ty := 101) rfl _ _ w.heap.size 101 (cellsW iv) (0, 0) _ rfl (setRow_heap _ _ _ _ _ _ HR.out) Tryd.underlying101 rfl HIm.out) rfl ?_
  exact ⟨rfl, HB.out⟩
def hashC (bw ww : List Nat) (rest : List Int) (n : Int) : List Value := bw.map (fun x : Nat => Value.int .u32 (x : Int)) ++ (ww.map (fun x : Nat => Value.int .u32 (x : Int)) ++ (rest.map (Value.int .u8) ++ [.int .i64 n]))
theorem built_hash : Tryd.prog.built 135 [(0, .agg (cellsW iv)), (1, .agg (cellsW iv))] = some (hashC iv iv (List.replicate 64 0) 0).toArray := by kernel_rfl
set_option maxRecDepth 100000 in
set_option maxHeartbeats 1000000 in
theorem new_any (w : World) : Calls Tryd.prog 82 #[] w fun e w' => ∃ g, e = .returned (.pointer (some ⟨g, 0, none⟩)) ∧ w.heap.size ≤ g ∧ w'.heap[g]? = some (.cells (hashC iv iv (List.replicate 64 0) 0).toArray 135 (0, 0)) ∧ Below w.heap.size w w' := by
  obtain ⟨m, HM⟩ : ∃ m, Hid (cellsW iv = m) := ⟨_, rfl⟩
  obtain ⟨hc, HC⟩ : ∃ hc, Hid ((hashC iv iv (List.replicate 64 0) 0).toArray = hc) := ⟨_, rfl⟩
  have hb := built_hash
  rw [HM.out, HC.out] at hb
  have HBT := hid hb
  have CI : Hid (∀ W, Calls Tryd.prog 94 #[] W fun e w' => e = .returned (.agg m) ∧ Below W.heap.size W w') := fun W => by rw [← HM.out]; exact initial_any W
  rw [HC.out]
  clear hb
  go_enter Tryd.func82, Tryd.ntmps82
  go_wp2_with fail
  refine (CI.out w).mono ?_
  rintro e w1 ⟨rfl, hB1⟩
  have B1 := hid hB1
  clear hB1
  go_wp2_with fail
  refine (CI.out w1).mono ?_
  rintro e w2 ⟨rfl, hB2⟩
  have B2 := hid (B1.out.trans (hB2.mono B1.out.size))
  clear hB2
  go_wp2_with (refine wpList_build rfl 135 _ rfl (by simp [Act.eval, HBT.out]) ?_)
  rw [show (Tryd.prog.built 135 [(0, .agg m), (1, .agg m)]).getD #[] = hc by rw [HBT.out]; rfl]
  go_ret
  exact ⟨w2.heap.size, rfl, B2.out.size, heap_alloc_new w2 _, B2.out.alloc B2.out.size _⟩
def eqRoundW (d : Nat) (xs ys : List Nat) (i : Nat) (_ : Option Bool × Unit) : Sem (ForInStep (Option Bool × Unit)) := do
  let a ← part 100 (cellsW xs) (i * 1)
  let b ← part 100 (cellsW ys) (i * 1)
  let c ← Op.equalIn (d + 1) 100 a b
  if (!c) = true then pure (ForInStep.done (some false, ())) else pure (ForInStep.yield (none, ()))
theorem run_eqRoundW (w : World) (d : Nat) (xs ys : List Nat) (i : Nat) (s : Option Bool × Unit) (hx : i < xs.length) (hy : i < ys.length) :
    (eqRoundW d xs ys i s).run Tryd.prog w = .ok (if xs.getD i 0 = ys.getD i 0 then .yield (none, ()) else .done (some false, ())) w := by
  unfold eqRoundW
  simp only [Sem.run_bind, Nat.mul_one, part_u32 w xs i hx, part_u32 w ys i hy, Result.andThen_ok, run_equalIn_int w d 100 .u32 .u32 _ _ Tryd.underlying100]
  by_cases h : xs.getD i 0 = ys.getD i 0
  · have e : (((xs.getD i 0 : Nat) : Int) == ((ys.getD i 0 : Nat) : Int)) = true := by rw [h]; simp
    rw [e, if_pos h]; rfl
  · have e : (((xs.getD i 0 : Nat) : Int) == ((ys.getD i 0 : Nat) : Int)) = false := by
      rw [beq_eq_false_iff_ne]
      intro h2
      exact h (by omega)
    rw [e, if_neg h]; rfl
theorem run_eqRoundsW (w : World) (d n : Nat) (xs ys : List Nat) (hx : xs.length = n) (hy : ys.length = n) : ∀ (m k : Nat), k + m = n → xs.take k = ys.take k →
    (forIn (List.range' k m 1) ((none : Option Bool), ()) (eqRoundW d xs ys)).run Tryd.prog w = .ok (if xs = ys then (none, ()) else (some false, ())) w
  | 0, k, hk, ht => by
    have e : xs = ys := by rw [← List.take_of_length_le (show xs.length ≤ k by omega), ← List.take_of_length_le (show ys.length ≤ k by omega), ht]
    simp [e]
  | m + 1, k, hk, ht => by
    rw [List.range'_succ, List.forIn_cons, Sem.run_bind, run_eqRoundW w d xs ys k _ (by omega) (by omega), Result.andThen_ok]
    by_cases h : xs.getD k 0 = ys.getD k 0
    · rw [if_pos h]
      have h2 : xs.take (k + 1) = ys.take (k + 1) := by
        rw [List.take_succ_eq_append_getElem (by omega), List.take_succ_eq_append_getElem (by omega), ht]
        simp only [List.getD, List.getElem?_eq_getElem (show k < xs.length by omega), List.getElem?_eq_getElem (show k < ys.length by omega), Option.getD_some] at h
        rw [h]
      exact run_eqRoundsW w d n xs ys hx hy m (k + 1) (by omega) h2
    · rw [if_neg h, if_neg (fun e => h (by rw [e]))]
      rfl
theorem run_eql_words (w : World) (n : Nat) (t : TypeId) (ht : Tryd.prog.underlying t = some (.array n 100)) (xs ys : List Nat) (hx : xs.length = n) (hy : ys.length = n) :
    (binOp .eql t (.agg (cellsW xs)) (.agg (cellsW ys))).run Tryd.prog w = .ok (.bool (decide (xs = ys))) w := by
  have hq : (Op.equalIn (9998 + 2) t (.agg (cellsW xs)) (.agg (cellsW ys))).run Tryd.prog w = .ok (decide (xs = ys)) w := by
    rw [Op.equalIn]
    simp only [Sem.run_bind, run_underlying ht, Result.andThen_ok, size_u32]
    have hr := run_eqRoundsW w 9998 n xs ys hx hy n 0 (by omega) rfl
    have e : (forIn (m := Sem) [:n] ((none : Option Bool), ()) (eqRoundW 9998 xs ys)) = forIn (List.range' 0 n 1) ((none : Option Bool), ()) (eqRoundW 9998 xs ys) := by
      rw [Std.Legacy.Range.forIn_eq_forIn_range']
      simp [Std.Legacy.Range.size]
    rw [← e] at hr
    refine (congrArg (fun r => Result.andThen r _) hr).trans ?_
    by_cases h : xs = ys
    · simp [h]
    · simp [h]
  rw [run_eql_struct, hq]
  rfl
theorem rot_bits2 (x n : Nat) (hx : x < 4294967296) : bits .or .u32 ((x : Int) / 2 ^ n) (IntKind.u32.wrap ((x : Int) * 2 ^ (32 - n))) = ((rot x n : Nat) : Int) := by
  have e1 : IntKind.u32.wrap ((x : Int) * 2 ^ (32 - n)) = ((x * 2 ^ (32 - n) % 4294967296 : Nat) : Int) := by
    rw [IntKind.wrap_u32, Int.natCast_emod, Int.natCast_mul, Int.natCast_pow]
    rfl
  have e2 : (x : Int) / 2 ^ n = ((x / 2 ^ n : Nat) : Int) := by rw [Int.natCast_ediv, Int.natCast_pow]; rfl
  rw [e1, e2, u32_or_nat _ _ (Nat.lt_of_le_of_lt (Nat.div_le_self _ _) hx) (Nat.mod_lt _ (by decide)), Nat.or_comm]
  rfl
set_option maxRecDepth 100000 in
set_option maxHeartbeats 1000000 in
theorem rturn_6 (w : World) (x : Nat) (hx : x < 4294967296) : Calls Tryd.prog 77 #[.int .u32 (x : Int), .int .u64 6] w fun e w' => e = .returned (.int .u32 ((rot x 6 : Nat) : Int)) ∧ w' = w := by
  have HR := hid (rot_bits2 x 6 hx)
  go_enter Tryd.func77, Tryd.ntmps77
  go_wp2
  go_ret
  refine ⟨?_, rfl⟩
  rw [← HR.out]
  rfl
set_option maxRecDepth 100000 in
set_option maxHeartbeats 1000000 in
theorem rturn_11 (w : World) (x : Nat) (hx : x < 4294967296) : Calls Tryd.prog 77 #[.int .u32 (x : Int), .int .u64 11] w fun e w' => e = .returned (.int .u32 ((rot x 11 : Nat) : Int)) ∧ w' = w := by
  have HR := hid (rot_bits2 x 11 hx)
  go_enter Tryd.func77, Tryd.ntmps77
  go_wp2
  go_ret
  refine ⟨?_, rfl⟩
  rw [← HR.out]
  rfl
set_option maxRecDepth 100000 in
set_option maxHeartbeats 1000000 in
theorem rturn_25 (w : World) (x : Nat) (hx : x < 4294967296) : Calls Tryd.prog 77 #[.int .u32 (x : Int), .int .u64 25] w fun e w' => e = .returned (.int .u32 ((rot x 25 : Nat) : Int)) ∧ w' = w := by
  have HR := hid (rot_bits2 x 25 hx)
  go_enter Tryd.func77, Tryd.ntmps77
  go_wp2
  go_ret
  refine ⟨?_, rfl⟩
  rw [← HR.out]
  rfl
set_option maxRecDepth 100000 in
set_option maxHeartbeats 1000000 in
theorem rturn_2 (w : World) (x : Nat) (hx : x < 4294967296) : Calls Tryd.prog 77 #[.int .u32 (x : Int), .int .u64 2] w fun e w' => e = .returned (.int .u32 ((rot x 2 : Nat) : Int)) ∧ w' = w := by
  have HR := hid (rot_bits2 x 2 hx)
  go_enter Tryd.func77, Tryd.ntmps77
  go_wp2
  go_ret
  refine ⟨?_, rfl⟩
  rw [← HR.out]
  rfl
set_option maxRecDepth 100000 in
set_option maxHeartbeats 1000000 in
theorem rturn_13 (w : World) (x : Nat) (hx : x < 4294967296) : Calls Tryd.prog 77 #[.int .u32 (x : Int), .int .u64 13] w fun e w' => e = .returned (.int .u32 ((rot x 13 : Nat) : Int)) ∧ w' = w := by
  have HR := hid (rot_bits2 x 13 hx)
  go_enter Tryd.func77, Tryd.ntmps77
  go_wp2
  go_ret
  refine ⟨?_, rfl⟩
  rw [← HR.out]
  rfl
set_option maxRecDepth 100000 in
set_option maxHeartbeats 1000000 in
theorem rturn_22 (w : World) (x : Nat) (hx : x < 4294967296) : Calls Tryd.prog 77 #[.int .u32 (x : Int), .int .u64 22] w fun e w' => e = .returned (.int .u32 ((rot x 22 : Nat) : Int)) ∧ w' = w := by
  have HR := hid (rot_bits2 x 22 hx)
  go_enter Tryd.func77, Tryd.ntmps77
  go_wp2
  go_ret
  refine ⟨?_, rfl⟩
  rw [← HR.out]
  rfl
set_option maxRecDepth 100000 in
set_option maxHeartbeats 1000000 in
theorem rturn_7 (w : World) (x : Nat) (hx : x < 4294967296) : Calls Tryd.prog 77 #[.int .u32 (x : Int), .int .u64 7] w fun e w' => e = .returned (.int .u32 ((rot x 7 : Nat) : Int)) ∧ w' = w := by
  have HR := hid (rot_bits2 x 7 hx)
  go_enter Tryd.func77, Tryd.ntmps77
  go_wp2
  go_ret
  refine ⟨?_, rfl⟩
  rw [← HR.out]
  rfl
set_option maxRecDepth 100000 in
set_option maxHeartbeats 1000000 in
theorem rturn_18 (w : World) (x : Nat) (hx : x < 4294967296) : Calls Tryd.prog 77 #[.int .u32 (x : Int), .int .u64 18] w fun e w' => e = .returned (.int .u32 ((rot x 18 : Nat) : Int)) ∧ w' = w := by
  have HR := hid (rot_bits2 x 18 hx)
  go_enter Tryd.func77, Tryd.ntmps77
  go_wp2
  go_ret
  refine ⟨?_, rfl⟩
  rw [← HR.out]
  rfl
set_option maxRecDepth 100000 in
set_option maxHeartbeats 1000000 in
theorem rturn_17 (w : World) (x : Nat) (hx : x < 4294967296) : Calls Tryd.prog 77 #[.int .u32 (x : Int), .int .u64 17] w fun e w' => e = .returned (.int .u32 ((rot x 17 : Nat) : Int)) ∧ w' = w := by
  have HR := hid (rot_bits2 x 17 hx)
  go_enter Tryd.func77, Tryd.ntmps77
  go_wp2
  go_ret
  refine ⟨?_, rfl⟩
  rw [← HR.out]
  rfl
set_option maxRecDepth 100000 in
set_option maxHeartbeats 1000000 in
theorem rturn_19 (w : World) (x : Nat) (hx : x < 4294967296) : Calls Tryd.prog 77 #[.int .u32 (x : Int), .int .u64 19] w fun e w' => e = .returned (.int .u32 ((rot x 19 : Nat) : Int)) ∧ w' = w := by
  have HR := hid (rot_bits2 x 19 hx)
  go_enter Tryd.func77, Tryd.ntmps77
  go_wp2
  go_ret
  refine ⟨?_, rfl⟩
  rw [← HR.out]
  rfl
def partW (l : List Int) (I : Nat) : Nat → Nat
  | 0 => 0
  | J + 1 => partW l I J * 256 + (l.getD (4 * I + J) 0).toNat
theorem partW_four (l : List Int) (I : Nat) : partW l I 4 = beW l I := by
  simp only [partW, beW, Nat.add_zero]
  omega
theorem partW_lt {l : List Int} (h : ∀ x ∈ l, 0 ≤ x ∧ x < 256) (I : Nat) : ∀ J, partW l I J < 256 ^ J
  | 0 => by simp [partW]
  | J + 1 => by
    have h1 := partW_lt h I J
    have h2 := byte_nat h (4 * I + J)
    simp only [partW, Nat.pow_succ]
    omega
theorem curWs_zero (l : List Int) (I : Nat) (hI : I < 64) : (curWs l I).set I 0 = curWs l I := by
  unfold curWs
  have hl : (wordsTo l I).length = I := wordsTo_length l I
  rw [List.set_append_right _ _ (by omega), hl, Nat.sub_self, show 64 - I = (63 - I) + 1 by omega, List.replicate_succ, List.set_cons_zero]
set_option maxRecDepth 100000 in
set_option maxHeartbeats 4000000 in
theorem rwords_any (w : World) (l : List Int) (hl : l.length = 64) (hby : ∀ x ∈ l, 0 ≤ x ∧ x < 256) :
    Calls Tryd.prog 75 #[.agg (cellsB l)] w fun e w' => e = .returned (.agg (cellsW (wordsTo l 64))) ∧ Below w.heap.size w w' := by
  obtain ⟨z, HZ⟩ : ∃ z, Hid (cellsW (zerosW 64) = z) := ⟨_, rfl⟩
  have hz := zero_w64
  rw [HZ.out] at hz
  have HZ0 := hid hz
  obtain ⟨bl, HBL⟩ : ∃ bl, Hid (cellsB l = bl) := ⟨_, rfl⟩
  rw [HBL.out]
  clear hz
  go_enter Tryd.func75, Tryd.ntmps75
  go_wp2_with (refine wpList_alloc_agg HZ0.out rfl rfl ?_)
  obtain ⟨W0, hW0⟩ : ∃ W0, Hid (((w.alloc (.cells bl 103)).alloc (.cells z 113)).alloc (.cells z 113) = W0) := ⟨_, rfl⟩
  rw [hW0.out]
  have HB0 : Hid (Below w.heap.size w W0) := by rw [← hW0.out]; exact (((Below.refl _ w).alloc (Nat.le_refl _) _).alloc (by simp) _).alloc (by simp; omega) _
  have HS0 : Hid (W0.heap.size = w.heap.size + 3) := by rw [← hW0.out]; show _ = _; simp
  have H0 : Hid (W0.heap[w.heap.size]? = some (.cells bl 103 (0, 0))) := by
    rw [← hW0.out]
    exact (Below.heap_alloc _ _ _ (by simp; omega)).trans ((Below.heap_alloc _ _ _ (by simp)).trans (heap_alloc_new w _))
  have H1 : Hid (W0.heap[w.heap.size + 1]? = some (.cells z 113 (0, 0))) := by
    rw [← hW0.out]
    refine (Below.heap_alloc _ _ _ (by simp)).trans ?_
    have := heap_alloc_new (w.alloc (.cells bl 103)) (.cells z 113)
    rwa [World.size_alloc] at this
  have H2 : Hid (W0.heap[w.heap.size + 2]? = some (.cells (cellsW (curWs l 0)) 113 (0, 0))) := by
    have := heap_alloc_new ((w.alloc (.cells bl 103)).alloc (.cells z 113)) (.cells z 113)
    rw [World.size_alloc, World.size_alloc, hW0.out, ← HZ.out] at this
    exact this
  clear hW0
  go_loopw [4] (fun i wr => ∃ I : Nat, I ≤ 16 ∧ i = .int .i64 I ∧ Hid (wr.heap[w.heap.size + 2]? = some (.cells (cellsW (curWs l I)) 113 (0, 0))) ∧ Hid (W0.grownBy wr (some (w.heap.size + 2)))) (fun i _ => 16 - (intOf i).toNat)
  case atStart => exact ⟨0, Nat.zero_le _, rfl, H2, ⟨rfl, rfl, rfl, Nat.le_refl _, fun _ _ _ => rfl⟩⟩
  case round =>
    obtain ⟨I, hI, rfl, HF, HG⟩ := hrel
    obtain ⟨wo, rfl⟩ : ∃ wo, wo = wr := ⟨_, rfl⟩
    by_cases hlt : I < 16
    · have HF0 : Hid (wo.heap[w.heap.size + 2]? = some (.cells (cellsW ((curWs l I).set I (partW l I 0))) 113 (0, 0))) := by
        rw [show partW l I 0 = 0 from rfl, curWs_zero l I (by omega)]
        exact HF
      go_wp2
      go_loopw [5] (fun i wq => ∃ J : Nat, J ≤ 4 ∧ i = .int .i64 J ∧ Hid (wq.heap[w.heap.size + 2]? = some (.cells (cellsW ((curWs l I).set I (partW l I J))) 113 (0, 0))) ∧ Hid (W0.grownBy wq (some (w.heap.size + 2)))) (fun i _ => 4 - (intOf i).toNat)
      case atStart => exact ⟨0, Nat.zero_le _, rfl, HF0, HG⟩
      case round =>
        clear HF HG HF0
        obtain ⟨J, hJ, rfl, HF, HG⟩ := hrel
        by_cases hlj : J < 4
        · have hb := (HG.out.block w.heap.size (by rw [HS0.out]; omega) (by simp)).trans H0.out
          have hlj2 : 4 * I + J < l.length := by omega
          obtain ⟨a, HA⟩ : ∃ a, Hid ((l.getD (4 * I + J) 0).toNat = a) := ⟨_, rfl⟩
          have ha : a < 256 := by rw [← HA.out]; exact byte_nat hby _
          have ca : wr.cell? ⟨w.heap.size, 4 * I + J, none⟩ = some (.int .u8 (a : Int)) := by
            rw [cell_of_row wr w.heap.size _ _ _ _ hb, ← HBL.out, ← HA.out]
            have := hby _ (List.getElem_mem hlj2)
            simp only [cellsB, List.getElem?_toArray, List.getElem?_map, List.getElem?_eq_getElem hlj2, Option.map_some, getD_of_lt hlj2]
            congr 2
            omega
          obtain ⟨x, HX⟩ : ∃ x, Hid (partW l I J = x) := ⟨_, rfl⟩
          have hx : x < 16777216 := by
            rw [← HX.out]
            exact Nat.lt_of_lt_of_le (partW_lt hby I J) (Nat.pow_le_pow_right (by decide) (show J ≤ 3 by omega))
          rw [HX.out] at HF
          have HN : Hid (partW l I (J + 1) = x * 256 + a) := by show _ = _; simp only [partW]; rw [HX.out, HA.out]
          have hcx : wr.cell? ⟨w.heap.size + 2, I, none⟩ = some (.int .u32 (x : Int)) := by
            rw [cell_of_row wr (w.heap.size + 2) I _ _ _ HF.out, cellsW_get (by rw [List.length_set, curWs_length l I (by omega)]; omega)]
            simp [List.getD, curWs_length l I (show I ≤ 64 by omega), show I < 64 by omega]
          have hfz : wr.frozen? ⟨w.heap.size + 2, I, none⟩ = false := by simp [World.frozen?, HF.out]
          clear hb
          go_wp2
          go_region
          all_goals go_wp2
          refine ⟨⟨J + 1, by omega, by go_num, ?_, grown_tr HG.out (grown_setd _ _ _ _)⟩, by simp [intOf]; omega⟩
          show _ = _
          rw [HN.out, ← List.set_set (a := x), ← cellsW_set _ I (x * 256 + a)]
          rw [show ((x * 256 + a : Nat) : Int) = (x : Int) * 256 + (a : Int) by omega]
          exact heap_setCell_same _ (w.heap.size + 2) I _ _ _ HF.out
        · have hJ4 : J = 4 := by omega
          subst hJ4
          have HST : Hid ((curWs l I).set I (partW l I 4) = curWs l (I + 1)) := by
            show _ = _
            rw [partW_four, ← curWs_step l I (by omega)]
            unfold nextW
            rw [if_pos hlt]
          rw [HST.out] at HF
          go_wp2
          exact ⟨⟨I + 1, by omega, by go_num, HF, HG⟩, by simp [intOf]; omega⟩
    · have hI16 : I = 16 := by omega
      rw [hI16] at HF
      clear hI16
      go_wp2
      clear hlt
      go_loopw [6] (fun i wq => ∃ I : Nat, 16 ≤ I ∧ I ≤ 64 ∧ i = .int .i64 I ∧ Hid (wq.heap[w.heap.size + 2]? = some (.cells (cellsW (curWs l I)) 113 (0, 0))) ∧ Hid (W0.grownBy wq (some (w.heap.size + 2)))) (fun i _ => 64 - (intOf i).toNat)
      case atStart => exact ⟨16, Nat.le_refl _, by decide, rfl, HF, HG⟩
      case round =>
        clear HF HG hI
        obtain ⟨I, hI16, hI, rfl, HF, HG⟩ := hrel
        by_cases hlt : I < 64
        · have cell : ∀ j, j < I → ∃ a : Nat, a < 4294967296 ∧ wr.cell? ⟨w.heap.size + 2, j, none⟩ = some (.int .u32 (a : Int)) ∧ (wordsTo l I).getD j 0 = a := fun j hj => by
            refine ⟨_, getW_lt (wordsTo_lt hby I) j, ?_, rfl⟩
            rw [cell_of_row wr (w.heap.size + 2) j _ _ _ HF.out, cellsW_get (by rw [curWs_length l I hI]; omega), curWs_get l I j hj]
          obtain ⟨a2, ha2, c2, e2⟩ := cell (I - 2) (by omega)
          obtain ⟨a7, ha7, c7, e7⟩ := cell (I - 7) (by omega)
          obtain ⟨a15, ha15, c15, e15⟩ := cell (I - 15) (by omega)
          obtain ⟨a16, ha16, c16, e16⟩ := cell (I - 16) (by omega)
          have HV : Hid (nextW l (wordsTo l I) I = add32 (add32 (add32 (sig1 a2) a7) (sig0 a15)) a16) := by
            show _ = _
            unfold nextW
            rw [if_neg (by omega), e2, e7, e15, e16]
          have hci : wr.cell? ⟨w.heap.size + 2, I, none⟩ = some (.int .u32 (((curWs l I).getD I 0 : Nat) : Int)) := by
            rw [cell_of_row wr (w.heap.size + 2) I _ _ _ HF.out]
            exact cellsW_get (by rw [curWs_length l I (by omega)]; omega)
          obtain ⟨old, HOLD⟩ : ∃ old, Hid ((curWs l I).getD I 0 = old) := ⟨_, rfl⟩
          rw [HOLD.out] at hci
          have hfz : wr.frozen? ⟨w.heap.size + 2, I, none⟩ = false := by simp [World.frozen?, HF.out]
          have n2 : ((I : Int) - 2) = ((I - 2 : Nat) : Int) := by omega
          have n7 : ((I : Int) - 7) = ((I - 7 : Nat) : Int) := by omega
          have n15 : ((I : Int) - 15) = ((I - 15 : Nat) : Int) := by omega
          have n16 : ((I : Int) - 16) = ((I - 16 : Nat) : Int) := by omega
          clear cell e2 e7 e15 e16
          have HS0 := hid (sig0_bits a15 ha15)
          have HS1 := hid (sig1_bits a2 ha2)
          go_wp2_with fail
          refine (rturn_7 _ a15 ha15).mono ?_
          rintro e w' ⟨rfl, hw⟩
          subst hw
          go_wp2_with fail
          refine (rturn_18 _ a15 ha15).mono ?_
          rintro e w' ⟨rfl, hw⟩
          subst hw
          go_wp2_with fail
          rw [HS0.out]
          refine (rturn_17 _ a2 ha2).mono ?_
          rintro e w' ⟨rfl, hw⟩
          subst hw
          go_wp2_with fail
          refine (rturn_19 _ a2 ha2).mono ?_
          rintro e w' ⟨rfl, hw⟩
          subst hw
          go_wp2_with fail
          rw [HS1.out]
          go_region
          all_goals go_wp2
          have HADD : Hid ((((sig1 a2 : Nat) : Int) + (a7 : Int) + ((sig0 a15 : Nat) : Int) + (a16 : Int)) % 4294967296 = ((add32 (add32 (add32 (sig1 a2) a7) (sig0 a15)) a16 : Nat) : Int)) := by
            show _ = _
            unfold add32
            omega
          refine ⟨⟨I + 1, by omega, by omega, by go_num, ?_, grown_tr HG.out (grown_setd _ _ _ _)⟩, by simp [intOf]; omega⟩
          show _ = _
          rw [← curWs_step l I (by omega), HV.out, ← cellsW_set, HADD.out]
          exact heap_setCell_same _ (w.heap.size + 2) I _ _ _ HF.out
        · have hI64 : I = 64 := by omega
          subst hI64
          have HWW : Hid (curWs l 64 = wordsTo l 64) := by show _ = _; simp [curWs]
          rw [HWW.out] at HF
          obtain ⟨y, HY⟩ : ∃ y, Hid (cellsW (wordsTo l 64) = y) := ⟨_, rfl⟩
          rw [HY.out] at HF
          have hys : y.size = 64 := by rw [← HY.out, cellsW_size, wordsTo_length]
          have HIy : Hid ((Tryd.prog.info? 113).map (·.size) = some y.size) := by rw [hys]; exact size_w64
          have H1y : Hid (y.all (·.oneCell') = true) := by rw [← HY.out]; exact cellsW_one _
          have HF1c : Hid (wr.heap[w.heap.size + 1]? = some (.cells z 113 (0, 0))) := by
            rw [HG.out.block (w.heap.size + 1) (by rw [HS0.out]; omega) (by simp)]
            exact H1
          have HZY : Hid (z.size = y.size) := by rw [hys, ← HZ.out, cellsW_size, zerosW_length]; exact rfl
          have HB1 := hid (below_setRow (HB0.out.grown HG.out (by rw [HS0.out]; omega) (fun k e => by cases e; omega)) (g := w.heap.size + 1) (by omega) y)
          clear hys hlt
          go_wp2_with (first | (refine wpList_load_row rfl 113 _ rfl (w.heap.size + 2) rfl 113 y (0, 0) _ HF.out Tryd.underlying113 rfl HIy.out ?_) | (refine wpList_store_row rfl 113 _ _ rfl (w.heap.size + 1) y rfl rfl 113 _ HF1c.out HIy.out HZY.out H1y.out ?_))
          refine bodyPost_ret (v := .agg y) (results_cell_row (p := 2) (ty := 113) rfl _ _ (w.heap.size + 1) 113 y (0, 0) _ rfl (setRow_heap _ _ _ _ _ _ HF1c.out) Tryd.underlying113 rfl HIy.out) rfl ?_
          rw [HY.out]
          exact ⟨rfl, HB1.out⟩
end Go.Proofs.YtklklldmhoofnaaDoor
