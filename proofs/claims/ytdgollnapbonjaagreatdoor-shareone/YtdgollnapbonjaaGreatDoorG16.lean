/- Of the road to shareOneCard_holds: ShFrS, ShSpr, TrLv. -/
import Derived.Test.YtdgollnapbonjaaGreatDoorG14
import Derived.Test.YtdgollnapbonjaaGreatDoorG13
import Derived.Test.YtdgollnapbonjaaGreatDoorG09
import Derived.Laws.Cover3
set_option linter.unusedVariables false
set_option linter.unusedSimpArgs false
set_option maxRecDepth 100000
set_option maxHeartbeats 16000000
namespace Go.Proofs.YtdgollnapbonjaaGreatDoor
open Go Go.RowKit
theorem range_of_row {w : World} {g o : Nat} {m : Array Value} {T : TypeId} {fr : Nat × Nat} {l : List Value} (h : w.heap[g]? = some (.cells m T fr)) (hl : ∀ j, j < l.length -> m[o + j]? = l[j]?) : w.rangeAt g o l := by
 intro j v hv
 have hj := (List.getElem?_eq_some_iff.1 hv).1
 rw [cell_of_row _ _ _ _ _ _ h, hl j hj]
 exact hv
theorem pl_bd {k n g z : Int} (h : OkS k n g z) : ∀ i, i <= 5 -> 0 <= plF k n g z i /\ plF k n g z i <= 20000000 := by
 intro j hj
 have hpl := p_le k n g z
 have hdt := dt_le h
 have e5 : p5 k n g z = p4 k n g z + dtN k n g z := rfl
 match j, hj with
 | 0, _ => show 0 <= (36 : Int) /\ (36 : Int) <= 20000000; omega
 | 1, _ => show 0 <= p1 k n g z /\ p1 k n g z <= 20000000; omega
 | 2, _ => show 0 <= p2 k n g z /\ p2 k n g z <= 20000000; omega
 | 3, _ => show 0 <= p3 k n g z /\ p3 k n g z <= 20000000; omega
 | 4, _ => show 0 <= p4 k n g z /\ p4 k n g z <= 20000000; omega
 | 5, _ => show 0 <= p5 k n g z /\ p5 k n g z <= 20000000; omega
 | j + 6, h => omega
theorem part_ds (w : World) (v : Value) (cs : Array Value) (i : Nat) (h : cs[i]? = some v) : (part 26 cs i).run Tryz.prog w = .ok v w := by
 simp [part, h]
theorem run_idx3 (w : World) (cs : Array Value) (i : Nat) (hi : i < 3) (v : Value) (h : cs[i]? = some v) : (Instr.index 90 (.agg cs) (.int .i64 (i : Int))).run Tryz.prog w = .ok v w := by
 have h1 := part_ds w v cs i h
 simp [Instr.index, run_underlying Tryz.underlying90, asIntOf, h1, hi]
theorem size_ubL' {u : Ub} (h : u.ok) : (Tryz.prog.info? 25).map (·.size) = some (ubL u).length := by rw [ubL_length h]; exact size_ueb
def FsQ (w : World) (s : Sr) (e : Ending) (w' : World) : Prop :=
 ((FrQ s /\ e = .returned (.tuple #[shV (shR s.u.k s.u.n s.u.g s.u.z), .int .i64 0])) \/ (¬ FrQ s /\ e = .returned (.tuple #[shV sh0, .int .i64 141]))) /\ Below w.heap.size w w'
theorem frontShape_any (w : World) (s : Sr) (vc vb vs : Value) (h : HFr w s vc vb vs) (hkp : KP w) : Calls Tryz.prog 34 #[.agg (frA s vc vb vs)] w fun e w' => FsQ w s e w' := by
 have hu := h.u
 have C1 := hid fun w => shapeOf_any w s.u hu
 have HUB := hid (frA_ub hu vc vb vs)
 have g0 := hid (frA_num s vc vb vs)
 have g69 := hid (frA_ch hu vc vb vs)
 have g70 := hid (frA_bl hu vc vb vs)
 have g71 := hid (frA_sg hu vc vb vs)
 have HSU := hid (size_ubL' hu)
 have HUL := hid (ubL_length hu)
 obtain ⟨pc, cc, ec, hc1, hc2⟩ := h.ch.open
 obtain ⟨pb, cb, eb, hb1, hb2⟩ := h.bl.open
 obtain ⟨ps, cs, es, hs1, hs2⟩ := h.sg.open
 obtain ⟨m, Hm⟩ : ∃ x, Hid (frA s vc vb vs = x) := ⟨_, rfl⟩
 rw [Hm.out] at HUB g0 g69 g70 g71
 rw [Hm.out]
 rw [ec] at g69
 rw [eb] at g70
 rw [es] at g71
 have HK := hid hkp
 obtain ⟨z8, HZ8⟩ : ∃ x : Array Value, Hid (#[.int .i64 0, .int .i64 0, .int .i64 0, .int .i64 0, .int .i64 0, .int .i64 0, .int .i64 0, .int .i64 0] = x) := ⟨_, rfl⟩
 have HSZ : Hid ((Tryz.prog.info? 48).map (·.size) = some z8.size) := by refine hid ?_; rw [<- HZ8.out]; exact size_shape
 have HSS : Hid ((#[.int .i64 0, .int .i64 0, .int .i64 0, .int .i64 0, .int .i64 0, .int .i64 0, .int .i64 0, .int .i64 0] : Array Value).size = z8.size) := by refine hid ?_; rw [<- HZ8.out]
 have OZ : Hid (z8.all (·.oneCell') = true) := by refine hid ?_; rw [<- HZ8.out]; simp [Value.oneCell']
 have l1 := h.lc
 have l2 := h.lb
 have l3 := h.ls
 clear hc2 hb2 hs2
 obtain ⟨F, HF⟩ : ∃ F, Hid (FrQ s = F) := ⟨_, rfl⟩
 have IFF : Hid (F ↔ (OkS s.u.k s.u.n s.u.g s.u.z /\ 0 <= s.num /\ s.num < s.u.n /\ (s.ch.length : Int) = lgN s.u.n.toNat /\ (s.bl.length : Int) = ndN (upI s.u.z s.u.g) /\ (s.sg.length : Int) = ndN (upI s.u.z s.u.g))) := by
  refine hid ?_
  rw [<- HF.out]
  exact ⟨fun q => ⟨q.ok, q.n0, q.n1, by have := q.ch; omega, q.bl, q.sg⟩, fun ⟨a1, a2, a3, a4, a5, a6⟩ => ⟨a1, a2, a3, by omega, a5, a6⟩⟩
 unfold FsQ
 rw [HF.out]
 clear hkp HF
 obtain ⟨w0, HW0⟩ : ∃ x, Hid ((w.alloc (.cells m 28)).alloc (.cells #[.int .i64 0, .int .i64 0, .int .i64 0, .int .i64 0, .int .i64 0, .int .i64 0, .int .i64 0, .int .i64 0] 48) = x) := ⟨_, rfl⟩
 have H0 : Hid (w0.heap[w.heap.size]? = some (.cells m 28 (0, 0))) := by refine hid ?_; rw [<- HW0.out]; exact (heap_alloc_old _ _ (by simp)).trans (heap_alloc_new w _)
 have R0 : Hid (w0.heap[w.heap.size + 1]? = some (.cells #[.int .i64 0, .int .i64 0, .int .i64 0, .int .i64 0, .int .i64 0, .int .i64 0, .int .i64 0, .int .i64 0] 48 (0, 0))) := by
  refine hid ?_
  rw [<- HW0.out]
  have := heap_alloc_new (w.alloc (.cells m 28)) (.cells #[.int .i64 0, .int .i64 0, .int .i64 0, .int .i64 0, .int .i64 0, .int .i64 0, .int .i64 0, .int .i64 0] 48)
  simpa using this
 have B0 : Hid (Below w.heap.size w w0) := by refine hid ?_; rw [<- HW0.out]; exact ((Below.refl w.heap.size w).alloc (Nat.le_refl _) _).alloc (by simp) _
 have Z0 : Hid (w0.heap.size = w.heap.size + 2) := by refine hid ?_; rw [<- HW0.out]; simp
 have RU : Hid (w0.rangeAt w.heap.size 1 (ubL s.u)) := hid (range_of_row H0.out (fun j hj => by rw [HUL.out] at hj; exact HUB.out j hj))
 have HUA : Hid ((ubL s.u).toArray = ubA s.u) := rfl
 clear HUB HUL hu h
 obtain ⟨num, u, ch, bl, sg, dt⟩ := s
 dsimp only at C1 g0 HSU ec eb es g69 g70 g71 IFF RU HUA hc1 hb1 hs1 l1 l2 l3
 dsimp only
 clear Hm
 obtain ⟨uL', HuL⟩ : ∃ x, Hid (ubL u = x) := ⟨_, rfl⟩
 obtain ⟨uA', HuA⟩ : ∃ x, Hid (ubA u = x) := ⟨_, rfl⟩
 rw [HuL.out] at RU HUA HSU
 rw [HuA.out] at C1 HUA
 obtain ⟨k, n, g, z, ua, ub⟩ := u
 dsimp only at C1 IFF
 dsimp only
 go_enter Tryz.func34, Tryz.ntmps34
 refine wp_seq_k fun K1 h1 => ?_
 have HK1 := hid h1
 clear h1
 go_wp2
 rw [HW0.out]
 refine HK1.out _ _ ?_
 clear HK1 K1
 go_wp2_with (first | (refine wpList_load_mid rfl 25 _ rfl w.heap.size 1 rfl uL' _ RU.out Tryz.underlying25 rfl HSU.out ?_; rw [HUA.out]) | fail)
 refine (C1.out w0).mono ?_
 rintro e w1 ⟨rfl, hb1'⟩
 have B1 := hid (B0.out.trans (hb1'.mono B0.out.size))
 have R1 := hid ((hb1'.block (w.heap.size + 1) (by rw [Z0.out]; omega)).trans R0.out)
 have H1 := hid ((hb1'.block w.heap.size (by rw [Z0.out]; omega)).trans H0.out)
 have S1 : Hid (w.heap.size + 2 <= w1.heap.size) := hid (by have := hb1'.size; rw [Z0.out] at this; exact this)
 clear hb1' C1 RU
 by_cases hok : OkS k n g z
 ·rw [show agT k n g z = shR k n g z from if_pos hok, show agE k n g z = 0 from if_pos hok]
  have HOK := hid hok
  have SY := hid (shV_size (shR k n g z) rfl)
  have OY : Hid ((ints (shR k n g z)).all (·.oneCell') = true) := by refine hid ?_; simp [ints, shR, Value.oneCell']
  have y1 : Hid ((ints (shR k n g z))[1]? = some (.int .i64 n)) := rfl
  have C2 := hid fun w => layout_any w k n g z hok
  unfold shV at C2
  unfold shV
  have SY8 : Hid ((ints (shR k n g z)).size = 8) := rfl
  obtain ⟨y, Hy⟩ : ∃ x, Hid (ints (shR k n g z) = x) := ⟨_, rfl⟩
  rw [Hy.out] at C2 SY OY y1 SY8
  rw [Hy.out]
  have Z2 := hid (heap_alloc_new w1 (.cells #[.int .i64 0, .int .i64 0, .int .i64 0, .int .i64 0, .int .i64 0, .int .i64 0, .int .i64 0, .int .i64 0] 48))
  obtain ⟨w2, HW2⟩ : ∃ x, Hid ((w1.alloc (.cells #[.int .i64 0, .int .i64 0, .int .i64 0, .int .i64 0, .int .i64 0, .int .i64 0, .int .i64 0, .int .i64 0] 48)).setRow w1.heap.size y = x) := ⟨_, rfl⟩
  have Y2 : Hid (w2.heap[w1.heap.size]? = some (.cells y 48 (0, 0))) := by refine hid ?_; rw [<- HW2.out]; exact setRow_heap _ _ _ _ _ _ Z2.out
  have OLD2 : ∀ i, i < w1.heap.size -> w2.heap[i]? = w1.heap[i]? := fun i hi => by rw [<- HW2.out]; exact (by simp [World.setRow, Array.getElem?_modify, show w1.heap.size ≠ i by omega] : ((w1.alloc (.cells #[.int .i64 0, .int .i64 0, .int .i64 0, .int .i64 0, .int .i64 0, .int .i64 0, .int .i64 0, .int .i64 0] 48)).setRow w1.heap.size y).heap[i]? = (w1.alloc (.cells #[.int .i64 0, .int .i64 0, .int .i64 0, .int .i64 0, .int .i64 0, .int .i64 0, .int .i64 0, .int .i64 0] 48)).heap[i]?).trans (heap_alloc_old w1 _ hi)
  have s1 := S1.out
  have R2 := hid ((OLD2 (w.heap.size + 1) (by omega)).trans R1.out)
  have H2 := hid ((OLD2 w.heap.size (by omega)).trans H1.out)
  have B2 : Hid (Below w.heap.size w w2) := by refine hid ?_; rw [<- HW2.out]; exact bel_setRow (B1.out.alloc B1.out.size _) B1.out.size _
  have S2 : Hid (w2.heap.size = w1.heap.size + 1) := by refine hid ?_; rw [<- HW2.out]; simp [World.setRow]
  have c0 : w2.cell? ⟨w.heap.size, 0, none⟩ = some (.int .i64 num) := (cell_of_row _ _ _ _ _ _ H2.out).trans g0.out
  have c1 : w2.cell? ⟨w1.heap.size, 1, none⟩ = some (.int .i64 n) := (cell_of_row _ _ _ _ _ _ Y2.out).trans y1.out
  clear OLD2
  by_cases hn : 0 <= num /\ num < n
  ·have hn0 : ¬ num < 0 := by omega
   have hn1 : ¬ n <= num := by omega
   have HN := hid hn
   clear hn hok
   go_wp2_with (first | (refine wpList_store_row rfl 48 _ _ rfl w1.heap.size y rfl rfl 48 _ Z2.out SY.out (by rw [SY8.out]; rfl) OY.out ?_; rw [HW2.out]) | (refine wpList_load_row rfl 48 _ rfl w1.heap.size rfl 48 y (0, 0) _ Y2.out Tryz.underlying48 rfl SY.out ?_) | fail)
   refine (C2.out w2 (HK.out.below B2.out)).mono ?_
   rintro e w3 ⟨rfl, hb3⟩
   have s2 := S2.out
   have hs3 := hb3.size
   have HBD := hid (pl_bd HOK.out)
   have EQ1 : Hid (plF k n g z 2 - plF k n g z 1 = (lgN n.toNat : Int) * 32) := hid (by show p2 k n g z - p1 k n g z = _; unfold p2; omega)
   have EQ2 : Hid (plF k n g z 3 - plF k n g z 2 = ndN (upI z g) * 32) := hid (by show p3 k n g z - p2 k n g z = _; unfold p3; omega)
   have EQ3 : Hid (plF k n g z 4 - plF k n g z 3 = ndN (upI z g) * 32) := hid (by show p4 k n g z - p3 k n g z = _; unfold p4; omega)
   obtain ⟨t6, HT⟩ : ∃ x, Hid (tab6 (plF k n g z) = x) := ⟨_, rfl⟩
   have HT6 : Hid ((Tryz.prog.info? 86).map (·.size) = some t6.size) := by refine hid ?_; rw [<- HT.out]; exact size_pl
   have HTO : Hid (t6.all (·.oneCell') = true) := by refine hid ?_; rw [<- HT.out]; simp [tab6, Value.oneCell']
   have HTS : Hid (t6.size = 6) := by refine hid ?_; rw [<- HT.out]; rfl
   rw [HT.out]
   have Z3 := hid (heap_alloc_new w3 (.cells #[.int .i64 0, .int .i64 0, .int .i64 0, .int .i64 0, .int .i64 0, .int .i64 0] 86))
   obtain ⟨w4, HW4⟩ : ∃ x, Hid ((w3.alloc (.cells #[.int .i64 0, .int .i64 0, .int .i64 0, .int .i64 0, .int .i64 0, .int .i64 0] 86)).setRow w3.heap.size t6 = x) := ⟨_, rfl⟩
   have P4 : Hid (w4.heap[w3.heap.size]? = some (.cells t6 86 (0, 0))) := by refine hid ?_; rw [<- HW4.out]; exact setRow_heap _ _ _ _ _ _ Z3.out
   have OLD4 : ∀ i, i < w3.heap.size -> w4.heap[i]? = w3.heap[i]? := fun i hi => by rw [<- HW4.out]; exact (by simp [World.setRow, Array.getElem?_modify, show w3.heap.size ≠ i by omega] : ((w3.alloc (.cells #[.int .i64 0, .int .i64 0, .int .i64 0, .int .i64 0, .int .i64 0, .int .i64 0] 86)).setRow w3.heap.size t6).heap[i]? = (w3.alloc (.cells #[.int .i64 0, .int .i64 0, .int .i64 0, .int .i64 0, .int .i64 0, .int .i64 0] 86)).heap[i]?).trans (heap_alloc_old w3 _ hi)
   have R4 := hid ((OLD4 (w.heap.size + 1) (by omega)).trans ((hb3.block (w.heap.size + 1) (by omega)).trans R2.out))
   have Y4 := hid ((OLD4 w1.heap.size (by omega)).trans ((hb3.block w1.heap.size (by omega)).trans Y2.out))
   have H4 := hid ((OLD4 w.heap.size (by omega)).trans ((hb3.block w.heap.size (by omega)).trans H2.out))
   have B3 := hid (B2.out.trans (hb3.mono B2.out.size))
   have B4 : Hid (Below w.heap.size w w4) := by refine hid ?_; rw [<- HW4.out]; exact bel_setRow (B3.out.alloc B3.out.size _) B3.out.size _
   have S4 : Hid (w4.heap.size = w3.heap.size + 1) := by refine hid ?_; rw [<- HW4.out]; simp [World.setRow]
   have d69 : w4.cell? ⟨w.heap.size, 69, none⟩ = some (.slice pc ch.length cc) := (cell_of_row _ _ _ _ _ _ H4.out).trans g69.out
   have d70 : w4.cell? ⟨w.heap.size, 70, none⟩ = some (.slice pb bl.length cb) := (cell_of_row _ _ _ _ _ _ H4.out).trans g70.out
   have d71 : w4.cell? ⟨w.heap.size, 71, none⟩ = some (.slice ps sg.length cs) := (cell_of_row _ _ _ _ _ _ H4.out).trans g71.out
   obtain ⟨y3, HY3⟩ : ∃ x : Array Value, Hid (#[.slice pc ch.length cc, .slice pb bl.length cb, .slice ps sg.length cs] = x) := ⟨_, rfl⟩
   have S4' : Hid (w3.heap.size < w4.heap.size) := hid (by rw [S4.out]; omega)
   clear OLD4 hb3 C2 c0 c1
   go_wp2_with (first | (refine wpList_store_row rfl 86 _ _ rfl w3.heap.size t6 rfl rfl 86 _ Z3.out HT6.out (by rw [HTS.out]; rfl) HTO.out ?_; rw [HW4.out]) | fail)
   rw [HY3.out]
   go_loopw [39] (fun ii wr => ∃ I : Nat, I <= 3 /\ ii = .int .i64 (I : Int) /\ Hid ((1 <= I -> (ch.length : Int) * 32 = plF k n g z 2 - plF k n g z 1) /\ (2 <= I -> (bl.length : Int) * 32 = plF k n g z 3 - plF k n g z 2) /\ (3 <= I -> (sg.length : Int) * 32 = plF k n g z 4 - plF k n g z 3)) /\ Hid (wr.heap[w.heap.size + 1]? = some (.cells #[.int .i64 0, .int .i64 0, .int .i64 0, .int .i64 0, .int .i64 0, .int .i64 0, .int .i64 0, .int .i64 0] 48 (0, 0))) /\ Hid (wr.heap[w1.heap.size]? = some (.cells y 48 (0, 0))) /\ Hid (wr.heap[w3.heap.size]? = some (.cells t6 86 (0, 0))) /\ Hid (w3.heap.size < wr.heap.size) /\ Hid (Below w.heap.size w wr)) (fun ii _ => 3 - (intOf ii).toNat)
   case atStart => exact ⟨0, by omega, rfl, hid ⟨fun h => absurd h (by omega), fun h => absurd h (by omega), fun h => absurd h (by omega)⟩, R4, Y4, P4, S4', B4⟩
   case round =>
    clear R4 Y4 P4 S4' B4 d69 d70 d71 H4
    obtain ⟨I, hI, rfl, HC, R3, Y3, P3, S3, B4⟩ := hrel
    have s3 := S3.out
    by_cases hlt : I < 3
    ·rcases (by omega : I = 0 \/ I = 1 \/ I = 2) with rfl | rfl | rfl
     ·have hix : ∀ W, (Instr.index 90 (.agg y3) (.int .i64 0)).run Tryz.prog W = .ok (.slice pc ch.length cc) W := fun W => by rw [<- HY3.out]; exact run_idx3 W _ 0 (by omega) _ rfl
      have CZ := hid (partSize1 wr (plF k n g z) (pl_bd HOK.out))
      rw [HT.out] at CZ
      have ew : IntKind.i64.wrap ((ch.length : Int) * 32) = (ch.length : Int) * 32 := by rw [IntKind.wrap_i64]; omega
      go_wp2_with (first | (refine wpList_load_row rfl 86 _ rfl w3.heap.size rfl 86 t6 (0, 0) _ P3.out Tryz.underlying86 rfl HT6.out ?_) | fail)
      refine CZ.out.mono ?_
      rintro e w5 ⟨rfl, hb5⟩
      have B5 := hid (B4.out.trans (hb5.mono B4.out.size))
      have R5 := hid ((hb5.block (w.heap.size + 1) (by omega)).trans R3.out)
      have Y5 := hid ((hb5.block w1.heap.size (by omega)).trans Y3.out)
      have P5 := hid ((hb5.block w3.heap.size (by omega)).trans P3.out)
      have S5 : Hid (w3.heap.size < w5.heap.size) := hid (by have := hb5.size; omega)
      clear hb5 CZ
      by_cases hq : (ch.length : Int) * 32 = plF k n g z 2 - plF k n g z 1
      ·have hqb : ((ch.length : Int) * 32 != plF k n g z 2 - plF k n g z 1) = false := by simpa using hq
       have HQ := hid hq
       clear hq
       go_wp2
       exact ⟨⟨1, by omega, by go_num, hid ⟨fun _ => HQ.out, fun h => absurd h (by omega), fun h => absurd h (by omega)⟩, R5, Y5, P5, S5, B5⟩, by simp [intOf]⟩
      ·have hqb : ((ch.length : Int) * 32 != plF k n g z 2 - plF k n g z 1) = true := by simpa using hq
       have NF : Hid (¬ F) := hid (fun f => hq (by have := (IFF.out.1 f).2.2.2; rw [EQ1.out]; have h1 := this.1; have h2 := this.2.1; have h3 := this.2.2; omega))
       clear hq
       go_wp2_with (first | (refine wpList_store_row rfl 48 _ _ rfl (w.heap.size + 1) z8 rfl (congrArg Value.agg HZ8.out) 48 _ R5.out HSZ.out HSS.out OZ.out ?_) | fail)
       refine bodyPost_ret (v := .tuple #[.agg z8, .int .i64 141]) (results_cellT (p := 2) (u := 3) (ty := 48) rfl _ _ (w.heap.size + 1) 48 z8 (0, 0) _ rfl (setRow_heap _ _ _ _ _ _ R5.out) Tryz.underlying48 rfl HSZ.out _ rfl) rfl ?_
       exact ⟨.inr ⟨NF.out, by rw [<- HZ8.out]; rfl⟩, bel_setRow B5.out (by omega) _⟩
     ·have hix : ∀ W, (Instr.index 90 (.agg y3) (.int .i64 1)).run Tryz.prog W = .ok (.slice pb bl.length cb) W := fun W => by rw [<- HY3.out]; exact run_idx3 W _ 1 (by omega) _ rfl
      have CZ := hid (partSize2 wr (plF k n g z) (pl_bd HOK.out))
      rw [HT.out] at CZ
      have ew : IntKind.i64.wrap ((bl.length : Int) * 32) = (bl.length : Int) * 32 := by rw [IntKind.wrap_i64]; omega
      go_wp2_with (first | (refine wpList_load_row rfl 86 _ rfl w3.heap.size rfl 86 t6 (0, 0) _ P3.out Tryz.underlying86 rfl HT6.out ?_) | fail)
      refine CZ.out.mono ?_
      rintro e w5 ⟨rfl, hb5⟩
      have B5 := hid (B4.out.trans (hb5.mono B4.out.size))
      have R5 := hid ((hb5.block (w.heap.size + 1) (by omega)).trans R3.out)
      have Y5 := hid ((hb5.block w1.heap.size (by omega)).trans Y3.out)
      have P5 := hid ((hb5.block w3.heap.size (by omega)).trans P3.out)
      have S5 : Hid (w3.heap.size < w5.heap.size) := hid (by have := hb5.size; omega)
      clear hb5 CZ
      by_cases hq : (bl.length : Int) * 32 = plF k n g z 3 - plF k n g z 2
      ·have hqb : ((bl.length : Int) * 32 != plF k n g z 3 - plF k n g z 2) = false := by simpa using hq
       have HQ := hid hq
       clear hq
       go_wp2
       exact ⟨⟨2, by omega, by go_num, hid ⟨fun _ => HC.out.1 (by omega), fun _ => HQ.out, fun h => absurd h (by omega)⟩, R5, Y5, P5, S5, B5⟩, by simp [intOf]⟩
      ·have hqb : ((bl.length : Int) * 32 != plF k n g z 3 - plF k n g z 2) = true := by simpa using hq
       have NF : Hid (¬ F) := hid (fun f => hq (by have := (IFF.out.1 f).2.2.2; rw [EQ2.out]; have h1 := this.1; have h2 := this.2.1; have h3 := this.2.2; omega))
       clear hq
       go_wp2_with (first | (refine wpList_store_row rfl 48 _ _ rfl (w.heap.size + 1) z8 rfl (congrArg Value.agg HZ8.out) 48 _ R5.out HSZ.out HSS.out OZ.out ?_) | fail)
       refine bodyPost_ret (v := .tuple #[.agg z8, .int .i64 141]) (results_cellT (p := 2) (u := 3) (ty := 48) rfl _ _ (w.heap.size + 1) 48 z8 (0, 0) _ rfl (setRow_heap _ _ _ _ _ _ R5.out) Tryz.underlying48 rfl HSZ.out _ rfl) rfl ?_
       exact ⟨.inr ⟨NF.out, by rw [<- HZ8.out]; rfl⟩, bel_setRow B5.out (by omega) _⟩
     ·have hix : ∀ W, (Instr.index 90 (.agg y3) (.int .i64 2)).run Tryz.prog W = .ok (.slice ps sg.length cs) W := fun W => by rw [<- HY3.out]; exact run_idx3 W _ 2 (by omega) _ rfl
      have CZ := hid (partSize3 wr (plF k n g z) (pl_bd HOK.out))
      rw [HT.out] at CZ
      have ew : IntKind.i64.wrap ((sg.length : Int) * 32) = (sg.length : Int) * 32 := by rw [IntKind.wrap_i64]; omega
      go_wp2_with (first | (refine wpList_load_row rfl 86 _ rfl w3.heap.size rfl 86 t6 (0, 0) _ P3.out Tryz.underlying86 rfl HT6.out ?_) | fail)
      refine CZ.out.mono ?_
      rintro e w5 ⟨rfl, hb5⟩
      have B5 := hid (B4.out.trans (hb5.mono B4.out.size))
      have R5 := hid ((hb5.block (w.heap.size + 1) (by omega)).trans R3.out)
      have Y5 := hid ((hb5.block w1.heap.size (by omega)).trans Y3.out)
      have P5 := hid ((hb5.block w3.heap.size (by omega)).trans P3.out)
      have S5 : Hid (w3.heap.size < w5.heap.size) := hid (by have := hb5.size; omega)
      clear hb5 CZ
      by_cases hq : (sg.length : Int) * 32 = plF k n g z 4 - plF k n g z 3
      ·have hqb : ((sg.length : Int) * 32 != plF k n g z 4 - plF k n g z 3) = false := by simpa using hq
       have HQ := hid hq
       clear hq
       go_wp2
       exact ⟨⟨3, by omega, by go_num, hid ⟨fun _ => HC.out.1 (by omega), fun _ => HC.out.2.1 (by omega), fun _ => HQ.out⟩, R5, Y5, P5, S5, B5⟩, by simp [intOf]⟩
      ·have hqb : ((sg.length : Int) * 32 != plF k n g z 4 - plF k n g z 3) = true := by simpa using hq
       have NF : Hid (¬ F) := hid (fun f => hq (by have := (IFF.out.1 f).2.2.2; rw [EQ3.out]; have h1 := this.1; have h2 := this.2.1; have h3 := this.2.2; omega))
       clear hq
       go_wp2_with (first | (refine wpList_store_row rfl 48 _ _ rfl (w.heap.size + 1) z8 rfl (congrArg Value.agg HZ8.out) 48 _ R5.out HSZ.out HSS.out OZ.out ?_) | fail)
       refine bodyPost_ret (v := .tuple #[.agg z8, .int .i64 141]) (results_cellT (p := 2) (u := 3) (ty := 48) rfl _ _ (w.heap.size + 1) 48 z8 (0, 0) _ rfl (setRow_heap _ _ _ _ _ _ R5.out) Tryz.underlying48 rfl HSZ.out _ rfl) rfl ?_
       exact ⟨.inr ⟨NF.out, by rw [<- HZ8.out]; rfl⟩, bel_setRow B5.out (by omega) _⟩
    ·have hI3 : I = 3 := by omega
     subst hI3
     have OKF : Hid F := hid (IFF.out.2 ⟨HOK.out, HN.out.1, HN.out.2, by have := HC.out.1 (by omega); have := EQ1.out; omega, by have := HC.out.2.1 (by omega); have := EQ2.out; omega, by have := HC.out.2.2 (by omega); have := EQ3.out; omega⟩)
     go_wp2_with (first | (refine wpList_load_row rfl 48 _ rfl w1.heap.size rfl 48 y (0, 0) _ Y3.out Tryz.underlying48 rfl SY.out ?_) | (refine wpList_store_row rfl 48 _ _ rfl (w.heap.size + 1) y rfl rfl 48 _ R3.out SY.out (by rw [SY8.out]; rfl) OY.out ?_) | fail)
     refine bodyPost_ret (v := .tuple #[.agg y, .int .i64 0]) (results_cellT (p := 2) (u := 3) (ty := 48) rfl _ _ (w.heap.size + 1) 48 y (0, 0) _ rfl (setRow_heap _ _ _ _ _ _ R3.out) Tryz.underlying48 rfl SY.out _ rfl) rfl ?_
     exact ⟨.inl ⟨OKF.out, by rw [<- Hy.out]; rfl⟩, bel_setRow B4.out (by omega) _⟩
  ·have NF : Hid (¬ F) := hid (fun f => hn ⟨(IFF.out.1 f).2.1, (IFF.out.1 f).2.2.1⟩)
   by_cases hn0 : num < 0
   ·clear hn hok
    go_wp2_with (first | (refine wpList_store_row rfl 48 _ _ rfl w1.heap.size y rfl rfl 48 _ Z2.out SY.out (by rw [SY8.out]; rfl) OY.out ?_; rw [HW2.out]) | (refine wpList_store_row rfl 48 _ _ rfl (w.heap.size + 1) z8 rfl (congrArg Value.agg HZ8.out) 48 _ R2.out HSZ.out HSS.out OZ.out ?_) | fail)
    refine bodyPost_ret (v := .tuple #[.agg z8, .int .i64 141]) (results_cellT (p := 2) (u := 3) (ty := 48) rfl _ _ (w.heap.size + 1) 48 z8 (0, 0) _ rfl (setRow_heap _ _ _ _ _ _ R2.out) Tryz.underlying48 rfl HSZ.out _ rfl) rfl ?_
    exact ⟨.inr ⟨NF.out, by rw [<- HZ8.out]; rfl⟩, bel_setRow B2.out (by omega) _⟩
   ·have hn1 : n <= num := by omega
    clear hn hok
    go_wp2_with (first | (refine wpList_store_row rfl 48 _ _ rfl w1.heap.size y rfl rfl 48 _ Z2.out SY.out (by rw [SY8.out]; rfl) OY.out ?_; rw [HW2.out]) | (refine wpList_store_row rfl 48 _ _ rfl (w.heap.size + 1) z8 rfl (congrArg Value.agg HZ8.out) 48 _ R2.out HSZ.out HSS.out OZ.out ?_) | fail)
    refine bodyPost_ret (v := .tuple #[.agg z8, .int .i64 141]) (results_cellT (p := 2) (u := 3) (ty := 48) rfl _ _ (w.heap.size + 1) 48 z8 (0, 0) _ rfl (setRow_heap _ _ _ _ _ _ R2.out) Tryz.underlying48 rfl HSZ.out _ rfl) rfl ?_
    exact ⟨.inr ⟨NF.out, by rw [<- HZ8.out]; rfl⟩, bel_setRow B2.out (by omega) _⟩
 ·rw [show agT k n g z = sh0 from if_neg hok, show agE k n g z = 92 from if_neg hok, show shV sh0 = .agg #[.int .i64 0, .int .i64 0, .int .i64 0, .int .i64 0, .int .i64 0, .int .i64 0, .int .i64 0, .int .i64 0] from rfl]
  have NF : Hid (¬ F) := hid (fun f => hok (IFF.out.1 f).1)
  have Z2 := hid (heap_alloc_new w1 (.cells #[.int .i64 0, .int .i64 0, .int .i64 0, .int .i64 0, .int .i64 0, .int .i64 0, .int .i64 0, .int .i64 0] 48))
  obtain ⟨w2, HW2⟩ : ∃ x, Hid ((w1.alloc (.cells #[.int .i64 0, .int .i64 0, .int .i64 0, .int .i64 0, .int .i64 0, .int .i64 0, .int .i64 0, .int .i64 0] 48)).setRow w1.heap.size z8 = x) := ⟨_, rfl⟩
  have s1 := S1.out
  have R2 : Hid (w2.heap[w.heap.size + 1]? = some (.cells #[.int .i64 0, .int .i64 0, .int .i64 0, .int .i64 0, .int .i64 0, .int .i64 0, .int .i64 0, .int .i64 0] 48 (0, 0))) := by
   refine hid ?_
   rw [<- HW2.out]
   exact ((by simp [World.setRow, Array.getElem?_modify, show w1.heap.size ≠ w.heap.size + 1 by omega] : ((w1.alloc (.cells #[.int .i64 0, .int .i64 0, .int .i64 0, .int .i64 0, .int .i64 0, .int .i64 0, .int .i64 0, .int .i64 0] 48)).setRow w1.heap.size z8).heap[w.heap.size + 1]? = (w1.alloc (.cells #[.int .i64 0, .int .i64 0, .int .i64 0, .int .i64 0, .int .i64 0, .int .i64 0, .int .i64 0, .int .i64 0] 48)).heap[w.heap.size + 1]?).trans (heap_alloc_old w1 _ (by omega))).trans R1.out
  have B2 : Hid (Below w.heap.size w w2) := by refine hid ?_; rw [<- HW2.out]; exact bel_setRow (B1.out.alloc B1.out.size _) B1.out.size _
  clear hok
  go_wp2_with (first | (refine wpList_store_row rfl 48 _ _ rfl w1.heap.size z8 rfl (congrArg Value.agg HZ8.out) 48 _ Z2.out HSZ.out HSS.out OZ.out ?_; rw [HW2.out]) | (refine wpList_store_row rfl 48 _ _ rfl (w.heap.size + 1) z8 rfl (congrArg Value.agg HZ8.out) 48 _ R2.out HSZ.out HSS.out OZ.out ?_) | fail)
  refine bodyPost_ret (v := .tuple #[.agg z8, .int .i64 141]) (results_cellT (p := 2) (u := 3) (ty := 48) rfl _ _ (w.heap.size + 1) 48 z8 (0, 0) _ rfl (setRow_heap _ _ _ _ _ _ R2.out) Tryz.underlying48 rfl HSZ.out _ rfl) rfl ?_
  exact ⟨.inr ⟨NF.out, by rw [<- HZ8.out]; rfl⟩, bel_setRow B2.out (by omega) _⟩
theorem HL.at {w : World} {p : Option Addr} {c : Nat} {ls : List (List Int)} (h : HL w (.slice p ls.length c) ls) : 0 < ls.length -> ∃ b off, p = some ⟨b, off, none⟩ /\ ∀ j, j < ls.length -> ∃ u, w.cell? ⟨b, off + j, none⟩ = some u /\ HB w u (ls.getD j []) := by
 intro h0
 obtain ⟨b, off, c', e', _, _, hh⟩ := h.ne h0
 simp only [Value.slice.injEq, true_and] at e'
 exact ⟨b, off, e'.1, hh⟩
theorem size_frL {s : Sr} (h : s.u.ok) (vc vb vs : Value) : (Tryz.prog.info? 28).map (·.size) = some (frL s vc vb vs).length := by rw [frL_length h]; exact size_front
theorem size_srA {s : Sr} (h : s.u.ok) (vc vb vs vd : Value) : (Tryz.prog.info? 31).map (·.size) = some (srA s vc vb vs vd).size := by
 rw [show (srA s vc vb vs vd).size = 73 by unfold srA; rw [List.size_toArray]; exact srL_length h vc vb vs vd]; exact size_share
theorem spreads_any (w : World) (s : Sr) (vc vb vs vd : Value) (h : HSr w s vc vb vs vd) (hkp : KP w) : Calls Tryz.prog 18 #[.agg (srA s vc vb vs vd)] w fun e w' => ∃ t : Bool, e = .returned (.bool t) /\ (t = true ↔ MayQ s) /\ Below w.heap.size w w' := by
 have hu := h.fr.u
 have HH := hid h
 have HK := hid hkp
 have HFL := hid (frL_length hu vc vb vs)
 have HSF := hid (size_frL hu vc vb vs)
 have g72 := hid (srA_dt hu vc vb vs vd)
 have HFRA : Hid (∀ j, j < (frL s vc vb vs).length -> (srA s vc vb vs vd)[0 + j]? = (frL s vc vb vs)[j]?) := hid (fun j hj => by
  rw [Nat.zero_add, srA_fr hu vc vb vs vd j (by rw [HFL.out] at hj; exact hj)]
  unfold frA
  rw [List.getElem?_toArray])
 have HFA : Hid ((frL s vc vb vs).toArray = frA s vc vb vs) := rfl
 have CF := hid fun (w' : World) (hb : Below w.heap.size w w') => frontShape_any w' s vc vb vs (h.fr.below hb) (hkp.below hb)
 obtain ⟨pd, cd, ed, hd1, hd2⟩ := h.dt.open
 have hdt := h.dt
 rw [ed] at hdt
 have A := hid hdt.at
 obtain ⟨m, Hm⟩ : ∃ x, Hid (srA s vc vb vs vd = x) := ⟨_, rfl⟩
 rw [Hm.out] at g72 HFRA
 rw [Hm.out]
 rw [ed] at g72
 obtain ⟨fL, HfL⟩ : ∃ x, Hid (frL s vc vb vs = x) := ⟨_, rfl⟩
 rw [HfL.out] at HFL HSF HFRA HFA
 obtain ⟨fA, HfA⟩ : ∃ x, Hid (frA s vc vb vs = x) := ⟨_, rfl⟩
 rw [HfA.out] at HFA CF
 clear hkp h hdt Hm
 obtain ⟨M, HM⟩ : ∃ M, Hid (MayQ s = M) := ⟨_, rfl⟩
 have M1 : Hid (M -> FrQ s /\ (s.dt.length : Int) = upI s.u.z s.u.g /\ ∀ j, j < s.dt.length -> ((s.dt.getD j []).length : Int) = blN s.u j) := by refine hid ?_; rw [<- HM.out]; exact fun q => ⟨q.fr, q.dt, q.sz⟩
 have M2 : Hid (FrQ s -> (s.dt.length : Int) = upI s.u.z s.u.g -> (∀ j, j < s.dt.length -> ((s.dt.getD j []).length : Int) = blN s.u j) -> M) := by refine hid ?_; rw [<- HM.out]; exact fun a b c => ⟨a, b, c⟩
 rw [HM.out]
 clear HM
 obtain ⟨w0, HW0⟩ : ∃ x, Hid (w.alloc (.cells m 31) = x) := ⟨_, rfl⟩
 have H0 : Hid (w0.heap[w.heap.size]? = some (.cells m 31 (0, 0))) := by refine hid ?_; rw [<- HW0.out]; exact heap_alloc_new w _
 have B0 : Hid (Below w.heap.size w w0) := by refine hid ?_; rw [<- HW0.out]; exact (Below.refl w.heap.size w).alloc (Nat.le_refl _) _
 have Z0 : Hid (w0.heap.size = w.heap.size + 1) := by refine hid ?_; rw [<- HW0.out]; simp
 have RU : Hid (w0.rangeAt w.heap.size 0 fL) := hid (range_of_row H0.out HFRA.out)
 go_enter Tryz.func18, Tryz.ntmps18
 refine wp_seq_k fun K1 h1 => ?_
 have HK1 := hid h1
 clear h1
 go_wp2
 rw [HW0.out]
 refine HK1.out _ _ ?_
 clear HK1 K1
 go_wp2_with (first | (refine wpList_load_mid rfl 28 _ rfl w.heap.size 0 rfl fL _ RU.out Tryz.underlying28 rfl HSF.out ?_; rw [HFA.out]) | fail)
 refine (CF.out w0 B0.out).mono ?_
 rintro e w1 ⟨hor, hb1⟩
 have B1 := hid (B0.out.trans (hb1.mono B0.out.size))
 have H1 := hid ((hb1.block w.heap.size (by rw [Z0.out]; omega)).trans H0.out)
 have S1 : Hid (w.heap.size + 1 <= w1.heap.size) := hid (by have := hb1.size; rw [Z0.out] at this; exact this)
 clear hb1 CF RU
 rcases hor with ⟨hfr, rfl⟩ | ⟨hfr, rfl⟩
 ·have hok := hfr.ok
  have HOK := hid hok
  have HFR := hid hfr
  have hbl := hok.blocks
  have SY := hid (shV_size (shR s.u.k s.u.n s.u.g s.u.z) rfl)
  have OY : Hid ((ints (shR s.u.k s.u.n s.u.g s.u.z)).all (·.oneCell') = true) := by refine hid ?_; simp [ints, shR, Value.oneCell']
  have y4 : Hid ((ints (shR s.u.k s.u.n s.u.g s.u.z))[4]? = some (.int .i64 (upI s.u.z s.u.g))) := rfl
  have CB := hid fun w (j : Nat) => blocksize_any w s.u.k s.u.n s.u.g s.u.z (upI s.u.z s.u.g) (tlI s.u.z s.u.g) (s.u.g / s.u.k) (upI (tlI s.u.z s.u.g) s.u.k) (j : Int)
  rw [ft_of hok, show [s.u.k, s.u.n, s.u.g, s.u.z, upI s.u.z s.u.g, tlI s.u.z s.u.g, s.u.g / s.u.k, upI (tlI s.u.z s.u.g) s.u.k] = shR s.u.k s.u.n s.u.g s.u.z from rfl] at CB
  unfold shV at CB
  unfold shV
  have SY8 : Hid ((ints (shR s.u.k s.u.n s.u.g s.u.z)).size = 8) := rfl
  obtain ⟨y, Hy⟩ : ∃ x, Hid (ints (shR s.u.k s.u.n s.u.g s.u.z) = x) := ⟨_, rfl⟩
  rw [Hy.out] at CB SY OY y4 SY8
  rw [Hy.out]
  obtain ⟨num, ⟨k, n, g, z, ua, ub⟩, ch, bl, sg, dt⟩ := s
  dsimp only at *
  have Z2 := hid (heap_alloc_new w1 (.cells #[.int .i64 0, .int .i64 0, .int .i64 0, .int .i64 0, .int .i64 0, .int .i64 0, .int .i64 0, .int .i64 0] 48))
  obtain ⟨w2, HW2⟩ : ∃ x, Hid ((w1.alloc (.cells #[.int .i64 0, .int .i64 0, .int .i64 0, .int .i64 0, .int .i64 0, .int .i64 0, .int .i64 0, .int .i64 0] 48)).setRow w1.heap.size y = x) := ⟨_, rfl⟩
  have Y2 : Hid (w2.heap[w1.heap.size]? = some (.cells y 48 (0, 0))) := by refine hid ?_; rw [<- HW2.out]; exact setRow_heap _ _ _ _ _ _ Z2.out
  have OLD2 : ∀ i, i < w1.heap.size -> w2.heap[i]? = w1.heap[i]? := fun i hi => by rw [<- HW2.out]; exact (by simp [World.setRow, Array.getElem?_modify, show w1.heap.size ≠ i by omega] : ((w1.alloc (.cells #[.int .i64 0, .int .i64 0, .int .i64 0, .int .i64 0, .int .i64 0, .int .i64 0, .int .i64 0, .int .i64 0] 48)).setRow w1.heap.size y).heap[i]? = (w1.alloc (.cells #[.int .i64 0, .int .i64 0, .int .i64 0, .int .i64 0, .int .i64 0, .int .i64 0, .int .i64 0, .int .i64 0] 48)).heap[i]?).trans (heap_alloc_old w1 _ hi)
  have s1 := S1.out
  have H2 := hid ((OLD2 w.heap.size (by omega)).trans H1.out)
  have B2 : Hid (Below w.heap.size w w2) := by refine hid ?_; rw [<- HW2.out]; exact bel_setRow (B1.out.alloc B1.out.size _) B1.out.size _
  have S2 : Hid (w1.heap.size < w2.heap.size) := by refine hid ?_; rw [<- HW2.out]; simp [World.setRow]
  have c72 : w2.cell? ⟨w.heap.size, 72, none⟩ = some (.slice pd dt.length cd) := (cell_of_row _ _ _ _ _ _ H2.out).trans g72.out
  have c4 : w2.cell? ⟨w1.heap.size, 4, none⟩ = some (.int .i64 (upI z g)) := (cell_of_row _ _ _ _ _ _ Y2.out).trans y4.out
  unfold maxLen at hd2
  clear OLD2 hfr hok
  by_cases hn : (dt.length : Int) = upI z g
  ·have hnb : ((dt.length : Int) != upI z g) = false := by simpa using hn
   have HN := hid hn
   have hnn : 0 < dt.length := by omega
   have hn5 : dt.length <= 512 := by omega
   obtain ⟨b, off, rfl, hh⟩ := A.out hnn
   have HHc := hid hh
   obtain ⟨N, HNN⟩ : ∃ x, Hid (dt.length = x) := ⟨_, rfl⟩
   rw [HNN.out] at hnn hn5
   have hni : (N : Int) = upI z g := by rw [<- HNN.out]; exact HN.out
   have HNI := hid hni
   clear hn hh hni
   rw [HNN.out] at c72 hnb HHc
   go_wp2_with (first | (refine wpList_store_row rfl 48 _ _ rfl w1.heap.size y rfl rfl 48 _ Z2.out SY.out (by rw [SY8.out]; rfl) OY.out ?_; rw [HW2.out]) | fail)
   go_loopw [28] (fun ii wr => ∃ I : Nat, I <= N /\ ii = .int .i64 (I : Int) /\ Hid (∀ j, j < I -> ((dt.getD j []).length : Int) = blN ⟨k, n, g, z, ua, ub⟩ j) /\ Hid (wr.heap[w1.heap.size]? = some (.cells y 48 (0, 0))) /\ Hid (w1.heap.size < wr.heap.size) /\ Hid (Below w.heap.size w wr)) (fun ii _ => N - (intOf ii).toNat)
   case atStart => exact ⟨0, by omega, rfl, hid (fun j hj => absurd hj (by omega)), Y2, S2, B2⟩
   case round =>
    clear Y2 S2 B2 c72 c4 H2
    obtain ⟨I, hI, rfl, HC, Y3, S3, B3⟩ := hrel
    by_cases hlt : I < N
    ·obtain ⟨u, hcu, hbu⟩ := HHc.out I hlt
     have hcr := (B3.out.cell (World.block_lt_of_cell? w _ hcu)).trans hcu
     obtain ⟨pu, cu, rfl, hu1, hu2⟩ := hbu.open
     have CZ := CB.out wr I
     have hIU : (I : Int) < upI z g := by have := HNI.out; omega
     rw [show szV true (upI z g) (I : Int) (g / k) (upI (tlI z g) k) = blN ⟨k, n, g, z, ua, ub⟩ I from by unfold szV blN; rw [if_pos rfl, if_pos ⟨by omega, hIU⟩], show szE true (upI z g) (I : Int) = 0 from by unfold szE; rw [if_pos rfl, if_pos ⟨by omega, hIU⟩]] at CZ
     have CZ := hid CZ
     obtain ⟨L, HL⟩ : ∃ x, Hid ((dt.getD I []).length = x) := ⟨_, rfl⟩
     rw [HL.out] at hcr hu1
     clear hcu hbu
     go_wp2_with (first | (refine wpList_load_row rfl 48 _ rfl w1.heap.size rfl 48 y (0, 0) _ Y3.out Tryz.underlying48 rfl SY.out ?_) | fail)
     refine CZ.out.mono ?_
     rintro e w5 ⟨rfl, hb5⟩
     have B5 := hid (B3.out.trans (hb5.mono B3.out.size))
     have Y5 := hid ((hb5.block w1.heap.size S3.out).trans Y3.out)
     have S5 : Hid (w1.heap.size < w5.heap.size) := hid (by have := hb5.size; have := S3.out; omega)
     clear hb5 CZ
     by_cases hq : (L : Int) = blN ⟨k, n, g, z, ua, ub⟩ I
     ·have hqb : ((L : Int) != blN ⟨k, n, g, z, ua, ub⟩ I) = false := by simpa using hq
      have HQ := hid hq
      clear hq
      go_wp2
      exact ⟨⟨I + 1, by omega, by go_num, hid (fun j hj => by
       by_cases hji : j = I
       ·rw [hji, HL.out]; exact HQ.out
       ·exact HC.out j (by omega)), Y5, S5, B5⟩, by simp [intOf]; omega⟩
     ·have hqb : ((L : Int) != blN ⟨k, n, g, z, ua, ub⟩ I) = true := by simpa using hq
      have NM : Hid (¬ M) := hid (fun mm => hq (by rw [<- HL.out]; exact (M1.out mm).2.2 I (by rw [HNN.out]; exact hlt)))
      clear hq
      go_wp2
      go_ret
      exact ⟨false, rfl, ⟨fun h => (by cases h), fun mm => absurd mm NM.out⟩, B5.out⟩
    ·have hIN : I = N := by omega
     subst hIN
     have YM : Hid M := hid (M2.out HFR.out HN.out (fun j hj => HC.out j (by rw [HNN.out] at hj; exact hj)))
     go_wp2
     go_ret
     exact ⟨true, rfl, ⟨fun _ => YM.out, fun _ => rfl⟩, B3.out⟩
  ·have hnb : ((dt.length : Int) != upI z g) = true := by simpa using hn
   have NM : Hid (¬ M) := hid (fun mm => hn (M1.out mm).2.1)
   clear hn
   go_wp2_with (first | (refine wpList_store_row rfl 48 _ _ rfl w1.heap.size y rfl rfl 48 _ Z2.out SY.out (by rw [SY8.out]; rfl) OY.out ?_; rw [HW2.out]) | fail)
   go_ret
   exact ⟨false, rfl, ⟨fun h => (by cases h), fun mm => absurd mm NM.out⟩, B2.out⟩
 ·have NM : Hid (¬ M) := hid (fun mm => hfr (M1.out mm).1)
  rw [show shV sh0 = .agg #[.int .i64 0, .int .i64 0, .int .i64 0, .int .i64 0, .int .i64 0, .int .i64 0, .int .i64 0, .int .i64 0] from rfl]
  have Z2 := hid (heap_alloc_new w1 (.cells #[.int .i64 0, .int .i64 0, .int .i64 0, .int .i64 0, .int .i64 0, .int .i64 0, .int .i64 0, .int .i64 0] 48))
  obtain ⟨z8, HZ8⟩ : ∃ x : Array Value, Hid (#[.int .i64 0, .int .i64 0, .int .i64 0, .int .i64 0, .int .i64 0, .int .i64 0, .int .i64 0, .int .i64 0] = x) := ⟨_, rfl⟩
  have HSZ : Hid ((Tryz.prog.info? 48).map (·.size) = some z8.size) := by refine hid ?_; rw [<- HZ8.out]; exact size_shape
  have HSS : Hid ((#[.int .i64 0, .int .i64 0, .int .i64 0, .int .i64 0, .int .i64 0, .int .i64 0, .int .i64 0, .int .i64 0] : Array Value).size = z8.size) := by refine hid ?_; rw [<- HZ8.out]
  have OZ : Hid (z8.all (·.oneCell') = true) := by refine hid ?_; rw [<- HZ8.out]; simp [Value.oneCell']
  have B2 : Hid (Below w.heap.size w ((w1.alloc (.cells #[.int .i64 0, .int .i64 0, .int .i64 0, .int .i64 0, .int .i64 0, .int .i64 0, .int .i64 0, .int .i64 0] 48)).setRow w1.heap.size z8)) := hid (bel_setRow (B1.out.alloc B1.out.size _) B1.out.size _)
  clear hfr
  go_wp2_with (first | (refine wpList_store_row rfl 48 _ _ rfl w1.heap.size z8 rfl (congrArg Value.agg HZ8.out) 48 _ Z2.out HSZ.out HSS.out OZ.out ?_) | fail)
  go_ret
  exact ⟨false, rfl, ⟨fun h => (by cases h), fun mm => absurd mm NM.out⟩, B2.out⟩
end Go.Proofs.YtdgollnapbonjaaGreatDoor
namespace Go.Proofs.YtdgollnapbonjaaGreatDoor
open Go.RowKit
theorem lf_pad {ls : List (List Int)} {k : Nat} (h : ls.length <= k) : lf ls k = pdL k := by unfold lf; rw [if_neg (by omega)]
theorem lf_leaf {ls : List (List Int)} {k : Nat} (h : k < ls.length) : lf ls k = ls.getD k [] := by unfold lf; rw [if_pos h]
theorem flat_rows32 : ∀ (l : List (List Int)), (∀ x ∈ l, D32 x) -> ∀ (i j : Nat) (x : List Int), l[i]? = some x -> j < 32 -> (l.flatMap dc)[i * 32 + j]? = (dc x)[j]?
 | [], _, i, j, x, h, _ => by simp at h
 | y :: r, hl, 0, j, x, h, hj => by
  simp at h
  subst h
  rw [List.flatMap_cons, Nat.zero_mul, Nat.zero_add, List.getElem?_append_left (by rw [dc_length, (hl y (by simp)).1]; exact hj)]
 | y :: r, hl, i + 1, j, x, h, hj => by
  have hy : (dc y).length = 32 := by rw [dc_length, (hl y (by simp)).1]
  rw [List.flatMap_cons, List.getElem?_append_right (by rw [hy]; omega), hy, show (i + 1) * 32 + j - 32 = i * 32 + j by omega]
  exact flat_rows32 r (fun z hz => hl z (by simp [hz])) i j x (by simpa using h) hj
theorem HDs.of_own {w : World} {base : Nat} {v : Value} {ds : List (List Int)} (h : w.ownsRow base 23 32 v ds.length (ds.flatMap dc)) (hd : ∀ d ∈ ds, D32 d) : HDs w v ds := by
 have h0 := h
 rcases h.2 with ⟨rfl, hl⟩ | ⟨g, cap, cur, rfl, hbg, hg, hnc, hcm, hcs, htake⟩
 ·exact ⟨⟨none, 0, by rw [hl], by rw [hl]; exact Nat.le_refl _, Nat.zero_le _, fun _ => rfl, fun hne => absurd (List.length_eq_zero_iff.1 hl) hne⟩, hd⟩
 ·refine ⟨⟨_, cap, rfl, hnc, hcm, (fun e => by cases e), fun _ => ⟨g, 0, rfl, fun i hi j u hj => ?_⟩⟩, hd⟩
  have hx : ds[i]? = some (ds.getD i []) := by simp [List.getD, List.getElem?_eq_getElem hi]
  have hj2 : j < 32 := by
   have := (List.getElem?_eq_some_iff.1 hj).1
   rwa [dc_length, (hd _ (List.mem_of_getElem? hx)).1] at this
  have := h0.cells (g := g) rfl (i * 32 + j) u (by rw [flat_rows32 ds hd i j _ hx hj2]; exact hj)
  rw [Go.WideShapes.add_plain] at this
  rw [show (0 : Nat) + i * 32 + j = 0 + (i * 32 + j) by omega]
  exact this
theorem wpList_append_digs {w : World} {ops : Array Oper} {rest : List Oper} {o : Oper} {a : Act} {Q : Exit -> Act -> World -> Prop} (hgd : o.guard = none) (s x : Operand)
  (ho : o.op = .call { callee := .builtin .append, args := #[s, x], argTypes := #[26, 26] })
  (base : Nat) (v : Value) (ds es : List (List Int)) (hs : a.eval s = v) (hown : w.ownsRow base 23 32 v ds.length (ds.flatMap dc)) (hes : ∀ d ∈ es, D32 d)
  (b off c : Nat) (hx : a.eval x = .slice (some ⟨b, off, none⟩) es.length c) (hr : ∀ i, i < es.length -> w.rangeAt b (off + i * 32) (dc (es.getD i [])))
  (hn : ds.length + es.length <= 1000000) (hbase : base <= w.heap.size)
  (h : ∀ v' w', w'.ownsRow base 23 32 v' (ds ++ es).length ((ds ++ es).flatMap dc) -> w.grownBy w' v.ownBlock -> wpList Tryz.prog ops Q rest (a.put o.dst v') w') : wpList Tryz.prog ops Q (o :: rest) a w := by
 obtain ⟨i0, hi, hz0, hz1, hz2⟩ := info_parts info_digest
 have hfl := HDs.flat hr hes
 refine wpList_append_own w hgd s x 26 ho base 23 i0 _ 32 32 Tryz.underlying26 hi hz0 hz1 hz2 ?_ (by decide) v ds.length (ds.flatMap dc) hs hown ⟨b, off, none⟩ es.length c (es.flatMap dc) hx (flatMap_dc_length hes) ?_ ?_ (by unfold maxLen; omega) (by omega) hbase ?_
 ·show (cellsB zeros32).size = 32
  rw [cellsB_size, zeros32_length]
 ·intro j u hj
  rw [Go.WideShapes.add_plain]
  exact hfl j u hj
 ·intro u hu
  obtain ⟨d, _, hd⟩ := List.mem_flatMap.1 hu
  unfold dc at hd
  obtain ⟨x, _, rfl⟩ := List.mem_map.1 hd
  rfl
 ·intro v' w' h1 h2 _
  rw [<- List.flatMap_append, <- List.length_append] at h1
  exact h v' w' h1 h2
theorem run_eql_slice_nil' (w : World) (p : Addr) (n c : Nat) : (binOp .eql 26 (.slice (some p) n c) (.slice none 0 0)).run Tryz.prog w = .ok (.bool false) w := by
 simp only [binOp]
 simp [run_equal_slice_nil w 26 _ (some p) n c Tryz.underlying26]
theorem scloneD_any (w : World) (b off c : Nat) (ds : List (List Int)) (hd : ∀ d ∈ ds, D32 d) (hr : ∀ i, i < ds.length -> w.rangeAt b (off + i * 32) (dc (ds.getD i []))) (hn : ds.length <= 1000) :
  Calls Tryz.prog 63 #[.slice (some ⟨b, off, none⟩) ds.length c] w fun e w' => ∃ v, e = .returned v /\ HDs w' v ds /\ Below w.heap.size w w' := by
 have hq := fun w => run_eql_slice_nil' w ⟨b, off, none⟩ ds.length c
 obtain ⟨n, HN⟩ : ∃ n, Hid (ds.length = n) := ⟨_, rfl⟩
 rw [HN.out] at hq
 rw [HN.out]
 have HR := hid hr
 have HD := hid hd
 clear hr hd
 have hbl : ∀ i, i < ds.length -> b < w.heap.size := fun i hi => by
  have h0 := HR.out i hi 0 _ (List.getElem?_eq_getElem (by rw [dc_length, (getD_D HD.out i hi).1]; decide))
  exact World.block_lt_of_cell? w _ h0
 have HBL := hid hbl
 clear hbl
 go_enter Tryz.func63, Tryz.ntmps63
 go_wp2_with (refine wpList_append_digs rfl _ _ rfl w.heap.size _ [] ds rfl (World.ownsRow_made w #[] 0 (Nat.le_refl _) (by unfold maxLen; omega) (by simp)) HD.out b off c (by rw [HN.out]; rfl) (fun i hi j u hj => (World.cell?_of_block (w := w) (Below.heap_alloc w _ b (HBL.out i hi))).trans (HR.out i hi j u hj)) (by simp only [List.length_nil, Nat.zero_add]; omega) (by simp) ?_; intro v' w' ho hg)
 go_ret
 refine ⟨_, rfl, ?_, ?_⟩
 ·have := HDs.of_own (ds := [] ++ ds) ho (by simpa using HD.out)
  simpa using this
 ·exact ((Below.refl _ w).alloc (Nat.le_refl _) _).grown hg (by simp) (fun k hk => by have e : some w.heap.size = some k := hk; cases e; exact Nat.le_refl _)
end Go.Proofs.YtdgollnapbonjaaGreatDoor
