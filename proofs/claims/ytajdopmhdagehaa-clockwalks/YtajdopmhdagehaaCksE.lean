/- All of a clock: what is gone through, and the rounds. -/
import Derived.Test.YtajdopmhdagehaaCksD
import Derived.Test.YtajdopmhdagehaaHsAll
set_option linter.unusedVariables false
set_option linter.unusedSimpArgs false
namespace Go.Proofs.Ytajdopmhdagehaa.Ds
open Go.Proofs.Ytajdopmhdagehaa
open Go Go.RowKit Go.Shelf
attribute [local go_sem] Oper.semAt_some
section
variable {w w' : World} {c : Nat} {now : Int} {M : List (Rw Pr)} {nx : Nat} {S : Nat → Prop} {g m : Nat} {L : List (Rw Pr)} {v : Value} {S0 : Nat → Prop}
/-- The box that holds the heap's iterator, and the list behind it. -/
structure CaB (w : World) (ab rb : Nat) (vo : Value) (R : List (Rw Pr)) : Prop where
  box : w.heap[ab]? = some (.cells #[.func (.func 87) #[] #[ptr rb]] 120 (0, 0))
  al : AlB w rb vo R
  na : ¬ alD rb vo R ab
def caD (ab rb : Nat) (vo : Value) (R : List (Rw Pr)) (i : Nat) : Prop := i = ab ∨ alD rb vo R i
theorem CaB.kept {w w' : World} {ab rb : Nat} {vo : Value} {R : List (Rw Pr)} (h : CaB w ab rb vo R) (hk : ∀ i, caD ab rb vo R i → w'.heap[i]? = w.heap[i]?) : CaB w' ab rb vo R :=
  ⟨(hk ab (.inl rfl)).trans h.box, h.al.kept fun i hi => hk i (.inr hi), h.na⟩
theorem CaB.lt {w : World} {ab rb : Nat} {vo : Value} {R : List (Rw Pr)} (h : CaB w ab rb vo R) : ∀ i, caD ab rb vo R i → i < w.heap.size := by
  rintro i (rfl | hi)
  · exact (Array.getElem?_eq_some_iff.1 h.box).1
  · exact h.al.lt i hi
/-- What All has come to. -/
def CaQ (w : World) (M : List (Rw Pr)) (ab : Nat) (w' : World) : Prop :=
  ∃ rb vo R, CaB w' ab rb vo R ∧ (∀ i, caD ab rb vo R i → w.heap.size ≤ i) ∧ R.Pairwise (ahd keyD) ∧ (R.map kr).Perm (M.map kr) ∧ Below w.heap.size w w'
theorem run_stF (w : World) (a : Addr) (fn : Fn) (fi ca : Array Value) (m : Mode) : (store a (.func fn fi ca) m).run Try.prog w = stored Try.prog w a (.func fn fi ca) m := run_store _ w a _ m rfl
attribute [local go_sem] run_stF
set_option maxRecDepth 100000 in
set_option maxHeartbeats 8000000 in
theorem call_ok (h : CK w c now M nx S) (hroom : M.length ≤ 17592186044416) :
    Calls Try.prog 21 #[ptr c] w fun e w' => ∃ ab, e = .returned (.func (.func 56) #[] #[ptr ab]) ∧ CaQ w M ab w' := by
  obtain ⟨g, m, L, v, S0, h⟩ := h
  have CM := hid (cmade_ok h)
  have CA := hid (hall_ok clk_orc clk_ord h.lv (by rw [h.perm.length_eq]; exact hroom))
  have HI := hid h
  have c2 := h.cc.2.2.1
  clear h
  go_enter Try.func21, Try.ntmps21
  go_wp2_with fail
  refine CM.out.mono ?_
  rintro e w1 ⟨rfl, hw⟩
  rw [hw]
  clear hw CM
  go_wp2_with fail
  refine CA.out.mono ?_
  rintro e w2 ⟨rb, rfl, vo, R, hal, hlo, hex, -, hpw, hpm⟩
  have HAL := hid hal
  have HLO := hid hlo
  have HEX := hid hex
  have HPW := hid (hpw trivial HI.out.hp)
  have HPM := hid (hpm.trans (HI.out.perm.map kr))
  clear hal hlo hex hpw hpm CA
  have z0 : (w2.alloc (.cells #[.nilFunc] 120)).cell? ⟨w2.heap.size, 0, none⟩ = some .nilFunc := by rw [cell_of_row _ _ _ _ _ _ (heap_alloc_new w2 _)]; rfl
  have f0 := free_of (heap_alloc_new w2 (.cells #[.nilFunc] 120)) 0
  go_wp2_with fail
  go_ret
  have hb2 : Below w.heap.size w w2 := HEX.out.below (Nat.le_refl _) (fun k hk => hk.elim)
  refine ⟨w2.heap.size, rfl, rb, vo, R, ⟨heap_alloc_new w2 _, HAL.out.kept fun i hi => heap_alloc_old w2 _ (HAL.out.lt i hi), fun q => by have := HAL.out.lt _ q; omega⟩, ?_, HPW.out, HPM.out, hb2.alloc hb2.size _⟩
  rintro i (rfl | hi)
  · exact hb2.size
  · exact HLO.out i hi
theorem enters1 (args : Array Value) (w : World) : (callFunc 87 args).run Try.prog w = .ok (.enter 87 args) w := enters_of Try.func87 (by kernel_rfl) rfl args w
theorem enters2 (args : Array Value) (w : World) : (callFunc 56 args).run Try.prog w = .ok (.enter 56 args) w := enters_of Try.func56 (by kernel_rfl) rfl args w
theorem round_wide {m m' l1 : Nat} {P : Program} {l : Nat} {f : FuncId} {tmps : Array Value} {assign body : Code} {w : World} {Rr : Ending → World → Prop} (h : RoundIn Fence.wide m P l f tmps assign body w Rr) : RoundIn (Fence.wide.inRound l1) m' P l f tmps assign body w Rr :=
  ⟨h.1, fun c cs _ => h.2 c cs (room_wide _)⟩
/-- What is known within the rounds: the outer one's, and the box of its yield. -/
def XE (E : Nat → Prop) (yb ab : Nat) (i : Nat) : Prop := E i ∨ i = yb ∨ i = ab
theorem jn_box {β : Type} {J : β → (Nat → Prop) → World → Prop} (h : JN J) (yb ab : Nat) (o : Obj) : JN (fun s E W => J s (XE E yb ab) W ∧ ¬ E yb ∧ W.heap[yb]? = some o) where
  more := fun s E A C ⟨h1, h2, h3⟩ hg => by
    have hl := (Array.getElem?_eq_some_iff.1 h3).1
    refine ⟨h.less _ _ _ _ (h.more _ _ _ _ h1 hg) (fun i hi => ?_), fun q => ?_, (hg.block yb hl (by simp)).trans h3⟩
    · rcases hi with (z | z) | z
      · exact .inl (.inl z)
      · exact .inr z
      · exact .inl (.inr z)
    · rcases q with z | z
      · exact h2 z
      · omega
  turn := fun s E A C r ⟨h1, h2, h3⟩ hr hg hs => ⟨h.turn _ _ _ _ r h1 (.inl hr) hg hs, h2, (hg.block yb (Array.getElem?_eq_some_iff.1 h3).1 (fun e => h2 (by cases e; exact hr))).trans h3⟩
  less := fun s E E' A ⟨h1, h2, h3⟩ hl => ⟨h.less _ _ _ _ h1 (fun i hi => hi.imp (hl i) id), fun q => h2 (hl _ q), h3⟩
def ybO (l : Nat) : Obj := .cells #[.func (.yield l) #[] #[]] 118
def I2 (Jk : Nat → (Nat → Prop) → World → Prop) (yb ab l : Nat) (k : Nat) (E : Nat → Prop) (W : World) : Prop := Jk k (XE E yb ab) W ∧ ¬ E yb ∧ W.heap[yb]? = some (ybO l)
def I2x (Jx : Unit → (Nat → Prop) → World → Prop) (yb ab l : Nat) (c : Code) (E : Nat → Prop) (W : World) : Prop := c = .ret ∧ Jx () (XE E yb ab) W ∧ ¬ E yb ∧ W.heap[yb]? = some (ybO l)
theorem i2_jn {Jk : Nat → (Nat → Prop) → World → Prop} (h : JN Jk) (yb ab l : Nat) : JN (I2 Jk yb ab l) := jn_box h yb ab _
theorem i2x_jn {Jx : Unit → (Nat → Prop) → World → Prop} (h : JN Jx) (yb ab l : Nat) : JN (I2x Jx yb ab l) where
  more := fun s E A C ⟨h0, h1⟩ hg => ⟨h0, (jn_box h yb ab _).more () _ _ _ h1 hg⟩
  turn := fun s E A C r ⟨h0, h1⟩ hr hg hs => ⟨h0, (jn_box h yb ab _).turn () _ _ _ r h1 hr hg hs⟩
  less := fun s E E' A ⟨h0, h1⟩ hl => ⟨h0, (jn_box h yb ab _).less () _ _ _ h1 hl⟩
/-- The activation of a round. -/
def ac2 (l' ab yb rb : Nat) (t : Int) (x : Value) (db : Nat) : Act := { tmps := #[.func (.yield l') #[] #[], ptr ab, ptr yb, undef, ptr db, .func (.func 87) #[] #[ptr rb], .int .i64 t, x, undef, undef, undef, undef], defers := [] }
def A2 (Jk : Nat → (Nat → Prop) → World → Prop) (yb ab l rb : Nat) (R : List (Rw Pr)) (k : Nat) (v : Value) (a : Act) (E : Nat → Prop) (W : World) : Prop :=
  ∃ db, a = ac2 l ab yb rb (rat R k).t v db ∧ v = .agg #[.int .i64 (rat R k).x.1, .int .i64 (rat R k).x.2.1, .string (rat R k).x.2.2] ∧ I2 Jk yb ab l k (XE E db db) W ∧ ¬ E db ∧ W.heap[db]? = some (.cells #[.int .i64 (rat R k).x.1, .int .i64 (rat R k).x.2.1, .string (rat R k).x.2.2] 56)
theorem a2_jn {Jk : Nat → (Nat → Prop) → World → Prop} (h : JN Jk) (yb ab l rb : Nat) (R : List (Rw Pr)) (k : Nat) (v : Value) : JN (A2 Jk yb ab l rb R k v) where
  more := fun s E A C ⟨db, h0, h1, h2⟩ hg => ⟨db, h0, h1, (jn_box (i2_jn h yb ab l) db db _).more k _ _ _ h2 hg⟩
  turn := fun s E A C r ⟨db, h0, h1, h2⟩ hr hg hs => ⟨db, h0, h1, (jn_box (i2_jn h yb ab l) db db _).turn k _ _ _ r h2 hr hg hs⟩
  less := fun s E E' A ⟨db, h0, h1, h2⟩ hl => ⟨db, h0, h1, (jn_box (i2_jn h yb ab l) db db _).less k _ _ _ h2 hl⟩
set_option maxRecDepth 100000 in
set_option maxHeartbeats 8000000 in
theorem all2_iter (n : Nat) (hn : 1 ≤ n) (w0 : World) (ab rb : Nat) (vo : Value) (R : List (Rw Pr)) (hb : CaB w0 ab rb vo R) (hlen : R.length ≤ 17592186044416) :
    IterN Fence.wide n Try.prog 56 #[ptr ab] (fun k v => #[v]) (fun k v => v = .agg #[.int .i64 (rat R k).x.1, .int .i64 (rat R k).x.2.1, .string (rat R k).x.2.2]) (caD ab rb vo R) R.length w0 := fun l' Jk Jx W hK hJ hJx hY h0 => by
  have HBx := hid (hb.kept hK.2)
  have HJ := hid hJ
  have HJX := hid hJx
  have HY := hid hY
  have H0 := hid h0
  clear hb hK hJ hJx hY h0
  have cb : W.cell? ⟨ab, 0, none⟩ = some (.func (.func 87) #[] #[ptr rb]) := by rw [cell_of_row _ _ _ _ _ _ HBx.out.box]; rfl
  have lb := (Array.getElem?_eq_some_iff.1 HBx.out.box).1
  have hs1 : (W.alloc (ybO l')).heap.size = W.heap.size + 1 := by simp
  have HAL : Hid (AlB (W.alloc (ybO l')) rb vo R) := hid (HBx.out.al.kept fun i hi => heap_alloc_old W _ (HBx.out.al.lt i hi))
  have HI0 : Hid (I2 Jk W.heap.size ab l' 0 (Ed (alD rb vo R) ab) (W.alloc (ybO l'))) := hid ⟨HJ.out.less _ _ _ _ (HJ.out.more 0 (caD ab rb vo R) W (W.alloc (ybO l')) H0.out ⟨rfl, rfl, rfl, by rw [hs1]; omega, fun i hi _ => heap_alloc_old W _ hi⟩) (fun i hi => by
    rcases hi with (z | z) | z | z
    · exact .inl (.inr z)
    · exact .inl (.inl z)
    · exact .inr (by rw [hs1]; omega)
    · exact .inl (.inl z)), fun q => by
      rcases q with z | z
      · have := HBx.out.al.lt _ z; omega
      · omega, heap_alloc_new W _⟩
  refine callsIn_of_wp_marks Try.func56 rfl trivial ?_ rfl
  simp only [Try.ntmps56, List.size_toArray, List.length_cons, List.length_nil, Nat.reduceAdd, Nat.reduceSub, Array.replicate_succ, Array.replicate_zero, List.push_toArray, List.append_toArray, List.nil_append, List.cons_append]
  gi_wp2
  refine range_fitN rfl hn (gf := 87) (lb := #[ptr rb]) rfl trivial enters1 ((all1_iter (n - 1) (W.alloc (ybO l')) rb vo R HAL.out hlen).one HBx.out.na ((heap_alloc_old W _ lb).trans HBx.out.box)) ⟨Nat.le_refl _, fun _ _ => rfl⟩ (fun i hi => hi.elim (HAL.out.lt i) (fun z => by rw [z]; simp; omega)) (fun _ _ => rfl)
    (I2 Jk W.heap.size ab l') (I2x Jx W.heap.size ab l') (i2_jn HJ.out _ _ _) (i2x_jn HJX.out _ _ _) HI0.out (A2 Jk W.heap.size ab l' rb R) (fun k v => a2_jn HJ.out _ _ _ _ _ _ _) ?assign ?body ?done ?stop
  case assign =>
    intro l k v E W1 hl hI hDE hEl hf hk
    subst hf
    have hs2 : (W1.alloc (.cells #[.int .i64 (rat R k).x.1, .int .i64 (rat R k).x.2.1, .string (rat R k).x.2.2] 56)).heap.size = W1.heap.size + 1 := by simp
    have HI1 : Hid (I2 Jk W.heap.size ab l' k (XE E W1.heap.size W1.heap.size) (W1.alloc (.cells #[.int .i64 (rat R k).x.1, .int .i64 (rat R k).x.2.1, .string (rat R k).x.2.2] 56))) := hid ((i2_jn HJ.out _ _ _).less _ _ _ _ ((i2_jn HJ.out _ _ _).more k E W1 (W1.alloc (.cells #[.int .i64 (rat R k).x.1, .int .i64 (rat R k).x.2.1, .string (rat R k).x.2.2] 56)) hI ⟨rfl, rfl, rfl, by rw [hs2]; omega, fun i hi _ => heap_alloc_old W1 _ hi⟩) (fun i hi => by
      rcases hi with z | z | z
      · exact .inl z
      · exact .inr (by rw [hs2]; omega)
      · exact .inr (by rw [hs2]; omega)))
    have HEL := hid hEl
    clear hI hEl hDE hs2
    gi_wp2
    refine ⟨⟨by simp, fun i hi => heap_alloc_old W1 _ (HEL.out i hi)⟩, W1.heap.size, rfl, rfl, HI1.out, fun q => ?_, heap_alloc_new W1 _⟩
    have := HEL.out _ q
    omega
  case body =>
    intro l k v a1 E W1 hl hEl' hrec hA hDE hEl hk
    obtain ⟨db, rfl, rfl, ⟨hJ1, hny, hyb⟩, hnd, hdb⟩ := hA
    obtain ⟨fn, tmps, assign, body, hy, hR⟩ := HY.out k _ _ W1 hJ1 rfl hk
    have HRR := hid hR
    have c0 : W1.cell? ⟨W.heap.size, 0, none⟩ = some (.func (.yield l') #[] #[]) := by rw [cell_of_row _ _ _ _ _ _ hyb]; rfl
    have d0 : W1.cell? ⟨db, 0, none⟩ = some (.int .i64 (rat R k).x.1) := by rw [cell_of_row _ _ _ _ _ _ hdb]; rfl
    have d1 : W1.cell? ⟨db, 1, none⟩ = some (.int .i64 (rat R k).x.2.1) := by rw [cell_of_row _ _ _ _ _ _ hdb]; rfl
    have d2 : W1.cell? ⟨db, 2, none⟩ = some (.string (rat R k).x.2.2) := by rw [cell_of_row _ _ _ _ _ _ hdb]; rfl
    have HYB := hid hyb
    have HNY : Hid (¬ E W.heap.size) := hid fun q => hny (.inl q)
    obtain ⟨r, HR⟩ : ∃ r, Hid (rat R k = r) := ⟨_, rfl⟩
    rw [HR.out] at hy d0 d1 d2
    unfold ac2
    rw [HR.out]
    clear hJ1 hny hyb hnd hdb hR HR
    gi_wp2
    refine ⟨fun h => absurd h (by simp [Fence.wide]), (round_wide (l1 := l) HRR.out).mono ?_⟩
    rintro e W3 (⟨rfl, hJ3, hk3⟩ | ⟨rfl, hJ3, hk3⟩)
    · have HJ3 := hid (HJ.out.less _ _ (XE E W.heap.size ab) _ hJ3 (fun i hi => by
        rcases hi with z | z
        · exact .inl (.inl z)
        · exact .inr z))
      have HY3 := hid ((hk3.2 W.heap.size (.inr (.inl rfl))).trans HYB.out)
      have HK3 := hid (hk3.mono (E' := E) fun i hi => .inl (.inl hi))
      clear hJ3 hk3 HRR hy
      gi_wp2
      exact ⟨HK3.out, HJ3.out, HNY.out, HY3.out⟩
    · have HJ3 := hid (HJX.out.less _ _ (XE E W.heap.size ab) _ hJ3 (fun i hi => by
        rcases hi with z | z
        · exact .inl (.inl z)
        · exact .inr z))
      have HY3 := hid ((hk3.2 W.heap.size (.inr (.inl rfl))).trans HYB.out)
      have HK3 := hid (hk3.mono (E' := E) fun i hi => .inl (.inl hi))
      clear hJ3 hk3 HRR hy
      gi_wp2
      exact ⟨HK3.out, rfl, HJ3.out, HNY.out, HY3.out⟩
  case done =>
    intro d W1 hd hI hm hke
    have HJ1 := hid (HJ.out.less _ _ (fun i => caD ab rb vo R i ∨ i = d) _ hI.1 (fun i hi => by
      rcases hi with (z | z) | z
      · exact .inr (.inr z)
      · exact .inl (.inl (.inl z))
      · exact .inl (.inr z)))
    have HKE : Hid (KE (caD ab rb vo R) W W1) := hid (KE.trans (B := W.alloc (ybO l')) ⟨by rw [hs1]; omega, fun i hi => heap_alloc_old W _ (HBx.out.lt i hi)⟩ (hke.mono fun i hi => hi.elim .inr .inl))
    have hdn : ¬ caD ab rb vo R d := fun q => by have := HBx.out.lt d q; simp at hd; omega
    have HKD := hid hm
    clear hI hm
    gi_wp2
    refine ⟨by simp, .inl ⟨_, _, rfl, run_takeDeferred HKD.out, ?_⟩⟩
    exact ⟨_, results_none rfl _ _ _, ⟨_, rfl⟩, .inl (HJ.out.less _ _ _ _ (HJ.out.put _ HJ1.out (.inr rfl)) fun i hi => .inl hi), HKE.out.trans (KE.put hdn _)⟩
  case stop =>
    rintro d c W1 hd ⟨rfl, hI, -, -⟩ hm hke
    have HJ1 := hid (HJX.out.less _ _ (fun i => caD ab rb vo R i ∨ i = d) _ hI (fun i hi => by
      rcases hi with (z | z) | z
      · exact .inr (.inr z)
      · exact .inl (.inl (.inl z))
      · exact .inl (.inr z)))
    have HKE : Hid (KE (caD ab rb vo R) W W1) := hid (KE.trans (B := W.alloc (ybO l')) ⟨by rw [hs1]; omega, fun i hi => heap_alloc_old W _ (HBx.out.lt i hi)⟩ (hke.mono fun i hi => hi.elim .inr .inl))
    have hdn : ¬ caD ab rb vo R d := fun q => by have := HBx.out.lt d q; simp at hd; omega
    have HKD := hid hm
    clear hI hm
    gi_wp2
    refine ⟨by simp, .inl ⟨_, _, rfl, run_takeDeferred HKD.out, ?_⟩⟩
    exact ⟨_, results_none rfl _ _ _, ⟨_, rfl⟩, .inr (HJX.out.less _ _ _ _ (HJX.out.put _ HJ1.out (.inr rfl)) fun i hi => .inl hi), HKE.out.trans (KE.put hdn _)⟩
end
end Go.Proofs.Ytajdopmhdagehaa.Ds
