/- Of the road to uebReadCard_holds: EvSha, ShaLives, ShaSumAny, ShaSums, RefShaPad, ShaPiecesLaw, ShaMixesLaw, RefShaSum, FrameMath. -/
import Derived.Test.YtklklldmhoofnaaDoorG22
import Derived.Test.YtklklldmhoofnaaDoorG15
import Derived.Test.YtklklldmhoofnaaDoorChecked
import Derived.Test.YtklklldmhoofnaaDoorG19
import Derived.Test.YtklklldmhoofnaaDoorG17
set_option linter.unusedVariables false
set_option linter.unusedSimpArgs false
namespace Go.Proofs.YtklklldmhoofnaaDoor
open Go Go.RowKit Ev
def litW (l : List Nat) : List SV := l.map fun x : Nat => .int .u32 (.lit (x : Int))
def kBlk : Blk := ⟨true, true, 0, litW kW⟩
def HK : List Blk := [dead, dead, kBlk]
def unW : SV → Option Nat
  | .int .u32 (.lit n) => if 0 ≤ n ∧ n < 4294967296 then some n.toNat else none
  | _ => none
def unB : SV → Option Int
  | .int .u8 (.lit n) => if 0 ≤ n ∧ n < 256 then some n else none
  | _ => none
def hasK (H : List Blk) : Bool :=
  match H[2]? with
  | some b => decide (b.cells = litW kW)
  | none => false
def conMix : ConF := fun g xs H =>
  if g = 95 then
    match xs with
    | [.tv (.agg a), .tv (.agg b)] =>
      match seqO (a.map unW), seqO (b.map unB) with
      | some hs, some l => if hs.length = 8 ∧ l.length = 64 ∧ hasK H = true then some (.tv (.agg (litW (mixL hs l)))) else none
      | _, _ => none
    | _ => none
  else none
theorem unW_ok {ρ : Env} {ms : List Nat} : ∀ (l : List SV) (b : List Nat) (vs : List Value), l.map unW = b.map some → l.map (SV.inst ρ ms) = vs.map some → vs = b.map (fun x : Nat => Value.int .u32 (x : Int)) ∧ ∀ x ∈ b, x < 4294967296
  | [], b, vs, h, hv => by cases b <;> cases vs <;> simp at h hv ⊢
  | s :: l, b, vs, h, hv => by
    match b, vs, h, hv with
    | x :: b, v :: vs, h, hv =>
      simp only [List.map_cons, List.cons.injEq] at h hv ⊢
      obtain ⟨q1, q2⟩ := unW_ok l b vs h.2 hv.2
      have h1 := h.1
      unfold unW at h1
      split at h1
      · rename_i n
        split at h1 <;> cases h1
        rename_i hn
        have h2 := hv.1
        simp only [SV.inst, Ex.den, Option.some.injEq] at h2
        refine ⟨⟨?_, q1⟩, ?_⟩
        · rw [← h2]; congr 1; omega
        · intro y hy
          rcases List.mem_cons.1 hy with rfl | hy
          · omega
          · exact q2 y hy
      · cases h1
theorem unB_ok {ρ : Env} {ms : List Nat} : ∀ (l : List SV) (b : List Int) (vs : List Value), l.map unB = b.map some → l.map (SV.inst ρ ms) = vs.map some → vs = b.map (Value.int .u8) ∧ ∀ x ∈ b, 0 ≤ x ∧ x < 256
  | [], b, vs, h, hv => by cases b <;> cases vs <;> simp at h hv ⊢
  | s :: l, b, vs, h, hv => by
    match b, vs, h, hv with
    | x :: b, v :: vs, h, hv =>
      simp only [List.map_cons, List.cons.injEq] at h hv ⊢
      obtain ⟨q1, q2⟩ := unB_ok l b vs h.2 hv.2
      have h1 := h.1
      unfold unB at h1
      split at h1
      · rename_i n
        split at h1 <;> cases h1
        rename_i hn
        have h2 := hv.1
        simp only [SV.inst, Ex.den, Option.some.injEq] at h2
        refine ⟨⟨h2.symm, q1⟩, ?_⟩
        intro y hy
        rcases List.mem_cons.1 hy with rfl | hy
        · exact hn
        · exact q2 y hy
      · cases h1
theorem litW_map (ρ : Env) (ms : List Nat) (l : List Nat) : (litW l).map (SV.inst ρ ms) = (l.map fun x : Nat => Value.int .u32 (x : Int)).map some := by
  simp [litW, SV.inst, Ex.den]
theorem hasK_ok {ρ : Env} {ms : List Nat} {H : List Blk} {B : Nat} {w : World} (hH : Holds ρ ms H B w) (h : hasK H = true) : KC w := by
  unfold hasK at h
  split at h
  · rename_i b hHb
    have hb : b.cells = litW kW := by simpa using h
    intro t ht
    have hg := hH.gl 2 (by decide)
    have hc : b.cells[t]? = some (.int .u32 (.lit ((kW.getD t 0 : Nat) : Int))) := by
      rw [hb, litW, List.getElem?_map]
      have : t < kW.length := by rw [kW_length]; exact ht
      simp [List.getD, List.getElem?_eq_getElem this]
    obtain ⟨v, h1, h2, _⟩ := hH.cell 2 2 b hg hHb t _ hc
    simp only [SV.inst, Ex.den, Option.some.injEq] at h1
    rw [h2, h1]
  · cases h
theorem conMix_ok (ρ : Env) : ConOk Tryd.prog ρ conMix := by
  intro g xs H v h ms B w args ha hH
  unfold conMix at h
  split at h
  case isFalse => cases h
  rename_i hg
  subst hg
  split at h
  case h_2 => cases h
  rename_i a b
  split at h
  case h_2 => cases h
  rename_i hs l h1 h2
  split at h <;> cases h
  rename_i hc
  obtain ⟨c1, c2, c3⟩ := hc
  rw [seqO_iff] at h1 h2
  obtain ⟨al⟩ := args
  have hl2 : al.length = 2 := by have := congrArg List.length ha; simpa using this.symm
  match al, hl2, ha with
  | [u, u'], _, ha =>
    simp only [List.map_cons, List.map_nil, List.cons.injEq, and_true, AV.inst, TV.inst, Option.map_eq_some_iff] at ha
    obtain ⟨⟨vs, e1, rfl⟩, ⟨us, e2, rfl⟩⟩ := ha
    rw [seqO_iff] at e1 e2
    obtain ⟨q1, q2⟩ := unW_ok _ _ _ h1 e1
    obtain ⟨q3, q4⟩ := unB_ok _ _ _ h2 e2
    subst q1 q3
    refine (mix_any w hs l ⟨c1, q2⟩ c2 q4 (hasK_ok hH c3)).mono fun e w' ⟨r1, r2⟩ => ⟨_, r1, ?_, r2⟩
    simp only [AV.inst, TV.inst]
    rw [(seqO_iff _ _).2 (litW_map ρ ms _)]
    rfl
theorem holdsK (ρ : Env) (w : World) (h : KC w) : Holds ρ ms0 HK w.heap.size w := by
  have h0 := World.block_lt_of_cell? w _ (h 0 (by decide))
  have cases2 : ∀ (i : Nat) (k : Blk), HK[i]? = some k → k.cells ≠ [] → i = 2 ∧ k = kBlk := fun i k hk hne => by
    match i, hk with
    | 2, hk => exact ⟨rfl, by simpa [HK] using hk.symm⟩
    | 0, hk => simp [HK] at hk; subst hk; exact absurd rfl hne
    | 1, hk => simp [HK] at hk; subst hk; exact absurd rfl hne
    | i + 3, hk => simp [HK] at hk
  have ro : ∀ (i : Nat) (k : Blk), HK[i]? = some k → k.ro = true ∧ k.cap = 0 := fun i k hk => by
    match i, hk with
    | 2, hk => simp [HK] at hk; subst hk; exact ⟨rfl, rfl⟩
    | 0, hk => simp [HK] at hk; subst hk; exact ⟨rfl, rfl⟩
    | 1, hk => simp [HK] at hk; subst hk; exact ⟨rfl, rfl⟩
    | i + 3, hk => simp [HK] at hk
  refine ⟨rfl, gl0, ?_, ?_, ?_, Nat.le_refl _, ?_, ?_, ?_⟩
  · intro i j b k k' _ _ hk hk' hne hne'
    rw [(cases2 i k hk hne).1, (cases2 j k' hk' hne').1]
  · intro i b k _ hk hr
    rw [(ro i k hk).1] at hr
    cases hr
  · intro i b k hi hk hne
    obtain ⟨rfl, rfl⟩ := cases2 i k hk hne
    have : b = 2 := by simpa [ms0, nGl] using hi.symm
    subst this
    exact h0
  · intro i k hk hp
    match i, hk with
    | 2, hk => simp [HK] at hk; subst hk; simp [kBlk, litW, SV.plain]
    | 0, hk => simp [HK] at hk; subst hk; rfl
    | 1, hk => simp [HK] at hk; subst hk; rfl
    | i + 3, hk => simp [HK] at hk
  · intro i b k hi hk j s hs
    obtain ⟨rfl, rfl⟩ := cases2 i k hk (mem_nil_of_get hs)
    have : b = 2 := by simpa [ms0, nGl] using hi.symm
    subst this
    simp only [kBlk, litW, List.getElem?_map, Option.map_eq_some_iff] at hs
    obtain ⟨x, hx, rfl⟩ := hs
    have hj : j < 64 := by
      have := (List.getElem?_eq_some_iff.1 hx).1
      rw [kW_length] at this
      exact this
    refine ⟨_, rfl, ?_, fun hr => by simp [kBlk] at hr⟩
    rw [h j hj]
    simp [List.getD, hx, Ex.den]
  · intro i b c k0 k _ _ _ _ _ hk hcap
    rw [(ro _ k hk).2] at hcap
    omega
theorem mixedOrders : Tryd.prog.follows .mixedOrders = true := by kernel_rfl
def noEnv : Env := ⟨fun _ => 0, fun _ => .tuple #[], fun _ _ _ => 0⟩
end Go.Proofs.YtklklldmhoofnaaDoor
namespace Go.Proofs.YtklklldmhoofnaaDoor
open Go.RowKit
section
open Ev
noncomputable def sumRest : Code := tailN 5 (Tryd.f84.body.getD .skip)
def wv8 : List SV := (List.range 8).map fun i => .int .u32 (.var i)
def zero32 : List SV := List.replicate 32 (.int .u8 (.lit 0))
def ivLit : List SV := iv.map fun x : Nat => .int .u32 (.lit (x : Int))
def HSum : List Blk := (H0 ++ [newBlk zero32]) ++ [newBlk (ivLit ++ wv8)]
def tSum : Tm := tm2 40 2 (.tv (.sc (.ptr 3 0))) 3 (.tv (.sc (.ptr 4 0)))
def digE : List Ex := (List.range 8).flatMap fun i => [.con .u8 (.shr (.con .u64 (.var i)) 24), .con .u8 (.shr (.con .u64 (.var i)) 16), .con .u8 (.shr (.con .u64 (.var i)) 8), .con .u8 (.con .u64 (.var i))]
theorem sumTail_ev : (evCF Tryd.prog noLore noCon 60 sumRest tSum HSum).map (fun r => (r.1, evResults Tryd.prog Tryd.f84 r.2.1 r.2.2)) = some (.ret, some (.tv (.agg (digE.map (.int .u8))))) := by kernel_rfl
def envW (W : List Nat) : Env := ⟨fun i => ((W.getD i 0 : Nat) : Int), fun _ => .tuple #[], fun _ _ _ => 0⟩
theorem ivLit_inst (ρ : Env) (ms : List Nat) : ivLit.map (SV.inst ρ ms) = (wcells iv).map some := by simp [ivLit, wcells, SV.inst, Ex.den]
theorem wv8_inst {W : List Nat} (hW : W8 W) (ms : List Nat) : wv8.map (SV.inst (envW W) ms) = (wcells W).map some := by
  obtain ⟨a, b, c, d, e, f, g, h, rfl, _⟩ := hW.open
  rfl
theorem zero32_inst (ρ : Env) (ms : List Nat) : zero32.map (SV.inst ρ ms) = (List.replicate 32 (Value.int .u8 0)).map some := by
  simp [zero32, SV.inst, Ex.den]
theorem dig_bytes (x : Nat) (hx : x < 4294967296) : IntKind.u8.wrap ((IntKind.u64.wrap (x : Int)).fdiv (2 ^ 24)) = ((x / 256 ^ 3 % 256 : Nat) : Int) ∧ IntKind.u8.wrap ((IntKind.u64.wrap (x : Int)).fdiv (2 ^ 16)) = ((x / 256 ^ 2 % 256 : Nat) : Int) ∧
    IntKind.u8.wrap ((IntKind.u64.wrap (x : Int)).fdiv (2 ^ 8)) = ((x / 256 ^ 1 % 256 : Nat) : Int) ∧ IntKind.u8.wrap (IntKind.u64.wrap (x : Int)) = ((x / 256 ^ 0 % 256 : Nat) : Int) := by
  have e : IntKind.u64.wrap (x : Int) = (x : Int) := by rw [IntKind.wrap_u64]; omega
  rw [e]
  simp only [IntKind.wrap_u8]
  rw [Int.fdiv_eq_ediv_of_nonneg _ (by decide), Int.fdiv_eq_ediv_of_nonneg _ (by decide), Int.fdiv_eq_ediv_of_nonneg _ (by decide)]
  refine ⟨?_, ?_, ?_, ?_⟩
  · rw [show ((2 : Int) ^ 24) = 16777216 by decide, show (256 : Nat) ^ 3 = 16777216 by decide]; omega
  · rw [show ((2 : Int) ^ 16) = 65536 by decide, show (256 : Nat) ^ 2 = 65536 by decide]; omega
  · rw [show ((2 : Int) ^ 8) = 256 by decide, show (256 : Nat) ^ 1 = 256 by decide]; omega
  · rw [show (256 : Nat) ^ 0 = 1 by decide]; omega
theorem dig_inst {W : List Nat} (hW : W8 W) (ms : List Nat) : (AV.tv (.agg (digE.map (.int .u8)))).inst (envW W) ms = some (.agg (cellsB (W.flatMap (bigL 4)))) := by
  obtain ⟨a, b, c, d, e, f, g, h, rfl, ha, hb, hc, hd, he, hf, hg, hh⟩ := hW.open
  simp only [AV.inst, TV.inst]
  rw [(seqO_iff _ ((([a, b, c, d, e, f, g, h] : List Nat).flatMap (bigL 4)).map (Value.int .u8))).2 ?_]
  · rfl
  · obtain ⟨a1, a2, a3, a4⟩ := dig_bytes a ha
    obtain ⟨b1, b2, b3, b4⟩ := dig_bytes b hb
    obtain ⟨c1, c2, c3, c4⟩ := dig_bytes c hc
    obtain ⟨d1, d2, d3, d4⟩ := dig_bytes d hd
    obtain ⟨e1, e2, e3, e4⟩ := dig_bytes e he
    obtain ⟨f1, f2, f3, f4⟩ := dig_bytes f hf
    obtain ⟨g1, g2, g3, g4⟩ := dig_bytes g hg
    obtain ⟨h1, h2, h3, h4⟩ := dig_bytes h hh
    simp only [digE, List.range, List.range.loop, List.flatMap_cons, List.flatMap_nil, List.cons_append, List.nil_append, List.append_nil, List.map_cons, List.map_nil, SV.inst, Ex.den, envW, List.getD_cons_zero, List.getD_cons_succ, bigL, a1, a2, a3, a4, b1, b2, b3, b4, c1, c2, c3, c4, d1, d2, d3, d4, e1, e2, e3, e4, f1, f2, f3, f4, g1, g2, g3, g4, h1, h2, h3, h4]
end
def padded (m : List Int) : List Int := m ++ padL m.length
set_option maxRecDepth 100000 in
set_option maxHeartbeats 4000000 in
theorem sum_any (w : World) (g : Nat) (m : List Int) (h : HM w g m) (hk : KC w) (hlen : m.length ≤ 576460752303423488) :
    Calls Tryd.prog 84 #[.pointer (some ⟨g, 0, none⟩)] w fun e w' => e = .returned (.agg (cellsB ((wAt (padded m) ((padded m).length / 64)).flatMap (bigL 4)))) ∧ Below w.heap.size w w' := by
  obtain ⟨zd, HZD⟩ : ∃ zd, Hid (cellsB zeros32 = zd) := ⟨_, rfl⟩
  obtain ⟨zh, HZH⟩ : ∃ zh, Hid ((hcells (zerosW 8) (zerosW 8) (List.replicate 64 0) 0).toArray = zh) := ⟨_, rfl⟩
  have hzh := zero_hash
  rw [HZH.out] at hzh
  have HZ1 := hid hzh
  have hzl : zh.size = 81 := by rw [← HZH.out]; simp [hcells, wcells_length, bcells_length, zerosW_length]
  obtain ⟨W0, hW0⟩ : ∃ W0, Hid (w.alloc (.cells zd 23) = W0) := ⟨_, rfl⟩
  have HB0 : Hid (Below w.heap.size w W0) := by rw [← hW0.out]; exact (Below.refl _ w).alloc (Nat.le_refl _) _
  have HR0 : Hid (W0.heap[w.heap.size]? = some (.cells zd 23 (0, 0))) := by rw [← hW0.out]; exact heap_alloc_new w _
  have hS0 : W0.heap.size = w.heap.size + 1 := by rw [← hW0.out]; simp
  have hm0 := h.below HB0.out
  have HM0 := hid hm0
  have CM := hid (made_yes W0 g m hm0)
  have hkb : 2 < w.heap.size := World.block_lt_of_cell? w _ (hk 0 (by decide))
  have HK := hid hk
  have hgl := h.lt
  clear h hk hzh hm0
  go_enter Tryd.func84, Tryd.ntmps84
  go_wp2_with (refine wpList_alloc_digest rfl rfl ?_; rw [HZD.out, hW0.out])
  refine CM.out.mono ?_
  rintro e w1 ⟨rfl, hB1⟩
  obtain ⟨rest, hs1, hrt, hmb⟩ := HM0.out.below hB1
  obtain ⟨n, HN⟩ : ∃ n, Hid (m.length = n) := ⟨_, rfl⟩
  obtain ⟨hc, HC⟩ : ∃ hc, Hid ((hcells iv (wAt m (m.length / 64)) rest m.length).toArray = hc) := ⟨_, rfl⟩
  have hcl : (hcells iv (wAt m (m.length / 64)) rest m.length).length = 81 := hcells_length iv_W8.1 hs1.w8.1 hs1.rl
  have hcs : hc.size = 81 := by rw [← HC.out, List.size_toArray, hcl]
  have SH : Hid ((Tryd.prog.info? 135).map (·.size) = some (hcells iv (wAt m (m.length / 64)) rest m.length).length) := by rw [hcl]; exact size_hash
  have SH2 : Hid ((Tryd.prog.info? 135).map (·.size) = some hc.size) := by rw [hcs]; exact size_hash
  have OH : Hid (hc.all (·.oneCell') = true) := by
    rw [← HC.out]
    refine all_oneCell_toArray (fun v hv => ?_)
    unfold hcells at hv
    rcases List.mem_append.1 hv with h1 | h1
    · obtain ⟨x, _, rfl⟩ := List.mem_map.1 h1; rfl
    · rcases List.mem_append.1 h1 with h2 | h2
      · obtain ⟨x, _, rfl⟩ := List.mem_map.1 h2; rfl
      · rcases List.mem_append.1 h2 with h3 | h3
        · obtain ⟨x, _, rfl⟩ := List.mem_map.1 h3; rfl
        · have : v = .int .i64 (m.length : Int) := by simpa using h3
          rw [this]; rfl
  have ZH : Hid (zh.size = hc.size) := by rw [hzl, hcs]; exact rfl
  have RA : Hid (w1.rangeAt g 0 (hcells iv (wAt m (m.length / 64)) rest m.length)) := hs1.all
  have HF1 : Hid ((w1.alloc (.cells zh 135)).heap[w1.heap.size]? = some (.cells zh 135 (0, 0))) := heap_alloc_new w1 _
  have HS1 := hid hs1
  have HB1 := hid hB1
  have HRT := hid hrt
  have HMB := hid hmb
  have hsz1 : w.heap.size + 1 ≤ w1.heap.size := by have := hB1.size; omega
  obtain ⟨W2, hW2⟩ : ∃ W2, Hid ((w1.alloc (.cells zh 135)).setRow w1.heap.size hc = W2) := ⟨_, rfl⟩
  have HB12 : Hid (Below w1.heap.size w1 W2) := by
    rw [← hW2.out]
    exact below_setRow ((Below.refl _ w1).alloc (Nat.le_refl _) _) (Nat.le_refl _) hc
  have HBK2 : Hid (W2.heap[w1.heap.size]? = some (.cells hc 135 (0, 0))) := by
    rw [← hW2.out]
    exact setRow_heap _ _ _ _ _ _ HF1.out
  have hS2 : W2.heap.size = w1.heap.size + 1 := by rw [← hW2.out]; simp [World.setRow]
  have HS2 : Hid (HSt W2 w1.heap.size (wAt m (m.length / 64)) rest m.length) := by
    have hb := HBK2.out
    rw [← HC.out] at hb
    exact HSt.of_block hb hs1.w8 hs1.rl hs1.rb
  have HM2 : Hid (HM W2 w1.heap.size m) := ⟨rest, HS2.out, HRT.out, HMB.out⟩
  have c80 : W2.cell? ⟨g, 80, none⟩ = some (.int .i64 (n : Int)) := by rw [← HN.out]; exact (hs1.below HB12.out).sz
  have HK2 := hid (((HK.out.below HB0.out).below hB1).below HB12.out)
  have HB02 := hid ((HB0.out.trans (hB1.mono (by omega))).trans (HB12.out.mono (by omega)))
  clear hs1 hB1 hrt hmb CM hcl hcs hzl
  go_wp2_with (first | (refine wpList_load_mid rfl 135 _ rfl g 0 rfl _ _ RA.out Tryd.underlying135 rfl SH.out ?_; rw [HC.out]) | (refine wpList_alloc_agg HZ1.out rfl rfl ?_) | (refine wpList_store_row rfl 135 _ _ rfl w1.heap.size hc rfl rfl 135 _ HF1.out SH2.out ZH.out OH.out ?_; rw [hW2.out]))
  refine (pad_ok W2 n (by rw [← HN.out]; omega)).mono ?_
  rintro e w3 ⟨v3, rfl, ho3, hB3⟩
  have P3 := HB.of_own ho3 (padL_byt n)
  obtain ⟨p3, c3, e3, _, _⟩ := P3.open
  have hpl := padL_length n
  have hpz : padZ n < 64 := by unfold padZ; omega
  have CT := take_hash w3 w1.heap.size m v3 (padL n) (HM2.out.below hB3) P3 (fun _ _ _ _ _ e => by have := (ho3.lt _ e).1; omega) (HK2.out.below hB3) (by omega) (by have hl2 := hlen; rw [HN.out] at hl2 ⊢; omega)
  have HB03 := hid (HB02.out.trans (hB3.mono HB02.out.size))
  have hs3 := hB3.size
  obtain ⟨ql, hql⟩ : ∃ ql, ql = (padL n).length := ⟨_, rfl⟩
  rw [← hql] at e3
  subst e3
  obtain ⟨P, HP⟩ : ∃ P, Hid (padL n = P) := ⟨_, rfl⟩
  rw [HP.out] at CT
  have CT2 := hid CT
  have HQ := hid hql
  have HB3 := hid hB3
  clear CT P3 ho3 hB3 c80 hpl hpz hql
  go_wp2_with fail
  refine CT2.out.mono ?_
  rintro e w4 ⟨rfl, hm4, hg4⟩
  rename_i K1 h1 K2 h2
  refine h2 _ _ (show K1 _ _ from h1 _ _ ?_)
  clear h1 h2 CT2
  obtain ⟨rest4, hs4, hrt4, hmb4⟩ := hm4
  obtain ⟨W, HW⟩ : ∃ W, Hid (wAt (m ++ P) ((m ++ P).length / 64) = W) := ⟨_, rfl⟩
  rw [HW.out] at hs4
  have hsz2 := HB12.out.size
  have HB04 : Below w.heap.size w w4 := HB03.out.grown hg4 (by omega) (fun k e => by cases e; omega)
  have HD : w4.heap[w.heap.size]? = some (.cells zd 23 (0, 0)) := by
    rw [hg4.block _ (by omega) (fun e => by have := Option.some.inj e; omega), HB3.out.block _ (by omega), HB12.out.block _ (by omega), HB1.out.block _ (by omega)]
    exact HR0.out
  have hlt4 := hs4.lt
  have hHo : Ev.Holds (envW W) ((Ev.ms0 ++ [w.heap.size]) ++ [w1.heap.size]) HSum w.heap.size w4 := by
    have h1 := (Ev.holds_any (envW W) w4 HB04.size).known (l := zero32) (zero32_inst _ _) (b0 := w.heap.size) (Nat.le_refl _) (by have := HB04.size; omega) (fun i b k _ hk hne => absurd (Ev.dead0 hk) hne) (fun j v hv => by
      refine ⟨?_, by simp [World.frozen?, HD]⟩
      rw [cell_of_row w4 w.heap.size j _ _ _ HD, ← HZD.out]
      simpa [cellsB, zeros32] using hv)
    refine h1.known (l := ivLit ++ wv8) (vs := wcells iv ++ wcells W) (by rw [List.map_append, List.map_append, ivLit_inst, wv8_inst hs4.w8]) (b0 := w1.heap.size) (by omega) hlt4 (fun i b k hi hk hne => ?_) (fun j v hv => ?_)
    · by_cases h3 : i < Ev.H0.length
      · rw [List.getElem?_append_left h3] at hk
        exact absurd (Ev.dead0 hk) hne
      · have h4 : Ev.ms0.length = Ev.H0.length := (Ev.holds_any (envW W) w4 HB04.size).len
        rw [List.getElem?_append_right (by omega)] at hi
        have := List.mem_of_getElem? hi
        simp at this
        omega
    · have hj : j < 16 := by
        have := (List.getElem?_eq_some_iff.1 hv).1
        simpa [wcells_length, hs4.w8.1, iv_W8.1] using this
      have hr := range_app hs4.bw (ys := wcells W) (by rw [wcells_length, iv_W8.1]; exact hs4.wv) j v hv
      rw [Nat.zero_add] at hr
      have ht := (hs4.th j (by omega)).2
      rw [Nat.zero_add] at ht
      exact ⟨hr, ht⟩
  refine Ev.part_ret (t := tSum) (ρ := envW W) mixedOrders sumTail_ev (Ev.RelT.two rfl (by decide) (u := .pointer (some ⟨w.heap.size, 0, none⟩)) rfl rfl (v := .pointer (some ⟨w1.heap.size, 0, none⟩)) rfl rfl hHo.gl) hHo rfl fun ms' u w' hu hb => ?_
  rw [dig_inst hs4.w8] at hu
  cases hu
  have hpd : padded m = m ++ P := by unfold padded; rw [HN.out, HP.out]
  refine ⟨by rw [hpd, HW.out], HB04.trans hb⟩
def digL (m : List Int) : List Int := (wAt (padded m) ((padded m).length / 64)).flatMap (bigL 4)
theorem digL_length (m : List Int) : (digL m).length = 32 := by
  obtain ⟨a, b, c, d, e, f, g, h, e1, _⟩ := (wAt_W8 (padded m) ((padded m).length / 64)).open
  unfold digL
  rw [e1]
  simp [bigL_length]
theorem HB.off {w : World} {u : Value} {l : List Int} {g : Nat} (h : HB w u l) (hg : w.heap.size ≤ g) : Off u g := by
  intro p n c e hn
  obtain ⟨p', c', e', _, _⟩ := h.open
  have hl : 0 < l.length := by rw [e] at e'; simp only [Value.slice.injEq] at e'; omega
  obtain ⟨b, off, c2, rfl, _, _, hh⟩ := h.ne hl
  have hlt : b < w.heap.size := World.block_lt_of_cell? w _ (hh 0 hl)
  intro e2
  have e3 : b = g := by simpa [Value.ownBlock] using e2
  omega
theorem flat_step (ps : List (List Int)) (k : Nat) (hk : k < ps.length) : (ps.take (k + 1)).flatten = (ps.take k).flatten ++ ps.getD k [] := by
  rw [List.take_succ_eq_append_getElem hk, List.flatten_append]
  simp [List.getD, List.getElem?_eq_getElem hk]
theorem flat_le (ps : List (List Int)) (k : Nat) : (ps.take k).flatten.length ≤ ps.flatten.length := by
  conv => rhs; rw [← List.take_append_drop k ps, List.flatten_append, List.length_append]
  omega
theorem HM.nil {w : World} {g : Nat} (hb : w.heap[g]? = some (.cells (hashC iv iv (List.replicate 64 0) 0).toArray 135 (0, 0))) : HM w g [] := by
  refine ⟨List.replicate 64 0, HSt.of_block hb iv_W8 (by simp) (fun x hx => by have := (List.mem_replicate.1 hx).2; omega), rfl, fun x hx => by cases hx⟩
set_option maxHeartbeats 2000000 in
theorem sums_any (w : World) (v : Value) (ps : List (List Int)) (h : HL w v ps) (hk : KC w) (hlen : ps.flatten.length ≤ 576460752303423488) :
    Calls Tryd.prog 71 #[v] w fun e w' => e = .returned (.agg (cellsB (digL ps.flatten))) ∧ Below w.heap.size w w' := by
  obtain ⟨zd, HZD⟩ : ∃ zd, Hid (cellsB zeros32 = zd) := ⟨_, rfl⟩
  obtain ⟨W0, hW0⟩ : ∃ W0, Hid (w.alloc (.cells zd 23) = W0) := ⟨_, rfl⟩
  have HB0 : Hid (Below w.heap.size w W0) := by rw [← hW0.out]; exact (Below.refl _ w).alloc (Nat.le_refl _) _
  have HR0 : Hid (W0.heap[w.heap.size]? = some (.cells zd 23 (0, 0))) := by rw [← hW0.out]; exact heap_alloc_new w _
  have hS0 : W0.heap.size = w.heap.size + 1 := by rw [← hW0.out]; simp
  obtain ⟨p, c, ev, hlc, hcm⟩ := h.open
  unfold maxLen at hcm
  have A : Hid (0 < ps.length → ∃ b off, p = some ⟨b, off, none⟩ ∧ ∀ j, j < ps.length → ∃ u, w.cell? ⟨b, off + j, none⟩ = some u ∧ HB w u (ps.getD j [])) := by
    intro h0
    obtain ⟨b, off, c', e', _, _, hh⟩ := h.ne h0
    rw [ev] at e'
    simp only [Value.slice.injEq, true_and] at e'
    exact ⟨b, off, e'.1, hh⟩
  have hkb : 2 < w.heap.size := World.block_lt_of_cell? w _ (hk 0 (by decide))
  have HK := hid hk
  have h0b := World.block_lt_of_cell? w _ (hk 0 (by decide))
  obtain ⟨n, HN⟩ : ∃ n, Hid (ps.length = n) := ⟨_, rfl⟩
  rw [HN.out] at ev hlc
  have HLen := hid hlen
  subst ev
  clear h hk hlen
  go_enter Tryd.func71, Tryd.ntmps71
  go_wp2_with (refine wpList_alloc_digest rfl rfl ?_; rw [HZD.out, hW0.out])
  refine (new_any W0).mono ?_
  rintro e w1 ⟨g, rfl, hg1, hblk, hB1⟩
  have HM1 := hid (HM.nil hblk)
  have hgl := HM1.out.lt
  have HB1 := hid hB1
  clear hblk hB1
  go_wp2
  go_loopw [9] (fun i wr => ∃ k : Nat, k ≤ n ∧ i = .int .i64 k ∧ Hid (HM wr g (ps.take k).flatten) ∧ Hid (Below g w1 wr)) (fun i _ => n - (intOf i).toNat)
  case atStart => exact ⟨0, Nat.zero_le _, rfl, HM1, Below.refl _ _⟩
  case round =>
    obtain ⟨k, hkn, rfl, HMk, HBk⟩ := hrel
    have HBW : Hid (Below w.heap.size w wr) := (HB0.out.trans (HB1.out.mono (by omega))).trans (HBk.out.mono (by omega))
    have HKr : Hid (KC wr) := HK.out.below HBW.out
    by_cases hlt : k < n
    · obtain ⟨b, off, rfl, hh⟩ := A.out (by rw [HN.out]; omega)
      obtain ⟨u, hu, hbu⟩ := hh k (by rw [HN.out]; exact hlt)
      have hur := (HBW.out.cell (World.block_lt_of_cell? w _ hu)).trans hu
      obtain ⟨l, HL⟩ : ∃ l, Hid (ps.getD k [] = l) := ⟨_, rfl⟩
      rw [HL.out] at hbu
      have HS : Hid ((ps.take (k + 1)).flatten = (ps.take k).flatten ++ l) := by
        show _ = _
        rw [flat_step ps k (by rw [HN.out]; exact hlt), HL.out]
      have CT := hid (take_hash wr g _ u l HMk.out (hbu.below HBW.out) (hbu.off (by omega)) HKr.out (by omega) (by
        have h1 := flat_le ps (k + 1)
        rw [HS.out, List.length_append] at h1
        have := HLen.out
        omega))
      clear hh hu hbu
      go_wp2_with fail
      refine CT.out.mono ?_
      rintro e w2 ⟨rfl, hm2, hg2⟩
      have HM2 : Hid (HM w2 g (ps.take (k + 1)).flatten) := by rw [HS.out]; exact hm2
      have HB2 : Hid (Below g w1 w2) := HBk.out.grown hg2 (Nat.le_of_lt HMk.out.lt) (fun q e => by cases e; exact Nat.le_refl _)
      clear hm2 hg2 CT
      go_wp2
      exact ⟨⟨k + 1, by omega, by go_num, HM2, HB2⟩, by simp [intOf]; omega⟩
    · have hkn2 : k = n := by omega
      have HF : Hid ((ps.take k).flatten = ps.flatten) := by
        show _ = _
        rw [hkn2, ← HN.out, List.take_length]
      have CS := hid (sum_any wr g _ HMk.out HKr.out (by rw [HF.out]; exact HLen.out))
      go_wp2_with fail
      refine CS.out.mono ?_
      rintro e w3 ⟨rfl, hB3⟩
      rw [HF.out]
      obtain ⟨dm, HD⟩ : ∃ dm, Hid (cellsB (digL ps.flatten) = dm) := ⟨_, rfl⟩
      have hds : dm.size = 32 := by rw [← HD.out]; simp [cellsB, digL_length]
      have SD : Hid ((Tryd.prog.info? 23).map (·.size) = some dm.size) := by rw [hds]; exact size_digest
      have OD : Hid (dm.all (·.oneCell') = true) := by
        rw [← HD.out]
        exact all_oneCell_toArray (fun v hv => by obtain ⟨x, _, rfl⟩ := List.mem_map.1 hv; rfl)
      have ZD : Hid (zd.size = dm.size) := by rw [hds, ← HZD.out]; rfl
      have hwg : w.heap.size < g := by omega
      have HR3 : Hid (w3.heap[w.heap.size]? = some (.cells zd 23 (0, 0))) := by
        show _ = _
        rw [hB3.block _ (by have := HBW.out.size; have := HMk.out.lt; omega), HBk.out.block _ hwg, HB1.out.block _ (by omega)]
        exact HR0.out
      have HB3 := hid (HBW.out.trans (hB3.mono HBW.out.size))
      have HBF := hid (below_setRow HB3.out (g := w.heap.size) (Nat.le_refl _) dm)
      have HE : Hid (List.flatMap (bigL 4) (wAt (padded ps.flatten) ((padded ps.flatten).length / 64)) = digL ps.flatten) := rfl
      rw [HE.out, HD.out]
      clear hB3 CS hds hlt
      go_wp2_with (refine wpList_store_row rfl 23 _ _ rfl w.heap.size dm rfl rfl 23 _ HR3.out SD.out ZD.out OD.out ?_)
      refine bodyPost_ret (v := .agg dm) (results_cell_row (p := 2) (ty := 23) rfl _ _ w.heap.size 23 dm (0, 0) _ rfl (setRow_heap _ _ _ _ _ _ HR3.out) Tryd.underlying23 rfl SD.out) rfl ?_
      exact ⟨by rw [HD.out], HBF.out⟩
def hiL2 (n m x : Nat) : List Int := (bigL n x).take (n - m)
theorem hiL2_step (n m x : Nat) (h : m < n) : hiL2 n m x = hiL2 n (m + 1) x ++ [((x / 256 ^ m % 256 : Nat) : Int)] := by
  have key : ∀ r j, j < r → (bigL r x)[j]? = some ((x / 256 ^ (r - 1 - j) % 256 : Nat) : Int) := by
    intro r
    induction r with
    | zero => intro j hj; omega
    | succ r ih =>
      intro j hj
      cases j with
      | zero => simp [bigL]
      | succ j =>
        simp only [bigL, List.getElem?_cons_succ]
        rw [ih j (by omega), show r + 1 - 1 - (j + 1) = r - 1 - j by omega]
  unfold hiL2
  have e : n - m = (n - (m + 1)) + 1 := by omega
  rw [e, List.take_add_one, key n _ (by omega), show n - 1 - (n - (m + 1)) = m by omega]
  rfl
theorem lit_HB (w : World) (x : Int) (hx : 0 ≤ x ∧ x < 256) : HB (w.alloc (.cells #[.int .u8 x] 5)) (.slice (some ⟨w.heap.size, 0, none⟩) 1 1) [x] := by
  have h1 : (w.alloc (.cells #[.int .u8 x] 5)).ownsRow w.heap.size 5 1 (.slice (some ⟨w.heap.size, 0, none⟩) 1 1) 1 [.int .u8 x] := World.ownsRow_lit (base := w.heap.size) (e := 5) (size := 1) w #[.int .u8 x] 1 (Nat.le_refl _) (by decide) rfl
  exact HB.of_own (l := [x]) h1 (fun y hy => by have : y = x := (by simpa using hy); omega)
theorem lit_HB2 (w : World) (x y : Int) (e : x = y) (hy : 0 ≤ y ∧ y < 256) : HB (w.alloc (.cells #[.int .u8 x] 5)) (.slice (some ⟨w.heap.size, 0, none⟩) 1 1) [y] := by
  subst e
  exact lit_HB w x hy
set_option maxRecDepth 100000 in
set_option maxHeartbeats 2000000 in
theorem rpad_ok (w : World) (n : Nat) (hn : n ≤ 1152921504606846976) :
    Calls Tryd.prog 66 #[.int .i64 (n : Int)] w fun e w' => ∃ v', e = .returned (.tuple #[v', .int .i64 0]) ∧ w'.ownsRow w.heap.size 5 1 v' (padL n).length ((padL n).map (Value.int .u8)) ∧ Below w.heap.size w w' := by
  obtain ⟨z, HZ⟩ : ∃ z, Hid (padZ n = z) := ⟨_, rfl⟩
  have HZE : Hid (z = (64 - (n + 9) % 64) % 64) := by rw [← HZ.out]; rfl
  have hz64 : z < 64 := by have := HZE.out; omega
  have HO1 : Hid ((w.alloc (.cells #[.int .u8 128] 5)).ownsRow w.heap.size 5 1 (.slice (some ⟨w.heap.size, 0, none⟩) 1 1) (1 + 0) ([.int .u8 128] ++ List.replicate 0 (.int .u8 0))) := World.ownsRow_lit (base := w.heap.size) (e := 5) (size := 1) w #[.int .u8 128] 1 (Nat.le_refl _) (by decide) rfl
  have HB1 : Hid (Below w.heap.size w (w.alloc (.cells #[.int .u8 128] 5))) := (Below.refl _ w).alloc (Nat.le_refl _) _
  go_enter Tryd.func66, Tryd.ntmps66
  go_wp2
  go_loopw [4] (fun v wr => ∃ j : Nat, j ≤ z ∧ Hid (wr.ownsRow w.heap.size 5 1 v (1 + j) ([.int .u8 128] ++ List.replicate j (.int .u8 0))) ∧ Hid (Below w.heap.size w wr)) (fun v _ => 64 - lenV v)
  case atStart => exact ⟨0, Nat.zero_le _, HO1, HB1⟩
  case round =>
    obtain ⟨j, hj, HO, HB⟩ := hrel
    obtain ⟨g, cap, ev, hg0⟩ : ∃ g cap, u4 = .slice (some ⟨g, 0, none⟩) (1 + j) cap ∧ w.heap.size ≤ g := by
      rcases HO.out.2 with ⟨_, h⟩ | ⟨g, cap, _, h, h2, _⟩
      · omega
      · exact ⟨g, cap, h, h2⟩
    subst ev
    have hsz := HB.out.size
    by_cases hlt : j < z
    · have hc : ¬ (((n : Int) + (1 + (j : Int))) % 64 = 56) := by have := HZE.out; omega
      have HO2 : Hid ((wr.alloc (.cells #[.int .u8 0] 5)).ownsRow w.heap.size 5 1 (.slice (some ⟨g, 0, none⟩) (1 + j) cap) (1 + j) ([.int .u8 128] ++ List.replicate j (.int .u8 0))) := HO.out.alloc _
      have HLB := hid (lit_HB wr 0 (by decide))
      have HB2 : Hid (Below w.heap.size w (wr.alloc (.cells #[.int .u8 0] 5))) := HB.out.alloc hsz _
      go_wp2_with (at_builtin; refine wpList_append_HB rfl _ _ rfl w.heap.size _ _ _ rfl HO2.out _ _ rfl HLB.out ?q1 ?q2 ?_)
      case q1 => simp; omega
      case q2 => simp; omega
      intro v4 w4 ho4 hg4
      have HO4 : Hid (w4.ownsRow w.heap.size 5 1 v4 (1 + (j + 1)) ([.int .u8 128] ++ List.replicate (j + 1) (.int .u8 0))) := by
        rw [List.replicate_succ', ← Nat.add_assoc]
        exact ho4
      have HB4 : Hid (Below w.heap.size w w4) := HB2.out.grown hg4 HB2.out.size (fun k e => by
        have : g = k := by simpa [Value.ownBlock] using e
        omega)
      obtain ⟨g4, cap4, ev4⟩ : ∃ g cap, v4 = .slice (some ⟨g, 0, none⟩) (1 + (j + 1)) cap := by
        rcases HO4.out.2 with ⟨_, h⟩ | ⟨g, cap, _, h, h2, _⟩
        · omega
        · exact ⟨g, cap, h⟩
      subst ev4
      clear ho4 hg4 HO2 HLB HB2 hc
      go_wp2
      exact ⟨⟨j + 1, by omega, HO4, HB4⟩, by simp [lenV]; omega⟩
    · have hjz : j = z := by omega
      subst hjz
      have hc : ((n : Int) + (1 + (j : Int))) % 64 = 56 := by have := HZE.out; omega
      obtain ⟨xs, HXS⟩ : ∃ xs : List Value, Hid (([Value.int .u8 128] ++ List.replicate j (Value.int .u8 0)) = xs) := ⟨_, rfl⟩
      have HO0 := hid HO.out
      rw [HXS.out] at HO0
      obtain ⟨x, HX0⟩ : ∃ x, Hid (n * 8 = x) := ⟨_, rfl⟩
      have hnx : (n : Int) * 8 = (x : Int) := by rw [← HX0.out]; omega
      have hxb : x ≤ 9223372036854775808 := by rw [← HX0.out]; omega
      go_wp2
      clear hc HO hlt hnx
      go_loopw [4, 6] (fun o i wq => ∃ m : Nat, m ≤ 8 ∧ i = .int .i64 ((m : Int) - 1) ∧ Hid (wq.ownsRow w.heap.size 5 1 o (1 + j + (8 - m)) (xs ++ (hiL2 8 m x).map (Value.int .u8))) ∧ Hid (Below w.heap.size w wq)) (fun _ i _ => (intOf i + 1).toNat)
      case atStart => exact ⟨8, Nat.le_refl _, rfl, by rw [Nat.sub_self, show hiL2 8 8 x = [] from rfl, List.map_nil, List.append_nil]; exact HO0, HB⟩
      case round =>
        clear HO0 HB hsz
        obtain ⟨m, hm, rfl, HO, HBw⟩ := hrel
        obtain ⟨g2, cap2, ev, hg2⟩ : ∃ g cap, u4 = .slice (some ⟨g, 0, none⟩) (1 + j + (8 - m)) cap ∧ w.heap.size ≤ g := by
          rcases HO.out.2 with ⟨_, h⟩ | ⟨g, cap, _, h, h2, _⟩
          · omega
          · exact ⟨g, cap, h, h2⟩
        cases m with
        | zero =>
          have HPL : Hid ((padL n).map (Value.int .u8) = xs ++ (hiL2 8 0 x).map (Value.int .u8)) := by
            show _ = _
            rw [← HXS.out, show hiL2 8 0 x = bigL 8 x from by unfold hiL2; rw [Nat.sub_zero, List.take_of_length_le (by rw [bigL_length]; exact Nat.le_refl 8)], ← HX0.out]
            unfold padL
            rw [HZ.out]
            simp
          have HLn : Hid ((padL n).length = 1 + j + (8 - 0)) := by show _ = _; rw [padL_length, HZ.out]; omega
          go_wp2
          go_ret2
          refine ⟨_, rfl, ?_, HBw.out⟩
          rw [HPL.out, HLn.out]
          exact HO.out
        | succ m =>
          have HS := hid (hiL2_step 8 m x (by omega))
          have hmc : m = 0 ∨ m = 1 ∨ m = 2 ∨ m = 3 ∨ m = 4 ∨ m = 5 ∨ m = 6 ∨ m = 7 := by omega
          have hxi : (x : Int) ≤ 9223372036854775808 := by omega
          have hsz := HBw.out.size
          obtain ⟨y, HY⟩ : ∃ y, Hid (((x / 256 ^ m % 256 : Nat) : Int) = y) := ⟨_, rfl⟩
          rw [HY.out] at HS
          have hyb : Hid (0 ≤ y ∧ y < 256) := by rw [← HY.out]; refine hid ?_; omega
          obtain ⟨k0, HK⟩ : ∃ k0, Hid (1 + j + (8 - (m + 1)) = k0) := ⟨_, rfl⟩
          have HK2 : Hid (1 + j + (8 - m) = k0 + 1) := by show _ = _; rw [← HK.out]; omega
          have hk0 : k0 ≤ 80 := by rw [← HK.out]; omega
          obtain ⟨lst, HLs⟩ : ∃ lst, Hid (xs ++ (hiL2 8 (m + 1) x).map (Value.int .u8) = lst) := ⟨_, rfl⟩
          have HSX : Hid (xs ++ (hiL2 8 m x).map (Value.int .u8) = lst ++ [.int .u8 y]) := by
            show _ = _
            rw [HS.out, List.map_append, ← List.append_assoc, HLs.out]
            rfl
          have HO' := hid HO.out
          rw [HK.out, HLs.out] at HO'
          rw [HK.out] at ev
          clear HO
          subst ev
          rcases hmc with rfl | rfl | rfl | rfl | rfl | rfl | rfl | rfl
          all_goals
            go_wp2_with (at_builtin; refine wpList_append_HB rfl _ _ rfl w.heap.size _ _ _ rfl (HO'.out.alloc _) _ [y] rfl ?q0 ?q1 ?q2 ?_)
            case q0 => exact lit_HB2 _ _ _ (by rw [← HY.out]; simp; try omega) hyb.out
            case q1 => simp; omega
            case q2 => simp; omega
            intro v' w2 hown2 hgr2
            have HO2 : Hid (w2.ownsRow w.heap.size 5 1 v' (k0 + 1) (lst ++ [.int .u8 y])) := hown2
            have HB2 := hid ((HBw.out.alloc HBw.out.size _).grown hgr2 (by simp; omega) (fun k e => (HO'.out.lt k e).1))
            clear hown2 hgr2
            go_wp2
            exact ⟨⟨_, Nat.le_of_succ_le hm, rfl, by rw [HK2.out, HSX.out]; exact HO2, HB2⟩, by simp [intOf]⟩
theorem rpad_bad (w : World) (n : Int) (hn : n < 0 ∨ 1152921504606846976 < n) : Calls Tryd.prog 66 #[.int .i64 n] w fun e w' => e = .returned (.tuple #[.slice none 0 0, .int .i64 2]) ∧ w' = w := by
  rcases hn with h | h
  · go_enter Tryd.func66, Tryd.ntmps66
    go_wp2
    go_ret2
    exact ⟨rfl, rfl⟩
  · have h0 : ¬ n < 0 := by omega
    go_enter Tryd.func66, Tryd.ntmps66
    go_wp2
    go_ret2
    exact ⟨rfl, rfl⟩
def HO (w : World) (v : Value) (ls : List Bool) : Prop :=
  ∃ (p : Option Addr) (c : Nat), v = .slice p ls.length c ∧ ls.length ≤ c ∧ c ≤ maxLen ∧ (0 < ls.length → ∃ b off, p = some ⟨b, off, none⟩ ∧ ∀ j, j < ls.length → w.cell? ⟨b, off + j, none⟩ = some (.bool (ls.getD j false)))
theorem HM.block {A C : World} {g : Nat} {m : List Int} (h : HM A g m) (hb : C.heap[g]? = A.heap[g]?) : HM C g m := by
  obtain ⟨rest, h1, h2⟩ := h
  exact ⟨rest, h1.block hb, h2⟩
theorem own_later {A C : World} {B e n : Nat} {v : Value} {xs : List Value} (h : A.ownsRow B e 1 v n xs) (hb : Below A.heap.size A C) : C.ownsRow B e 1 v n xs := by
  cases hx : v.ownBlock with
  | none => exact h.kept (row := some 0) (grown_below hb) (.inl hx)
  | some y => exact h.kept (row := some (y + 1)) (grown_below hb) (.inr (by rw [hx]; simp))
theorem sum_dig (w : World) (g : Nat) (m : List Int) (h : HM w g m) (hk : KC w) (hlen : m.length ≤ 576460752303423488) :
    Calls Tryd.prog 84 #[.pointer (some ⟨g, 0, none⟩)] w fun e w' => e = .returned (.agg (cellsB (digL m))) ∧ Below w.heap.size w w' := sum_any w g m h hk hlen
theorem sums_one (w : World) (v : Value) (m : List Int) (h : HB w v m) (hk : KC w) (hlen : m.length ≤ 576460752303423488) :
    Calls Tryd.prog 71 #[.slice (some ⟨w.heap.size, 0, none⟩) 1 1] (w.alloc (.cells #[v] 26)) fun e w' => e = .returned (.agg (cellsB (digL m))) ∧ Below w.heap.size w w' := by
  have hB : Below w.heap.size w (w.alloc (.cells #[v] 26)) := (Below.refl _ w).alloc (Nat.le_refl _) _
  have hL : HL (w.alloc (.cells #[v] 26)) (.slice (some ⟨w.heap.size, 0, none⟩) 1 1) [m] := by
    refine ⟨_, 1, rfl, Nat.le_refl _, by decide, (fun e => by cases e), fun _ => ⟨w.heap.size, 0, rfl, fun j hj => ?_⟩⟩
    have hrow : (w.alloc (.cells #[v] 26)).heap[w.heap.size]? = some (.cells #[v] 26 (0, 0)) := heap_alloc_new w _
    match j, hj with
    | 0, _ => exact ⟨_, by rw [cell_of_row _ w.heap.size 0 _ _ _ hrow]; rfl, h.below hB⟩
  have := sums_any _ _ [m] hL (hk.below hB) (by simpa using hlen)
  refine this.mono ?_
  rintro e w' ⟨rfl, hb⟩
  exact ⟨by simp, hB.trans (hb.mono hB.size)⟩
theorem zero_b64 : (Tryd.prog.info? 103).map (·.zero) = some (some (.agg (cellsB (List.replicate 64 0)))) := by kernel_rfl
theorem cellsB_set2 (l : List Int) (i : Nat) (x : Int) : (cellsB l).setIfInBounds i (.int .u8 x) = cellsB (l.set i x) := by
  unfold cellsB
  rw [List.map_set]
  simp
theorem dig_get {W : List Nat} (hW : W8 W) (a r : Nat) (ha : a < 8) (hr : r < 4) : (W.flatMap (bigL 4)).getD (4 * a + r) 0 = ((W.getD a 0 / 256 ^ (3 - r) % 256 : Nat) : Int) := by
  obtain ⟨x0, x1, x2, x3, x4, x5, x6, x7, rfl, _⟩ := hW.open
  have h1 : a = 0 ∨ a = 1 ∨ a = 2 ∨ a = 3 ∨ a = 4 ∨ a = 5 ∨ a = 6 ∨ a = 7 := by omega
  have h2 : r = 0 ∨ r = 1 ∨ r = 2 ∨ r = 3 := by omega
  rcases h1 with rfl | rfl | rfl | rfl | rfl | rfl | rfl | rfl <;> rcases h2 with rfl | rfl | rfl | rfl <;> rfl
def curB (t : List Int) (i : Nat) : List Int := t.take i ++ (List.replicate 64 (0 : Int)).drop i
theorem curB_length (t : List Int) (i : Nat) (hi : i ≤ 64) (ht : t.length = 64) : (curB t i).length = 64 := by
  unfold curB
  rw [List.length_append, List.length_take, List.length_drop, List.length_replicate]
  omega
theorem curB_step (t : List Int) (i : Nat) (hi : i < 64) (ht : t.length = 64) : (curB t i).set i (t.getD i 0) = curB t (i + 1) := by
  unfold curB
  have hl : (t.take i).length = i := by rw [List.length_take]; omega
  have hz : i < (List.replicate 64 (0 : Int)).length := by rw [List.length_replicate]; omega
  have hi2 : i < t.length := by omega
  rw [List.set_append_right _ _ (by omega), hl, Nat.sub_self, List.drop_eq_getElem_cons hz, List.set_cons_zero, List.take_succ_eq_append_getElem hi2, getD_of_lt hi2, List.append_assoc]
  rfl
theorem blkOf_get (M : List Int) (k j : Nat) (hj : j < 64) : (blkOf M k).getD j 0 = M.getD (64 * k + j) 0 := by
  unfold blkOf
  simp only [List.getD, List.getElem?_take, List.getElem?_drop, if_pos hj]
def curE (t : List Int) (i : Nat) : List Int := t.take i ++ zeros32.drop i
theorem curE_length (t : List Int) (i : Nat) (hi : i ≤ 32) (ht : t.length = 32) : (curE t i).length = 32 := by
  unfold curE
  rw [List.length_append, List.length_take, List.length_drop, zeros32_length]
  omega
theorem curE_step (t : List Int) (i : Nat) (hi : i < 32) (ht : t.length = 32) : (curE t i).set i (t.getD i 0) = curE t (i + 1) := by
  unfold curE
  have hl : (t.take i).length = i := by rw [List.length_take]; omega
  have hz : i < zeros32.length := by rw [zeros32_length]; omega
  have hi2 : i < t.length := by omega
  rw [List.set_append_right _ _ (by omega), hl, Nat.sub_self, List.drop_eq_getElem_cons hz, List.set_cons_zero, List.take_succ_eq_append_getElem hi2, getD_of_lt hi2, List.append_assoc]
  rfl
set_option maxRecDepth 100000 in
set_option maxHeartbeats 4000000 in
theorem rsum_any (w : World) (v : Value) (m : List Int) (h : HB w v m) (hbig : m.length ≤ 140737488355000) : Calls Tryd.prog 50 #[v] w fun e w' => e = .returned (.agg (cellsB (digL m))) ∧ Below w.heap.size w w' := by
  obtain ⟨zd, HZD⟩ : ∃ zd, Hid (cellsB zeros32 = zd) := ⟨_, rfl⟩
  obtain ⟨W0, hW0⟩ : ∃ W0, Hid (w.alloc (.cells zd 23) = W0) := ⟨_, rfl⟩
  have HB0 : Hid (Below w.heap.size w W0) := by rw [← hW0.out]; exact (Below.refl _ w).alloc (Nat.le_refl _) _
  have HR0 : Hid (W0.heap[w.heap.size]? = some (.cells zd 23 (0, 0))) := by rw [← hW0.out]; exact heap_alloc_new w _
  have HS0 : Hid (W0.heap.size = w.heap.size + 1) := by rw [← hW0.out]; refine hid ?_; simp
  obtain ⟨p, c, ev, hlc, hcm⟩ := h.open
  unfold maxLen at hcm
  obtain ⟨n, HN⟩ : ∃ n, Hid (m.length = n) := ⟨_, rfl⟩
  rw [HN.out] at ev hlc hbig
  have HH := hid (h.below HB0.out)
  have hmb := hid h.2
  subst ev
  clear h
  go_enter Tryd.func50, Tryd.ntmps50
  have HV0 : Hid (World.ownsRow W0 W0.heap.size 5 1 (.slice none 0 0) 0 []) := World.ownsRow_nil _ _ _ _
  go_wp2_with (first | (refine wpList_alloc_digest rfl rfl ?_; rw [HZD.out, hW0.out]) | (at_builtin; refine wpList_append_HB rfl _ _ rfl W0.heap.size (.slice none 0 0) 0 [] rfl HV0.out (.slice p n c) m rfl HH.out (by rw [HN.out]; omega) (Nat.le_refl _) ?_))
  intro v3 w2 ho3 hg3
  have HB02 : Hid (Below W0.heap.size W0 w2) := (Below.refl _ W0).grown hg3 (Nat.le_refl _) (fun k e => by cases e)
  have HO2 := hid ho3
  clear ho3 hg3
  go_wp2_with fail
  refine (rpad_ok _ n (by omega)).mono ?_
  rintro e w3 ⟨v2, rfl, ho2, hB2⟩
  obtain ⟨P, HP⟩ : ∃ P, Hid (padL n = P) := ⟨_, rfl⟩
  obtain ⟨q, HQ⟩ : ∃ q, Hid (P.length = q) := ⟨_, rfl⟩
  have hq72 : q ≤ 72 := by rw [← HQ.out, ← HP.out, padL_length]; unfold padZ; omega
  have HBP : Hid (HB w3 v2 P) := by rw [← HP.out]; exact HB.of_own ho2 (padL_byt n)
  have HO3 := hid (own_later HO2.out hB2)
  have HB03 : Hid (Below W0.heap.size W0 w3) := HB02.out.trans (hB2.mono HB02.out.size)
  obtain ⟨p2, c2, e2, hl2, hm2⟩ := HBP.out.open
  rw [HQ.out] at e2
  subst e2
  clear ho2 hB2 HO2
  go_wp2_with (at_builtin; refine wpList_append_HB rfl _ _ rfl W0.heap.size _ _ _ rfl HO3.out _ _ rfl HBP.out ?q1 ?q2 ?_)
  case q1 => rw [HN.out, HQ.out]; omega
  case q2 => exact HB03.out.size
  intro v4 w4 ho4 hg4
  obtain ⟨M, HM0⟩ : ∃ M, Hid (m ++ P = M) := ⟨_, rfl⟩
  have HPM : Hid (padded m = M) := by rw [← HM0.out, ← HP.out, ← HN.out]; rfl
  have HML : Hid (M.length = n + q) := by show _ = _; rw [← HM0.out, List.length_append, HN.out, HQ.out]
  have hmod : (n + q) % 64 = 0 := by have := padL_whole n; rwa [HP.out, HQ.out] at this
  have HMB : Hid (∀ x ∈ M, 0 ≤ x ∧ x < 256) := by
    intro x hx
    rw [← HM0.out] at hx
    rcases List.mem_append.1 hx with h1 | h1
    · exact hmb.out x h1
    · exact HBP.out.2 x h1
  have hbm : HB w4 v4 M := by
    refine HB.of_own (B := W0.heap.size) (e := 5) ?_ HMB.out
    have h4 := ho4
    rw [← List.map_append, HM0.out] at h4
    rw [HML.out, ← HN.out, ← HQ.out]
    exact h4
  have HB04 : Hid (Below W0.heap.size W0 w4) := HB03.out.grown hg4 HB03.out.size (fun k e => (HO3.out.lt k e).1)
  have HB4 : Hid (Below w.heap.size w w4) := HB0.out.trans (HB04.out.mono (by have := HS0.out; omega))
  have HRR4 : Hid (w4.heap[w.heap.size]? = some (.cells zd 23 (0, 0))) := (HB04.out.block _ (by have := HS0.out; omega)).trans HR0.out
  have hq9 : 9 ≤ q := by rw [← HQ.out, ← HP.out, padL_length]; omega
  obtain ⟨b4, o4, c4, e4, hc4, hm4, hcell4⟩ := hbm.ne (by rw [HML.out]; omega)
  rw [HML.out] at e4 hc4 hcell4
  have hb4 : b4 < w4.heap.size := World.block_lt_of_cell? w4 _ (hcell4 0 (by omega))
  have HC4 := hid hcell4
  unfold maxLen at hm4
  subst e4
  clear ho4 hg4 hbm hcell4 HO3 HBP
  obtain ⟨ivc, HIV⟩ : ∃ ivc, Hid (cellsW iv = ivc) := ⟨_, rfl⟩
  obtain ⟨z8, HZ8⟩ : ∃ z8, Hid (cellsW (zerosW 8) = z8) := ⟨_, rfl⟩
  have hz8 := zero_w8
  rw [HZ8.out] at hz8
  have HZ1 := hid hz8
  have HIm : Hid ((Tryd.prog.info? 101).map (·.size) = some ivc.size) := by rw [← HIV.out]; exact size_w8
  have H1m : Hid (ivc.all (·.oneCell') = true) := by rw [← HIV.out]; exact cellsW_one _
  have HZM : Hid (z8.size = ivc.size) := by rw [← HZ8.out, ← HIV.out, cellsW_size, zerosW_length]; exact rfl
  have CI := hid (rinitial_any w4)
  clear hz8
  rw [HIV.out] at CI
  go_wp2_with fail
  refine CI.out.mono ?_
  rintro e w5 ⟨rfl, hB5⟩
  have HB5 := hid hB5
  clear hB5
  have HR : Hid ((w5.alloc (.cells z8 101)).heap[w5.heap.size]? = some (.cells z8 101 (0, 0))) := heap_alloc_new w5 _
  have HB6 := hid (below_setRow ((Below.refl _ w5).alloc (Nat.le_refl _) (.cells z8 101)) (g := w5.heap.size) (Nat.le_refl _) ivc)
  have HF0 : Hid (((w5.alloc (.cells z8 101)).setRow w5.heap.size ivc).heap[w5.heap.size]? = some (.cells (cellsW (wAt M 0)) 101 (0, 0))) := by rw [show cellsW (wAt M 0) = ivc from HIV.out]; exact setRow_heap _ _ _ _ _ _ HR.out
  go_wp2_with (first | (refine wpList_alloc_agg HZ1.out rfl rfl ?_) | (refine wpList_store_row rfl 101 _ _ rfl w5.heap.size ivc rfl rfl 101 _ HR.out HIm.out HZM.out H1m.out ?_))
  go_loopw [7] (fun i wr => ∃ k I : Nat, I = 64 * k ∧ I ≤ n + q ∧ i = .int .i64 I ∧ Hid (wr.heap[w5.heap.size]? = some (.cells (cellsW (wAt M k)) 101 (0, 0))) ∧ Hid (Below w5.heap.size w5 wr)) (fun i _ => n + q - (intOf i).toNat)
  case atStart => exact ⟨0, 0, rfl, Nat.zero_le _, rfl, HF0, HB6⟩
  case round =>
    obtain ⟨k, I, hIk, hI, rfl, HF, HBk⟩ := hrel
    obtain ⟨wo, rfl⟩ : ∃ wo, wo = wr := ⟨_, rfl⟩
    have HIK := hid hIk
    clear hIk
    have hbr : b4 < w5.heap.size := by have := HB5.out.size; omega
    have hsr := HBk.out.size
    have HCr : Hid (∀ j, j < n + q → wo.cell? ⟨b4, o4 + j, none⟩ = some (.int .u8 (M.getD j 0))) := fun j hj => ((HBk.out.cell hbr).trans (HB5.out.cell hb4)).trans (HC4.out j hj)
    have h8 := wAt_W8 M k
    by_cases hlt : I + 64 ≤ n + q
    · have hbl := blkOf_length (m := M) (k := k) (by rw [HML.out]; have := HIK.out; omega)
      have hbb := blkOf_byt HMB.out k
      have HBG : Hid (∀ j, j < 64 → M.getD (I + j) 0 = (blkOf M k).getD j 0) := fun j hj => by rw [blkOf_get M k j hj, HIK.out]
      have HW1 : Hid (wAt M (k + 1) = mixL (wAt M k) (blkOf M k)) := rfl
      obtain ⟨B, HBL⟩ : ∃ B, Hid (blkOf M k = B) := ⟨_, rfl⟩
      obtain ⟨W, HW⟩ : ∃ W, Hid (wAt M k = W) := ⟨_, rfl⟩
      rw [HBL.out] at hbl hbb HBG HW1
      rw [HW.out] at h8 HF HW1
      have H8 := hid h8
      have HBB := hid hbb
      obtain ⟨zb, HZB⟩ : ∃ zb, Hid (cellsB (List.replicate 64 0) = zb) := ⟨_, rfl⟩
      have hzb := zero_b64
      rw [HZB.out] at hzb
      have HZ2 := hid hzb
      obtain ⟨W7, hW7⟩ : ∃ W7, Hid (wo.alloc (.cells zb 103) = W7) := ⟨_, rfl⟩
      have HB7 : Hid (Below wo.heap.size wo W7) := by rw [← hW7.out]; exact (Below.refl _ wo).alloc (Nat.le_refl _) _
      have hs7 : W7.heap.size = wo.heap.size + 1 := by rw [← hW7.out]; simp
      have HR7 : Hid (W7.heap[wo.heap.size]? = some (.cells (cellsB (curB B 0)) 103 (0, 0))) := by
        rw [← hW7.out, show cellsB (curB B 0) = zb from HZB.out]
        exact heap_alloc_new wo _
      clear h8 hbb hzb
      go_wp2_with (refine wpList_alloc_agg HZ2.out rfl rfl ?_; rw [hW7.out])
      clear hW7
      go_loopw [9] (fun i wq => ∃ J : Nat, J ≤ 64 ∧ i = .int .i64 J ∧ Hid (wq.heap[wo.heap.size]? = some (.cells (cellsB (curB B J)) 103 (0, 0))) ∧ Hid (W7.grownBy wq (some wo.heap.size))) (fun i _ => 64 - (intOf i).toNat)
      case atStart => exact ⟨0, Nat.zero_le _, rfl, HR7, ⟨rfl, rfl, rfl, Nat.le_refl _, fun _ _ _ => rfl⟩⟩
      case round =>
        obtain ⟨J, hJ, rfl, HFB, HG⟩ := hrel
        have hbw : b4 < wo.heap.size := by omega
        have HB8 : Hid (Below wo.heap.size wo wr) := HB7.out.grown HG.out (by omega) (fun k e => by cases e; exact Nat.le_refl _)
        by_cases hlj : J < 64
        · have hcx : wr.cell? ⟨b4, o4 + (I + J), none⟩ = some (.int .u8 (B.getD J 0)) := by
            rw [← HBG.out J hlj]
            exact (HB8.out.cell hbw).trans (HCr.out (I + J) (by omega))
          have hcb : wr.cell? ⟨wo.heap.size, J, none⟩ = some (.int .u8 ((curB B J).getD J 0)) := by
            rw [cell_of_row wr wo.heap.size J _ _ _ HFB.out]
            have hj2 : J < (curB B J).length := by rw [curB_length B J (by omega) hbl]; omega
            simp [cellsB, List.getD, List.getElem?_eq_getElem hj2]
          obtain ⟨old, HOLD⟩ : ∃ old, Hid ((curB B J).getD J 0 = old) := ⟨_, rfl⟩
          rw [HOLD.out] at hcb
          obtain ⟨x, HX⟩ : ∃ x, Hid (B.getD J 0 = x) := ⟨_, rfl⟩
          rw [HX.out] at hcx
          have hfz : wr.frozen? ⟨wo.heap.size, J, none⟩ = false := by simp [World.frozen?, HFB.out]
          go_wp2
          refine ⟨⟨J + 1, by omega, by go_num, ?_, grown_tr HG.out (grown_sets _ _ _ _)⟩, by simp [intOf]; omega⟩
          show _ = _
          rw [← curB_step B J hlj hbl, HX.out, ← cellsB_set2]
          exact heap_setCell_same wr wo.heap.size J _ _ _ HFB.out
        · have hJ64 : J = 64 := by omega
          subst hJ64
          have HCB : Hid (curB B 64 = B) := by
            show _ = _
            unfold curB
            rw [List.take_of_length_le (by omega), List.drop_eq_nil_of_le (by rw [List.length_replicate]; omega), List.append_nil]
          rw [HCB.out] at HFB
          obtain ⟨mb, HMB2⟩ : ∃ mb, Hid (cellsB B = mb) := ⟨_, rfl⟩
          obtain ⟨mw, HMW⟩ : ∃ mw, Hid (cellsW W = mw) := ⟨_, rfl⟩
          obtain ⟨mx, HMX⟩ : ∃ mx, Hid (cellsW (mixL W B) = mx) := ⟨_, rfl⟩
          have CM := hid (rmix_any wr W B H8.out hbl HBB.out)
          rw [HMB2.out, HMW.out, HMX.out] at CM
          rw [HMB2.out] at HFB
          have HFW : Hid (wr.heap[w5.heap.size]? = some (.cells mw 101 (0, 0))) := by
            show _ = _
            rw [HB8.out.block _ (by have := World.block_lt_of_cell? wo ⟨w5.heap.size, 0, none⟩ (u := .int .u32 ((W.getD 0 0 : Nat) : Int)) (by rw [cell_of_row wo w5.heap.size 0 _ _ _ HF.out]; exact cellsW_get (by rw [H8.out.1]; decide)); exact this), ← HMW.out]
            exact HF.out
          have hmws : mw.size = 8 := by rw [← HMW.out, cellsW_size, H8.out.1]
          have hmxs : mx.size = 8 := by rw [← HMX.out, cellsW_size, H8.out.mix.1]
          have hmbs : mb.size = 64 := by rw [← HMB2.out]; simp [cellsB, hbl]
          have HIb : Hid ((Tryd.prog.info? 103).map (·.size) = some mb.size) := by rw [hmbs]; exact size_b64
          have HIw : Hid ((Tryd.prog.info? 101).map (·.size) = some mw.size) := by rw [hmws]; exact size_w8
          have HIx : Hid ((Tryd.prog.info? 101).map (·.size) = some mx.size) := by rw [hmxs]; exact size_w8
          have HWX : Hid (mw.size = mx.size) := by rw [hmws, hmxs]; exact rfl
          have H1x : Hid (mx.all (·.oneCell') = true) := by rw [← HMX.out]; exact cellsW_one _
          clear hmws hmxs hmbs
          go_wp2_with (first | (refine wpList_load_row rfl 101 _ rfl w5.heap.size rfl 101 mw (0, 0) _ HFW.out Tryd.underlying101 rfl HIw.out ?_) | (refine wpList_load_row rfl 103 _ rfl wo.heap.size rfl 103 mb (0, 0) _ HFB.out Tryd.underlying103 rfl HIb.out ?_))
          refine CM.out.mono ?_
          rintro e w8 ⟨rfl, hB8⟩
          have hw5r : w5.heap.size < wr.heap.size := by have h1 := HB8.out.size; have h2 := HG.out.size; omega
          have HF8 : Hid (w8.heap[w5.heap.size]? = some (.cells mw 101 (0, 0))) := (hB8.block _ hw5r).trans HFW.out
          have HF9 : Hid ((w8.setRow w5.heap.size mx).heap[w5.heap.size]? = some (.cells mx 101 (0, 0))) := setRow_heap _ _ _ _ _ _ HF8.out
          have HB9 := hid (below_setRow ((HBk.out.trans (HB8.out.mono HBk.out.size)).trans (hB8.mono (Nat.le_trans HBk.out.size HB8.out.size))) (g := w5.heap.size) (Nat.le_refl _) mx)
          clear hB8
          go_wp2_with (refine wpList_store_row rfl 101 _ _ rfl w5.heap.size mx rfl rfl 101 _ HF8.out HIx.out HWX.out H1x.out ?_)
          refine ⟨⟨k + 1, I + 64, by have := HIK.out; omega, by omega, by go_num, ?_, HB9⟩, by simp [intOf]; omega⟩
          show _ = _
          rw [HW1.out, HMX.out]
          exact HF9.out
    · have hIe : I = n + q := by have := HIK.out; omega
      have HWE : Hid (wAt M k = wAt (padded m) ((padded m).length / 64)) := by
        show _ = _
        have h1 : (padded m).length / 64 = k := by rw [HPM.out, HML.out]; have := HIK.out; omega
        rw [h1, HPM.out]
      obtain ⟨W, HW⟩ : ∃ W, Hid (wAt M k = W) := ⟨_, rfl⟩
      rw [HW.out] at HF h8 HWE
      have H8 := hid h8
      obtain ⟨D, HD⟩ : ∃ D, Hid (W.flatMap (bigL 4) = D) := ⟨_, rfl⟩
      have HDG : Hid (digL m = D) := by show _ = _; rw [← HD.out, HWE.out]; rfl
      have hDl : D.length = 32 := by rw [← HDG.out, digL_length]
      have hwol : w5.heap.size < wo.heap.size := World.block_lt_of_cell? wo ⟨w5.heap.size, 0, none⟩ (u := .int .u32 ((W.getD 0 0 : Nat) : Int)) (by rw [cell_of_row wo w5.heap.size 0 _ _ _ HF.out]; exact cellsW_get (by rw [H8.out.1]; decide))
      have HBo5 : Hid (Below w4.heap.size w4 wo) := HB5.out.trans (HBk.out.mono HB5.out.size)
      have HBo : Hid (Below w.heap.size w wo) := HB4.out.trans (HBo5.out.mono HB4.out.size)
      have hw4 : w.heap.size < w4.heap.size := by have := HB04.out.size; have := HS0.out; omega
      have hwwo : w.heap.size < wo.heap.size := by have := HBo5.out.size; omega
      have HRo : Hid (wo.heap[w.heap.size]? = some (.cells zd 23 (0, 0))) := (HBo5.out.block _ hw4).trans HRR4.out
      obtain ⟨W7, hW7⟩ : ∃ W7, Hid (wo.alloc (.cells zd 23) = W7) := ⟨_, rfl⟩
      have HB7 : Hid (Below wo.heap.size wo W7) := by rw [← hW7.out]; exact (Below.refl _ wo).alloc (Nat.le_refl _) _
      have HS7 : Hid (W7.heap.size = wo.heap.size + 1) := by rw [← hW7.out]; refine hid ?_; simp
      have HR7 : Hid (W7.heap[wo.heap.size]? = some (.cells (cellsB (curE D 0)) 23 (0, 0))) := by
        rw [← hW7.out, show cellsB (curE D 0) = zd from HZD.out]
        exact heap_alloc_new wo _
      have HRr7 : Hid (W7.heap[w.heap.size]? = some (.cells zd 23 (0, 0))) := (HB7.out.block _ (by omega)).trans HRo.out
      have HF7 : Hid (W7.heap[w5.heap.size]? = some (.cells (cellsW W) 101 (0, 0))) := (HB7.out.block _ hwol).trans HF.out
      clear h8 hlt
      go_wp2_with (refine wpList_alloc_digest rfl rfl ?_; rw [HZD.out, hW7.out])
      clear hW7
      go_loopw [11] (fun i wq => ∃ J : Nat, J ≤ 32 ∧ i = .int .i64 J ∧ Hid (wq.heap[wo.heap.size]? = some (.cells (cellsB (curE D J)) 23 (0, 0))) ∧ Hid (W7.grownBy wq (some wo.heap.size))) (fun i _ => 32 - (intOf i).toNat)
      case atStart => exact ⟨0, Nat.zero_le _, rfl, HR7, ⟨rfl, rfl, rfl, Nat.le_refl _, fun _ _ _ => rfl⟩⟩
      case round =>
        obtain ⟨J, hJ, rfl, HFB, HG⟩ := hrel
        by_cases hlj : J < 32
        · obtain ⟨a, r, HJ⟩ : ∃ a r, Hid (J = 4 * a + r ∧ r < 4) := ⟨J / 4, J % 4, by show _ ∧ _; omega⟩
          have ha8 : a < 8 := by have := HJ.out; omega
          have HGD := hid (dig_get H8.out a r ha8 HJ.out.2)
          rw [HD.out, ← HJ.out.1] at HGD
          obtain ⟨x, HX⟩ : ∃ x, Hid (W.getD a 0 = x) := ⟨_, rfl⟩
          rw [HX.out] at HGD
          have hxl : x < 4294967296 := by rw [← HX.out]; exact getW_lt H8.out.2 a
          have cw : wr.cell? ⟨w5.heap.size, a, none⟩ = some (.int .u32 (x : Int)) := by
            rw [cell_of_row wr w5.heap.size a _ _ _ ((HG.out.block w5.heap.size (by have := HS7.out; omega) (by simp; omega)).trans HF7.out), cellsW_get (by rw [H8.out.1]; exact ha8), HX.out]
          have hcb : wr.cell? ⟨wo.heap.size, J, none⟩ = some (.int .u8 ((curE D J).getD J 0)) := by
            rw [cell_of_row wr wo.heap.size J _ _ _ HFB.out]
            have hj2 : J < (curE D J).length := by rw [curE_length D J (by omega) hDl]; omega
            simp [cellsB, List.getD, List.getElem?_eq_getElem hj2]
          obtain ⟨old, HOLD⟩ : ∃ old, Hid ((curE D J).getD J 0 = old) := ⟨_, rfl⟩
          rw [HOLD.out] at hcb
          have hfz : wr.frozen? ⟨wo.heap.size, J, none⟩ = false := by simp [World.frozen?, HFB.out]
          have e1 : Int.tdiv (J : Int) 4 = (a : Int) := by have := HJ.out; rw [Int.tdiv_eq_ediv_of_nonneg (by omega)]; omega
          have FIN : Hid (∀ y : Int, y = D.getD J 0 → Hid ((wr.setCell ⟨wo.heap.size, J, none⟩ (.int .u8 y)).heap[wo.heap.size]? = some (.cells (cellsB (curE D (J + 1))) 23 (0, 0)))) := fun y hy => by
            rw [← curE_step D J hlj hDl, ← hy, ← cellsB_set2]
            exact heap_setCell_same wr wo.heap.size J _ _ _ HFB.out
          have hr4 : r = 0 ∨ r = 1 ∨ r = 2 ∨ r = 3 := by have := HJ.out.2; omega
          rcases hr4 with rfl | rfl | rfl | rfl
          · have e2 : Int.tmod (J : Int) 4 = 0 := by have := HJ.out; rw [Int.tmod_eq_emod_of_nonneg (by omega)]; omega
            go_wp2
            exact ⟨⟨J + 1, by omega, by go_num, FIN.out _ (by rw [HGD.out]; simp; try omega), grown_tr HG.out (grown_sets _ _ _ _)⟩, by simp [intOf]; omega⟩
          · have e2 : Int.tmod (J : Int) 4 = 1 := by have := HJ.out; rw [Int.tmod_eq_emod_of_nonneg (by omega)]; omega
            go_wp2
            exact ⟨⟨J + 1, by omega, by go_num, FIN.out _ (by rw [HGD.out]; simp; try omega), grown_tr HG.out (grown_sets _ _ _ _)⟩, by simp [intOf]; omega⟩
          · have e2 : Int.tmod (J : Int) 4 = 2 := by have := HJ.out; rw [Int.tmod_eq_emod_of_nonneg (by omega)]; omega
            go_wp2
            exact ⟨⟨J + 1, by omega, by go_num, FIN.out _ (by rw [HGD.out]; simp; try omega), grown_tr HG.out (grown_sets _ _ _ _)⟩, by simp [intOf]; omega⟩
          · have e2 : Int.tmod (J : Int) 4 = 3 := by have := HJ.out; rw [Int.tmod_eq_emod_of_nonneg (by omega)]; omega
            go_wp2
            exact ⟨⟨J + 1, by omega, by go_num, FIN.out _ (by rw [HGD.out]; simp; try omega), grown_tr HG.out (grown_sets _ _ _ _)⟩, by simp [intOf]; omega⟩
        · have hJ32 : J = 32 := by omega
          subst hJ32
          have HCE : Hid (curE D 32 = D) := by
            show _ = _
            unfold curE
            rw [List.take_of_length_le (by omega), List.drop_eq_nil_of_le (by rw [zeros32_length]; omega), List.append_nil]
          rw [HCE.out] at HFB
          obtain ⟨dm, HDM⟩ : ∃ dm, Hid (cellsB D = dm) := ⟨_, rfl⟩
          rw [HDM.out] at HFB
          have hds : dm.size = 32 := by rw [← HDM.out]; simp [cellsB, hDl]
          have SD : Hid ((Tryd.prog.info? 23).map (·.size) = some dm.size) := by rw [hds]; exact size_digest
          have OD : Hid (dm.all (·.oneCell') = true) := by
            rw [← HDM.out]
            exact all_oneCell_toArray (fun v hv => by obtain ⟨x, _, rfl⟩ := List.mem_map.1 hv; rfl)
          have ZD : Hid (zd.size = dm.size) := by rw [hds, ← HZD.out]; rfl
          have HRf : Hid (wr.heap[w.heap.size]? = some (.cells zd 23 (0, 0))) := (HG.out.block w.heap.size (by have := HS7.out; omega) (by simp; omega)).trans HRr7.out
          have HBF := hid (below_setRow (HBo.out.trans ((HB7.out.grown HG.out HB7.out.size (fun k e => by cases e; exact Nat.le_refl _)).mono HBo.out.size)) (g := w.heap.size) (Nat.le_refl _) dm)
          clear hds hlj
          go_wp2_with (first | (refine wpList_load_row rfl 23 _ rfl wo.heap.size rfl 23 dm (0, 0) _ HFB.out Tryd.underlying23 rfl SD.out ?_) | (refine wpList_store_row rfl 23 _ _ rfl w.heap.size dm rfl rfl 23 _ HRf.out SD.out ZD.out OD.out ?_))
          refine bodyPost_ret (v := .agg dm) (results_cell_row (p := 2) (ty := 23) rfl _ _ w.heap.size 23 dm (0, 0) _ rfl (setRow_heap _ _ _ _ _ _ HRf.out) Tryd.underlying23 rfl SD.out) rfl ?_
          exact ⟨by rw [HDG.out, HDM.out], HBF.out⟩
def pcs (ls : List (List Int)) : List (List Int) := ls.flatMap fun l => [bigL 8 l.length, l]
def pcsTo (ls : List (List Int)) (k : Nat) : List (List Int) := pcs (ls.take k)
def framed (ls : List (List Int)) : List Int := (pcs ls).flatten
theorem pcs_snoc (ls : List (List Int)) (k : Nat) (hk : k < ls.length) : pcsTo ls (k + 1) = pcsTo ls k ++ [bigL 8 (ls.getD k []).length, ls.getD k []] := by
  unfold pcsTo pcs
  rw [List.take_succ_eq_append_getElem hk, List.flatMap_append]
  have e : ls.getD k [] = ls[k] := by simp [List.getD, List.getElem?_eq_getElem hk]
  rw [e]
  simp
theorem pcs_length (ls : List (List Int)) : (pcs ls).length = 2 * ls.length := by
  unfold pcs
  induction ls with
  | nil => rfl
  | cons a r ih => simp only [List.flatMap_cons, List.length_append, List.length_cons, List.length_nil, ih]; omega
theorem pcsTo_length (ls : List (List Int)) (k : Nat) : (pcsTo ls k).length ≤ 2 * ls.length := by
  unfold pcsTo
  rw [pcs_length, List.length_take]
  omega
theorem framed_length (ls : List (List Int)) : (framed ls).length = ls.flatten.length + 8 * ls.length := by
  unfold framed pcs
  induction ls with
  | nil => rfl
  | cons a r ih =>
    simp only [List.flatMap_cons, List.flatten_append, List.flatten_cons, List.flatten_nil, List.length_append, List.length_nil, List.length_cons, bigL_length] at ih ⊢
    omega
theorem valL_cons (c : Int) (l : List Int) : ∀ a : Nat, (c :: l).foldl (fun a c => a * 256 + c.toNat) a = l.foldl (fun a c => a * 256 + c.toNat) (a * 256 + c.toNat) := fun _ => rfl
theorem fold_bigL (r x a : Nat) : (bigL r x).foldl (fun a c => a * 256 + c.toNat) a = a * 256 ^ r + x % 256 ^ r := by
  induction r generalizing a with
  | zero => simp [bigL, Nat.mod_one]
  | succ r ih =>
    simp only [bigL, List.foldl_cons, Int.toNat_natCast]
    rw [ih, Nat.pow_succ]
    have h1 := Nat.mod_mul (a := 256 ^ r) (b := 256) (x := x)
    rw [h1]
    have : (a * 256 + x / 256 ^ r % 256) * 256 ^ r = a * (256 ^ r * 256) + 256 ^ r * (x / 256 ^ r % 256) := by
      rw [Nat.add_mul, Nat.mul_assoc, Nat.mul_comm 256 (256 ^ r), Nat.mul_comm (x / 256 ^ r % 256)]
    omega
theorem valL_bigL (r x : Nat) (h : x < 256 ^ r) : valL (bigL r x) = x := by
  unfold valL
  rw [fold_bigL, Nat.zero_mul, Nat.zero_add, Nat.mod_eq_of_lt h]
theorem valL_head (c : Int) (l : List Int) : valL (c :: l) = c.toNat * 256 ^ l.length + valL l := by
  obtain ⟨r, hr⟩ : ∃ r, r = l.reverse := ⟨_, rfl⟩
  have e : l = r.reverse := by rw [hr, List.reverse_reverse]
  subst e
  clear hr
  induction r with
  | nil => simp [valL]
  | cons d r ih =>
    rw [List.reverse_cons, ← List.cons_append, valL_snoc, valL_snoc, ih, List.length_append]
    simp only [List.length_cons, List.length_nil, Nat.zero_add, Nat.pow_succ]
    rw [Nat.add_mul, Nat.mul_assoc]
    omega
theorem bigL_mod (r x y : Nat) : bigL r (y * 256 ^ r + x) = bigL r x := by
  induction r generalizing y with
  | zero => rfl
  | succ r ih =>
    have e : y * 256 ^ (r + 1) + x = (y * 256) * 256 ^ r + x := by rw [Nat.pow_succ, Nat.mul_comm (256 ^ r), Nat.mul_assoc]
    simp only [bigL]
    rw [e, ih]
    have hp : 0 < 256 ^ r := Nat.pow_pos (by omega)
    rw [Nat.add_comm (y * 256 * 256 ^ r), Nat.add_mul_div_right _ _ hp]
    congr 2
    omega
theorem bigL_valL (l : List Int) (h : ∀ x ∈ l, 0 ≤ x ∧ x < 256) : bigL l.length (valL l) = l := by
  induction l with
  | nil => rfl
  | cons c l ih =>
    have hl : ∀ x ∈ l, 0 ≤ x ∧ x < 256 := fun x hx => h x (List.mem_cons_of_mem _ hx)
    have hc := h c (by simp)
    have hv := valL_lt l hl
    rw [valL_head]
    simp only [List.length_cons, bigL]
    rw [bigL_mod, ih hl]
    have hp : 0 < 256 ^ l.length := Nat.pow_pos (by omega)
    rw [Nat.add_comm (c.toNat * 256 ^ l.length), Nat.add_mul_div_right _ _ hp, Nat.div_eq_of_lt hv]
    congr 1
    omega
def Ok (ls : List (List Int)) : Prop := ∀ l ∈ ls, l.length < 256 ^ 8
theorem framed_cons (x : List Int) (xs : List (List Int)) : framed (x :: xs) = bigL 8 x.length ++ (x ++ framed xs) := by
  simp [framed, pcs]
theorem framed_append (a b : List (List Int)) : framed (a ++ b) = framed a ++ framed b := by
  simp [framed, pcs]
theorem framed_nil : framed [] = [] := rfl
theorem framed_cancel (ls : List (List Int)) (l : List Int) : ∀ xs, Ok xs → Ok ls → framed xs = framed ls ++ l → ∃ bs, xs = ls ++ bs ∧ framed bs = l := by
  induction ls with
  | nil => intro ys _ _ h; exact ⟨ys, rfl, h⟩
  | cons x xs ih =>
    intro as' ha hl h
    cases as' with
    | nil =>
      exfalso
      have := congrArg List.length h
      rw [framed_cons] at this
      simp [framed_nil, bigL_length] at this
      omega
    | cons y ys =>
      rw [framed_cons, framed_cons, List.append_assoc, List.append_assoc] at h
      have h1 := List.append_inj h (by rw [bigL_length, bigL_length])
      have hlen : y.length = x.length := by
        have := congrArg valL h1.1
        rwa [valL_bigL 8 _ (ha y (by simp)), valL_bigL 8 _ (hl x (by simp))] at this
      have h2 := List.append_inj h1.2 hlen
      obtain ⟨bs, e1, e2⟩ := ih ys (fun z hz => ha z (List.mem_cons_of_mem _ hz)) (fun z hz => hl z (List.mem_cons_of_mem _ hz)) h2.2
      exact ⟨bs, by rw [h2.1, e1]; rfl, e2⟩
theorem framed_inj {a b : List (List Int)} (ha : Ok a) (hb : Ok b) : framed a = framed b ↔ a = b := by
  constructor
  · intro h
    obtain ⟨bs, e1, e2⟩ := framed_cancel b [] a ha hb (by rw [List.append_nil]; exact h)
    have h2 : bs = [] := by
      cases bs with
      | nil => rfl
      | cons y ys =>
        have := congrArg List.length e2
        rw [framed_cons] at this
        simp [bigL_length] at this
    rw [e1, h2, List.append_nil]
  · intro h; rw [h]
def UInv (raw : List Int) (ls : List (List Int)) (f : Bool) (l : List Int) : Prop :=
  8 * ls.length ≤ raw.length + 8 ∧ l.length ≤ raw.length ∧ Ok ls ∧ (f = false → raw = framed ls ++ l) ∧ (f = true → l = [] ∧ ∀ xs, Ok xs → framed xs ≠ raw)
theorem UInv.start (raw : List Int) : UInv raw [] false raw := ⟨by simp, Nat.le_refl _, by intro l hl; simp at hl, fun _ => rfl, fun h => by cases h⟩
theorem UInv.none {raw : List Int} {ls : List (List Int)} {l : List Int} (h : UInv raw ls false l) (hb : ∀ bs, Ok bs → framed bs ≠ l) : ∀ xs, Ok xs → framed xs ≠ raw := by
  intro xs ha he
  obtain ⟨_, _, h3, h4, _⟩ := h
  rw [h4 rfl] at he
  obtain ⟨bs, e1, e2⟩ := framed_cancel ls l xs ha h3 he
  exact hb bs (fun z hz => ha z (by rw [e1]; exact List.mem_append_right _ hz)) e2
theorem no_frames_short {l : List Int} (h0 : 0 < l.length) (h8 : l.length < 8) : ∀ bs, Ok bs → framed bs ≠ l := by
  intro bs _ h
  cases bs with
  | nil => rw [framed_nil] at h; subst h; simp at h0
  | cons y ys =>
    have := congrArg List.length h
    rw [framed_cons] at this
    simp [bigL_length] at this
    omega
theorem no_frames_long {l : List Int} (h8 : 8 ≤ l.length) (hv : (l.drop 8).length < valL (l.take 8)) : ∀ bs, Ok bs → framed bs ≠ l := by
  intro bs hb h
  cases bs with
  | nil => rw [framed_nil] at h; subst h; simp at h8
  | cons y ys =>
    rw [framed_cons] at h
    have h1 : l.take 8 = bigL 8 y.length := by rw [← h, List.take_left' (bigL_length _ _)]
    have h2 : l.drop 8 = y ++ framed ys := by rw [← h, List.drop_left' (bigL_length _ _)]
    rw [h1, h2, valL_bigL 8 _ (hb y (by simp)), List.length_append] at hv
    omega
theorem UInv.step {raw : List Int} {ls : List (List Int)} {l : List Int} (hraw : raw.length < 256 ^ 8) (hby : ∀ x ∈ l, 0 ≤ x ∧ x < 256) (h : UInv raw ls false l) (h8 : 8 ≤ l.length) (hv : valL (l.take 8) ≤ (l.drop 8).length) :
    UInv raw (ls ++ [(l.drop 8).take (valL (l.take 8))]) false ((l.drop 8).drop (valL (l.take 8))) := by
  obtain ⟨h1, h2, h3, h4, h5⟩ := h
  have hlen : ((l.drop 8).take (valL (l.take 8))).length = valL (l.take 8) := by simp at hv ⊢; omega
  have e := h4 rfl
  have hr : raw.length = ls.flatten.length + 8 * ls.length + l.length := by rw [e, List.length_append, framed_length]
  refine ⟨?_, ?_, ?_, ?_, fun h => by cases h⟩
  · rw [List.length_append, List.length_singleton]; omega
  · simp; omega
  · intro z hz
    rcases List.mem_append.1 hz with hz | hz
    · exact h3 z hz
    · simp only [List.mem_singleton] at hz
      subst hz
      rw [hlen]
      refine Nat.lt_of_le_of_lt hv (Nat.lt_of_le_of_lt ?_ hraw)
      simp; omega
  · intro _
    rw [framed_append, framed_cons, framed_nil, List.append_nil, hlen, e]
    have hb8 : bigL 8 (valL (l.take 8)) = l.take 8 := by
      have := bigL_valL (l.take 8) (fun x hx => hby x (List.mem_of_mem_take hx))
      rwa [show (l.take 8).length = 8 by simp; omega] at this
    rw [hb8]
    simp only [List.append_assoc, List.take_append_drop]
theorem UInv.short {raw : List Int} {ls : List (List Int)} {l : List Int} (h : UInv raw ls false l) (h0 : 0 < l.length) (h8 : l.length < 8) : UInv raw (ls ++ [[]]) true [] := by
  have hn := h.none (no_frames_short h0 h8)
  obtain ⟨h1, h2, h3, h4, h5⟩ := h
  have e := h4 rfl
  have hr : raw.length = ls.flatten.length + 8 * ls.length + l.length := by rw [e, List.length_append, framed_length]
  refine ⟨by rw [List.length_append, List.length_singleton]; omega, by simp, ?_, (fun h => by cases h), fun _ => ⟨rfl, hn⟩⟩
  intro z hz
  rcases List.mem_append.1 hz with hz | hz
  · exact h3 z hz
  · simp only [List.mem_singleton] at hz
    subst hz
    simp
end Go.Proofs.YtklklldmhoofnaaDoor
