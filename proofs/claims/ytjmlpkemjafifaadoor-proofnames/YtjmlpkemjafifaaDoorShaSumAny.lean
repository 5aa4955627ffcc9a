/- (*sha.Hash).Sum, walked. -/
import Derived.Test.YtjmlpkemjafifaaDoorGrShC
import Derived.Test.YtjmlpkemjafifaaDoorEvPart
import Derived.Test.YtjmlpkemjafifaaDoorShaLives
namespace Go.Proofs.YtjmlpkemjafifaaDoor
open Go.RowKit

/- From the words to the digest. -/
section
open Ev
noncomputable def sumRest : Code := tailN 5 (Tryd.f92.body.getD .skip)
def wv8 : List SV := (List.range 8).map fun i => .int .u32 (.var i)
def zero32 : List SV := List.replicate 32 (.int .u8 (.lit 0))
def ivLit : List SV := iv.map fun x : Nat => .int .u32 (.lit (x : Int))
def HSum : List Blk := (H0 ++ [newBlk zero32]) ++ [newBlk (ivLit ++ wv8)]
def tSum : Tm := tm2 40 2 (.tv (.sc (.ptr 2 0))) 3 (.tv (.sc (.ptr 3 0)))
def digE : List Ex := (List.range 8).flatMap fun i => [.con .u8 (.shr (.con .u64 (.var i)) 24), .con .u8 (.shr (.con .u64 (.var i)) 16), .con .u8 (.shr (.con .u64 (.var i)) 8), .con .u8 (.con .u64 (.var i))]
theorem sumTail_ev : (evCF Tryd.prog noLore noCon 60 sumRest tSum HSum).map (fun r => (r.1, evResults Tryd.prog Tryd.f92 r.2.1 r.2.2)) = some (.ret, some (.tv (.agg (digE.map (.int .u8))))) := by kernel_rfl
def envW (W : List Nat) : Env := ⟨fun i => ((W.getD i 0 : Nat) : Int), fun _ => .tuple #[], fun _ _ _ => 0⟩
theorem ivLit_inst (ρ : Env) (ms : List Nat) : ivLit.map (SV.inst ρ ms) = (wcells iv).map some := by simp [ivLit, wcells, SV.inst, Ex.den]
theorem wv8_inst {W : List Nat} (hW : W8 W) (ms : List Nat) : wv8.map (SV.inst (envW W) ms) = (wcells W).map some := by
  obtain ⟨a, b, c, d, e, f, g, h, rfl, _⟩ := hW.open
  rfl
theorem zero32_inst (ρ : Env) (ms : List Nat) : zero32.map (SV.inst ρ ms) = (List.replicate 32 (Value.int .u8 0)).map some := by
  simp [zero32, SV.inst, Ex.den]
theorem dig_bytes (x : Nat) (hx : x < 4294967296) : IntKind.u8.wrap ((IntKind.u64.wrap (x : Int)).fdiv (2 ^ 24)) = ((x / 256 ^ 3 % 256 : Nat) : Int) ∧ IntKind.u8.wrap ((IntKind.u64.wrap (x : Int)).fdiv (2 ^ 16)) = ((x / 256 ^ 2 % 256 : Nat) : Int) ∧
    IntKind.u8.wrap ((IntKind.u64.wrap (x : Int)).fdiv (2 ^ 8)) = ((x / 256 ^ 1 % 256 : Nat) : Int) ∧ IntKind.u8.wrap (IntKind.u64.wrap (x : Int)) = ((x / 256 ^ 0 % 256 : Nat) : Int) := by
  have e : IntKind.u64.wrap (x : Int) = (x : Int) := by rw [IntKind.wrap_u64]; omega
  rw [e]
  simp only [IntKind.wrap_u8]
  rw [Int.fdiv_eq_ediv_of_nonneg _ (by decide), Int.fdiv_eq_ediv_of_nonneg _ (by decide), Int.fdiv_eq_ediv_of_nonneg _ (by decide)]
  refine ⟨?_, ?_, ?_, ?_⟩
  · rw [show ((2 : Int) ^ 24) = 16777216 by decide, show (256 : Nat) ^ 3 = 16777216 by decide]; omega
  · rw [show ((2 : Int) ^ 16) = 65536 by decide, show (256 : Nat) ^ 2 = 65536 by decide]; omega
  · rw [show ((2 : Int) ^ 8) = 256 by decide, show (256 : Nat) ^ 1 = 256 by decide]; omega
  · rw [show (256 : Nat) ^ 0 = 1 by decide]; omega
theorem dig_inst {W : List Nat} (hW : W8 W) (ms : List Nat) : (AV.tv (.agg (digE.map (.int .u8)))).inst (envW W) ms = some (.agg (cellsB (W.flatMap (bigL 4)))) := by
  obtain ⟨a, b, c, d, e, f, g, h, rfl, ha, hb, hc, hd, he, hf, hg, hh⟩ := hW.open
  simp only [AV.inst, TV.inst]
  rw [(seqO_iff _ ((([a, b, c, d, e, f, g, h] : List Nat).flatMap (bigL 4)).map (Value.int .u8))).2 ?_]
  · rfl
  · obtain ⟨a1, a2, a3, a4⟩ := dig_bytes a ha
    obtain ⟨b1, b2, b3, b4⟩ := dig_bytes b hb
    obtain ⟨c1, c2, c3, c4⟩ := dig_bytes c hc
    obtain ⟨d1, d2, d3, d4⟩ := dig_bytes d hd
    obtain ⟨e1, e2, e3, e4⟩ := dig_bytes e he
    obtain ⟨f1, f2, f3, f4⟩ := dig_bytes f hf
    obtain ⟨g1, g2, g3, g4⟩ := dig_bytes g hg
    obtain ⟨h1, h2, h3, h4⟩ := dig_bytes h hh
    simp only [digE, List.range, List.range.loop, List.flatMap_cons, List.flatMap_nil, List.cons_append, List.nil_append, List.append_nil, List.map_cons, List.map_nil, SV.inst, Ex.den, envW, List.getD_cons_zero, List.getD_cons_succ, bigL, a1, a2, a3, a4, b1, b2, b3, b4, c1, c2, c3, c4, d1, d2, d3, d4, e1, e2, e3, e4, f1, f2, f3, f4, g1, g2, g3, g4, h1, h2, h3, h4]
end

/-- The message with what is put behind it. -/
def padded (m : List Int) : List Int := m ++ padL m.length

set_option maxRecDepth 100000 in
set_option maxHeartbeats 4000000 in
theorem sum_any (w : World) (g : Nat) (m : List Int) (h : HM w g m) (hk : KC w) (hlen : m.length ≤ 576460752303423488) :
    Calls Tryd.prog 92 #[.pointer (some ⟨g, 0, none⟩)] w fun e w' => e = .returned (.agg (cellsB ((wAt (padded m) ((padded m).length / 64)).flatMap (bigL 4)))) ∧ Below w.heap.size w w' := by
  obtain ⟨zd, HZD⟩ : ∃ zd, Hid (cellsB zeros32 = zd) := ⟨_, rfl⟩
  obtain ⟨zh, HZH⟩ : ∃ zh, Hid ((hcells (zerosW 8) (zerosW 8) (List.replicate 64 0) 0).toArray = zh) := ⟨_, rfl⟩
  have hzh := zero_hash
  rw [HZH.out] at hzh
  have HZ1 := hid hzh
  have hzl : zh.size = 81 := by rw [← HZH.out]; simp [hcells, wcells_length, bcells_length, zerosW_length]
  obtain ⟨W0, hW0⟩ : ∃ W0, Hid (w.alloc (.cells zd 28) = W0) := ⟨_, rfl⟩
  have HB0 : Hid (Below w.heap.size w W0) := by rw [← hW0.out]; exact (Below.refl _ w).alloc (Nat.le_refl _) _
  have HR0 : Hid (W0.heap[w.heap.size]? = some (.cells zd 28 (0, 0))) := by rw [← hW0.out]; exact heap_alloc_new w _
  have hS0 : W0.heap.size = w.heap.size + 1 := by rw [← hW0.out]; simp
  have hm0 := h.below HB0.out
  have HM0 := hid hm0
  have CM := hid (made_yes W0 g m hm0)
  have HK := hid hk
  have hgl := h.lt
  clear h hk hzh hm0
  go_enter Tryd.func92, Tryd.ntmps92
  go_wp2_with (refine wpList_alloc_digest rfl rfl ?_; rw [HZD.out, hW0.out])
  refine CM.out.mono ?_
  rintro e w1 ⟨rfl, hB1⟩
  obtain ⟨rest, hs1, hrt, hmb⟩ := HM0.out.below hB1
  obtain ⟨n, HN⟩ : ∃ n, Hid (m.length = n) := ⟨_, rfl⟩
  obtain ⟨hc, HC⟩ : ∃ hc, Hid ((hcells iv (wAt m (m.length / 64)) rest m.length).toArray = hc) := ⟨_, rfl⟩
  have hcl : (hcells iv (wAt m (m.length / 64)) rest m.length).length = 81 := hcells_length iv_W8.1 hs1.w8.1 hs1.rl
  have hcs : hc.size = 81 := by rw [← HC.out, List.size_toArray, hcl]
  have SH : Hid ((Tryd.prog.info? 137).map (·.size) = some (hcells iv (wAt m (m.length / 64)) rest m.length).length) := by rw [hcl]; exact size_hash
  have SH2 : Hid ((Tryd.prog.info? 137).map (·.size) = some hc.size) := by rw [hcs]; exact size_hash
  have OH : Hid (hc.all (·.oneCell') = true) := by
    rw [← HC.out]
    refine all_oneCell_toArray (fun v hv => ?_)
    unfold hcells at hv
    rcases List.mem_append.1 hv with h1 | h1
    · obtain ⟨x, _, rfl⟩ := List.mem_map.1 h1; rfl
    · rcases List.mem_append.1 h1 with h2 | h2
      · obtain ⟨x, _, rfl⟩ := List.mem_map.1 h2; rfl
      · rcases List.mem_append.1 h2 with h3 | h3
        · obtain ⟨x, _, rfl⟩ := List.mem_map.1 h3; rfl
        · have : v = .int .i64 (m.length : Int) := by simpa using h3
          rw [this]; rfl
  have ZH : Hid (zh.size = hc.size) := by rw [hzl, hcs]; exact rfl
  have RA : Hid (w1.rangeAt g 0 (hcells iv (wAt m (m.length / 64)) rest m.length)) := hs1.all
  have HF1 : Hid ((w1.alloc (.cells zh 137)).heap[w1.heap.size]? = some (.cells zh 137 (0, 0))) := heap_alloc_new w1 _
  have HS1 := hid hs1
  have HB1 := hid hB1
  have HRT := hid hrt
  have HMB := hid hmb
  have hsz1 : w.heap.size + 1 ≤ w1.heap.size := by have := hB1.size; omega
  obtain ⟨W2, hW2⟩ : ∃ W2, Hid ((w1.alloc (.cells zh 137)).setRow w1.heap.size hc = W2) := ⟨_, rfl⟩
  have HB12 : Hid (Below w1.heap.size w1 W2) := by
    rw [← hW2.out]
    exact below_setRow ((Below.refl _ w1).alloc (Nat.le_refl _) _) (Nat.le_refl _) hc
  have HBK2 : Hid (W2.heap[w1.heap.size]? = some (.cells hc 137 (0, 0))) := by
    rw [← hW2.out]
    exact setRow_heap _ _ _ _ _ _ HF1.out
  have hS2 : W2.heap.size = w1.heap.size + 1 := by rw [← hW2.out]; simp [World.setRow]
  have HS2 : Hid (HSt W2 w1.heap.size (wAt m (m.length / 64)) rest m.length) := by
    have hb := HBK2.out
    rw [← HC.out] at hb
    exact HSt.of_block hb hs1.w8 hs1.rl hs1.rb
  have HM2 : Hid (HM W2 w1.heap.size m) := ⟨rest, HS2.out, HRT.out, HMB.out⟩
  have c80 : W2.cell? ⟨g, 80, none⟩ = some (.int .i64 (n : Int)) := by rw [← HN.out]; exact (hs1.below HB12.out).sz
  have HK2 := hid (((HK.out.below HB0.out).below hB1).below HB12.out)
  have HB02 := hid ((HB0.out.trans (hB1.mono (by omega))).trans (HB12.out.mono (by omega)))
  clear hs1 hB1 hrt hmb CM hcl hcs hzl
  go_wp2_with (first | (refine wpList_load_mid rfl 137 _ rfl g 0 rfl _ _ RA.out Tryd.underlying137 rfl SH.out ?_; rw [HC.out]) | (refine wpList_alloc_agg HZ1.out rfl rfl ?_) | (refine wpList_store_row rfl 137 _ _ rfl w1.heap.size hc rfl rfl 137 _ HF1.out SH2.out ZH.out OH.out ?_; rw [hW2.out]))
  refine (pad_ok W2 n (by rw [← HN.out]; omega)).mono ?_
  rintro e w3 ⟨v3, rfl, ho3, hB3⟩
  have P3 := HB.of_own ho3 (padL_byt n)
  obtain ⟨p3, c3, e3, _, _⟩ := P3.open
  have hpl := padL_length n
  have hpz : padZ n < 64 := by unfold padZ; omega
  have CT := take_hash w3 w1.heap.size m v3 (padL n) (HM2.out.below hB3) P3 (fun _ _ _ _ _ e => by have := (ho3.lt _ e).1; omega) (HK2.out.below hB3) (by omega) (by have hl2 := hlen; rw [HN.out] at hl2 ⊢; omega)
  have HB03 := hid (HB02.out.trans (hB3.mono HB02.out.size))
  have hs3 := hB3.size
  obtain ⟨ql, hql⟩ : ∃ ql, ql = (padL n).length := ⟨_, rfl⟩
  rw [← hql] at e3
  subst e3
  obtain ⟨P, HP⟩ : ∃ P, Hid (padL n = P) := ⟨_, rfl⟩
  rw [HP.out] at CT
  have CT2 := hid CT
  have HQ := hid hql
  have HB3 := hid hB3
  clear CT P3 ho3 hB3 c80 hpl hpz hql
  go_wp2_with fail
  refine CT2.out.mono ?_
  rintro e w4 ⟨rfl, hm4, hg4⟩
  rename_i K1 h1 K2 h2
  refine h2 _ _ (show K1 _ _ from h1 _ _ ?_)
  clear h1 h2 CT2
  obtain ⟨rest4, hs4, hrt4, hmb4⟩ := hm4
  obtain ⟨W, HW⟩ : ∃ W, Hid (wAt (m ++ P) ((m ++ P).length / 64) = W) := ⟨_, rfl⟩
  rw [HW.out] at hs4
  have hsz2 := HB12.out.size
  have HB04 : Below w.heap.size w w4 := HB03.out.grown hg4 (by omega) (fun k e => by cases e; omega)
  have HD : w4.heap[w.heap.size]? = some (.cells zd 28 (0, 0)) := by
    rw [hg4.block _ (by omega) (fun e => by have := Option.some.inj e; omega), HB3.out.block _ (by omega), HB12.out.block _ (by omega), HB1.out.block _ (by omega)]
    exact HR0.out
  have hlt4 := hs4.lt
  have hHo : Ev.Holds (envW W) ((Ev.ms0 ++ [w.heap.size]) ++ [w1.heap.size]) HSum w.heap.size w4 := by
    have h1 := (Ev.holds_any (envW W) w4 HB04.size).known (l := zero32) (zero32_inst _ _) (b0 := w.heap.size) (Nat.le_refl _) (by have := HB04.size; omega) (fun i b k _ hk hne => absurd (Ev.dead0 hk) hne) (fun j v hv => by
      refine ⟨?_, by simp [World.frozen?, HD]⟩
      rw [cell_of_row w4 w.heap.size j _ _ _ HD, ← HZD.out]
      simpa [cellsB, zeros32] using hv)
    refine h1.known (l := ivLit ++ wv8) (vs := wcells iv ++ wcells W) (by rw [List.map_append, List.map_append, ivLit_inst, wv8_inst hs4.w8]) (b0 := w1.heap.size) (by omega) hlt4 (fun i b k hi hk hne => ?_) (fun j v hv => ?_)
    · by_cases h3 : i < Ev.H0.length
      · rw [List.getElem?_append_left h3] at hk
        exact absurd (Ev.dead0 hk) hne
      · have h4 : Ev.ms0.length = Ev.H0.length := (Ev.holds_any (envW W) w4 HB04.size).len
        rw [List.getElem?_append_right (by omega)] at hi
        have := List.mem_of_getElem? hi
        simp at this
        omega
    · have hj : j < 16 := by
        have := (List.getElem?_eq_some_iff.1 hv).1
        simpa [wcells_length, hs4.w8.1, iv_W8.1] using this
      have hr := range_app hs4.bw (ys := wcells W) (by rw [wcells_length, iv_W8.1]; exact hs4.wv) j v hv
      rw [Nat.zero_add] at hr
      have ht := (hs4.th j (by omega)).2
      rw [Nat.zero_add] at ht
      exact ⟨hr, ht⟩
  refine Ev.part_ret (t := tSum) (ρ := envW W) mixedOrders sumTail_ev (Ev.RelT.two rfl (by decide) (u := .pointer (some ⟨w.heap.size, 0, none⟩)) rfl rfl (v := .pointer (some ⟨w1.heap.size, 0, none⟩)) rfl rfl hHo.gl) hHo rfl fun ms' u w' hu hb => ?_
  rw [dig_inst hs4.w8] at hu
  cases hu
  have hpd : padded m = m ++ P := by unfold padded; rw [HN.out, HP.out]
  refine ⟨by rw [hpd, HW.out], HB04.trans hb⟩
end Go.Proofs.YtjmlpkemjafifaaDoor
