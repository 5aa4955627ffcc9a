/- The law AesCiphers, put together. -/
import Derived.Test.YtlmidjgjijmiiaaAesCiphersWalk
set_option linter.unusedVariables false
set_option linter.unusedSimpArgs false
namespace Go.Proofs.Ytlmidjgjijmiiaa
open Go Go.RowKit Ev

theorem evCF_ok {P : Program} {ρ : Env} {L : Lore} (hL : LoreOk ρ L) {con : ConF} (hcon : ConOk P ρ con) (hm : P.follows .mixedOrders = true) (n : Nat) : CodeOk P ρ (evCF P L con n) := by
  rw [evCF_eq]
  exact evC_ok hL hcon hm n
theorem gl_any (ms : List Nat) : Gl ms := fun g hg => absurd hg (by simp [nGl])
theorem vars_in {o n : Nat} {s : SV} (h : s ∈ vars o n) : ∃ i, i < n ∧ s = .int .u8 (.var (o + i)) := by
  unfold vars at h
  obtain ⟨i, hi, rfl⟩ := List.mem_map.1 h
  exact ⟨i, List.mem_range.1 hi, rfl⟩
theorem HI_vars {k : Blk} (hk : k ∈ HI) {s : SV} (hs : s ∈ k.cells) : ∃ x, x < 352 ∧ s = .int .u8 (.var x) := by
  simp only [HI, List.mem_cons, List.not_mem_nil, or_false] at hk
  rcases hk with rfl | rfl | rfl | rfl | rfl | rfl <;> (obtain ⟨i, hi, rfl⟩ := vars_in hs; exact ⟨_, by omega, rfl⟩)
theorem holds_env {f f' : Nat → Nat} (h : ∀ i, i < 352 → f i = f' i) {ms : List Nat} {B : Nat} {w : World} (hH : Holds (envB f) ms HI B w) : Holds (envB f') ms HI B w := by
  refine ⟨hH.len, hH.gl, hH.inj, hH.low, hH.bnd, hH.big, hH.plain, fun i b k hi hk j s hs => ?_, hH.room⟩
  obtain ⟨v, h1, h2, h3⟩ := hH.cell i b k hi hk j s hs
  refine ⟨v, ?_, h2, h3⟩
  obtain ⟨x, hx, rfl⟩ := HI_vars (List.mem_of_getElem? hk) (List.mem_of_getElem? hs)
  simp only [SV.inst, Ex.den, envB] at h1 ⊢
  rw [← h x hx]
  exact h1
theorem cF_old {k1 k2 b x b' x' : List Nat} (i : Nat) (hi : i < 352) : cF k1 k2 b x i = cF k1 k2 b' x' i := by
  unfold cF
  split
  · rfl
  · simp only [hi, if_true]
theorem same_ms {ms ms' : List Nat} (h : ms <+: ms') (hl : ms.length = ms'.length) : ms' = ms := (h.eq_of_length hl).symm
theorem inst_free {A : Addr} {n c : Nat} {k : Int} {p : Nat × AV} (hp : p ∈ tmI A n c k) (ms : List Nat) (ρ ρ' : Env) : p.2.inst ρ ms = p.2.inst ρ' ms := by
  simp only [tmI, List.mem_cons, List.not_mem_nil, or_false] at hp
  rcases hp with rfl | rfl | rfl | rfl | rfl | rfl | rfl <;> rfl
/-- What the temporaries hold about the loop. -/
def FI (ms : List Nat) (A : Addr) (n c : Nat) (k : Int) (a : Act) : Prop := a.tmps.size = 74 ∧ a.defers = [] ∧ ∀ p ∈ tmI A n c k, ∃ v, a.tmps[p.1]? = some v ∧ ∀ ρ, p.2.inst ρ ms = some v
theorem FI.mk' {ρ : Env} {ms : List Nat} {A : Addr} {n c : Nat} {k : Int} {t : Tm} {a : Act} (hT : RelT ρ ms t a.tmps) (hs : selT slI t = selI A n c k) (hd : a.defers = []) : FI ms A n c k a := by
  simp only [selT, slI, selI, List.map_cons, List.map_nil, Prod.mk.injEq, List.cons.injEq, and_true] at hs
  obtain ⟨hn, g3, g4, g7, g8, g30, g31, g32⟩ := hs
  refine ⟨by rw [← hT.sz, hn], hd, fun p hp => ?_⟩
  have hg : t.get p.1 = some p.2 := by
    simp only [tmI, List.mem_cons, List.not_mem_nil, or_false] at hp
    rcases hp with rfl | rfl | rfl | rfl | rfl | rfl | rfl <;> assumption
  obtain ⟨v, h1, h2⟩ := hT.get hg
  exact ⟨v, h1, fun ρ' => by rw [inst_free hp ms ρ' ρ]; exact h2⟩
theorem FI.rel {ms : List Nat} {A : Addr} {n c : Nat} {k : Int} {a : Act} (h : FI ms A n c k a) (ρ : Env) : RelT ρ ms (tmL 74 (tmI A n c k)) a.tmps :=
  RelT.ofL h.1.symm (by decide) (gl_any ms) _ fun p hp => by
    obtain ⟨v, h1, h2⟩ := h.2.2 p hp
    exact ⟨v, h1, h2 ρ⟩
theorem FI.less {ms ms' : List Nat} {A : Addr} {n c : Nat} {k : Int} {a : Act} (h : FI ms' A n c k a) (hp : ms <+: ms') (hl : ms.length = 6) : FI ms A n c k a := by
  refine ⟨h.1, h.2.1, fun p hp' => ?_⟩
  obtain ⟨v, h1, h2⟩ := h.2.2 p hp'
  refine ⟨v, h1, fun ρ => ?_⟩
  rw [← h2 ρ]
  have hg : ∀ i, i < 6 → ms[i]? = ms'[i]? := fun i hi => by
    obtain ⟨r, rfl⟩ := hp
    rw [List.getElem?_append_left (by omega)]
  simp only [tmI, List.mem_cons, List.not_mem_nil, or_false] at hp'
  rcases hp' with rfl | rfl | rfl | rfl | rfl | rfl | rfl
  · simp only [P0, AV.inst, TV.inst, SV.inst, addr]; rw [hg 0 (by decide)]
  · simp only [P0, AV.inst, TV.inst, SV.inst, addr]; rw [hg 1 (by decide)]
  · simp only [P0, AV.inst, TV.inst, SV.inst, addr]; rw [hg 3 (by decide)]
  · simp only [P0, AV.inst, TV.inst, SV.inst, addr]; rw [hg 5 (by decide)]
  · rfl
  · rfl
  · rfl
theorem FI.at {ms : List Nat} {A : Addr} {n c : Nat} {k : Int} {a : Act} (h : FI ms A n c k a) : a.tmps[30]? = some (.slice (some A) n c) ∧ a.tmps[32]? = some (.int .i64 k) := by
  obtain ⟨v, h1, h2⟩ := h.2.2 (30, SLA A n c) (by simp [tmI])
  obtain ⟨u, h3, h4⟩ := h.2.2 (32, N64 k) (by simp [tmI])
  have e1 := h2 (envB fun _ => 0)
  have e2 := h4 (envB fun _ => 0)
  simp only [SLA, N64, AV.inst, TV.inst, SV.inst, Ex.den, Option.some.injEq] at e1 e2
  exact ⟨by rw [h1, e1], by rw [h3, e2]⟩
/-- What a step answers. -/
def xC (k1 k2 : List Nat) (s b : Bool) (d : List Nat) : List Nat :=
  match b with
  | true => backL (schedL (match s with | true => k2 | false => k1)) d
  | false => forthL (schedL (match s with | true => k2 | false => k1)) d 10
theorem xC_ok {k1 k2 d : List Nat} (h1 : k1.length = 16) (b1 : Byt k1) (h2 : k2.length = 16) (b2 : Byt k2) (hd : d.length = 16) (bd : Byt d) (s b : Bool) : (xC k1 k2 s b d).length = 16 ∧ Byt (xC k1 k2 s b d) := by
  cases s <;> cases b
  · exact runSt_ok (schedL_ok h1 b1).2.1 _ d hd bd
  · exact runSt_ok (schedL_ok h1 b1).2.1 _ d hd bd
  · exact runSt_ok (schedL_ok h2 b2).2.1 _ d hd bd
  · exact runSt_ok (schedL_ok h2 b2).2.1 _ d hd bd
theorem argsXY {ρ : Env} {ms : List Nat} {x y : AV} {u v : Value} {args : Array Value} (ha : [x, y].map (AV.inst ρ ms) = args.toList.map some) (hx : x.inst ρ ms = some u) (hy : y.inst ρ ms = some v) : args = #[u, v] := by
  obtain ⟨args⟩ := args
  cases args with
  | nil => simp at ha
  | cons p r =>
    cases r with
    | nil => simp at ha
    | cons q r =>
      cases r with
      | cons _ _ => simp at ha
      | nil =>
        simp only [List.map_cons, List.map_nil, List.cons.injEq, and_true, hx, hy, Option.some.injEq] at ha
        rw [ha.1, ha.2]
theorem ci_of {f : Nat → Nat} {ms : List Nat} {H : List Blk} {B : Nat} {w : World} (hH : Holds (envB f) ms H B w) {m o g : Nat} (hm : ms[m]? = some g) (hk : H[m]? = some (newBlk (vars o 176))) {ks : List Nat} (hf : ∀ j, j < 176 → f (o + j) = at8 ks j) : HCi w g ks := by
  refine ⟨hH.bnd m g _ hm hk (by simp [newBlk, vars]), fun j hj => ?_⟩
  have hg : (newBlk (vars o 176)).cells[j]? = some (.int .u8 (.var (o + j))) := by simp [newBlk, vars, hj]
  obtain ⟨v, h1, h2, _⟩ := hH.cell m g _ hm hk j _ hg
  simp only [SV.inst, Ex.den, envB, Option.some.injEq] at h1
  rw [h2, ← h1, hf j hj]
theorem cC_ok {k1 k2 d : List Nat} (h1 : k1.length = 16) (b1 : Byt k1) (h2 : k2.length = 16) (b2 : Byt k2) (hd : d.length = 16) (bd : Byt d) (s b : Bool) : ConOk Try.prog (envB (cF (schedL k1) (schedL k2) d (xC k1 k2 s b d))) (cC s b) := by
  obtain ⟨ox, obx⟩ := xC_ok h1 b1 h2 b2 hd bd s b
  have hlt := cF_lt (schedL_ok h1 b1).2.1 (schedL_ok h2 b2).2.1 bd obx
  obtain ⟨n1, n2, n3, n4, n5, n6⟩ := cF_named h1 b1 h2 b2 hd ox
  intro g xs H v h ms B w args ha hH
  have vd : (V 352 16).inst (envB (cF (schedL k1) (schedL k2) d (xC k1 k2 s b d))) ms = some (.agg (cells8 d)) := by rw [V_inst hlt, n5]
  have vx : (V 368 16).inst (envB (cF (schedL k1) (schedL k2) d (xC k1 k2 s b d))) ms = some (.agg (cells8 (xC k1 k2 s b d))) := by rw [V_inst hlt, n6]
  have tx : (TV.agg (vars 368 16)).inst (envB (cF (schedL k1) (schedL k2) d (xC k1 k2 s b d))) ms = some (.agg (cells8 (xC k1 k2 s b d))) := vx
  unfold cC at h
  split at h
  · rename_i eg
    split at h <;> cases h
    rename_i hc
    obtain ⟨rfl, hk⟩ := hc
    have hlm : mC s < H.length := (List.getElem?_eq_some_iff.1 hk).1
    obtain ⟨gb, hgb⟩ : ∃ gb, ms[mC s]? = some gb := ⟨ms[mC s]'(by rw [hH.len]; exact hlm), List.getElem?_eq_getElem _⟩
    have hp : (P0 (mC s) 0).inst (envB (cF (schedL k1) (schedL k2) d (xC k1 k2 s b d))) ms = some (.pointer (some ⟨gb, 0, none⟩)) := by simp [P0, AV.inst, TV.inst, SV.inst, addr, hgb]
    rw [argsXY ha hp vd]
    have fin : (AV.tup [.agg (vars 368 16), .sc (.int .i64 (.lit 0))]).inst (envB (cF (schedL k1) (schedL k2) d (xC k1 k2 s b d))) ms = some (.tuple #[.agg (cells8 (xC k1 k2 s b d)), .int .i64 0]) := by
      have e2 : (TV.sc (.int .i64 (.lit 0))).inst (envB (cF (schedL k1) (schedL k2) d (xC k1 k2 s b d))) ms = some (.int .i64 0) := rfl
      simp only [AV.inst, List.map_cons, List.map_nil, tx, e2, seqO, Option.map_some]
    subst eg
    cases s with
    | false =>
      have hci : HCi w gb (schedL k1) := ci_of hH hgb hk fun j hj => by unfold cF oC; rw [Nat.zero_add, if_pos hj]
      cases b with
      | false => exact (enc_any w gb k1 d _ b1 h1 bd hd hci rfl).mono fun e w' ⟨q1, q2⟩ => ⟨_, q1, fin, q2⟩
      | true => exact (dec_any w gb k1 d _ b1 h1 bd hd hci rfl).mono fun e w' ⟨q1, q2⟩ => ⟨_, q1, fin, q2⟩
    | true =>
      have hci : HCi w gb (schedL k2) := ci_of hH hgb hk fun j hj => by show cF _ _ _ _ (176 + j) = _; unfold cF; rw [if_neg (by omega), if_pos (by omega), show 176 + j - 176 = j by omega]
      cases b with
      | false => exact (enc_any w gb k2 d _ b2 h2 bd hd hci rfl).mono fun e w' ⟨q1, q2⟩ => ⟨_, q1, fin, q2⟩
      | true => exact (dec_any w gb k2 d _ b2 h2 bd hd hci rfl).mono fun e w' ⟨q1, q2⟩ => ⟨_, q1, fin, q2⟩
  · split at h
    case isFalse => cases h
    rename_i eg
    split at h <;> cases h
    rename_i hc
    subst hc
    subst eg
    cases s with
    | false =>
      have vk : (V (oC false) 16).inst (envB (cF (schedL k1) (schedL k2) d (xC k1 k2 false b d))) ms = some (.agg (cells8 k1)) := by show (V 0 16).inst _ ms = _; rw [V_inst hlt, n1]
      rw [argsXY ha vk vd]
      cases b with
      | false => exact (rencrypt_any w k1 d b1 h1 bd hd).mono fun e w' ⟨q1, q2⟩ => ⟨_, q1, vx, q2⟩
      | true => exact (rdecrypt_any w k1 d b1 h1 bd hd).mono fun e w' ⟨q1, q2⟩ => ⟨_, q1, vx, q2⟩
    | true =>
      have vk : (V (oC true) 16).inst (envB (cF (schedL k1) (schedL k2) d (xC k1 k2 true b d))) ms = some (.agg (cells8 k2)) := by show (V 176 16).inst _ ms = _; rw [V_inst hlt, n3]
      rw [argsXY ha vk vd]
      cases b with
      | false => exact (rencrypt_any w k2 d b2 h2 bd hd).mono fun e w' ⟨q1, q2⟩ => ⟨_, q1, vx, q2⟩
      | true => exact (rdecrypt_any w k2 d b2 h2 bd hd).mono fun e w' ⟨q1, q2⟩ => ⟨_, q1, vx, q2⟩
theorem ops7_parts : ∃ x y : Oper, ops7.toList = x :: y :: ops7.toList.drop 2 ∧ x.guard = none ∧ y.guard = none ∧ x.op = .indexAddr 44 (.tmp 30) (.tmp 32) ∧ x.dst = some 34 ∧ y.op = .load 48 (.tmp 34) ∧ y.dst = some 35 :=
  ⟨⟨some 34, .indexAddr 44 (.tmp 30) (.tmp 32), 0, "law.go:58", #[], none⟩, ⟨some 35, .load 48 (.tmp 34), 48, "law.go:58", #[⟨0, .data⟩], none⟩, by kernel_rfl, rfl, rfl, rfl, rfl, rfl, rfl⟩
theorem row_step : rowOf Try.prog 48 = some (true, 18) := by kernel_rfl
theorem eval_tmp {a : Act} {i : Nat} {v : Value} (h : a.tmps[i]? = some v) : a.eval (.tmp i) = v := by
  simp [Act.eval, Array.getD_eq_getD_getElem?, h]
theorem put_get {a : Act} {i j : Nat} {v x : Value} (h : a.tmps[j]? = some x) (hne : j ≠ i) : (a.put (some i) v).tmps[j]? = some x := by
  simp only [Act.put, Array.getElem?_setIfInBounds]
  rw [if_neg (fun e => hne e.symm)]
  exact h
theorem put_at {a : Act} {i : Nat} {v : Value} (h : i < a.tmps.size) : (a.put (some i) v).tmps[i]? = some v := by
  simp [Act.put, Array.getElem?_setIfInBounds, h]
theorem stepSV_len (s b : Bool) : (stepSV s b).length = 18 := by simp [stepSV, vars]
/-- A step's load. -/
theorem load_step {f : Nat → Nat} {w : World} {b0 o0 : Nat} {s b : Bool} {d : List Nat} (hs : w.cell? ⟨b0, o0, none⟩ = some (.bool s)) (hb : w.cell? ⟨b0, o0 + 1, none⟩ = some (.bool b)) (hd : ∀ j, j < 16 → w.cell? ⟨b0, o0 + 2 + j, none⟩ = some (.int .u8 (at8 d j : Int)))
    (hf : ∀ j, j < 16 → f (352 + j) = at8 d j) {a : Act} (hsz : a.tmps.size = 74) (h34 : a.tmps[34]? = some (.pointer (some ⟨b0, o0, none⟩))) :
    ∃ u, (∀ ms, (AV.tv (.agg (stepSV s b))).inst (envB f) ms = some u) ∧ (Instr.loadAt 48 (a.eval (.tmp 34))).run Try.prog w = .ok u w := by
  have hT : RelT (envB f) [b0] (tmL 74 [(34, P0 0 o0)]) a.tmps := RelT.ofL hsz.symm (by decide) (gl_any _) _ fun p hp => by
    simp only [List.mem_cons, List.not_mem_nil, or_false] at hp
    subst hp
    exact ⟨_, h34, rfl⟩
  have hsp : span [⟨true, false, 0, List.replicate o0 .nilp ++ stepSV s b⟩] 0 o0 18 = some (stepSV s b) := by
    unfold span
    simp only [List.getElem?_cons_zero]
    have e : ((List.replicate o0 SV.nilp ++ stepSV s b).drop o0).take 18 = stepSV s b := by
      rw [List.drop_append_of_le_length (by simp), List.drop_of_length_le (by simp), List.nil_append, List.take_of_length_le (by rw [stepSV_len]; omega)]
    simp only [e]
    rw [if_pos (stepSV_len s b)]
  have hev : evLoad Try.prog (tmL 74 [(34, P0 0 o0)]) [⟨true, false, 0, List.replicate o0 .nilp ++ stepSV s b⟩] 48 (.tmp 34) = some (.tv (.agg (stepSV s b))) := by
    have hg : gPtr (tmL 74 [(34, P0 0 o0)]) (.tmp 34) = some (0, o0) := by kernel_rfl
    unfold evLoad
    rw [hg, row_step]
    simp [hsp]
  have hsee : ∀ n o, gPtr (tmL 74 [(34, P0 0 o0)]) (.tmp 34) = some (n, o) → SeesAt (envB f) [b0] [⟨true, false, 0, List.replicate o0 .nilp ++ stepSV s b⟩] w n o (loadLen Try.prog 48) := by
    intro n o hgp
    have hg : gPtr (tmL 74 [(34, P0 0 o0)]) (.tmp 34) = some (0, o0) := by kernel_rfl
    rw [hg] at hgp
    simp only [Option.some.injEq, Prod.mk.injEq] at hgp
    obtain ⟨rfl, rfl⟩ := hgp
    intro b' k hb' hk j s' hj1 hj2 hs'
    obtain ⟨_, rfl⟩ := one_get hb'
    obtain ⟨_, rfl⟩ := one_get hk
    rw [List.getElem?_append_right (by simp; omega)] at hs'
    simp only [List.length_replicate] at hs'
    have hj3 : j - o0 < 18 := by
      have := (List.getElem?_eq_some_iff.1 hs').1
      rwa [stepSV_len] at this
    by_cases e0 : j = o0
    · subst e0
      rw [Nat.sub_self] at hs'
      simp only [stepSV, List.getElem?_cons_zero, Option.some.injEq] at hs'
      subst hs'
      exact ⟨_, rfl, hs⟩
    · by_cases e1 : j = o0 + 1
      · subst e1
        rw [show o0 + 1 - o0 = 1 by omega] at hs'
        simp only [stepSV, List.getElem?_cons_succ, List.getElem?_cons_zero, Option.some.injEq] at hs'
        subst hs'
        exact ⟨_, rfl, hb⟩
      · obtain ⟨i, rfl⟩ : ∃ i, j = o0 + 2 + i := ⟨j - o0 - 2, by omega⟩
        have hi : i < 16 := by omega
        rw [show o0 + 2 + i - o0 = i + 1 + 1 by omega] at hs'
        simp only [stepSV, List.getElem?_cons_succ] at hs'
        have e2 : (vars 352 16)[i]? = some (.int .u8 (.var (352 + i))) := by simp [vars, hi]
        rw [e2] at hs'
        cases hs'
        refine ⟨_, rfl, ?_⟩
        rw [hd i hi]
        simp only [Ex.den, envB]
        rw [hf i hi]
  obtain ⟨u, h1, h2⟩ := evLoad_ok (w := w) hT hsee hev
  refine ⟨u, fun ms => ?_, h2⟩
  have e : (stepSV s b).map (SV.inst (envB f) ms) = (stepSV s b).map (SV.inst (envB f) [b0]) := List.map_congr_left fun x hx => by
    simp only [stepSV, List.mem_cons] at hx
    rcases hx with rfl | rfl | hx
    · rfl
    · rfl
    · obtain ⟨i, _, rfl⟩ := vars_in hx; rfl
  simp only [AV.inst, TV.inst] at h1 ⊢
  rw [e]
  exact h1
theorem sizeStep : ∀ w, (Go.sizeOf 48).run Try.prog w = .ok 18 w := fun w => sizeOf_run row_step w
set_option maxRecDepth 100000 in
set_option maxHeartbeats 2000000 in
theorem ciphers_walk (w : World) (v : Value) (n : Nat) (S K : Nat → Bool) (D : Nat → List Nat) (k1 k2 : List Nat) (h : HSt w v n S K D) (h1 : k1.length = 16) (b1 : Byt k1) (h2 : k2.length = 16) (b2 : Byt k2) :
    Calls Try.prog 7 #[.agg (cells8 k1), .agg (cells8 k2), v] w fun e w' => e = .returned (.bool true) ∧ Below w.heap.size w w' := by
  obtain ⟨p, c, rfl, hn, hp, hD, hst⟩ := h
  have hlt0 := cF_lt (schedL_ok h1 b1).2.1 (schedL_ok h2 b2).2.1 b1 b1
  obtain ⟨n1, n2, n3, n4, n5, n6⟩ := cF_named (b := k1) (x := k1) h1 b1 h2 b2 h1 h1
  obtain ⟨f0, hf0⟩ : ∃ f0, f0 = cF (schedL k1) (schedL k2) k1 k1 := ⟨_, rfl⟩
  rw [← hf0] at hlt0 n1 n2 n3 n4
  have hcon : ConOk Try.prog (envB f0) (tabCon preTab) := tabCon_ok (by
    intro e he
    simp only [preTab, List.mem_cons, List.not_mem_nil, or_false] at he
    rcases he with rfl | rfl | rfl
    · exact ent1 hlt0 fun w => by rw [n1, n2]; exact sched_any w k1 b1 h1
    · exact ent1 hlt0 fun w => by rw [n3, n4]; exact sched_any w k2 b2 h2
    · exact ent0 fun w => awake_any w)
  cases p with
  | none =>
    obtain ⟨rfl, rfl⟩ := hp rfl
    obtain ⟨⟨x, H'⟩, hev, hx⟩ := Option.map_eq_some_iff.1 nil_ev
    simp only at hx
    subst hx
    refine (calls_of_evF (noLore_ok (envB f0)) hcon mixedOrders 100 hev (args := #[.agg (cells8 k1), .agg (cells8 k2), .slice none 0 0]) w ?_).mono ?_
    · simp only [List.map_cons, List.map_nil, V_inst hlt0, n1, n3]
      rfl
    · rintro e w' ⟨ms, u, rfl, q1, q2, q3⟩
      simp only [AV.inst, TV.inst, SV.inst, Option.some.injEq] at q1
      exact ⟨by rw [← q1], q3⟩
  | some A =>
    refine calls_of_wp Try.func7 (c := lawC) (by kernel_rfl) ?_
    obtain ⟨⟨t1, H1⟩, hr, he⟩ := Option.map_eq_some_iff.1 (pre_ev A n c)
    simp only [Prod.mk.injEq] at he
    obtain ⟨hs1, rfl⟩ := he
    have hT0 : RelT (envB f0) [] (Tm.make 74 [V 0 16, V 176 16, SLA A n c]) (#[.agg (cells8 k1), .agg (cells8 k2), .slice (some A) n c] ++ Array.replicate (74 - 3) undef) := RelT.make (by
      simp only [List.map_cons, List.map_nil, V_inst hlt0, n1, n3]
      rfl) (by decide) (by simp) (gl_any _)
    refine evPre_ok (evCF_ok (noLore_ok (envB f0)) hcon mixedOrders 100) 4 lawC _ _ t1 HI hr [] _ w hT0 (holds_nil (envB f0) w) fun ms a w1 q1 q2 q3 q4 q5 => ?_
    rw [law_parts]
    simp only [selT, List.map_cons, List.map_nil, Prod.mk.injEq, List.cons.injEq, and_true] at hs1
    obtain ⟨tn, g2, g3, g4, g7, g8⟩ := hs1
    obtain ⟨⟨o5, t5, H5⟩, h5, e5⟩ := Option.map_eq_some_iff.1 (r5_ev A n c)
    simp only [Prod.mk.injEq] at e5
    obtain ⟨rfl, hs5, rfl⟩ := e5
    have hT1 : RelT (envB f0) ms (tmL 74 [(2, SLA A n c), (3, P0 0 0), (4, P0 1 0), (7, P0 3 0), (8, P0 5 0)]) a.tmps := RelT.ofL (by rw [← q2.sz, tn]) (by decide) (gl_any _) _ fun p hp => by
      simp only [List.mem_cons, List.not_mem_nil, or_false] at hp
      rcases hp with rfl | rfl | rfl | rfl | rfl
      · exact q2.get g2
      · exact q2.get g3
      · exact q2.get g4
      · exact q2.get g7
      · exact q2.get g8
    have self0 : CodeOk Try.prog (envB f0) (evCF Try.prog noLore noCon 100) := evCF_ok (noLore_ok (envB f0)) (noCon_ok Try.prog (envB f0)) mixedOrders 100
    refine wp_seq (wp_seq (self0 r5 _ HI .normal t5 HI h5 ms w.heap.size a w1 _ hT1 q4 fun ms' a2 w2 r1 r2 r3 r4 r5' => ?_))
    have ems := same_ms r1 (by rw [q4.len, r4.len])
    subst ems
    have F0 : FI ms' A n c 0 a2 := FI.mk' r2 hs5 (r3.trans q3)
    show Code.wp _ (Code.block 0 (.loop LB)) _ a2 w2
    refine wp_block (wp_loop (fun a w' => ∃ k : Nat, k ≤ n ∧ FI ms' A n c (k : Int) a ∧ Holds (envB f0) ms' HI w.heap.size w' ∧ Below w.heap.size w w') (fun a _ => n - (intOf (a.tmps.getD 32 undef)).toNat) ⟨0, Nat.zero_le _, F0, r4, q5.trans r5'⟩ ?_)
    rintro a3 w3 ⟨k, hk, F, hH3, hB3⟩
    rw [lb_parts]
    obtain ⟨⟨o6, t6, H6⟩, h6, e6⟩ := Option.map_eq_some_iff.1 (r6_ev A n c (k : Int))
    simp only [Prod.mk.injEq] at e6
    obtain ⟨rfl, g33, hs6, rfl⟩ := e6
    refine wp_seq (self0 (fstC LB) _ HI .normal t6 HI h6 ms' w.heap.size a3 w3 _ (F.rel _) hH3 fun ms4 a4 w4 s1 s2 s3 s4 s5 => ?_)
    have ems := same_ms s1 (by rw [hH3.len, s4.len])
    subst ems
    have F4 : FI ms4 A n c (k : Int) a4 := FI.mk' s2 hs6 (s3.trans F.2.1)
    have e33 : a4.eval (.tmp 33) = .bool (decide ((k : Int) < (n : Int))) := by
      obtain ⟨u, g1, g2⟩ := s2.get g33
      simp only [AV.inst, TV.inst, SV.inst, Option.some.injEq] at g2
      rw [eval_tmp g1, ← g2]
    refine wp_seq (wp_cond e33 ?_)
    by_cases hkn : k < n
    · rw [decide_eq_true (by omega)]
      refine wp_skip ?_
      show Code.wp _ (Code.seq (.block 1 BD) r22) _ a4 w4
      refine wp_seq (wp_block ?_)
      rw [bd_parts]
      refine wp_seq (wp_region_list ?_)
      obtain ⟨x, y, exy, gx, gy, ox, dx, oy, dy⟩ := ops7_parts
      rw [exy]
      obtain ⟨bb, off, eA, c0, c1, cd⟩ := hst k hkn
      simp only [Option.some.injEq] at eA
      subst eA
      have hBw : Below w.heap.size w w4 := hB3.trans s5
      have c0' := (hBw.cell (World.block_lt_of_cell? w _ c0)).trans c0
      have c1' := (hBw.cell (World.block_lt_of_cell? w _ c1)).trans c1
      have cd' : ∀ j, j < 16 → w4.cell? ⟨bb, off + k * 18 + 2 + j, none⟩ = some (.int .u8 (at8 (D k) j : Int)) := fun j hj => (hBw.cell (World.block_lt_of_cell? w _ (cd j hj))).trans (cd j hj)
      obtain ⟨dl, db⟩ := hD k
      obtain ⟨xl, xb⟩ := xC_ok h1 b1 h2 b2 dl db (S k) (K k)
      have hlk := cF_lt (schedL_ok h1 b1).2.1 (schedL_ok h2 b2).2.1 db xb
      have hcC := cC_ok h1 b1 h2 b2 dl db (S k) (K k)
      obtain ⟨fk, hfk⟩ : ∃ fk, fk = cF (schedL k1) (schedL k2) (D k) (xC k1 k2 (S k) (K k) (D k)) := ⟨_, rfl⟩
      rw [← hfk] at hlk hcC
      have hold : ∀ i, i < 352 → f0 i = fk i := fun i hi => by rw [hf0, hfk]; exact cF_old i hi
      have hH4 : Holds (envB fk) ms4 HI w.heap.size w4 := holds_env hold s4
      obtain ⟨e30, e32⟩ := F4.at
      -- the address
      refine wpList_plain gx fun Kx hKx => ?_
      have hrx : (execOp a4.eval x).run Try.prog w4 = .ok (.value (.pointer (some ⟨bb, off + k * 18, none⟩))) w4 := by
        have hkk : (k : Int) < (n : Int) := by omega
        simp [execOp, ox, eval_tmp e30, eval_tmp e32, Instr.indexAt, asIntOf, run_underlying Try.underlying44, sizeStep, hkk, Addr.add_mid]
        intro hle
        omega
      unfold Oper.wp
      rw [hrx]
      simp only [Oper.upon]
      refine hKx _ _ ?_
      rw [dx]
      have sz5 : (a4.put (some 34) (.pointer (some ⟨bb, off + k * 18, none⟩))).tmps.size = 74 := by simp [Act.put, F4.1]
      have t34 : (a4.put (some 34) (.pointer (some ⟨bb, off + k * 18, none⟩))).tmps[34]? = some (.pointer (some ⟨bb, off + k * 18, none⟩)) := put_at (by rw [F4.1]; decide)
      obtain ⟨u, hu, hload⟩ := load_step (f := fk) c0' c1' cd' (fun j hj => by rw [hfk]; unfold cF; rw [if_neg (by omega), if_neg (by omega), if_pos (by omega), show 352 + j - 352 = j by omega]) sz5 t34
      -- the step
      refine wpList_plain gy fun Ky hKy => ?_
      have hry : (execOp (a4.put (some 34) (.pointer (some ⟨bb, off + k * 18, none⟩))).eval y).run Try.prog w4 = .ok (.value u) w4 := by
        simp only [execOp, oy, Sem.run_bind, hload, Result.andThen_ok, Sem.run_pure]
      unfold Oper.wp
      rw [hry]
      simp only [Oper.upon]
      refine hKy _ _ ?_
      rw [dy]
      obtain ⟨a6, ha6⟩ : ∃ a6, a6 = (a4.put (some 34) (.pointer (some ⟨bb, off + k * 18, none⟩))).put (some 35) u := ⟨_, rfl⟩
      rw [← ha6]
      have sz6 : a6.tmps.size = 74 := by rw [ha6]; simp [Act.put, F4.1]
      have hT7 : RelT (envB fk) ms4 (tmL 74 ((35, .tv (.agg (stepSV (S k) (K k)))) :: tmI ⟨bb, off, none⟩ n c (k : Int))) a6.tmps := RelT.ofL sz6.symm (by decide) (gl_any _) _ fun p hp => by
        rcases List.mem_cons.1 hp with rfl | hp
        · exact ⟨u, by rw [ha6]; exact put_at (by rw [sz5]; decide), hu ms4⟩
        · obtain ⟨v, g1, g2⟩ := F4.2.2 p hp
          have hne : p.1 ≠ 34 ∧ p.1 ≠ 35 := by
            simp only [tmI, List.mem_cons, List.not_mem_nil, or_false] at hp
            rcases hp with rfl | rfl | rfl | rfl | rfl | rfl | rfl <;> exact ⟨by simp, by simp⟩
          exact ⟨v, by rw [ha6]; exact put_get (put_get g1 hne.1) hne.2, g2 _⟩
      obtain ⟨⟨t7, H7⟩, h7, e7⟩ := Option.map_eq_some_iff.1 (ops_ev ⟨bb, off, none⟩ n c (k : Int) (S k) (K k))
      simp only [Prod.mk.injEq] at e7
      obtain ⟨g10, hs7, rfl⟩ := e7
      refine evOps_ok (noLore_ok (envB fk)) (noCall_ok Try.prog (envB fk)) _ ms4 _ HI a6 w4 t7 _ hT7 hH4 h7 fun ms8 a8 w8 y1 y2 y3 y4 y5 => ?_
      have d6 : a6.defers = [] := by rw [ha6]; exact F4.2.1
      have F8 : FI ms8 ⟨bb, off, none⟩ n c (k : Int) a8 := FI.mk' y2 hs7 (y3.trans d6)
      show Code.wp _ REST _ a8 w8
      obtain ⟨⟨o9, t9, H9⟩, h9, e9⟩ := Option.map_eq_some_iff.1 (rest_ev ⟨bb, off, none⟩ n c (k : Int) (S k) (K k))
      simp only [Prod.mk.injEq] at e9
      obtain ⟨rfl, hs9, hH9⟩ := e9
      have hT8 : RelT (envB fk) ms8 (tmL 74 ((10, P0 6 0) :: tmI ⟨bb, off, none⟩ n c (k : Int))) a8.tmps := RelT.ofL F8.1.symm (by decide) (gl_any _) _ fun p hp => by
        rcases List.mem_cons.1 hp with rfl | hp
        · exact y2.get g10
        · obtain ⟨v, g1, g2⟩ := F8.2.2 p hp
          exact ⟨v, g1, g2 _⟩
      refine evCF_ok (noLore_ok (envB fk)) hcC mixedOrders 100 REST _ _ .normal t9 H9 h9 ms8 w.heap.size a8 w8 _ hT8 y4 fun ms9 a9 w9 z1 z2 z3 z4 z5 => ?_
      have F9 : FI ms9 ⟨bb, off, none⟩ n c (k : Int) a9 := FI.mk' z2 hs9 (z3.trans F8.2.1)
      have hp9 : ms4 <+: ms9 := y1.trans z1
      have hl4 : ms4.length = 6 := s4.len
      have htk : ms9.take 6 = ms4 := by
        obtain ⟨r, rfl⟩ := hp9
        rw [List.take_append_of_le_length (by omega), List.take_of_length_le (by omega)]
      have hH10 : Holds (envB f0) ms4 HI w.heap.size w9 := by
        have := z4.take (n := 6) (gl_any _) (by rw [hH9]; kernel_rfl)
        rw [hH9, htk] at this
        exact holds_env (fun i hi => (hold i hi).symm) this
      have F10 : FI ms4 ⟨bb, off, none⟩ n c (k : Int) a9 := F9.less hp9 hl4
      show Code.wp _ r22 _ a9 w9
      obtain ⟨⟨o11, t11, H11⟩, h11, e11⟩ := Option.map_eq_some_iff.1 (r22_ev ⟨bb, off, none⟩ n c (k : Int))
      simp only [Prod.mk.injEq] at e11
      obtain ⟨rfl, hs11, rfl⟩ := e11
      refine self0 r22 _ HI .normal t11 HI h11 ms4 w.heap.size a9 w9 _ (F10.rel _) hH10 fun ms12 a12 w12 v1 v2 v3 v4 v5 => ?_
      have ems := same_ms v1 (by rw [hH10.len, v4.len])
      subst ems
      have hwr : IntKind.i64.wrap ((k : Int) + 1) = ((k + 1 : Nat) : Int) := by rw [IntKind.wrap_i64]; omega
      rw [hwr] at hs11
      have F12 : FI ms12 ⟨bb, off, none⟩ n c ((k + 1 : Nat) : Int) a12 := FI.mk' v2 hs11 (v3.trans F10.2.1)
      refine ⟨⟨k + 1, hkn, F12, v4, (((hBw.trans y5).trans z5).trans v5)⟩, ?_⟩
      have m1 := F12.at.2
      have m2 := F.at.2
      simp only [Array.getD_eq_getD_getElem?, m1, m2, Option.getD_some, intOf]
      omega
    · rw [decide_eq_false (by omega)]
      refine wp_exit ?_
      show Code.wp _ cEnd _ a4 w4
      refine part_ret mixedOrders (end_ev A n c (k : Int)) (F4.rel (envB f0)) s4 F4.2.1 fun ms5 u w5 z1 z2 => ?_
      simp only [AV.inst, TV.inst, SV.inst, Option.some.injEq] at z1
      exact ⟨by rw [← z1], (hB3.trans s5).trans z2⟩
end Go.Proofs.Ytlmidjgjijmiiaa
