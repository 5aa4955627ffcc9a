/- The law MatrixNone: what is nil, or that nobody made. -/
import Derived.Test.YtcgablfjjcdciaaRangeNone
import Derived.Test.YtcgablfjjcdciaaEvPre
import Derived.Test.YtcgablfjjcdciaaEvLit
set_option linter.unusedVariables false
set_option linter.unusedSimpArgs false
namespace Go.Proofs.Ytcgablfjjcdciaa
open Go Go.RowKit Ev

theorem mixedN : Try.prog.follows .mixedOrders = true := by kernel_rfl
theorem selfN (ρ : Env) : CodeOk Try.prog ρ (evCF Try.prog noLore noCon 60) := by
  rw [evCF_eq]
  exact evC_ok (noLore_ok ρ) (noCon_ok Try.prog ρ) mixedN 60
theorem glN (ms : List Nat) : Gl ms := fun g hg => absurd hg (by simp [nGl])
theorem sameN {ms ms' : List Nat} (h : ms <+: ms') (hl : ms.length = ms'.length) : ms' = ms := (h.eq_of_length hl).symm

/-- All is but read from here on. -/
def roH (H : List Blk) : List Blk := H.map fun k => ⟨true, k.pl, k.cap, k.cells⟩
theorem roH_get {H : List Blk} {i : Nat} {k : Blk} (h : (roH H)[i]? = some k) : ∃ k0, H[i]? = some k0 ∧ k = ⟨true, k0.pl, k0.cap, k0.cells⟩ := by
  unfold roH at h
  rw [List.getElem?_map, Option.map_eq_some_iff] at h
  obtain ⟨k0, h1, h2⟩ := h
  exact ⟨k0, h1, h2.symm⟩
theorem holds_ro {ρ : Env} {ms : List Nat} {H : List Blk} {B : Nat} {w : World} (h : Holds ρ ms H B w) : Holds ρ ms (roH H) w.heap.size w where
  len := by rw [h.len]; simp [roH]
  gl := h.gl
  inj := fun i j b k k' hi hj hk hk' hn hn' => by
    obtain ⟨k0, e0, rfl⟩ := roH_get hk
    obtain ⟨k1, e1, rfl⟩ := roH_get hk'
    exact h.inj i j b k0 k1 hi hj e0 e1 hn hn'
  low := fun i b k hi hk hr => by
    obtain ⟨k0, e0, rfl⟩ := roH_get hk
    cases hr
  bnd := fun i b k hi hk hn => by
    obtain ⟨k0, e0, rfl⟩ := roH_get hk
    exact h.bnd i b k0 hi e0 hn
  big := Nat.le_refl _
  plain := fun i k hk hp => by
    obtain ⟨k0, e0, rfl⟩ := roH_get hk
    exact h.plain i k0 e0 hp
  cell := fun i b k hi hk j s hs => by
    obtain ⟨k0, e0, rfl⟩ := roH_get hk
    obtain ⟨v, h1, h2, h3⟩ := h.cell i b k0 hi e0 j s hs
    exact ⟨v, h1, h2, fun hr => by cases hr⟩
  room := fun i b c k0 k hi hc hk0 hr hn hk hcap => by
    obtain ⟨k1, e0, rfl⟩ := roH_get hk0
    cases hr
theorem roH_roH (H : List Blk) : roH (roH H) = roH H := by simp [roH]

def envN (c : Nat → Int) (u v : Value) : Env := ⟨c, fun i => match i with | 0 => u | _ => v, fun _ _ _ => 0⟩
def cellsN : List SV := [.int .i64 (.var 0), .int .i64 (.var 1), .int .i64 (.var 2), .int .i64 (.var 3), .int .i64 (.var 4), .int .i64 (.var 5), .opq 0, .opq 1]
noncomputable def bodyN : Code := match Try.f4.body with | some c => c | none => .skip
def fstN : Code → Code | .seq a _ => a | c => c
def sndN : Code → Code | .seq _ a => a | c => c
def inB : Code → Code | .block _ c => c | c => c
def inL : Code → Code | .loop c => c | c => c
noncomputable def R20 : Code := fstN (fstN (tailN 13 bodyN))
noncomputable def LBN : Code := inL (inB (sndN (fstN (tailN 13 bodyN))))
noncomputable def R42 : Code := fstN (sndN (tailN 13 bodyN))
noncomputable def RDN : Code := inB (fstN (sndN LBN))
noncomputable def R22 : Code := sndN (sndN LBN)
noncomputable def RGN : Code := inB (tailN 13 RDN)
def asgN : Code → Code | .rangeFunc _ _ a _ => a | c => c
def bdyN : Code → Code | .rangeFunc _ _ _ b => b | c => c
theorem body_parts : tailN 13 bodyN = .seq (.seq R20 (.block 2 (.loop LBN))) (.seq R42 .ret) := by kernel_rfl
theorem loop_parts : LBN = .seq (fstN LBN) (.seq (.block 3 RDN) R22) := by kernel_rfl
theorem round_parts : tailN 13 RDN = .block 4 (.rangeFunc (.tmp 284) #[285, 286] (asgN RGN) (bdyN RGN)) := by kernel_rfl
theorem end_parts : R42 = .region 42 #[{ dst := none, op := .store 4 (.tmp 2) (.const (.bool true)), type := 0, pos := "law.go:264", after := #[], guard := none }] false := by kernel_rfl

def selN (t : Tm) : Nat × Option AV × Option AV × Option AV × Option AV × Option AV := (t.n, t.get 1, t.get 2, t.get 14, t.get 16, t.get 17)
def tmsN (k : Int) : List (Nat × AV) := [(1, .tv (.sc (.ptr 0 0))), (2, .tv (.sc (.ptr 1 0))), (14, .tv (.sc (.ptr 5 0))), (16, .tv (.sc (.sl 11 0 2 2))), (17, .tv (.sc (.int .i64 (.lit k))))]
def sel0 (k : Int) : Nat × Option AV × Option AV × Option AV × Option AV × Option AV := (293, some (.tv (.sc (.ptr 0 0))), some (.tv (.sc (.ptr 1 0))), some (.tv (.sc (.ptr 5 0))), some (.tv (.sc (.sl 11 0 2 2))), some (.tv (.sc (.int .i64 (.lit k)))))
def H1 : List Blk := [newBlk cellsN, newBlk [.bool false], newBlk [.int .u32 (.lit 0)], newBlk [.nilp, .ptr 2 0], newBlk [.int .u32 (.lit 7)], newBlk [.ifp 24 4 0, .int .i64 (.lit 1), .int .i64 (.lit 1), .slg 8 0 0 1], newBlk [.int .u32 (.lit 0)], newBlk [.int .u32 (.lit 1)], newBlk [.int .u32 (.lit 1)], capBlk 1, newBlk [.nili, .int .i64 (.lit 0), .int .i64 (.lit 0), .nils 0 0], newBlk [.nilp, .ptr 10 0]]
set_option maxRecDepth 1000000 in
theorem pre_evN : (evPre (evCF Try.prog noLore noCon 60) 13 bodyN (Tm.make 293 [.tv (.agg cellsN)]) H0).map (fun r => (r.1.n, r.1.get 1, r.1.get 2, r.1.get 14, r.1.get 16, r.2)) = some (293, some (.tv (.sc (.ptr 0 0))), some (.tv (.sc (.ptr 1 0))), some (.tv (.sc (.ptr 5 0))), some (.tv (.sc (.sl 11 0 2 2))), H1) := by kernel_rfl
def tm0N : List (Nat × AV) := [(1, .tv (.sc (.ptr 0 0))), (2, .tv (.sc (.ptr 1 0))), (14, .tv (.sc (.ptr 5 0))), (16, .tv (.sc (.sl 11 0 2 2)))]
set_option maxRecDepth 1000000 in
theorem r20_ev : (evCF Try.prog noLore noCon 60 R20 (tmL 293 tm0N) (roH H1)).map (fun r => (r.1, selN r.2.1, r.2.2)) = some (.normal, sel0 0, roH H1) := by kernel_rfl
set_option maxRecDepth 1000000 in
theorem if_ev : ∀ k, k ≤ 1 → (evCF Try.prog noLore noCon 60 (fstN LBN) (tmL 293 (tmsN (k : Nat))) (roH H1)).map (fun r => (r.1, selN r.2.1, r.2.2)) = some (.normal, sel0 (k : Nat), roH H1) := by
  intro k hk
  rcases (by omega : k = 0 ∨ k = 1) with rfl | rfl
  · kernel_rfl
  · kernel_rfl
set_option maxRecDepth 1000000 in
theorem out_ev : (evCF Try.prog noLore noCon 60 (fstN LBN) (tmL 293 (tmsN 2)) (roH H1)).map (fun r => (r.1, selN r.2.1, r.2.2)) = some (.exit 2, sel0 2, roH H1) := by kernel_rfl
set_option maxRecDepth 1000000 in
theorem round_ev : ∀ k, k ≤ 1 → (evPre (evCF Try.prog noLore noCon 60) 13 RDN (tmL 293 (tmsN (k : Nat))) (roH H1)).map (fun r => (r.1.get 284, selN r.1, r.2)) = some (some (.tv (.sc (.clo 60 []))), sel0 (k : Nat), roH H1) := by
  intro k hk
  rcases (by omega : k = 0 ∨ k = 1) with rfl | rfl
  · kernel_rfl
  · kernel_rfl
set_option maxRecDepth 1000000 in
theorem r22_evN : ∀ k, k ≤ 1 → (evCF Try.prog noLore noCon 60 R22 (tmL 293 (tmsN (k : Nat))) (roH H1)).map (fun r => (r.1, selN r.2.1, r.2.2)) = some (.normal, sel0 ((k + 1 : Nat) : Int), roH H1) := by
  intro k hk
  rcases (by omega : k = 0 ∨ k = 1) with rfl | rfl
  · kernel_rfl
  · kernel_rfl
theorem rel_sel {ρ : Env} {ms : List Nat} {t : Tm} {tmps : Array Value} {k : Int} (h : RelT ρ ms t tmps) (hs : selN t = sel0 k) : RelT ρ ms (tmL 293 (tmsN k)) tmps := by
  simp only [selN, sel0, Prod.mk.injEq] at hs
  obtain ⟨hn, g1, g2, g14, g16, g17⟩ := hs
  refine RelT.ofL (by rw [← h.sz, hn]) (by decide) (glN _) _ fun p hp => ?_
  simp only [tmsN, List.mem_cons, List.not_mem_nil, or_false] at hp
  rcases hp with rfl | rfl | rfl | rfl | rfl
  · exact h.get g1
  · exact h.get g2
  · exact h.get g14
  · exact h.get g16
  · exact h.get g17
end Go.Proofs.Ytcgablfjjcdciaa
