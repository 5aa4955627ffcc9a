/- drained: all rows are taken out, the least first. -/
import Derived.Test.YtajdopmhdagehaaHsPop
import Derived.OwnWalk
set_option linter.unusedVariables false
set_option linter.unusedSimpArgs false
namespace Go.Proofs.Ytajdopmhdagehaa.Ds
open Go.Proofs.Ytajdopmhdagehaa
open Go Go.RowKit
section
variable {J : World → Prop} {U : Nat → Prop} {Dm : Pr → Prop} {fid : Nat} {fr : Array Value} {Ls : Pr → Pr → Bool → Prop} {ord : Prop} {key : Pr → Int}
variable {w : World} {g : Nat} {sf F : Value} {mp : Option Nat} {L : List (Rw Pr)} {nx : Nat} {lo : Int} {v : Value} {S : Nat → Prop}
/-- The first of a heap in order, with what is left behind it. -/
theorem hp_head (h : hp key L) {L' : List (Rw Pr)} (hl : 0 < L.length) (hP : L.Perm (rat L 0 :: L')) (hone : (L.map (·.t)).Nodup) : ∀ q ∈ L', ahd key (rat L 0) q := by
  intro q hq
  have h1 : ¬ ahd key q (rat L 0) := by
    obtain ⟨i, hi⟩ := List.mem_iff_getElem?.1 (hP.symm.subset (List.mem_cons_of_mem _ hq))
    have := h.first i (List.getElem?_eq_some_iff.1 hi).1
    rw [rat_eq hi] at this
    exact this
  have h2 : (rat L 0).t ≠ q.t := by
    have := (hP.map (·.t)).nodup_iff.1 hone
    rw [List.map_cons, List.nodup_cons] at this
    exact fun e => this.1 (List.mem_map.2 ⟨q, hq, e.symm⟩)
  rcases ahd_total (key := key) h2 with q | q
  · exact q
  · exact absurd q h1
def lenN (g : Nat) (w : World) : Nat := match w.cell? ⟨g, 2, none⟩ with | some (.slice _ n _) => n | _ => 0
/-- What is out so far, and what is still in. -/
structure DrI (ord : Prop) (key : Pr → Int) (J : World → Prop) (U : Nat → Prop) (Dm : Pr → Prop) (fid : Nat) (fr : Array Value) (w : World) (g : Nat) (sf : Value) (mp : Option Nat) (L : List (Rw Pr)) (nx : Nat) (S : Nat → Prop) (N : Nat) (R L' : List (Rw Pr)) (v' vo : Value) (w' : World) : Prop where
  lv : Lv J U Dm fid fr w' g sf mp L' nx (-1) v' (fun k => S k ∧ ∀ r ∈ R, k ≠ r.b)
  ex : Ex (SU S U) w w'
  perm : L.Perm (R ++ L')
  own : w'.ownsRow N 146 1 vo R.length (R.map fun r => ptr r.b)
  rows : ∀ r ∈ R, (∃ i, HRow w' r i) ∧ S r.b
  hp : ord → hp key L → Go.Proofs.Ytajdopmhdagehaa.hp key L' ∧ R.Pairwise (ahd key) ∧ ∀ r ∈ R, ∀ q ∈ L', ahd key r q
/-- What drained answers. -/
def DrQ (ord : Prop) (key : Pr → Int) (J : World → Prop) (U : Nat → Prop) (w : World) (L : List (Rw Pr)) (S : Nat → Prop) (vo : Value) (w' : World) : Prop :=
  ∃ R : List (Rw Pr), J w' ∧ Ex (SU S U) w w' ∧ R.Perm L ∧ w'.ownsRow w.heap.size 146 1 vo R.length (R.map fun r => ptr r.b) ∧ (∀ r ∈ R, (∃ i, HRow w' r i) ∧ S r.b) ∧ (ord → hp key L → R.Pairwise (ahd key))
set_option maxRecDepth 100000 in
set_option maxHeartbeats 4000000 in
theorem drained_any (O : Orc fid fr J U Dm Ls) (hO : Ord ord key Ls) (h : Lv J U Dm fid fr w g sf mp L nx (-1) v S) (hroom : L.length ≤ 17592186044416) :
    Calls Try.prog 86 #[ptr g] w fun e w' => ∃ vo, e = .returned vo ∧ DrQ ord key J U w L S vo w' := by
  obtain ⟨i0, hi0, hz0, hz1, hz2⟩ := info_parts info_prow
  have CS := hid (settle_none O h)
  have c5 := h.hp.cg.2.2.2.2.2
  have HLT := hid h.hp.lt
  have HULT := hid (O.lt _ h.j)
  have H0AP := hid h.ap
  clear h
  go_enter Try.func86, Try.ntmps86
  go_wp2_with fail
  refine CS.out.mono ?_
  rintro e w1 ⟨rfl, h1, he1⟩
  have c2 := h1.hp.cg.2.2.1
  obtain ⟨pp, cc, hv⟩ := own_slc h1.hp.row
  subst hv
  have H1 := hid h1
  have HE1 := hid he1
  have hs1 := he1.size
  obtain ⟨n, hn⟩ : ∃ n, Hid (L.length = n) := ⟨_, rfl⟩
  rw [hn.out] at c2 hroom
  clear h1 he1 CS c5
  go_wp2_with (at_make; refine wpList_make_own _ rfl _ _ 142 rfl w.heap.size 146 i0 (.pointer none) 1 Try.underlying142 hi0 hz0 hz1 .i64 .i64 _ n rfl rfl rfl ?b2 ?b3 ?b4 ?_)
  case b2 => rw [hz2]; omega
  case b3 => unfold maxLen; omega
  case b4 => exact hs1
  intro w2 hown2 hgr2
  have H2 : Hid (DrI ord key J U Dm fid fr w g sf mp L nx S w.heap.size [] L (.slice pp L.length cc) (.slice (some ⟨w1.heap.size, 0, none⟩) 0 n) w2) := hid
    ⟨⟨H1.out.hp.of (S := S) (fun k hk => hgr2.block k (H1.out.hp.lt k hk) (fun e => by cases e)) |> fun h => ⟨h.top, h.row, h.each, fun m hm => ⟨(h.held m hm).1, (h.held m hm).2, fun r hr => by cases hr⟩, h.tk, h.one, ⟨h.sg, fun r hr => by cases hr⟩, fun b hb => ⟨h.sr b hb, fun r hr => by cases hr⟩, fun r hr => ⟨h.se r hr, fun q hq => by cases hq⟩, fun k hk => h.lt k hk.1, h.few, h.len⟩,
      O.stay _ _ H1.out.j (fun k hk => hgr2.block k (O.lt _ H1.out.j k hk) (fun e => by cases e)), fun k hk => H1.out.ap k hk.1, H1.out.dm⟩,
     (HE1.out.mono (fun k hk => .inl hk)).trans (Ex.grown (S := SU S U) hgr2 (fun k hk => by cases hk)) (fun _ q => .inl q), List.Perm.refl _, hown2, (fun r hr => by cases hr), fun o q => ⟨q, List.Pairwise.nil, fun r hr => by cases hr⟩⟩
  clear hown2 hgr2 c2
  go_wp2_with fail
  go_loopw [3] (fun vo wr => ∃ (R L' : List (Rw Pr)) (v' : Value), Hid (DrI ord key J U Dm fid fr w g sf mp L nx S w.heap.size R L' v' vo wr)) (fun _ wr => lenN g wr)
  case atStart => exact ⟨[], L, _, H2⟩
  case round =>
    clear H2 H1 HE1
    obtain ⟨R, L', v', HI⟩ := hrel
    have hlen : R.length + L'.length = n := by rw [← hn.out, HI.out.perm.length_eq, List.length_append]
    have c2 := HI.out.lv.hp.cg.2.2.1
    obtain ⟨p', c', hv'⟩ := own_slc HI.out.lv.hp.row
    subst hv'
    obtain ⟨n', hn'⟩ : ∃ n', Hid (L'.length = n') := ⟨_, rfl⟩
    rw [hn'.out] at c2 hlen
    have HM : Hid (lenN g wr = n') := hid (by unfold lenN; rw [c2])
    by_cases h0 : 0 < n'
    · have h0' : (0 : Int) < (n' : Int) := by omega
      have hl0 : 0 < L'.length := by rw [hn'.out]; exact h0
      have CT := hid (take_any O hO 0 HI.out.lv hl0)
      go_wp2_with fail
      refine CT.out.mono ?_
      rintro e w3 ⟨rfl, L2, v2, ii, hL2, hr2, hE2, hP2, hq2⟩
      clear CT c2
      obtain ⟨r, HR⟩ : ∃ r, Hid (rat L' 0 = r) := ⟨_, rfl⟩
      have HHD : Hid (ord → hp key L → ∀ q ∈ L2, ahd key r q) := hid fun o q => by
        rw [← HR.out]
        exact hp_head ((HI.out.hp o q).1) hl0 hP2 HI.out.lv.hp.one
      rw [HR.out] at hL2 hr2 hP2
      rw [HR.out]
      have mr : r ∈ L' := hP2.symm.subset (by simp)
      have hown3 : w3.ownsRow w.heap.size 146 1 u3 R.length (R.map fun r => ptr r.b) := by
        refine ⟨HI.out.own.1, ?_⟩
        rcases HI.out.own.2 with q | ⟨b, cap, cur, hv, hb, hw, q⟩
        · exact .inl q
        · refine .inr ⟨b, cap, cur, hv, hb, (hE2.block b (Array.getElem?_eq_some_iff.1 hw).1 (fun z => ?_)).trans hw, q⟩
          rcases z with z | z
          · have := HLT.out b z.1; omega
          · have := HULT.out b z; omega
      have hbn3 : ∀ b, u3.ownBlock = some b → w.heap.size ≤ b := fun b hb => by
        rcases HI.out.own.2 with ⟨q, _⟩ | ⟨b', cap, cur, hv, hb', hw, q⟩
        · rw [q] at hb; cases hb
        · rw [hv] at hb; cases hb; exact hb'
      have H3 : Hid (Lv J U Dm fid fr w3 g sf mp L2 nx (-1) v2 (fun k => S k ∧ ∀ q ∈ R ++ [r], k ≠ q.b)) := by
        have e : (fun k => (S k ∧ ∀ q ∈ R, k ≠ q.b) ∧ k ≠ r.b) = (fun k => S k ∧ ∀ q ∈ R ++ [r], k ≠ q.b) := by
          funext k
          apply propext
          constructor
          · rintro ⟨⟨z1, z2⟩, z3⟩
            refine ⟨z1, fun q hq => ?_⟩
            rcases List.mem_append.1 hq with y | y
            · exact z2 q y
            · rw [List.mem_singleton.1 y]; exact z3
          · rintro ⟨z1, z2⟩
            exact ⟨⟨z1, fun q hq => z2 q (List.mem_append.2 (.inl hq))⟩, z2 r (by simp)⟩
        rw [← e]
        exact hid hL2
      have hSr := (HI.out.lv.hp.se r mr)
      have hrows : ∀ q ∈ R ++ [r], (∃ i, HRow w3 q i) ∧ S q.b := fun q hq => by
        rcases List.mem_append.1 hq with y | y
        · obtain ⟨⟨i, hi⟩, hs⟩ := HI.out.rows q y
          refine ⟨⟨i, (hE2.block q.b (Array.getElem?_eq_some_iff.1 hi).1 (fun z => ?_)).trans hi⟩, hs⟩
          rcases z with z | z
          · exact z.2 q y rfl
          · have h1 := HLT.out _ hs
            have h2 := HI.out.lv.ap
            have : ¬ U q.b := fun u => by
              -- q.b is in S: apart from U
              exact absurd u (H0AP.out q.b hs)
            exact this z
        · rw [List.mem_singleton.1 y]
          exact ⟨⟨ii, hr2⟩, hSr.1⟩
      have EX3 : Hid (Ex (SU S U) w w3) := hid (HI.out.ex.trans hE2 (fun k hk => by
        rcases hk with z | z
        · exact .inl (.inl z.1)
        · exact .inl (.inr z)))
      have HROWS := hid hrows
      have HBN := hid hbn3
      have HOWN3 := hid hown3
      have HP2 := hid hP2
      have HQ2 := hid hq2
      have hs3 : w.heap.size ≤ w3.heap.size := EX3.out.size
      clear hL2 hr2 hE2 hP2 hq2 hrows hown3 hbn3 mr hSr
      go_wp2_with (at_builtin; refine wpList_append_prow rfl _ _ rfl w.heap.size _ R.length _ rfl (HOWN3.out.alloc _) ⟨w3.heap.size, 0, none⟩ 1 r.b rfl (by simp) ?q1 ?q2 ?_)
      case q1 => omega
      case q2 => simp; omega
      intro v4 w4 hown4 hgr4 hor4
      have hk34 : ∀ k, k < w.heap.size → w4.heap[k]? = w3.heap[k]? := fun k hk => (hgr4.block k (by simp; omega) (fun e => by have := HBN.out k e.symm; omega)).trans (heap_alloc_old w3 _ (by omega))
      have hs4 : w3.heap.size ≤ w4.heap.size := by have := hgr4.size; simp at this; omega
      obtain ⟨p4, c4, hv4⟩ := own_slc hown4
      subst hv4
      have HN : Hid (DrI ord key J U Dm fid fr w g sf mp L nx S w.heap.size (R ++ [r]) L2 v2 (.slice p4 (R.length + 1) c4) w4) := hid
        ⟨⟨H3.out.hp.of (fun k hk => hk34 k (HLT.out k hk.1)), O.stay _ _ H3.out.j (fun k hk => hk34 k (HULT.out k hk)), H3.out.ap, H3.out.dm⟩,
         ⟨hgr4.os.trans EX3.out.os, hgr4.tape.trans EX3.out.tape, hgr4.output.trans EX3.out.output, Nat.le_trans EX3.out.size hs4, fun k hk hns => (hk34 k hk).trans (EX3.out.block k hk hns)⟩,
         HI.out.perm.trans (by rw [List.append_assoc]; exact (HP2.out.append_left R)), by simpa using hown4,
         (fun q hq => by obtain ⟨⟨i, hi⟩, hs⟩ := HROWS.out q hq; exact ⟨⟨i, (hk34 q.b (HLT.out _ hs)).trans hi⟩, hs⟩),
         fun o q => by
          obtain ⟨z1, z2, z3⟩ := HI.out.hp o q
          refine ⟨HQ2.out o z1, ?_, fun y hy x hx => ?_⟩
          · rw [List.pairwise_append]
            exact ⟨z2, List.pairwise_singleton _ _, fun a ha b hb => by rw [List.mem_singleton.1 hb]; exact z3 a ha r (HP2.out.symm.subset (by simp))⟩
          · rcases List.mem_append.1 hy with y' | y'
            · exact z3 y y' x (HP2.out.symm.subset (List.mem_cons_of_mem _ hx))
            · rw [List.mem_singleton.1 y']; exact HHD.out o q x hx⟩
      have HM4 : Hid (lenN g w4 = L2.length) := hid (by
        have c := HN.out.lv.hp.cg.2.2.1
        obtain ⟨p5, c5, hv5⟩ := own_slc HN.out.lv.hp.row
        unfold lenN
        rw [c, hv5])
      have hl2 : L2.length + 1 = n' := by have := HP2.out.length_eq; rw [hn'.out, List.length_cons] at this; omega
      clear hown4 hgr4 hor4 hk34 hs4
      go_wp2_with fail
      exact ⟨⟨R ++ [r], L2, v2, HN⟩, by rw [HM4.out, HM.out]; omega⟩
    · have hL0 : L' = [] := List.length_eq_zero_iff.1 (by rw [hn'.out]; omega)
      have h0' : (n' : Int) ≤ 0 := by omega
      have hn0 : n' = 0 := by omega
      subst hn0
      have HPM : Hid (R.Perm L) := hid (by have := HI.out.perm; rw [hL0, List.append_nil] at this; exact this.symm)
      go_wp2_with fail
      go_ret
      exact ⟨_, rfl, R, HI.out.lv.j, HI.out.ex, HPM.out, HI.out.own, HI.out.rows, fun o q => (HI.out.hp o q).2.1⟩
end
end Go.Proofs.Ytajdopmhdagehaa.Ds
