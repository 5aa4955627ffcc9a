/- HeapSorts, walked. -/
import Derived.Test.YtcgkcappfjhikaaHpRefS
import Derived.Test.YtcgkcappfjhikaaHpLives
import Derived.Test.YtcgkcappfjhikaaIntsB
import Derived.Deep.RegionHeld
set_option linter.unusedVariables false
set_option linter.unusedSimpArgs false
namespace Go.Proofs.Ytcgkcappfjhikaa
open Go Go.RowKit
/-- The items of a list in order. -/
def srtP (d : Int) (l : List Int) (P : List (Nat × Int)) : Prop := P.Perm (idxL l l.length) ∧ P.Pairwise (ahp (keyB d))
theorem ahp_asym {key : Int → Int} {p q : Nat × Int} (h : ahp key p q) (h' : ahp key q p) : p = q := by unfold ahp at *; omega
theorem srtP.uniq {d : Int} {l : List Int} {P Q : List (Nat × Int)} (h : srtP d l P) (h' : srtP d l Q) : P = Q :=
  List.Perm.eq_of_pairwise (fun _ _ _ _ h1 h2 => ahp_asym h1 h2) h.2 h'.2 (h.1.trans h'.1.symm)
theorem srtP.length {d : Int} {l : List Int} {P : List (Nat × Int)} (h : srtP d l P) : P.length = l.length := by rw [h.1.length_eq, idxL_length]
theorem srtP.in64 {d : Int} {l : List Int} {P : List (Nat × Int)} (h : srtP d l P) (hl : ∀ x ∈ l, In64 x) : ∀ x ∈ P.map (·.2), In64 x := fun x hx => by
  obtain ⟨p, hp, rfl⟩ := List.mem_map.1 hx
  exact idxL_in hl p (h.1.subset hp)
theorem pw_prR {key : Int → Int} {R : List (Rw Int)} (h : R.Pairwise (ahd key)) : (R.map prR).Pairwise (ahp key) := List.pairwise_map.2 h
theorem SdQ.own {d : Int} {J : World → Prop} {U : Nat → Prop} {w w' : World} {l : List Int} {vo : Value} (h : SdQ True (keyB d) J U w l vo w') : ∃ P, srtP d l P ∧ w'.ownsRow w.heap.size 3 1 vo l.length ((P.map (·.2)).map (Value.int .i64)) ∧ J w' ∧ Ex U w w' := by
  obtain ⟨R, h1, h2, h3, h4⟩ := h
  refine ⟨R.map prR, ⟨h2.1, pw_prR (h2.2 trivial)⟩, ?_, h3, h4⟩
  have e : (R.map prR).map (·.2) = R.map (·.x) := by rw [List.map_map]; rfl
  rw [e]
  exact h1
/-- An order asked for a list: its box, then the list put in order. -/
theorem box_below {w w3 w4 : World} {d : Int} (hw3 : w3 = w.drew.alloc (.cells #[.int .i64 d] 3)) (he : Ex (fun k => k = w.heap.size) w3 w4) : Below w.heap.size w w4 ∧ w.heap.size ≤ w3.heap.size ∧ OrJ w.heap.size d w3 := by
  subst hw3
  have b : Below w.heap.size w (w.drew.alloc (.cells #[.int .i64 d] 3)) := ⟨rfl, rfl, rfl, by simp, fun k hk => heap_alloc_old w.drew _ hk⟩
  refine ⟨b.trans (he.below (by simp) (fun k hk => by have : k = w.heap.size := hk; omega)), by simp, heap_alloc_new w.drew _⟩
theorem own_zero {w : World} {B e : Nat} {v : Value} {xs : List Value} (h : w.ownsRow B e 1 v 0 xs) : True := trivial
theorem own_HB {W : World} {B n : Nat} {p : Option Addr} {c : Nat} {M : List Int} (hMl : M.length = n) (hin : ∀ x ∈ M, In64 x) (h : W.ownsRow B 3 1 (.slice p n c) n (M.map (Value.int .i64))) : I.HB W (.slice p n c) M := by
  subst hMl
  exact I.HB.of_own h hin
theorem same_M {W : World} {B B' n : Nat} {p p' : Option Addr} {c c' : Nat} {M : List Int} (hMl : M.length = n) (hin : ∀ x ∈ M, In64 x) (h : W.ownsRow B 3 1 (.slice p n c) n (M.map (Value.int .i64))) (h' : W.ownsRow B' 3 1 (.slice p' n c') n (M.map (Value.int .i64))) :
    Calls Try.prog 19 #[.slice p n c, .slice p' n c'] W fun e w' => e = .returned (.bool true) ∧ Dr W w' := by
  have := I.sameBytes_any W _ _ M M (own_HB hMl hin h) (own_HB hMl hin h')
  rw [decide_eq_true rfl] at this
  exact this
theorem own_other11 {w w' : World} {B n g : Nat} {e : TypeId} {v : Value} {xs : List Value} (h : w.ownsRow B e 1 v n xs) (hg : w.grownBy w' (some g)) (hb : g < B) : w'.ownsRow B e 1 v n xs :=
  h.kept hg (by
    rcases none_or v.ownBlock with q | q
    · exact .inl q
    · exact .inr fun e => by have := (h.lt g e).1; omega)
set_option maxRecDepth 100000 in
set_option maxHeartbeats 8000000 in
theorem hsorts_walk (w : World) (d : Int) (vl : Value) (l : List Int) (hd : In64 d) (hl : I.HB w vl l) (hbig : l.length ≤ 1048576) :
    Calls Try.prog 4 #[.int .i64 d, vl] w fun e w' => e = .returned (.bool true) ∧ Below w.heap.size w w' := by
  have C0 := hid (lives_any w)
  have HDD := hid hd
  have HL := hid hl
  have HIN : Hid (∀ x ∈ l, In64 x) := hid fun x hx => hl.2 x hx
  obtain ⟨pl, cl, hvl, _, _⟩ := hl.open
  subst hvl
  clear hl hd
  obtain ⟨n, hn⟩ : ∃ n, Hid (l.length = n) := ⟨_, rfl⟩
  have hbn : n ≤ 1048576 := by rw [← hn.out]; exact hbig
  go_enter Try.func4, Try.ntmps4
  go_wp2_with fail
  refine C0.out.mono ?_
  rintro e w1 ⟨rfl, hb1⟩
  have B1 := hid hb1
  have HL1 := hid (HL.out.below hb1)
  have CLe := hid (I.lent_any w1 _ l HL1.out (by omega))
  clear hb1 C0
  go_wp2_with fail
  refine CLe.out.mono ?_
  rintro e w2 ⟨vf, rfl, hf2, hb2⟩
  obtain ⟨gf, cf, hvf, hgf1, hgf2, hcf1, hcf2, hp2, hfull2⟩ := I.lent_part hf2 HL.out.2
  subst hvf
  have hb2w : Below w.heap.size w w2 := B1.out.trans (hb2.mono B1.out.size)
  have B2 := hid hb2w
  have HL2 := hid (HL.out.below hb2w)
  have HF2 := hid hf2
  have HP2 := hid hp2
  have HFU2 := hid hfull2
  rw [hn.out] at hcf1 HP2 HFU2
  have hwgf : w.heap.size ≤ gf := Nat.le_trans B1.out.size hgf1
  have hg2 : gf < w2.heap.size := hgf2
  have hnc : n ≤ cf := by omega
  have hnc' : (n : Int) ≤ (cf : Int) := by omega
  clear hb2 hf2 hp2 hfull2 CLe hb2w hgf2
  rw [hn.out]
  go_wp2_with fail
  refine wp_region_held_drew (S := (fun _ : World => True)) (by kernel_rfl) trivial (fun hHeld => ?_)
  have HS := hid hHeld
  clear hHeld
  change wpAnyH _ _ _ _ _ _ _ _ (World.drew _)
  refine wpAnyH_take (i := 0) (v := ?_) rfl (by kernel_rfl) (by kernel_rfl) (by kernel_rfl) (fun _ _ _ h => h) (Or.inl ⟨by rfl, ?q0⟩) HS.out ?_
  case q0 => intro w hSw; go_simp; rfl
  simp only [Act.put, List.getElem_toArray, List.getElem_cons_zero, List.getElem_cons_succ, List.setIfInBounds_toArray, List.set_cons_zero, List.set_cons_succ]
  refine wpAnyH_take (i := 1) (v := ?_) rfl (by kernel_rfl) (by kernel_rfl) (by kernel_rfl) (fun _ _ _ h => h) (Or.inl ⟨by rfl, ?q1⟩) HS.out ?_
  case q1 => intro w hSw; go_simp; rfl
  simp only [Act.put, List.getElem_toArray, List.getElem_cons_zero, List.getElem_cons_succ, List.setIfInBounds_toArray, List.set_cons_zero, List.set_cons_succ]
  refine wpAnyH_take (i := 2) (v := ?_) rfl (by kernel_rfl) (by kernel_rfl) (by kernel_rfl) (fun _ _ _ h => h) (Or.inl ⟨by rfl, ?q2⟩) HS.out ?_
  case q2 => intro w hSw; go_simp; rfl
  simp only [Act.put, List.getElem_toArray, List.getElem_cons_zero, List.getElem_cons_succ, List.setIfInBounds_toArray, List.set_cons_zero, List.set_cons_succ]
  refine wpAnyH_take (i := 3) (v := ?_) rfl (by kernel_rfl) (by kernel_rfl) (by kernel_rfl) (fun _ _ _ h => h) (Or.inl ⟨by rfl, ?q3⟩) HS.out ?_
  case q3 => intro w hSw; go_simp; rfl
  simp only [Act.put, List.getElem_toArray, List.getElem_cons_zero, List.getElem_cons_succ, List.setIfInBounds_toArray, List.set_cons_zero, List.set_cons_succ]
  refine wpAnyH_take (i := 4) (v := ?_) rfl (by kernel_rfl) (by kernel_rfl) (by kernel_rfl) (fun _ _ _ h => h) (Or.inl ⟨by rfl, ?q4⟩) HS.out ?_
  case q4 => intro w hSw; go_simp; rfl
  simp only [Act.put, List.getElem_toArray, List.getElem_cons_zero, List.getElem_cons_succ, List.setIfInBounds_toArray, List.set_cons_zero, List.set_cons_succ]
  refine wpAnyH_ready (rs := [5]) (by kernel_rfl) (by simp) ?_
  refine AllReadyH.cons rfl (fun K hK => ?_) AllReadyH.nil
  replace hK := hid hK
  go_simp
  refine (order_any w2.drew d).mono ?_
  rintro e woA ⟨rfl, hwoA⟩
  have hsA : w2.heap.size ≤ woA.heap.size := by rw [hwoA]; simp
  have hjA : OrJ w2.heap.size d woA := by rw [hwoA]; exact heap_alloc_new w2.drew _
  have hboA : Below w2.heap.size w2 woA := by rw [hwoA]; exact ⟨rfl, rfl, rfl, by simp, fun k hk => heap_alloc_old w2.drew _ hk⟩
  have HWOA := hid hwoA
  clear hwoA
  have CSA := hid (sorted_any (order_orc w2.heap.size d HDD.out) (order_ord d) woA _ l (HP2.out.below hboA) hjA (fun x hx => HP2.out.2 x hx) (by omega))
  refine hK.out _ _ trivial (fun _ => ?_)
  clear hK K
  try (simp only [Act.put, List.getElem_toArray, List.getElem_cons_zero, List.getElem_cons_succ, List.setIfInBounds_toArray, List.set_cons_zero, List.set_cons_succ])
  refine wpAnyH_ready (rs := [6]) (by kernel_rfl) (by simp) ?_
  refine AllReadyH.cons rfl (fun K hK => ?_) AllReadyH.nil
  replace hK := hid hK
  go_simp
  refine CSA.out.mono ?_
  rintro e waA ⟨vaA, rfl, hsdA⟩
  refine hK.out _ _ trivial (fun _ => ?_)
  clear hK K
  try (simp only [Act.put, List.getElem_toArray, List.getElem_cons_zero, List.getElem_cons_succ, List.setIfInBounds_toArray, List.set_cons_zero, List.set_cons_succ])
  refine wpAnyH_take (i := 7) (v := ?_) rfl (by kernel_rfl) (by kernel_rfl) (by kernel_rfl) (fun _ _ _ h => h) (Or.inl ⟨by rfl, ?q7⟩) HS.out ?_
  case q7 => intro w hSw; go_simp; rfl
  simp only [Act.put, List.getElem_toArray, List.getElem_cons_zero, List.getElem_cons_succ, List.setIfInBounds_toArray, List.set_cons_zero, List.set_cons_succ]
  refine wpAnyH_take (i := 8) (v := ?_) rfl (by kernel_rfl) (by kernel_rfl) (by kernel_rfl) (fun _ _ _ h => h) (Or.inl ⟨by rfl, ?q8⟩) HS.out ?_
  case q8 => intro w hSw; go_simp; rfl
  simp only [Act.put, List.getElem_toArray, List.getElem_cons_zero, List.getElem_cons_succ, List.setIfInBounds_toArray, List.set_cons_zero, List.set_cons_succ]
  refine wpAnyH_take (i := 9) (v := ?_) rfl (by kernel_rfl) (by kernel_rfl) (by kernel_rfl) (fun _ _ _ h => h) (Or.inl ⟨by rfl, ?q9⟩) HS.out ?_
  case q9 => intro w hSw; go_simp; rfl
  simp only [Act.put, List.getElem_toArray, List.getElem_cons_zero, List.getElem_cons_succ, List.setIfInBounds_toArray, List.set_cons_zero, List.set_cons_succ]
  refine wpAnyH_take (i := 10) (v := ?_) rfl (by kernel_rfl) (by kernel_rfl) (by kernel_rfl) (fun _ _ _ h => h) (Or.inl ⟨by rfl, ?q10⟩) HS.out ?_
  case q10 => intro w hSw; go_simp; rfl
  simp only [Act.put, List.getElem_toArray, List.getElem_cons_zero, List.getElem_cons_succ, List.setIfInBounds_toArray, List.set_cons_zero, List.set_cons_succ]
  refine wpAnyH_take (i := 11) (v := ?_) rfl (by kernel_rfl) (by kernel_rfl) (by kernel_rfl) (fun _ _ _ h => h) (Or.inl ⟨by rfl, ?q11⟩) HS.out ?_
  case q11 => intro w hSw; go_simp; rfl
  simp only [Act.put, List.getElem_toArray, List.getElem_cons_zero, List.getElem_cons_succ, List.setIfInBounds_toArray, List.set_cons_zero, List.set_cons_succ]
  refine wpAnyH_done (by kernel_rfl) ?_ _
  obtain ⟨PA, hPA, hoA, _, heA⟩ := hsdA.own
  have HBA : Hid (Below w2.heap.size w2 waA) := hid (box_below HWOA.out heA).1
  have HPPA := hid hPA
  have HOA : Hid (waA.ownsRow w2.heap.size 3 1 vaA l.length ((PA.map (·.2)).map (Value.int .i64))) := hid (own_mono hoA hsA)
  clear hsdA hPA hoA heA CSA HWOA hsA hjA hboA HS
  have HAlt : Hid (∀ b, vaA.ownBlock = some b → b < waA.heap.size) := hid fun b hb => (own_ge HOA.out b hb).2
  have hb2A : Below w.heap.size w waA := B2.out.trans (HBA.out.mono B2.out.size)
  have BwA := hid hb2A
  have HPA := hid (HP2.out.below HBA.out)
  clear hb2A
  go_wp2_with fail
  refine wp_region_held_drew (S := (fun _ : World => True)) (by kernel_rfl) trivial (fun hHeld => ?_)
  have HS := hid hHeld
  clear hHeld
  change wpAnyH _ _ _ _ _ _ _ _ (World.drew _)
  refine wpAnyH_take (i := 0) (v := ?_) rfl (by kernel_rfl) (by kernel_rfl) (by kernel_rfl) (fun _ _ _ h => h) (Or.inl ⟨by rfl, ?q0⟩) HS.out ?_
  case q0 => intro w hSw; go_simp; rfl
  simp only [Act.put, List.getElem_toArray, List.getElem_cons_zero, List.getElem_cons_succ, List.setIfInBounds_toArray, List.set_cons_zero, List.set_cons_succ]
  refine wpAnyH_take (i := 1) (v := ?_) rfl (by kernel_rfl) (by kernel_rfl) (by kernel_rfl) (fun _ _ _ h => h) (Or.inl ⟨by rfl, ?q1⟩) HS.out ?_
  case q1 => intro w hSw; go_simp; rfl
  simp only [Act.put, List.getElem_toArray, List.getElem_cons_zero, List.getElem_cons_succ, List.setIfInBounds_toArray, List.set_cons_zero, List.set_cons_succ]
  refine wpAnyH_take (i := 2) (v := ?_) rfl (by kernel_rfl) (by kernel_rfl) (by kernel_rfl) (fun _ _ _ h => h) (Or.inl ⟨by rfl, ?q2⟩) HS.out ?_
  case q2 => intro w hSw; go_simp; rfl
  simp only [Act.put, List.getElem_toArray, List.getElem_cons_zero, List.getElem_cons_succ, List.setIfInBounds_toArray, List.set_cons_zero, List.set_cons_succ]
  refine wpAnyH_take (i := 3) (v := ?_) rfl (by kernel_rfl) (by kernel_rfl) (by kernel_rfl) (fun _ _ _ h => h) (Or.inl ⟨by rfl, ?q3⟩) HS.out ?_
  case q3 => intro w hSw; go_simp; rfl
  simp only [Act.put, List.getElem_toArray, List.getElem_cons_zero, List.getElem_cons_succ, List.setIfInBounds_toArray, List.set_cons_zero, List.set_cons_succ]
  refine wpAnyH_take (i := 4) (v := ?_) rfl (by kernel_rfl) (by kernel_rfl) (by kernel_rfl) (fun _ _ _ h => h) (Or.inl ⟨by rfl, ?q4⟩) HS.out ?_
  case q4 => intro w hSw; go_simp; rfl
  simp only [Act.put, List.getElem_toArray, List.getElem_cons_zero, List.getElem_cons_succ, List.setIfInBounds_toArray, List.set_cons_zero, List.set_cons_succ]
  refine wpAnyH_ready (rs := [5]) (by kernel_rfl) (by simp) ?_
  refine AllReadyH.cons rfl (fun K hK => ?_) AllReadyH.nil
  replace hK := hid hK
  go_simp
  refine (order_any waA.drew d).mono ?_
  rintro e woB ⟨rfl, hwoB⟩
  have hsB : waA.heap.size ≤ woB.heap.size := by rw [hwoB]; simp
  have hjB : OrJ waA.heap.size d woB := by rw [hwoB]; exact heap_alloc_new waA.drew _
  have hboB : Below waA.heap.size waA woB := by rw [hwoB]; exact ⟨rfl, rfl, rfl, by simp, fun k hk => heap_alloc_old waA.drew _ hk⟩
  have HWOB := hid hwoB
  clear hwoB
  have CSB := hid (sorted_any (order_orc waA.heap.size d HDD.out) (order_ord d) woB _ l (HPA.out.below hboB) hjB (fun x hx => HPA.out.2 x hx) (by omega))
  refine hK.out _ _ trivial (fun _ => ?_)
  clear hK K
  try (simp only [Act.put, List.getElem_toArray, List.getElem_cons_zero, List.getElem_cons_succ, List.setIfInBounds_toArray, List.set_cons_zero, List.set_cons_succ])
  refine wpAnyH_ready (rs := [6]) (by kernel_rfl) (by simp) ?_
  refine AllReadyH.cons rfl (fun K hK => ?_) AllReadyH.nil
  replace hK := hid hK
  go_simp
  refine CSB.out.mono ?_
  rintro e waB ⟨vaB, rfl, hsdB⟩
  refine hK.out _ _ trivial (fun _ => ?_)
  clear hK K
  try (simp only [Act.put, List.getElem_toArray, List.getElem_cons_zero, List.getElem_cons_succ, List.setIfInBounds_toArray, List.set_cons_zero, List.set_cons_succ])
  refine wpAnyH_take (i := 7) (v := ?_) rfl (by kernel_rfl) (by kernel_rfl) (by kernel_rfl) (fun _ _ _ h => h) (Or.inl ⟨by rfl, ?q7⟩) HS.out ?_
  case q7 => intro w hSw; go_simp; rfl
  simp only [Act.put, List.getElem_toArray, List.getElem_cons_zero, List.getElem_cons_succ, List.setIfInBounds_toArray, List.set_cons_zero, List.set_cons_succ]
  refine wpAnyH_take (i := 8) (v := ?_) rfl (by kernel_rfl) (by kernel_rfl) (by kernel_rfl) (fun _ _ _ h => h) (Or.inl ⟨by rfl, ?q8⟩) HS.out ?_
  case q8 => intro w hSw; go_simp; rfl
  simp only [Act.put, List.getElem_toArray, List.getElem_cons_zero, List.getElem_cons_succ, List.setIfInBounds_toArray, List.set_cons_zero, List.set_cons_succ]
  refine wpAnyH_take (i := 9) (v := ?_) rfl (by kernel_rfl) (by kernel_rfl) (by kernel_rfl) (fun _ _ _ h => h) (Or.inl ⟨by rfl, ?q9⟩) HS.out ?_
  case q9 => intro w hSw; go_simp; rfl
  simp only [Act.put, List.getElem_toArray, List.getElem_cons_zero, List.getElem_cons_succ, List.setIfInBounds_toArray, List.set_cons_zero, List.set_cons_succ]
  refine wpAnyH_take (i := 10) (v := ?_) rfl (by kernel_rfl) (by kernel_rfl) (by kernel_rfl) (fun _ _ _ h => h) (Or.inl ⟨by rfl, ?q10⟩) HS.out ?_
  case q10 => intro w hSw; go_simp; rfl
  simp only [Act.put, List.getElem_toArray, List.getElem_cons_zero, List.getElem_cons_succ, List.setIfInBounds_toArray, List.set_cons_zero, List.set_cons_succ]
  refine wpAnyH_take (i := 11) (v := ?_) rfl (by kernel_rfl) (by kernel_rfl) (by kernel_rfl) (fun _ _ _ h => h) (Or.inl ⟨by rfl, ?q11⟩) HS.out ?_
  case q11 => intro w hSw; go_simp; rfl
  simp only [Act.put, List.getElem_toArray, List.getElem_cons_zero, List.getElem_cons_succ, List.setIfInBounds_toArray, List.set_cons_zero, List.set_cons_succ]
  refine wpAnyH_done (by kernel_rfl) ?_ _
  obtain ⟨PB, hPB, hoB, _, heB⟩ := hsdB.own
  have HBB : Hid (Below waA.heap.size waA waB) := hid (box_below HWOB.out heB).1
  have HPPB := hid hPB
  have HOB : Hid (waB.ownsRow waA.heap.size 3 1 vaB l.length ((PB.map (·.2)).map (Value.int .i64))) := hid (own_mono hoB hsB)
  clear hsdB hPB hoB heB CSB HWOB hsB hjB hboB HS
  have HBlt : Hid (∀ b, vaB.ownBlock = some b → b < waB.heap.size) := hid fun b hb => (own_ge HOB.out b hb).2
  have BwB : Hid (Below w.heap.size w waB) := hid (BwA.out.trans (HBB.out.mono BwA.out.size))
  have hsA : w2.heap.size ≤ waA.heap.size := HBA.out.size
  have hsB : waA.heap.size ≤ waB.heap.size := HBB.out.size
  have e1 : PB = PA := HPPB.out.uniq HPPA.out
  subst e1
  have HLB := hid (HL.out.below BwB.out)
  have CR := hid (rsorted_ok waB d _ l HLB.out HDD.out (by omega))
  rw [hn.out] at CR
  go_wp2_with fail
  refine CR.out.mono ?_
  rintro e w7 ⟨vw, rfl, PW, hPW1, hPW2, how, hb7⟩
  have e2 : PW = PB := srtP.uniq ⟨hPW1, hPW2⟩ HPPB.out
  subst e2
  have HB7 := hid hb7
  have Bw7 : Hid (Below w.heap.size w w7) := hid (BwB.out.trans (hb7.mono BwB.out.size))
  have hs7 : waB.heap.size ≤ w7.heap.size := hb7.size
  obtain ⟨M, HM⟩ : ∃ M, Hid (PW.map (·.2) = M) := ⟨_, rfl⟩
  have HMin : Hid (∀ x ∈ M, In64 x) := hid (by rw [← HM.out]; exact HPPB.out.in64 HIN.out)
  have hMl : M.length = n := by rw [← HM.out, List.length_map, HPPB.out.length, hn.out]
  have hA7 : w7.ownsRow w2.heap.size 3 1 vaA M.length (M.map (Value.int .i64)) := by
    have q := HOA.out
    rw [HM.out, hn.out, ← hMl] at q
    exact own_below q ((HBB.out.mono (by omega)).trans (hb7.mono (by omega)) |> fun h => ⟨h.os, h.tape, h.output, h.size, fun k hk => h.block k hk⟩)
  have hB7 : w7.ownsRow waA.heap.size 3 1 vaB M.length (M.map (Value.int .i64)) := by
    have q := HOB.out
    rw [HM.out, hn.out, ← hMl] at q
    exact own_below q hb7
  have hW7 : w7.ownsRow waB.heap.size 3 1 vw M.length (M.map (Value.int .i64)) := by
    have q := how
    rw [HM.out, hn.out, ← hMl] at q
    exact q
  have hF7 : w7.ownsRow w1.heap.size 3 1 (.slice (some ⟨gf, 0, none⟩) (n + 70) cf) (I.lent l).length ((I.lent l).map (Value.int .i64)) := by
    have q := HF2.out
    rw [hn.out] at q
    exact own_below q ((HBA.out.trans (HBB.out.mono (by omega))).trans (hb7.mono (by omega)))
  have HFU7 := hid (I.HB.of_own hF7 (I.lent_byt (fun x hx => HIN.out x hx)))
  have HL7 := hid (HL.out.below Bw7.out)
  have CK := I.kept_any w7 _ _ (I.lent l) l HFU7.out HL7.out (by omega)
  rw [decide_eq_true rfl, hn.out] at CK
  have CK := hid CK
  obtain ⟨pA, cA, hvA⟩ := own_slc hA7
  obtain ⟨pB, cB, hvB⟩ := own_slc hB7
  obtain ⟨pW, cW, hvW⟩ := own_slc hW7
  subst hvA hvB hvW
  rw [hMl] at hA7 hB7 hW7 HAlt HBlt
  rw [hMl]
  have HA7 := hid hA7
  have HBb7 := hid hB7
  have HW7 := hid hW7
  have HF7 := hid hF7
  clear hA7 hB7 hW7 hF7 how hPW1 hPW2 hb7 CR HOA HOB HLB HPA
  go_wp2_with fail
  refine CK.out.mono ?_
  rintro e w8 ⟨rfl, hb8⟩
  have Bw8 : Hid (Below w.heap.size w w8) := hid (Bw7.out.trans (hb8.mono Bw7.out.size))
  have hs8 := hb8.size
  have HA8 := hid (own_below HA7.out hb8)
  have HBb8 := hid (own_below HBb7.out hb8)
  have HW8 := hid (own_below HW7.out hb8)
  have HF8 := hid (own_below HF7.out hb8)
  have CS1 := hid (same_M hMl HMin.out HA8.out HW8.out)
  clear hb8 CK HA7 HBb7 HW7 HF7
  go_wp2_with fail
  refine CS1.out.mono ?_
  rintro e w9 ⟨rfl, hd9⟩
  have hd9' := hd9.below w8.heap.size
  have CS2 := hid (same_M hMl HMin.out (own_below HBb8.out hd9') (own_below HW8.out hd9'))
  have HD9 := hid hd9
  clear hd9' hd9 CS1
  go_wp2_with fail
  refine CS2.out.mono ?_
  rintro e w10 ⟨rfl, hd10⟩
  have hd8 : Dr w8 w10 := HD9.out.trans hd10
  have hb10 := hd8.below w8.heap.size
  have Bw10 : Hid (Below w.heap.size w w10) := hid (Bw8.out.trans (hb10.mono Bw8.out.size))
  have HA10 := hid (own_below HA8.out hb10)
  have HBb10 := hid (own_below HBb8.out hb10)
  have HW10 := hid (own_below HW8.out hb10)
  have hF10 := own_below HF8.out hb10
  have hs10 : w8.heap.size ≤ w10.heap.size := hb10.size
  have CO := hid (I.over_byt w10 w1.heap.size _ (I.lent l) hF10 (I.lent_byt (fun x hx => HIN.out x hx)) (by rw [I.lent_length]; omega))
  have hll : (I.lent l).length = n + 70 := by rw [I.lent_length, hn.out]
  rw [hll] at CO
  clear hd10 hb10 hd8 hF10 CS2 HA8 HBb8 HW8 HF8 HD9
  go_wp2_with fail
  refine CO.out.mono ?_
  rintro e w11 ⟨rfl, ⟨l2, hl2, hl2in, hF11⟩, hgr11⟩
  have hgr : w10.grownBy w11 (some gf) := hgr11
  have Bw11 : Hid (Below w.heap.size w w11) := hid (Bw10.out.grown hgr Bw10.out.size (fun x e => by cases e; exact hwgf))
  have HA11 := hid (own_other11 HA10.out hgr (by omega))
  have HBb11 := hid (own_other11 HBb10.out hgr (by omega))
  have HW11 := hid (own_other11 HW10.out hgr (by omega))
  have hs11 : w10.heap.size ≤ w11.heap.size := hgr11.size
  have HPC : Hid (I.HB w11 (.slice (some ⟨gf, 0, none⟩) n cf) (l2.take n)) := by
    have q : w11.ownsRow w1.heap.size 3 1 (.slice (some ⟨gf, 0, none⟩) (n + 70) cf) l2.length (l2.map (Value.int .i64)) := by rw [hl2]; exact hF11
    exact hid (I.own_pre q hl2in n (by omega) hnc)
  obtain ⟨L2, HL2'⟩ : ∃ L2, Hid (l2.take n = L2) := ⟨_, rfl⟩
  rw [HL2'.out] at HPC
  have hL2l : L2.length = n := by rw [← HL2'.out, List.length_take]; omega
  clear hF11 hgr hgr11 CO HA10 HBb10 HW10 hl2 hl2in HL2'
  go_wp2_with fail
  refine wp_region_held_drew (S := (fun _ : World => True)) (by kernel_rfl) trivial (fun hHeld => ?_)
  have HS := hid hHeld
  clear hHeld
  change wpAnyH _ _ _ _ _ _ _ _ (World.drew _)
  refine wpAnyH_take (i := 0) (v := ?_) rfl (by kernel_rfl) (by kernel_rfl) (by kernel_rfl) (fun _ _ _ h => h) (Or.inl ⟨by rfl, ?q0⟩) HS.out ?_
  case q0 => intro w hSw; go_simp; rfl
  simp only [Act.put, List.getElem_toArray, List.getElem_cons_zero, List.getElem_cons_succ, List.setIfInBounds_toArray, List.set_cons_zero, List.set_cons_succ]
  refine wpAnyH_take (i := 1) (v := ?_) rfl (by kernel_rfl) (by kernel_rfl) (by kernel_rfl) (fun _ _ _ h => h) (Or.inl ⟨by rfl, ?q1⟩) HS.out ?_
  case q1 => intro w hSw; go_simp; rfl
  simp only [Act.put, List.getElem_toArray, List.getElem_cons_zero, List.getElem_cons_succ, List.setIfInBounds_toArray, List.set_cons_zero, List.set_cons_succ]
  refine wpAnyH_take (i := 2) (v := ?_) rfl (by kernel_rfl) (by kernel_rfl) (by kernel_rfl) (fun _ _ _ h => h) (Or.inl ⟨by rfl, ?q2⟩) HS.out ?_
  case q2 => intro w hSw; go_simp; rfl
  simp only [Act.put, List.getElem_toArray, List.getElem_cons_zero, List.getElem_cons_succ, List.setIfInBounds_toArray, List.set_cons_zero, List.set_cons_succ]
  refine wpAnyH_take (i := 3) (v := ?_) rfl (by kernel_rfl) (by kernel_rfl) (by kernel_rfl) (fun _ _ _ h => h) (Or.inl ⟨by rfl, ?q3⟩) HS.out ?_
  case q3 => intro w hSw; go_simp; rfl
  simp only [Act.put, List.getElem_toArray, List.getElem_cons_zero, List.getElem_cons_succ, List.setIfInBounds_toArray, List.set_cons_zero, List.set_cons_succ]
  refine wpAnyH_take (i := 4) (v := ?_) rfl (by kernel_rfl) (by kernel_rfl) (by kernel_rfl) (fun _ _ _ h => h) (Or.inl ⟨by rfl, ?q4⟩) HS.out ?_
  case q4 => intro w hSw; go_simp; rfl
  simp only [Act.put, List.getElem_toArray, List.getElem_cons_zero, List.getElem_cons_succ, List.setIfInBounds_toArray, List.set_cons_zero, List.set_cons_succ]
  refine wpAnyH_ready (rs := [5]) (by kernel_rfl) (by simp) ?_
  refine AllReadyH.cons rfl (fun K hK => ?_) AllReadyH.nil
  replace hK := hid hK
  go_simp
  refine (order_any w11.drew d).mono ?_
  rintro e woC ⟨rfl, hwoC⟩
  have hsC : w11.heap.size ≤ woC.heap.size := by rw [hwoC]; simp
  have hjC : OrJ w11.heap.size d woC := by rw [hwoC]; exact heap_alloc_new w11.drew _
  have hboC : Below w11.heap.size w11 woC := by rw [hwoC]; exact ⟨rfl, rfl, rfl, by simp, fun k hk => heap_alloc_old w11.drew _ hk⟩
  have HWOC := hid hwoC
  clear hwoC
  have CSC := hid (sorted_any (order_orc w11.heap.size d HDD.out) (order_ord d) woC _ L2 (HPC.out.below hboC) hjC (fun x hx => HPC.out.2 x hx) (by omega))
  refine hK.out _ _ trivial (fun _ => ?_)
  clear hK K
  try (simp only [Act.put, List.getElem_toArray, List.getElem_cons_zero, List.getElem_cons_succ, List.setIfInBounds_toArray, List.set_cons_zero, List.set_cons_succ])
  refine wpAnyH_ready (rs := [6]) (by kernel_rfl) (by simp) ?_
  refine AllReadyH.cons rfl (fun K hK => ?_) AllReadyH.nil
  replace hK := hid hK
  go_simp
  refine CSC.out.mono ?_
  rintro e waC ⟨vaC, rfl, hsdC⟩
  refine hK.out _ _ trivial (fun _ => ?_)
  clear hK K
  try (simp only [Act.put, List.getElem_toArray, List.getElem_cons_zero, List.getElem_cons_succ, List.setIfInBounds_toArray, List.set_cons_zero, List.set_cons_succ])
  refine wpAnyH_take (i := 7) (v := ?_) rfl (by kernel_rfl) (by kernel_rfl) (by kernel_rfl) (fun _ _ _ h => h) (Or.inl ⟨by rfl, ?q7⟩) HS.out ?_
  case q7 => intro w hSw; go_simp; rfl
  simp only [Act.put, List.getElem_toArray, List.getElem_cons_zero, List.getElem_cons_succ, List.setIfInBounds_toArray, List.set_cons_zero, List.set_cons_succ]
  refine wpAnyH_take (i := 8) (v := ?_) rfl (by kernel_rfl) (by kernel_rfl) (by kernel_rfl) (fun _ _ _ h => h) (Or.inl ⟨by rfl, ?q8⟩) HS.out ?_
  case q8 => intro w hSw; go_simp; rfl
  simp only [Act.put, List.getElem_toArray, List.getElem_cons_zero, List.getElem_cons_succ, List.setIfInBounds_toArray, List.set_cons_zero, List.set_cons_succ]
  refine wpAnyH_take (i := 9) (v := ?_) rfl (by kernel_rfl) (by kernel_rfl) (by kernel_rfl) (fun _ _ _ h => h) (Or.inl ⟨by rfl, ?q9⟩) HS.out ?_
  case q9 => intro w hSw; go_simp; rfl
  simp only [Act.put, List.getElem_toArray, List.getElem_cons_zero, List.getElem_cons_succ, List.setIfInBounds_toArray, List.set_cons_zero, List.set_cons_succ]
  refine wpAnyH_take (i := 10) (v := ?_) rfl (by kernel_rfl) (by kernel_rfl) (by kernel_rfl) (fun _ _ _ h => h) (Or.inl ⟨by rfl, ?q10⟩) HS.out ?_
  case q10 => intro w hSw; go_simp; rfl
  simp only [Act.put, List.getElem_toArray, List.getElem_cons_zero, List.getElem_cons_succ, List.setIfInBounds_toArray, List.set_cons_zero, List.set_cons_succ]
  refine wpAnyH_take (i := 11) (v := ?_) rfl (by kernel_rfl) (by kernel_rfl) (by kernel_rfl) (fun _ _ _ h => h) (Or.inl ⟨by rfl, ?q11⟩) HS.out ?_
  case q11 => intro w hSw; go_simp; rfl
  simp only [Act.put, List.getElem_toArray, List.getElem_cons_zero, List.getElem_cons_succ, List.setIfInBounds_toArray, List.set_cons_zero, List.set_cons_succ]
  refine wpAnyH_done (by kernel_rfl) ?_ _
  obtain ⟨PC, hPC, hoC, _, heC⟩ := hsdC.own
  have HBC : Hid (Below w11.heap.size w11 waC) := hid (box_below HWOC.out heC).1
  have HPPC := hid hPC
  have HOC : Hid (waC.ownsRow w11.heap.size 3 1 vaC L2.length ((PC.map (·.2)).map (Value.int .i64))) := hid (own_mono hoC hsC)
  clear hsdC hPC hoC heC CSC HWOC hsC hjC hboC HS
  have BwC : Hid (Below w.heap.size w waC) := hid (Bw11.out.trans (HBC.out.mono Bw11.out.size))
  have hsC : w11.heap.size ≤ waC.heap.size := HBC.out.size
  have HAC := hid (own_below HA11.out HBC.out)
  have HBbC := hid (own_below HBb11.out HBC.out)
  have HWC := hid (own_below HW11.out HBC.out)
  have HPCC := hid (HPC.out.below HBC.out)
  obtain ⟨MC, HMC⟩ : ∃ MC, Hid (PC.map (·.2) = MC) := ⟨_, rfl⟩
  have HMCin : Hid (∀ x ∈ MC, In64 x) := hid (by rw [← HMC.out]; exact HPPC.out.in64 (fun x hx => HPC.out.2 x hx))
  have hMCl : MC.length = n := by rw [← HMC.out, List.length_map, HPPC.out.length, hL2l]
  have hCC : waC.ownsRow w11.heap.size 3 1 vaC n (MC.map (Value.int .i64)) := by
    have q := HOC.out
    rw [HMC.out, hL2l] at q
    exact q
  have HCC := hid hCC
  obtain ⟨pC, cC, hvC⟩ := own_slc hCC
  subst hvC
  clear hCC HOC HA11 HBb11 HW11 HPC
  obtain ⟨NC, HNC⟩ : ∃ N, Hid (waC.heap.size = N) := ⟨_, rfl⟩
  have hO := order_ord d
  have O := order_orc NC d HDD.out
  go_wp2_with fail
  refine (order_any waC d).mono ?_
  rintro e w12 ⟨rfl, hw12⟩
  have hj12 : OrJ NC d w12 := by rw [hw12, ← HNC.out]; exact heap_alloc_new waC _
  have hb12 : Below NC waC w12 := by rw [hw12]; exact (Below.refl _ _).alloc (by rw [HNC.out]; exact Nat.le_refl _) _
  have hs12 : w12.heap.size = NC + 1 := by rw [hw12, ← HNC.out]; show (waC.heap.push _).size = _; rw [Array.size_push]
  have L12 := hid (nh_lv O w12 hj12)
  have B12 := hid hb12
  have HS12 := hid hs12
  have CN := hid (new_ok w12 34 #[.pointer (some ⟨NC, 0, none⟩)])
  clear hw12 hj12 hb12 hs12
  rw [HNC.out]
  go_wp2_with fail
  refine CN.out.mono ?_
  rintro e w13 ⟨rfl, hw13⟩
  have B13 : Hid (Below NC waC w13) := hid (by rw [hw13]; exact B12.out.trans ((nh_ex (fun _ => False) w12 _).below (by have := HS12.out; omega) (fun k hk => hk.elim)))
  rw [← hw13] at L12
  clear hw13 CN
  obtain ⟨S0, HS0⟩ : ∃ S0, Hid ((fun k => w12.heap.size ≤ k ∧ k < w13.heap.size) = S0) := ⟨_, rfl⟩
  rw [HS0.out] at L12
  have hlow0 : Hid (∀ k, S0 k → NC ≤ k) := hid (by rw [← HS0.out]; intro k hk; have := HS12.out; omega)
  clear HS0
  obtain ⟨G, HG⟩ : ∃ G, Hid (w12.heap.size + 1 = G) := ⟨_, rfl⟩
  obtain ⟨Mm, HMm⟩ : ∃ M, Hid (w12.heap.size = M) := ⟨_, rfl⟩
  rw [HG.out, HMm.out] at L12
  rw [HG.out]
  clear HG HMm B12 HS12
  have hbC13 : Below waC.heap.size waC w13 := by rw [HNC.out]; exact B13.out
  have HP13 := hid (HPCC.out.below hbC13)
  have HC13 := hid (own_below HCC.out hbC13)
  have CR2 := hid (rsorted_ok w13 d _ L2 HP13.out HDD.out (by omega))
  clear hbC13
  go_wp2_with fail
  refine CR2.out.mono ?_
  rintro e w14 ⟨vw2, rfl, PX, hPX1, hPX2, hox, hb14⟩
  have e3 : PX = PC := srtP.uniq ⟨hPX1, hPX2⟩ HPPC.out
  subst e3
  have hox' : w14.ownsRow w13.heap.size 3 1 vw2 n (MC.map (Value.int .i64)) := by
    have q := hox
    rw [HMC.out, hL2l] at q
    exact q
  obtain ⟨px, cx, hvx⟩ := own_slc hox'
  subst hvx
  have CS4 := hid (same_M hMCl HMCin.out (own_below HC13.out hb14) hox')
  have B14 : Hid (Below NC waC w14) := hid (B13.out.trans (hb14.mono (by have := B13.out.size; have := HNC.out; omega)))
  have L14 := hid (L12.out.ex (Ex.of_below hb14) (O.stay _ _ L12.out.j (fun k hk => hb14.block k (O.lt _ L12.out.j k hk))))
  clear hox hox' hPX1 hPX2 hb14 CR2 HP13 HC13
  go_wp2_with fail
  refine CS4.out.mono ?_
  rintro e w15 ⟨rfl, hd15⟩
  have B15 : Hid (Below NC waC w15) := hid (B14.out.trans (hd15.below _))
  have L15 := hid (L14.out.ex (Ex.of_below (hd15.below _)) (O.stay _ _ L14.out.j (fun k hk => (hd15.below w14.heap.size).block k (O.lt _ L14.out.j k hk))))
  have hNCw : w.heap.size ≤ NC := by rw [← HNC.out]; exact BwC.out.size
  have HA : Hid (0 < n → ∃ b off, pl = some ⟨b, off, none⟩ ∧ ∀ j, j < n → waC.cell? ⟨b, off + j, none⟩ = some (.int .i64 (l.getD j 0))) := hid fun h0 => by
    obtain ⟨b, off, c', e', _, _, hh⟩ := (HL.out.below BwC.out).ne (by rw [hn.out]; exact h0)
    simp only [Value.slice.injEq, true_and] at e'
    exact ⟨b, off, e'.1, fun j hj => hh j (by rw [hn.out]; exact hj)⟩
  clear hd15 CS4 L14 B14 L12 B13
  go_wp2_with fail
  go_loopw [15] (fun vi wr => ∃ (i : Nat) (L : List (Rw Int)) (v' : Value) (S : Nat → Prop), vi = .int .i64 (i : Int) ∧ i ≤ n ∧ Hid (Lv (OrJ NC d) (fun k => k = NC) In64 34 #[.pointer (some ⟨NC, 0, none⟩)] wr G (ptr G) (some Mm) L i (-1) v' S) ∧ Hid ((L.map prR).Perm (idxL l i)) ∧ Hid (hp (keyB d) L) ∧ Hid (∀ k, S k → NC ≤ k) ∧ Hid (Below NC waC wr)) (fun vi _ => n - (intOf vi).toNat)
  case atStart => exact ⟨0, [], _, S0, rfl, Nat.zero_le _, L15, hid (List.Perm.refl _), hid hp_nil, hlow0, B15⟩
  case round =>
    clear L15 B15
    obtain ⟨i, L, v', S, rfl, hi, HLv, HPM, HHP, HLOW, HBz⟩ := hrel
    have hU : ∀ k, (fun k => k = NC) k → NC ≤ k := fun k hk => by have : k = NC := hk; omega
    have hwz : NC ≤ wr.heap.size := by have := HBz.out.size; have := HNC.out; omega
    by_cases hlt : i < n
    · have hlt' : (i : Int) < (n : Int) := by omega
      obtain ⟨b, off, rfl, hcc⟩ := HA.out (by omega)
      have hc0 := hcc i hlt
      have hci : wr.cell? ⟨b, off + i, none⟩ = some (.int .i64 (l.getD i 0)) := (HBz.out.cell (by rw [← HNC.out]; exact World.block_lt_of_cell? waC _ hc0)).trans hc0
      have hil : i < l.length := by rw [hn.out]; exact hlt
      have hDx := HIN.out _ (getD_mem hil)
      have HSU := hid (idxL_succ l i)
      obtain ⟨x, HX⟩ : ∃ x, Hid (l.getD i 0 = x) := ⟨_, rfl⟩
      rw [HX.out] at hci hDx HSU
      have CP := hid (push_ok O hO HLv.out rfl x hDx (by omega))
      clear hcc hc0 hDx hU
      go_wp2_with fail
      refine CP.out.mono ?_
      rintro e w4 ⟨rfl, L', v2, S', b', hL', hE', hP', hq', hs'⟩
      have HL' := hid hL'
      have HPM' : Hid ((L'.map prR).Perm (idxL l (i + 1))) := hid (by
        rw [HSU.out]
        refine (hP'.map prR).trans ?_
        rw [List.map_cons]
        exact ((HPM.out.cons _).trans (List.perm_append_comm (l₁ := [(i, x)]))))
      have HHP' := hid (hq' trivial HHP.out)
      have HLOW' : Hid (∀ k, S' k → NC ≤ k) := hid fun k hk => by
        rcases hs' k hk with q | q
        · exact HLOW.out k q
        · omega
      have HB4 : Hid (Below NC waC w4) := hid (HBz.out.trans (hE'.down hwz HLOW.out (fun k hk => by have : k = NC := hk; omega)))
      clear CP hL' hE' hP' hq' hs' hci
      go_wp2_with fail
      exact ⟨⟨i + 1, L', v2, S', by go_num, by omega, HL', HPM', HHP', HLOW', HB4⟩, by simp [intOf]; omega⟩
    · have hin : i = n := by omega
      subst hin
      have hge : ¬ (i : Int) < (i : Int) := by omega
      have hN2 : Hid (∀ k, S k → NC ≤ k ∧ k < wr.heap.size) := hid fun k hk => ⟨HLOW.out k hk, HLv.out.hp.lt k hk⟩
      have HLL : Hid (L.length = i) := hid (by have := HPM.out.length_eq; rw [idxL_length, List.length_map] at this; exact this)
      obtain ⟨N2, HN2⟩ : ∃ N, Hid (wr.heap.size = N) := ⟨_, rfl⟩
      have hwz2 : NC < wr.heap.size := O.lt _ HLv.out.j NC rfl
      rw [HN2.out] at hN2 hwz hwz2
      go_wp2_with fail
      go_loopw [16, 17] (fun vo vi wz => ∃ (k : Nat) (Q : List (Nat × Int)) (L : List (Rw Int)) (v' : Value) (S : Nat → Prop), vi = .int .i64 (k : Int) ∧ k ≤ i ∧ N2 ≤ wz.heap.size ∧ Hid (Lv (OrJ NC d) (fun k => k = NC) In64 34 #[.pointer (some ⟨NC, 0, none⟩)] wz G (ptr G) (some Mm) L i (-1) v' S) ∧ Hid ((Q ++ L.map prR).Perm (idxL l i)) ∧ Hid (hp (keyB d) L) ∧ Hid (Q.length = k ∧ Q.Pairwise (ahp (keyB d)) ∧ ∀ q ∈ Q, ∀ r ∈ L, ahp (keyB d) q (prR r)) ∧ Hid (∀ k, S k → NC ≤ k ∧ k < N2) ∧ Hid (wz.ownsRow N2 3 1 vo k ((Q.map (·.2)).map (Value.int .i64))) ∧ Hid (Below NC waC wz)) (fun _ vi _ => i - (intOf vi).toNat)
      case atStart => exact ⟨0, [], L, v', S, rfl, Nat.zero_le _, by rw [HN2.out]; exact Nat.le_refl _, HLv, HPM, HHP, hid ⟨rfl, List.Pairwise.nil, fun q hq => by cases hq⟩, hN2, hid (World.ownsRow_nil _ _ _ _), HBz⟩
      case round =>
        clear HLv HPM HHP HLOW HBz hN2 HLL
        obtain ⟨k, Q, L, v', S, rfl, hk, hNz, HLv, HPM, HHP, HQ, HS2, HO, HBz⟩ := hrel
        by_cases hlt2 : k < i
        · have hlt2' : (k : Int) < (i : Int) := by omega
          have hlL : Q.length + L.length = i := by have := HPM.out.length_eq; rw [idxL_length, List.length_append, List.length_map] at this; exact this
          have hl0 : 0 < L.length := by have := HQ.out.1; omega
          have CP := hid (pop_some O hO HLv.out hl0)
          have HHD : Hid (∀ L', L.Perm (rat L 0 :: L') → ∀ q ∈ L', ahd (keyB d) (rat L 0) q) := hid fun L' hP => hp_head HHP.out hl0 hP HLv.out.hp.one
          have mr := rat_mem hl0
          obtain ⟨r, HR⟩ : ∃ r, Hid (rat L 0 = r) := ⟨_, rfl⟩
          rw [HR.out] at CP HHD mr
          go_wp2_with fail
          refine CP.out.mono ?_
          rintro e w4 ⟨rfl, L', v2, hL', hE', hP', hq'⟩
          have HL' := hid hL'
          have HPM' : Hid (((Q ++ [prR r]) ++ L'.map prR).Perm (idxL l i)) := hid (by
            refine List.Perm.trans ?_ HPM.out
            rw [List.append_assoc]
            refine List.Perm.append_left Q ?_
            exact ((hP'.map prR).symm))
          have HHP' := hid (hq' trivial HHP.out)
          have HQ' : Hid ((Q ++ [prR r]).length = k + 1 ∧ (Q ++ [prR r]).Pairwise (ahp (keyB d)) ∧ ∀ q ∈ Q ++ [prR r], ∀ s ∈ L', ahp (keyB d) q (prR s)) := hid (by
            obtain ⟨z1, z2, z3⟩ := HQ.out
            refine ⟨by simp [z1], ?_, fun q hq s hs => ?_⟩
            · rw [List.pairwise_append]
              exact ⟨z2, List.pairwise_singleton _ _, fun a ha b hb => by rw [List.mem_singleton.1 hb]; exact z3 a ha r mr⟩
            · rcases List.mem_append.1 hq with y | y
              · exact z3 q y s (hP'.symm.subset (List.mem_cons_of_mem _ hs))
              · rw [List.mem_singleton.1 y]; exact HHD.out L' hP' s hs)
          have HS2' : Hid (∀ k, (S k ∧ k ≠ r.b) → NC ≤ k ∧ k < N2) := hid fun k hk => HS2.out k hk.1
          have HO4 : Hid (w4.ownsRow N2 3 1 u16 k ((Q.map (·.2)).map (Value.int .i64))) := hid (own_ex HO.out hE' (fun b hb q => by
            have h1 := (own_ge HO.out b hb).1
            rcases q with q | q
            · have := (HS2.out b q).2; omega
            · have : b = NC := q
              omega))
          have HB4 : Hid (Below NC waC w4) := hid (HBz.out.trans (hE'.down (by omega) (fun k hk => (HS2.out k hk).1) (fun k hk => by have : k = NC := hk; omega)))
          have hs4 : wr.heap.size ≤ w4.heap.size := hE'.size
          obtain ⟨ps, cs, hvs⟩ := own_slc HO.out
          subst hvs
          clear CP hL' hE' hP' hq' mr HO HBz HLv HPM HHP HQ
          go_wp2_with (at_builtin; refine I.wpList_append_byte rfl _ _ rfl N2 _ k _ rfl (HO4.out.alloc _) ⟨w4.heap.size, 0, none⟩ 1 r.x rfl (by simp) ?q1 ?q2 ?_)
          case q1 => omega
          case q2 => first | omega | (show N2 ≤ (w4.heap.push _).size; rw [Array.size_push]; omega) | (simp; omega)
          intro v7 w7 hown7 hgr7 hor7
          have HGE := own_ge HO4.out
          have hk7 : ∀ x, x < N2 → w7.heap[x]? = w4.heap[x]? := fun x hx => (hgr7.block x (by simp; omega) (fun e => by have := (HGE x e.symm).1; omega)).trans (heap_alloc_old w4 _ (by omega))
          have hs7 : w4.heap.size ≤ w7.heap.size := by
            have := hgr7.size
            simp at this
            omega
          have HO7 : Hid (w7.ownsRow N2 3 1 v7 (k + 1) (((Q ++ [prR r]).map (·.2)).map (Value.int .i64))) := hid (by
            have e : ((Q ++ [prR r]).map (·.2)).map (Value.int .i64) = (Q.map (·.2)).map (Value.int .i64) ++ [.int .i64 r.x] := by simp [prR]
            rw [e, List.map_map]
            exact hown7)
          have HL7 := hid (⟨HL'.out.hp.of (fun x hx => hk7 x (HS2.out x hx.1).2), O.stay _ _ HL'.out.j (fun x hx => hk7 x (by have : x = NC := hx; omega)), HL'.out.ap, HL'.out.dm⟩ : Lv (OrJ NC d) (fun k => k = NC) In64 34 #[.pointer (some ⟨NC, 0, none⟩)] w7 G (ptr G) (some Mm) L' i (-1) v2 (fun k => S k ∧ k ≠ r.b))
          have HB7' : Hid (Below NC waC w7) := hid ⟨hgr7.os.trans HB4.out.os, hgr7.tape.trans HB4.out.tape, hgr7.output.trans HB4.out.output, Nat.le_trans HB4.out.size hs7, fun x hx => (hk7 x (by omega)).trans (HB4.out.block x hx)⟩
          obtain ⟨p7, c7, hv7⟩ := own_slc hown7
          subst hv7
          clear hown7 hgr7 hor7 hk7 HGE HL' HO4 HB4
          go_wp2_with fail
          exact ⟨⟨k + 1, Q ++ [prR r], L', v2, _, by go_num, by omega, by omega, HL7, HPM', HHP', HQ', HS2', HO7, HB7'⟩, by simp [intOf]; omega⟩
        · have hki : k = i := by omega
          subst hki
          have hge2 : ¬ (k : Int) < (k : Int) := by omega
          have hL0 : L = [] := List.length_eq_zero_iff.1 (by have := HPM.out.length_eq; rw [idxL_length, List.length_append, List.length_map] at this; have := HQ.out.1; omega)
          subst hL0
          have eQ : Q = PW := srtP.uniq ⟨by have := HPM.out; rw [List.map_nil, List.append_nil, ← hn.out] at this; exact this, HQ.out.2.1⟩ HPPB.out
          have HOut : Hid (wr.ownsRow N2 3 1 u16 k (M.map (Value.int .i64))) := hid (by
            have q := HO.out
            rw [eQ, HM.out] at q
            exact q)
          have hbr : Below waC.heap.size waC wr := by rw [HNC.out]; exact HBz.out
          have HAr := hid (own_below HAC.out hbr)
          have HBr := hid (own_below HBbC.out hbr)
          have HWr := hid (own_below HWC.out hbr)
          have HCr := hid (own_below HCC.out hbr)
          have Bwr : Hid (Below w.heap.size w wr) := hid (BwC.out.trans (HBz.out.mono hNCw))
          obtain ⟨po, co, hvo⟩ := own_slc HOut.out
          subst hvo
          have CS5 := hid (same_M hMl HMin.out HOut.out HWr.out)
          clear hbr eQ HO
          go_wp2_with fail
          refine CS5.out.mono ?_
          rintro e w16 ⟨rfl, hd16⟩
          have L16 := HLv.out.ex (Ex.of_below (hd16.below _)) (O.stay _ _ HLv.out.j (fun x hx => (hd16.below wr.heap.size).block x (O.lt _ HLv.out.j x hx)))
          have CLn := hid (len_ok L16.hp)
          have hb16 := hd16.below wr.heap.size
          have HA16 := hid (own_below HAr.out hb16)
          have HB16 := hid (own_below HBr.out hb16)
          have HW16 := hid (own_below HWr.out hb16)
          have HC16 := hid (own_below HCr.out hb16)
          have Bw16 : Hid (Below w.heap.size w w16) := hid (Bwr.out.trans (hd16.below _))
          have hs16 : wr.heap.size ≤ w16.heap.size := hb16.size
          clear hd16 hb16 L16 CS5 HAr HBr HWr HCr
          go_wp2_with fail
          refine CLn.out.mono ?_
          rintro e w17 ⟨rfl, hw17⟩
          rw [hw17]
          clear hw17 CLn
          have CS6 := hid (same_M hMl HMin.out HA16.out HW16.out)
          go_wp2_with fail
          refine CS6.out.mono ?_
          rintro e w18 ⟨rfl, hd18⟩
          have hb18 := hd18.below w16.heap.size
          have HA18 := own_below HA16.out hb18
          have HB18 := own_below HB16.out hb18
          have HC18 := own_below HC16.out hb18
          have Bw18 : Hid (Below w.heap.size w w18) := hid (Bw16.out.trans (hd18.below _))
          have hs18 : w16.heap.size ≤ w18.heap.size := hb18.size
          have hgA := own_ge HA18
          have hgB := own_ge HB18
          have hgC := own_ge HC18
          obtain ⟨w19, HW19⟩ : ∃ w19, Hid (w18.alloc (.cells #[.slice pA k cA, .slice pB k cB, .slice pC k cC] 42) = w19) := ⟨_, rfl⟩
          have hb19 : Below w18.heap.size w18 w19 := by rw [← HW19.out]; exact (Below.refl _ _).alloc (Nat.le_refl _) _
          have hs19 : w18.heap.size ≤ w19.heap.size := hb19.size
          have hHV : I.HV w19 (.slice (some ⟨w18.heap.size, 0, none⟩) 3 3) [.slice pA k cA, .slice pB k cB, .slice pC k cC] := by rw [← HW19.out]; exact I.HV.three w18 _ _ _
          have hApt : I.Apt w2.heap.size w19 [.slice pA k cA, .slice pB k cB, .slice pC k cC] [M, M, MC] := by
            refine ⟨rfl, fun j hj => ?_, fun a b ha hb hab => ?_⟩
            · match j, hj with
              | 0, _ => exact (by rw [show (List.getD [M, M, MC] 0 []).length = k from hMl]; exact own_below HA18 hb19 : w19.ownsRow w2.heap.size 3 1 (.slice pA k cA) (List.getD [M, M, MC] 0 []).length (M.map (Value.int .i64)))
              | 1, _ => exact (by rw [show (List.getD [M, M, MC] 1 []).length = k from hMl]; exact own_mono (own_below HB18 hb19) (by omega) : w19.ownsRow w2.heap.size 3 1 (.slice pB k cB) (List.getD [M, M, MC] 1 []).length (M.map (Value.int .i64)))
              | 2, _ => exact (by rw [show (List.getD [M, M, MC] 2 []).length = k from hMCl]; exact own_mono (own_below HC18 hb19) (by omega) : w19.ownsRow w2.heap.size 3 1 (.slice pC k cC) (List.getD [M, M, MC] 2 []).length (MC.map (Value.int .i64)))
            · have key : ∀ (u v : Value), (∀ x, u.ownBlock = some x → v.ownBlock = some x → False) → u.ownBlock = none ∨ u.ownBlock ≠ v.ownBlock := fun u v h => by
                cases hu : u.ownBlock with
                | none => exact .inl rfl
                | some x => exact .inr fun e => h x hu (e ▸ rfl)
              have AB : ∀ x, (Value.slice pA k cA).ownBlock = some x → (Value.slice pB k cB).ownBlock = some x → False := fun x h1 h2 => by have := HAlt.out x h1; have := (hgB x h2).1; omega
              have AC : ∀ x, (Value.slice pA k cA).ownBlock = some x → (Value.slice pC k cC).ownBlock = some x → False := fun x h1 h2 => by have := HAlt.out x h1; have := (hgC x h2).1; omega
              have BC : ∀ x, (Value.slice pB k cB).ownBlock = some x → (Value.slice pC k cC).ownBlock = some x → False := fun x h1 h2 => by have := HBlt.out x h1; have := (hgC x h2).1; omega
              match a, b, ha, hb, hab with
              | 0, 0, _, _, h => exact absurd rfl h
              | 1, 1, _, _, h => exact absurd rfl h
              | 2, 2, _, _, h => exact absurd rfl h
              | 0, 1, _, _, _ => exact key _ _ AB
              | 1, 0, _, _, _ => exact key _ _ (fun x h1 h2 => AB x h2 h1)
              | 0, 2, _, _, _ => exact key _ _ AC
              | 2, 0, _, _, _ => exact key _ _ (fun x h1 h2 => AC x h2 h1)
              | 1, 2, _, _, _ => exact key _ _ BC
              | 2, 1, _, _, _ => exact key _ _ (fun x h1 h2 => BC x h2 h1)
          have hszA : w2.heap.size ≤ w19.heap.size := by have := HNC.out; omega
          have CAp := hid (I.apart_any w2.heap.size w19 _ _ _ hHV hApt hszA (by simp) (fun j => by
            match j with
            | 0 => exact (by rw [show (List.getD [M, M, MC] 0 []).length = k from hMl]; omega)
            | 1 => exact (by rw [show (List.getD [M, M, MC] 1 []).length = k from hMl]; omega)
            | 2 => exact (by rw [show (List.getD [M, M, MC] 2 []).length = k from hMCl]; omega)
            | (j + 3) => simp))
          have Bw19 : Hid (Below w.heap.size w w19) := hid (Bw18.out.trans (hb19.mono Bw18.out.size))
          have hw2w : w.heap.size ≤ w2.heap.size := B2.out.size
          clear hd18 hb18 HA18 HB18 HC18 hgA hgB hgC hb19 hHV hApt CS6
          go_wp2_with fail
          rw [HW19.out]
          refine CAp.out.mono ?_
          rintro e w20 ⟨rfl, hb20⟩
          have HB20 := hid hb20
          clear hb20
          go_wp2_with fail
          go_ret
          exact ⟨rfl, Bw19.out.trans (HB20.out.mono hw2w)⟩
end Go.Proofs.Ytcgkcappfjhikaa
