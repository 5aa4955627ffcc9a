/- Texts laid together: PfWhole, PfPad3, PfNmM, PfNdEq, PfOn. -/
import Derived.Test.YtjmlpkemjafifaaDoorGrPfB
import Derived.Test.YtjmlpkemjafifaaDoorTgPad
import Derived.Test.YtjmlpkemjafifaaDoorGrPfC
import Derived.Test.YtjmlpkemjafifaaDoorGrPfD
import Derived.Test.YtjmlpkemjafifaaDoorGrPfA

/- Whole of a proof, walked: how many nodes are known. -/
set_option linter.unusedVariables false
set_option linter.unusedSimpArgs false
namespace Go.Proofs.YtjmlpkemjafifaaDoor
open Go.RowKit

/-- How many nodes below m are known. -/
def cntK (K : Kn) (m : Nat) : Nat := ((List.range m).filter fun k => (K k).isSome).length
theorem Es.len {l : List MapEntry} {K : Kn} (h : Es l K) (m : Nat) (hm : ∀ k, m ≤ k → K k = none) : l.length = cntK K m := by
  have hn : (((List.range m).filter fun k => (K k).isSome).map fun k : Nat => Value.int .i64 (k : Int)).Nodup := by
    unfold List.Nodup
    rw [List.pairwise_map]
    refine (List.Pairwise.filter _ List.nodup_range).imp ?_
    intro a b hab e
    simp only [Value.int.injEq, true_and] at e
    exact hab (by omega)
  have hp : (l.map (·.key)).Perm (((List.range m).filter fun k => (K k).isSome).map fun k : Nat => Value.int .i64 (k : Int)) := by
    rw [List.perm_ext_iff_of_nodup h.apart hn]
    intro v
    constructor
    · intro hv
      obtain ⟨e, he, rfl⟩ := List.mem_map.1 hv
      obtain ⟨k, d, hk, _, hK, _⟩ := h.keys e he
      refine List.mem_map.2 ⟨k, List.mem_filter.2 ⟨List.mem_range.2 ?_, by rw [hK]; rfl⟩, hk.symm⟩
      apply Classical.byContradiction
      intro hc
      rw [hm k (by omega)] at hK
      cases hK
    · intro hv
      obtain ⟨k, hk, rfl⟩ := List.mem_map.1 hv
      obtain ⟨d, hd⟩ := Option.isSome_iff_exists.1 (List.mem_filter.1 hk).2
      obtain ⟨e, he, hek⟩ := h.all k d hd
      exact List.mem_map.2 ⟨e, he, hek⟩
  have := hp.length_eq
  simpa [cntK] using this
set_option maxRecDepth 100000 in
set_option maxHeartbeats 4000000 in
theorem wh_any (w : World) (g b L W : Nat) (Kk : Kn) (h : HPf w g b L W Kk) (hW : W ≤ 512) (hm : ∀ k, 2 * W ≤ k → Kk k = none) : Calls Tryd.prog 25 #[.pointer (some ⟨g, 0, none⟩)] w fun e w' => e = .returned (.bool (decide ((cntK Kk (2 * W) : Int) = 2 * (W : Int) - 1))) ∧ Below w.heap.size w w' := by
  have CM := hid (fun w' (h' : HPf w' g b L W Kk) => pmade_ok w' g b L W Kk h')
  have HP := hid h
  have ew : IntKind.i64.wrap (2 * (W : Int)) = 2 * (W : Int) := by rw [IntKind.wrap_i64]; omega
  have ew1 : IntKind.i64.wrap (2 * (W : Int) - 1) = 2 * (W : Int) - 1 := by rw [IntKind.wrap_i64]; omega
  obtain ⟨es, ck, hes, hE, _⟩ := h.2
  have hlen : es.size = cntK Kk (2 * W) := by rw [← Array.length_toList]; exact hE.len _ hm
  rw [← hlen]
  have HES := hid hes
  have hsz : es.size ≤ 1024 := by
    rw [hlen]
    exact Nat.le_trans (List.length_filter_le _ _) (by rw [List.length_range]; omega)
  clear h hes hE hm hlen
  go_enter Tryd.func25, Tryd.ntmps25
  go_wp2
  refine wp_region_held_drew (S := fun W' => W'.cell? ⟨g, 1, none⟩ = some (.int .i64 (W : Int)) ∧ W'.cell? ⟨g, 2, none⟩ = some (.map (some b)) ∧ W'.heap[b]? = some (.map es ck)) (by kernel_rfl) ⟨HP.out.c1, HP.out.c2, HES.out⟩ (fun hHeld => ?_)
  have HS := hid hHeld
  clear hHeld
  change wpAnyH _ _ _ _ _ _ _ _ (World.drew _)
  refine wpAnyH_take (i := 0) (v := ?_) rfl (by kernel_rfl) (by kernel_rfl) (by kernel_rfl) (fun _ _ _ h => h) (Or.inl ⟨by rfl, ?q0⟩) HS.out ?_
  case q0 => intro w hSw; obtain ⟨s1, s2, s3⟩ := hSw; go_simp; rfl
  simp only [Act.put, List.getElem_toArray, List.getElem_cons_zero, List.getElem_cons_succ, List.setIfInBounds_toArray, List.set_cons_zero, List.set_cons_succ]
  refine wpAnyH_ready (rs := [1]) (by kernel_rfl) (by simp) ?_
  refine AllReadyH.cons rfl (fun K hK => ?_) AllReadyH.nil
  go_simp
  refine (CM.out w.drew (HP.out.of (w' := w.drew) rfl rfl)).mono ?_
  rintro e w1 ⟨rfl, hB1⟩
  have HP1 := hid ((HP.out.of (w' := World.drew w) rfl rfl).below hB1)
  have HE1 : Hid (w1.heap[b]? = some (.map es ck)) := (hB1.block b (Array.getElem?_eq_some_iff.1 HES.out).1).trans HES.out
  have BL := hid ((Below.refl _ w).drew.trans hB1)
  clear hB1
  refine hK.out _ _ ⟨HP1.out.c1, HP1.out.c2, HE1.out⟩ (fun _ => ?_)
  clear hK K
  have HS : Hid (w1.cell? ⟨g, 1, none⟩ = some (.int .i64 (W : Int)) ∧ w1.cell? ⟨g, 2, none⟩ = some (.map (some b)) ∧ w1.heap[b]? = some (.map es ck)) := ⟨HP1.out.c1, HP1.out.c2, HE1.out⟩
  refine wpAnyH_take (i := 2) (v := .bool true) rfl (by kernel_rfl) (by kernel_rfl) (by kernel_rfl) (fun _ _ _ h => h) (Or.inl ⟨by rfl, ?q2⟩) HS.out ?_
  case q2 => intro w hSw; obtain ⟨s1, s2, s3⟩ := hSw; go_simp
  simp only [Act.put, List.getElem_toArray, List.getElem_cons_zero, List.getElem_cons_succ, List.setIfInBounds_toArray, List.set_cons_zero, List.set_cons_succ]
  refine wpAnyH_take (i := 3) (v := ?_) rfl (by kernel_rfl) (by kernel_rfl) (by kernel_rfl) (fun _ _ _ h => h) (Or.inl ⟨by rfl, ?q3⟩) HS.out ?_
  case q3 => intro w hSw; obtain ⟨s1, s2, s3⟩ := hSw; go_simp; rfl
  simp only [Act.put, List.getElem_toArray, List.getElem_cons_zero, List.getElem_cons_succ, List.setIfInBounds_toArray, List.set_cons_zero, List.set_cons_succ]
  refine wpAnyH_take (i := 4) (v := ?_) rfl (by kernel_rfl) (by kernel_rfl) (by kernel_rfl) (fun _ _ _ h => h) (Or.inl ⟨by rfl, ?q4⟩) HS.out ?_
  case q4 => intro w hSw; obtain ⟨s1, s2, s3⟩ := hSw; go_simp; rfl
  simp only [Act.put, List.getElem_toArray, List.getElem_cons_zero, List.getElem_cons_succ, List.setIfInBounds_toArray, List.set_cons_zero, List.set_cons_succ]
  refine wpAnyH_take (i := 5) (v := ?_) rfl (by kernel_rfl) (by kernel_rfl) (by kernel_rfl) (fun _ _ _ h => h) (Or.inl ⟨by rfl, ?q5⟩) HS.out ?_
  case q5 => intro w hSw; obtain ⟨s1, s2, s3⟩ := hSw; go_simp; rfl
  simp only [Act.put, List.getElem_toArray, List.getElem_cons_zero, List.getElem_cons_succ, List.setIfInBounds_toArray, List.set_cons_zero, List.set_cons_succ]
  refine wpAnyH_take (i := 6) (v := .map (some b)) rfl (by kernel_rfl) (by kernel_rfl) (by kernel_rfl) (fun _ _ _ h => h) (Or.inl ⟨by rfl, ?q6⟩) HS.out ?_
  case q6 => intro w hSw; obtain ⟨s1, s2, s3⟩ := hSw; go_simp
  simp only [Act.put, List.getElem_toArray, List.getElem_cons_zero, List.getElem_cons_succ, List.setIfInBounds_toArray, List.set_cons_zero, List.set_cons_succ]
  refine wpAnyH_take (i := 7) (v := .int .i64 (es.size : Int)) rfl (by kernel_rfl) (by kernel_rfl) (by kernel_rfl) (fun _ _ _ h => h) (Or.inl ⟨by rfl, ?q7⟩) HS.out ?_
  case q7 => intro w hSw; obtain ⟨s1, s2, s3⟩ := hSw; go_simp; erw [run_len_map (h := Tryd.underlying61) (hb := s3)]; rfl
  simp only [Act.put, List.getElem_toArray, List.getElem_cons_zero, List.getElem_cons_succ, List.setIfInBounds_toArray, List.set_cons_zero, List.set_cons_succ]
  refine wpAnyH_take (i := 8) (v := ?_) rfl (by kernel_rfl) (by kernel_rfl) (by kernel_rfl) (fun _ _ _ h => h) (Or.inl ⟨by rfl, ?q8⟩) HS.out ?_
  case q8 => intro w hSw; obtain ⟨s1, s2, s3⟩ := hSw; go_simp; rfl
  simp only [Act.put, List.getElem_toArray, List.getElem_cons_zero, List.getElem_cons_succ, List.setIfInBounds_toArray, List.set_cons_zero, List.set_cons_succ]
  refine wpAnyH_take (i := 9) (v := ?_) rfl (by kernel_rfl) (by kernel_rfl) (by kernel_rfl) (fun _ _ _ h => h) (Or.inl ⟨by rfl, ?q9⟩) HS.out ?_
  case q9 => intro w hSw; obtain ⟨s1, s2, s3⟩ := hSw; go_simp; rfl
  simp only [Act.put, List.getElem_toArray, List.getElem_cons_zero, List.getElem_cons_succ, List.setIfInBounds_toArray, List.set_cons_zero, List.set_cons_succ]
  refine wpAnyH_take (i := 10) (v := ?_) rfl (by kernel_rfl) (by kernel_rfl) (by kernel_rfl) (fun _ _ _ h => h) (Or.inl ⟨by rfl, ?q10⟩) HS.out ?_
  case q10 => intro w hSw; obtain ⟨s1, s2, s3⟩ := hSw; go_simp; rfl
  simp only [Act.put, List.getElem_toArray, List.getElem_cons_zero, List.getElem_cons_succ, List.setIfInBounds_toArray, List.set_cons_zero, List.set_cons_succ]
  refine wpAnyH_take (i := 11) (v := .int .i64 (W : Int)) rfl (by kernel_rfl) (by kernel_rfl) (by kernel_rfl) (fun _ _ _ h => h) (Or.inl ⟨by rfl, ?q11⟩) HS.out ?_
  case q11 => intro w hSw; obtain ⟨s1, s2, s3⟩ := hSw; go_simp
  simp only [Act.put, List.getElem_toArray, List.getElem_cons_zero, List.getElem_cons_succ, List.setIfInBounds_toArray, List.set_cons_zero, List.set_cons_succ]
  refine wpAnyH_take (i := 12) (v := .int .i64 (2 * (W : Int))) rfl (by kernel_rfl) (by kernel_rfl) (by kernel_rfl) (fun _ _ _ h => h) (Or.inl ⟨by rfl, ?q12⟩) HS.out ?_
  case q12 => intro w hSw; obtain ⟨s1, s2, s3⟩ := hSw; go_simp
  simp only [Act.put, List.getElem_toArray, List.getElem_cons_zero, List.getElem_cons_succ, List.setIfInBounds_toArray, List.set_cons_zero, List.set_cons_succ]
  refine wpAnyH_take (i := 13) (v := .int .i64 (2 * (W : Int) - 1)) rfl (by kernel_rfl) (by kernel_rfl) (by kernel_rfl) (fun _ _ _ h => h) (Or.inl ⟨by rfl, ?q13⟩) HS.out ?_
  case q13 => intro w hSw; obtain ⟨s1, s2, s3⟩ := hSw; go_simp
  simp only [Act.put, List.getElem_toArray, List.getElem_cons_zero, List.getElem_cons_succ, List.setIfInBounds_toArray, List.set_cons_zero, List.set_cons_succ]
  refine wpAnyH_take (i := 14) (v := .bool (decide ((es.size : Int) = 2 * (W : Int) - 1))) rfl (by kernel_rfl) (by kernel_rfl) (by kernel_rfl) (fun _ _ _ h => h) (Or.inl ⟨by rfl, ?q14⟩) HS.out ?_
  case q14 => intro w hSw; obtain ⟨s1, s2, s3⟩ := hSw; go_simp; rfl
  simp only [Act.put, List.getElem_toArray, List.getElem_cons_zero, List.getElem_cons_succ, List.setIfInBounds_toArray, List.set_cons_zero, List.set_cons_succ]
  refine wpAnyH_take (i := 15) (v := ?_) rfl (by kernel_rfl) (by kernel_rfl) (by kernel_rfl) (fun _ _ _ h => h) (Or.inl ⟨by rfl, ?q15⟩) HS.out ?_
  case q15 => intro w hSw; obtain ⟨s1, s2, s3⟩ := hSw; go_simp; rfl
  simp only [Act.put, List.getElem_toArray, List.getElem_cons_zero, List.getElem_cons_succ, List.setIfInBounds_toArray, List.set_cons_zero, List.set_cons_succ]
  refine wpAnyH_take (i := 16) (v := ?_) rfl (by kernel_rfl) (by kernel_rfl) (by kernel_rfl) (fun _ _ _ h => h) (Or.inl ⟨by rfl, ?q16⟩) HS.out ?_
  case q16 => intro w hSw; obtain ⟨s1, s2, s3⟩ := hSw; go_simp; rfl
  simp only [Act.put, List.getElem_toArray, List.getElem_cons_zero, List.getElem_cons_succ, List.setIfInBounds_toArray, List.set_cons_zero, List.set_cons_succ]
  refine wpAnyH_done (by kernel_rfl) ?_ _
  go_wp2
  go_ret
  exact ⟨rfl, BL.out⟩
end Go.Proofs.YtjmlpkemjafifaaDoor

/- The digest of pad 3, reckoned step by step. -/
set_option linter.unusedVariables false
namespace Go.Proofs.YtjmlpkemjafifaaDoor

/-- Words of which each is the next are the words. -/
theorem words_is (l : List Int) (W : List Nat) (n : Nat) (hW : W.length = n) (h : ∀ t, t < n → nextW l (W.take t) t = W.getD t 0) : ∀ t, t ≤ n → wordsTo l t = W.take t
  | 0, _ => by simp [wordsTo]
  | t + 1, ht => by
    have hq : t < W.length := by omega
    rw [wordsTo, words_is l W n hW h t (by omega), h t (by omega), List.take_succ_eq_append_getElem hq]
    simp [List.getD, hq]
/-- States of which each is a round of the one before are the rounds. -/
theorem rnds_is (hs ws : List Nat) (R : List (List Nat)) (n : Nat) (h0 : R.getD 0 [] = hs) (h : ∀ t, t < n → rnd (kW.getD t 0) (ws.getD t 0) (R.getD t []) = R.getD (t + 1) []) : ∀ t, t ≤ n → rnds hs ws t = R.getD t []
  | 0, _ => h0.symm
  | t + 1, ht => by rw [rnds, rnds_is hs ws R n h0 h t (by omega), h t (by omega)]
def p3B : List Int := [0, 0, 0, 0, 0, 0, 0, 14, 115, 116, 114, 111, 110, 103, 114, 111, 111, 109, 32, 112, 97, 100, 0, 0, 0, 0, 0, 0, 0, 4, 0, 0, 0, 3, 128, 0, 0, 0, 0, 0, 0, 0, 0, 0, 0, 0, 0, 0, 0, 0, 0, 0, 0, 0, 0, 0, 0, 0, 0, 0, 0, 0, 1, 16]
def p3W : List Nat := [0, 14, 1937011311, 1852273263, 1869422704, 1633943552, 0, 262144, 229376, 0, 0, 0, 0, 0, 0, 272, 469991425, 3434986114, 856169216, 2109270187, 2336771756, 3401826129, 782340079, 2759353303, 3267564905, 1891652523, 1709331111, 2936354072, 769779242, 1789268766, 2492960556, 1886492668, 902385648, 746903312, 3548344784, 4174429526, 2716766202, 1628282660, 3631201527, 1698187198, 1697534000, 1179634990, 2863860907, 2558833056, 740271878, 3125365361, 3024779547, 388437630, 4289360829, 2833909875, 2170083088, 2895029473, 4037841334, 3080763322, 736838162, 2857250929, 2120809127, 653198656, 933508553, 3410833514, 649234483, 3823547081, 2936286691, 494578370]
def p3R : List (List Nat) := [[1779033703, 3144134277, 1013904242, 2773480762, 1359893119, 2600822924, 528734635, 1541459225], [4228417613, 1779033703, 3144134277, 1013904242, 2563236514, 1359893119, 2600822924, 528734635], [2061066910, 4228417613, 1779033703, 3144134277, 2649862692, 2563236514, 1359893119, 2600822924], [891420107, 2061066910, 4228417613, 1779033703, 2259669626, 2649862692, 2563236514, 1359893119], [1503760027, 891420107, 2061066910, 4228417613, 2730135946, 2259669626, 2649862692, 2563236514], [3325600327, 1503760027, 891420107, 2061066910, 605452333, 2730135946, 2259669626, 2649862692], [208001347, 3325600327, 1503760027, 891420107, 820283082, 605452333, 2730135946, 2259669626], [693761355, 208001347, 3325600327, 1503760027, 1945522052, 820283082, 605452333, 2730135946], [2977536337, 693761355, 208001347, 3325600327, 4140243825, 1945522052, 820283082, 605452333], [2745250660, 2977536337, 693761355, 208001347, 4289286411, 4140243825, 1945522052, 820283082], [3974318976, 2745250660, 2977536337, 693761355, 550416420, 4289286411, 4140243825, 1945522052], [235074338, 3974318976, 2745250660, 2977536337, 2875856612, 550416420, 4289286411, 4140243825], [2077383094, 235074338, 3974318976, 2745250660, 1833712384, 2875856612, 550416420, 4289286411], [3971696306, 2077383094, 235074338, 3974318976, 125341028, 1833712384, 2875856612, 550416420], [2718502975, 3971696306, 2077383094, 235074338, 3166079049, 125341028, 1833712384, 2875856612], [958086270, 2718502975, 3971696306, 2077383094, 256062491, 3166079049, 125341028, 1833712384], [860599170, 958086270, 2718502975, 3971696306, 96205272, 256062491, 3166079049, 125341028], [3173124743, 860599170, 958086270, 2718502975, 952410763, 96205272, 256062491, 3166079049], [217464374, 3173124743, 860599170, 958086270, 1117036202, 952410763, 96205272, 256062491], [1973522712, 217464374, 3173124743, 860599170, 3336921857, 1117036202, 952410763, 96205272], [2301268814, 1973522712, 217464374, 3173124743, 1793360926, 3336921857, 1117036202, 952410763], [1562731708, 2301268814, 1973522712, 217464374, 2050032770, 1793360926, 3336921857, 1117036202], [3425820483, 1562731708, 2301268814, 1973522712, 3570223853, 2050032770, 1793360926, 3336921857], [4097240194, 3425820483, 1562731708, 2301268814, 3460795614, 3570223853, 2050032770, 1793360926], [483406089, 4097240194, 3425820483, 1562731708, 3340551822, 3460795614, 3570223853, 2050032770], [2089393088, 483406089, 4097240194, 3425820483, 1841640649, 3340551822, 3460795614, 3570223853], [1990588212, 2089393088, 483406089, 4097240194, 3740834217, 1841640649, 3340551822, 3460795614], [3495302062, 1990588212, 2089393088, 483406089, 339031032, 3740834217, 1841640649, 3340551822], [518688823, 3495302062, 1990588212, 2089393088, 1443328130, 339031032, 3740834217, 1841640649], [1566088942, 518688823, 3495302062, 1990588212, 2528712790, 1443328130, 339031032, 3740834217], [2684981369, 1566088942, 518688823, 3495302062, 3086319861, 2528712790, 1443328130, 339031032], [2731211908, 2684981369, 1566088942, 518688823, 2303327457, 3086319861, 2528712790, 1443328130], [3106703821, 2731211908, 2684981369, 1566088942, 1349042459, 2303327457, 3086319861, 2528712790], [1215090212, 3106703821, 2731211908, 2684981369, 1941632594, 1349042459, 2303327457, 3086319861], [3261703680, 1215090212, 3106703821, 2731211908, 3926165543, 1941632594, 1349042459, 2303327457], [601941715, 3261703680, 1215090212, 3106703821, 1480252303, 3926165543, 1941632594, 1349042459], [440120240, 601941715, 3261703680, 1215090212, 319089985, 1480252303, 3926165543, 1941632594], [418921041, 440120240, 601941715, 3261703680, 3912918156, 319089985, 1480252303, 3926165543], [2699098554, 418921041, 440120240, 601941715, 3555876787, 3912918156, 319089985, 1480252303], [851657962, 2699098554, 418921041, 440120240, 1470077987, 3555876787, 3912918156, 319089985], [2771379008, 851657962, 2699098554, 418921041, 3885510155, 1470077987, 3555876787, 3912918156], [2579515011, 2771379008, 851657962, 2699098554, 2232470447, 3885510155, 1470077987, 3555876787], [1656160435, 2579515011, 2771379008, 851657962, 2120081894, 2232470447, 3885510155, 1470077987], [2026941842, 1656160435, 2579515011, 2771379008, 146315227, 2120081894, 2232470447, 3885510155], [3364600978, 2026941842, 1656160435, 2579515011, 1155135293, 146315227, 2120081894, 2232470447], [477815254, 3364600978, 2026941842, 1656160435, 3579878252, 1155135293, 146315227, 2120081894], [2241794995, 477815254, 3364600978, 2026941842, 760374017, 3579878252, 1155135293, 146315227], [1372395681, 2241794995, 477815254, 3364600978, 1028451999, 760374017, 3579878252, 1155135293], [506222079, 1372395681, 2241794995, 477815254, 733852631, 1028451999, 760374017, 3579878252], [54675418, 506222079, 1372395681, 2241794995, 822869912, 733852631, 1028451999, 760374017], [40601488, 54675418, 506222079, 1372395681, 3181273439, 822869912, 733852631, 1028451999], [1203409077, 40601488, 54675418, 506222079, 85503691, 3181273439, 822869912, 733852631], [4239196011, 1203409077, 40601488, 54675418, 3647504627, 85503691, 3181273439, 822869912], [3825632207, 4239196011, 1203409077, 40601488, 3910450857, 3647504627, 85503691, 3181273439], [1812380709, 3825632207, 4239196011, 1203409077, 2354180207, 3910450857, 3647504627, 85503691], [2381545497, 1812380709, 3825632207, 4239196011, 1221392083, 2354180207, 3910450857, 3647504627], [538888029, 2381545497, 1812380709, 3825632207, 2199149838, 1221392083, 2354180207, 3910450857], [810561309, 538888029, 2381545497, 1812380709, 3729549614, 2199149838, 1221392083, 2354180207], [4220923111, 810561309, 538888029, 2381545497, 3540542568, 3729549614, 2199149838, 1221392083], [1933216405, 4220923111, 810561309, 538888029, 263066347, 3540542568, 3729549614, 2199149838], [707317324, 1933216405, 4220923111, 810561309, 4108712023, 263066347, 3540542568, 3729549614], [474482604, 707317324, 1933216405, 4220923111, 4119549319, 4108712023, 263066347, 3540542568], [419174583, 474482604, 707317324, 1933216405, 3221054264, 4119549319, 4108712023, 263066347], [4208754917, 419174583, 474482604, 707317324, 1640619808, 3221054264, 4119549319, 4108712023], [880365572, 4208754917, 419174583, 474482604, 975879285, 1640619808, 3221054264, 4119549319]]
def p3D : List Int := [158, 131, 54, 107, 182, 68, 47, 106, 85, 107, 12, 41, 193, 151, 252, 230, 139, 57, 14, 244, 252, 207, 71, 172, 223, 129, 60, 227, 81, 108, 34, 160]
theorem p3_words : wordsTo p3B 64 = p3W := (words_is p3B p3W 64 rfl (by decide +kernel) 64 (Nat.le_refl _)).trans rfl
theorem p3_rnds : rnds iv p3W 64 = p3R.getD 64 [] := rnds_is iv p3W p3R 64 rfl (by decide +kernel) 64 (Nat.le_refl _)
theorem p3_blk : padded (pdB 3) = p3B := by decide +kernel
theorem pdL_3 : pdL 3 = p3D := by
  unfold pdL digL
  rw [p3_blk]
  have e1 : p3B.length / 64 = 1 := by decide +kernel
  have e2 : wAt p3B 1 = List.zipWith add32 iv (p3R.getD 64 []) := by
    show mixL iv (blkOf p3B 0) = _
    have e3 : blkOf p3B 0 = p3B := by decide +kernel
    rw [e3, mixL, p3_words, p3_rnds]
  rw [e1, e2]
  decide +kernel
end Go.Proofs.YtjmlpkemjafifaaDoor

/- What ProofNames comes to, as plain functions. -/
set_option linter.unusedVariables false
namespace Go.Proofs.YtjmlpkemjafifaaDoor

theorem pad3_leaf9 : pdL 3 ≠ lvL 9 := by rw [pdL_3]; decide +kernel
theorem leaf_01 : lvL 0 ≠ lvL 1 := by decide +kernel
theorem nm_other (r p d : List Int) (h : p ≠ d) : putF 4 (K34 r p) [(7, d)] = (121, K34 r p) := by
  simp [putF, layF, holdB, K34, h]
theorem nm_high (K : Kn) (d : List Int) : putF 4 K [(8, d)] = (120, K) := by simp [putF, layF]
theorem nm_low (K : Kn) (d : List Int) : putF 4 K [(0, d)] = (120, K) := by simp [putF, layF]
theorem nm_twice (r p a b : List Int) (h : a ≠ b) : putF 4 (K34 r p) [(4, a), (4, b)] = (121, K34 r p) := by
  simp [putF, layF, holdB, holdS, K34, PS.put, kset, h]
theorem nm_nil (r p : List Int) : putF 4 (K34 r p) [] = (0, K34 r p) := by
  simp [putF, layF, riseF, askB, K34, emptyI, looseF]
/-- What stands behind the three nodes. -/
def K34c (r p a b m n : List Int) : Kn := kset (kset (kset (kset (K34 r p) 4 a) 5 b) 3 m) 2 n
theorem nm_lay (r p a b m : List Int) : layF 4 [(4, a), (5, b), (3, m)] ⟨K34 r p, emptyI⟩ = (0, ⟨kset (kset (kset (K34 r p) 4 a) 5 b) 3 m, iset (iset (iset emptyI 4) 5) 3⟩) := by
  simp [layF, holdB, holdS, K34, PS.put, kset]
theorem nm_rise (r p a b m n : List Int) (hn : n = ndL a b) (hr : r = ndL n m) : riseF 3 ⟨kset (kset (kset (K34 r p) 4 a) 5 b) 3 m, iset (iset (iset emptyI 4) 5) 3⟩ = (0, ⟨K34c r p a b m n, iset (iset (iset (iset emptyI 4) 5) 3) 2⟩) := by
  have a3 : askB ⟨kset (kset (kset (K34 r p) 4 a) 5 b) 3 m, iset (iset (iset emptyI 4) 5) 3⟩ 3 = false := rfl
  have a2 : askB ⟨kset (kset (kset (K34 r p) 4 a) 5 b) 3 m, iset (iset (iset emptyI 4) 5) 3⟩ 2 = true := rfl
  have k2 : kidD ⟨kset (kset (kset (K34 r p) 4 a) 5 b) 3 m, iset (iset (iset emptyI 4) 5) 3⟩ 2 = n := hn.symm
  have h2 : holdB ⟨kset (kset (kset (K34 r p) 4 a) 5 b) 3 m, iset (iset (iset emptyI 4) 5) 3⟩ 2 n = true := rfl
  have s2 : holdS ⟨kset (kset (kset (K34 r p) 4 a) 5 b) 3 m, iset (iset (iset emptyI 4) 5) 3⟩ 2 n = ⟨K34c r p a b m n, iset (iset (iset (iset emptyI 4) 5) 3) 2⟩ := rfl
  have a1 : askB ⟨K34c r p a b m n, iset (iset (iset (iset emptyI 4) 5) 3) 2⟩ 1 = true := rfl
  have k1 : kidD ⟨K34c r p a b m n, iset (iset (iset (iset emptyI 4) 5) 3) 2⟩ 1 = r := hr.symm
  have h1 : holdB ⟨K34c r p a b m n, iset (iset (iset (iset emptyI 4) 5) 3) 2⟩ 1 r = true := decide_eq_true rfl
  have s1 : holdS ⟨K34c r p a b m n, iset (iset (iset (iset emptyI 4) 5) 3) 2⟩ 1 r = ⟨K34c r p a b m n, iset (iset (iset (iset emptyI 4) 5) 3) 2⟩ := rfl
  rw [riseF, if_neg (by rw [a3]; simp), riseF, if_pos a2, k2, if_pos h2, s2, riseF, if_pos a1, k1, if_pos h1, s1, riseF]
theorem nm_ok (r p a b m n : List Int) (hn : n = ndL a b) (hr : r = ndL n m) : putF 4 (K34 r p) [(4, a), (5, b), (3, m)] = (0, K34c r p a b m n) := by
  unfold putF
  rw [nm_lay]
  simp only [Nat.reduceSub]
  rw [nm_rise r p a b m n hn hr]
  have hl : looseF ⟨K34c r p a b m n, iset (iset (iset (iset emptyI 4) 5) 3) 2⟩ (2 * 4) = false := rfl
  simp only [hl]
  simp
theorem nm_need (r p : List Int) : needF (K34 r p) (chL 2 (4 + 2)) = [2] := by
  rw [show chL 2 (4 + 2) = [7, 2] from by decide]
  simp [needF, K34]
theorem nm_chain (r p a b m n : List Int) : chN (K34c r p a b m n) (chL 2 (4 + 0)) = [(5, b), (3, m)] := by
  rw [show chL 2 (4 + 0) = [5, 3] from by decide]
  simp [chN, kAt, K34c, kset]
theorem nm_cnt (r p : List Int) : cntK (K34 r p) 8 = 2 := by
  simp [cntK, K34, List.range, List.range.loop, List.filter]
theorem nm_dom (r p : List Int) : ∀ k, 2 * 4 ≤ k → K34 r p k = none := fun k hk => by
  unfold K34
  rw [if_neg (by omega), if_neg (by omega)]
/-- A proof over one leaf. -/
def K11 (r : List Int) : Kn := fun x => if x = 1 then Option.some r else none
theorem newF11 (r : List Int) : newF 1 1 r = K11 r := by
  have e : new0 1 1 r = K11 r := by
    funext x
    unfold new0 K11
    by_cases e1 : x = 1
    · rw [if_pos e1, if_pos e1]
    · rw [if_neg e1, if_neg e1, if_neg (by omega)]
  unfold newF
  rw [e]
  rfl
theorem nm_one (r : List Int) : putF 1 (K11 r) [(1, r)] = (0, K11 r) := by
  simp [putF, layF, holdB, holdS, K11, riseF, looseF, emptyI]
theorem nm_cnt1 (r : List Int) : cntK (K11 r) 2 = 1 := by
  simp [cntK, K11, List.range, List.range.loop, List.filter]
end Go.Proofs.YtjmlpkemjafifaaDoor

/- '!=' of two nodes. -/
set_option linter.unusedVariables false
set_option linter.unusedSimpArgs false
namespace Go.Proofs.YtjmlpkemjafifaaDoor
open Go.RowKit

theorem part_nd0 (w : World) (n : NdT) : (part 3 (nc n).toArray 0).run Tryd.prog w = .ok (.int .i64 n.1) w := by
  have e : (nc n).toArray[0]? = some (.int .i64 n.1) := by simp [nc]
  simp [part, e]
set_option maxRecDepth 100000 in
theorem part_nd1 (w : World) (n : NdT) (h : Nd n) : (part 28 (nc n).toArray 1).run Tryd.prog w = .ok (.agg (cellsB n.2)) w := by
  obtain ⟨i0, hi, hz0, hz1, hz2⟩ := info_parts info_digest
  have e3 : (List.take 32 (nc n).tail).toArray = cellsB n.2 := by
    have e2 : (nc n).tail = dc n.2 := rfl
    rw [e2, List.take_of_length_le (by rw [dc_length, h.1.1]; exact Nat.le_refl _), dc_arr]
  simp [part, isAgg, run_underlying Tryd.underlying28, sizeOf, typeInfo, hi, hz1, e3]
set_option maxRecDepth 100000 in
theorem run_neq_node (w : World) (n m : NdT) (hn : Nd n) (hm : Nd m) : (binOp .neq 60 (.agg (nc n).toArray) (.agg (nc m).toArray)).run Tryd.prog w = .ok (.bool (!decide (n = m))) w := by
  rw [run_neq_struct, run_equalIn_struct w 9999 _ _ _ (by kernel_rfl) (by kernel_rfl)]
  have hf : ∃ f0 f1, (Tryd.prog.fieldsOf 60).toList = [f0, f1] ∧ f0.name ≠ "_" ∧ f0.type = 3 ∧ f0.offset = 0 ∧ f1.name ≠ "_" ∧ f1.type = 28 ∧ f1.offset = 1 := ⟨_, _, rfl, by decide, rfl, rfl, by decide, rfl, rfl⟩
  obtain ⟨f0, f1, e0, n0, t0, o0, n1, t1, o1⟩ := hf
  rw [e0]
  simp only [Op.eqFields, n0, n1, t0, t1, o0, o1, if_true, ne_eq, not_false_eq_true, Sem.run_bind, part_nd0, part_nd1 _ n hn, part_nd1 _ m hm, Result.andThen_ok, run_equalIn_int w 9998 3 .i64 .i64 _ _ Tryd.underlying3, run_equalIn_bytes w 9997 32 28 Tryd.underlying28 n.2 m.2 hn.1.1 hm.1.1]
  have hq := run_equalIn_bytes w 9997 32 28 Tryd.underlying28 n.2 m.2 hn.1.1 hm.1.1
  by_cases h1 : n.1 = m.1
  · have e1 : (n.1 == m.1) = true := by simpa using h1
    by_cases h2 : n.2 = m.2
    · have e2 : n = m := Prod.ext h1 h2
      rw [decide_eq_true h2] at hq
      simp [e1, e2] at hq ⊢
      simp [part_nd1 _ m hm, hq]
    · have e2 : n ≠ m := fun e => h2 (by rw [e])
      rw [decide_eq_false h2] at hq
      simp [e1, e2, part_nd1 _ n hn, part_nd1 _ m hm, hq]
  · have e1 : (n.1 == m.1) = false := by simpa using h1
    have e2 : n ≠ m := fun e => h1 (by rw [e])
    simp [e1, e2]
end Go.Proofs.YtjmlpkemjafifaaDoor

/- Literals under a guard. -/
set_option linter.unusedVariables false
set_option linter.unusedSimpArgs false
namespace Go.Proofs.YtjmlpkemjafifaaDoor
open Go.RowKit

theorem wpList_lit_run_on {P : Program} {ops : Array Oper} {rest : List Oper} {o : Oper} {a : Act} {w : World} {Q : Exit → Act → World → Prop} (hw : Region.wanted o (yielded ops a.tmps) = true) (t : TypeId) (len : Nat) (parts : Array (Nat × Operand)) (ho : o.op = .buildSlice t len parts) (ps : Array (Nat × Value)) (hps : (parts.map fun (i, x) => (i, a.eval x)) = ps) (v : Value) (w' : World)
    (hr : (Instr.buildSlice t len ps).run P w = .ok v w') (h : wpList P ops Q rest (a.put o.dst v) w') : wpList P ops Q (o :: rest) a w := by
  refine wpList_step fun K hK => ?_
  simp only [hw, if_true]
  exact wp_lit_run t len parts ho ps hps v w' hr (hK _ _ h)
theorem wpList_build_run_on {P : Program} {ops : Array Oper} {rest : List Oper} {o : Oper} {a : Act} {w : World} {Q : Exit → Act → World → Prop} (hw : Region.wanted o (yielded ops a.tmps) = true) (t : TypeId) (parts : Array (Nat × Operand)) (ho : o.op = .build t parts) (ps : Array (Nat × Value)) (hps : (parts.map fun (i, x) => (i, a.eval x)) = ps) (v : Value)
    (hr : (Instr.build t ps).run P w = .ok v w) (h : wpList P ops Q rest (a.put o.dst v) w) : wpList P ops Q (o :: rest) a w := by
  refine wpList_step fun K hK => ?_
  simp only [hw, if_true]
  unfold Oper.wp execOp
  simp only [ho, Sem.run_bind, hps, hr, Result.andThen_ok]
  exact hK _ _ h
theorem fill_at (a : Int) (z : Array Value) (hz : z.size = 33) (pl : Nat → Option (Nat × Nat)) (h0 : pl 0 = some (0, 1)) :
    Instr.fill pl z [(0, .int .i64 a)] = some (z.setIfInBounds 0 (.int .i64 a)) := by
  have e1 : (Value.int .i64 a).cells = #[.int .i64 a] := rfl
  simp only [Instr.fill, h0, e1, hz]
  simp only [List.size_toArray, List.length_cons, List.length_nil]
  have e3 : (#[Value.int .i64 a].zipIdx.foldl (fun cs (x : Value × Nat) => cs.setIfInBounds (0 + x.2) x.1) z) = z.setIfInBounds 0 (.int .i64 a) := rfl
  simp only [e3]
  rw [if_neg (by simp)]
set_option maxRecDepth 100000 in
theorem run_build_at (w : World) (a : Int) : (Instr.build 60 #[(0, .int .i64 a)]).run Tryd.prog w = .ok (.agg (nc (a, zeros32)).toArray) w := by
  cases hi : Tryd.prog.info? 60 with
  | none => have := size_node; rw [hi] at this; cases this
  | some i0 =>
    have hz0 : i0.zero = some (.agg (nc (0, zeros32)).toArray) := by have := zero_node; rw [hi] at this; simpa using this
    have hzv : (zeroValue 60).run Tryd.prog w = .ok (.agg (nc (0, zeros32)).toArray) w := by simp [zeroValue, typeInfo, hi, hz0]
    have s1 : (sizeOf 3).run Tryd.prog w = .ok 1 w := by
      obtain ⟨i1, h1, h2, h3, h4⟩ := info_parts info_int
      simp [sizeOf, typeInfo, h1, h3]
    have s2 : (sizeOf 28).run Tryd.prog w = .ok 32 w := by
      obtain ⟨i1, h1, h2, h3, h4⟩ := info_parts info_digest
      simp [sizeOf, typeInfo, h1, h3]
    have hfin : (nc (a, zeros32)).toArray = (nc (0, zeros32)).toArray.setIfInBounds 0 (.int .i64 a) := by simp [nc]
    rw [hfin]
    have hf := fun pl h0 => fill_at a (nc (0, zeros32)).toArray (by simp [nc, dc_length, zeros32_length]) pl h0
    obtain ⟨zc, HZC⟩ : ∃ z, Hid ((nc (0, zeros32)).toArray = z) := ⟨_, rfl⟩
    rw [HZC.out] at hzv hf
    rw [HZC.out]
    simp only [Instr.build, Sem.run_bind, hzv, Result.andThen_ok, run_underlying Tryd.underlying60]
    simp [s1, s2, Value.cells, hf]
end Go.Proofs.YtjmlpkemjafifaaDoor
