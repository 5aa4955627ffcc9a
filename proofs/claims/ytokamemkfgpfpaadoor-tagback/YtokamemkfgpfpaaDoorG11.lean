/- Of the road to tagBackUptoCard_holds: TgBackWalk, ShaLaid, ShaUpto. -/
import Derived.Test.YtokamemkfgpfpaaDoorG10
import Derived.Test.YtokamemkfgpfpaaDoorG00
import Derived.Test.YtokamemkfgpfpaaDoorRows
import Derived.Test.YtokamemkfgpfpaaDoorG02
import Derived.ProofKit
import Derived.OpenShut
import Derived.LaidLaws
import Derived.Lay
import Derived.MakeChecks
import Derived.Stop.Joined
import Derived.SevenTiedAt
import Derived.Deep.Grids
set_option linter.unusedVariables false
set_option linter.unusedSimpArgs false
namespace Go.Proofs.YtokamemkfgpfpaaDoor
open Go Go.RowKit
section
open Ev
def noEnvB : Env := ⟨fun _ => 0, fun _ => .tuple #[], fun _ _ _ => 0⟩
theorem blives_ev : evCallF Tryd.prog noLore conTag 100 6 [] HK = some (.tv (.sc (.bool true)), HK) := by kernel_rfl
theorem blives_any (w : World) (hk : KC w) : Calls Tryd.prog 6 #[] w fun e w' => e = .returned (.bool true) ∧ Below w.heap.size w w' := by
  refine (calls_of_evHF (noLore_ok noEnvB) (conTag_ok noEnvB) mixedOrders 100 blives_ev (args := #[]) w rfl (holdsK noEnvB w hk)).mono ?_
  rintro e w' ⟨ms, u, rfl, _, h1, _, h3⟩
  simp only [AV.inst, TV.inst, SV.inst, Option.some.injEq] at h1
  rw [← h1]
  exact ⟨rfl, h3⟩
end
theorem mem_len {ls : List (List Int)} {l : List Int} (h : l ∈ ls) : l.length ≤ ls.flatten.length := (List.sublist_flatten_of_mem h).length_le
theorem ok_small {ls : List (List Int)} (h : ls.flatten.length ≤ 2000000) : Ok ls := fun l hl => by have := mem_len hl; omega
theorem tag_one {t u : Nat} {a b : List (List Int)} (ha : TagOk t a) (hb : TagOk u b) (oa : Ok a) (ob : Ok b) (h : tagB t a = tagB u b) : t = u ∧ a = b := by
  have := (framed_inj (ok_word t oa) (ok_word u ob)).1 h
  simp only [List.cons.injEq] at this
  exact ⟨wS_inj5 ha.1 hb.1 this.1, this.2⟩
set_option maxRecDepth 100000 in
set_option maxHeartbeats 8000000 in
theorem tagBack_walk (w : World) (va vb : Value) (la : List (List Int)) (lb : List Int) (t : Nat) (ha : HL w va la) (hb : HB w vb lb) (ht : t < 256) (na : la.flatten.length + la.length ≤ 1048576) (nb : lb.length ≤ 1048576) (hk : KC w) :
    Calls Tryd.prog 4 #[.int .u8 (t : Int), va, vb] w fun e w' => e = .returned (.bool true) ∧ Below w.heap.size w w' := by
  have CL := hid (blives_any w hk)
  have HA := hid ha
  have HBB := hid hb
  have SMALL : Hid (∀ l ∈ la, l.length ≤ 140737488351232) := hid fun l hl => by have := mem_len hl; omega
  have OKA : Hid (Ok la) := hid (ok_small (by omega))
  have CB1 := hid fun (W : World) (h : Below w.heap.size w W) => tbytes_any W t va la (ha.below h) SMALL.out
  have CR2 := hid fun (W : World) (h : Below w.heap.size w W) => tread_any W vb lb (hb.below h) (by omega)
  have LT : Hid (TagOk t la → (tagB t la).length ≤ 2000000) := hid fun h => by have := tagB_len t la; have := fit_ne h; omega
  have NB := hid nb
  obtain ⟨pa, ca, rfl, _, _⟩ := ha.open
  obtain ⟨pb, cb, rfl, _, _⟩ := hb.open
  clear ha hb hk na nb
  obtain ⟨za, Hza⟩ : ∃ x, Hid (la.length = x) := ⟨_, rfl⟩
  obtain ⟨zb, Hzb⟩ : ∃ x, Hid (lb.length = x) := ⟨_, rfl⟩
  rw [Hza.out] at CB1 HA
  rw [Hzb.out] at CR2 HBB
  rw [Hza.out, Hzb.out]
  go_enter Tryd.func4, Tryd.ntmps4
  go_wp2_with fail
  refine CL.out.mono ?_
  rintro e w1 ⟨rfl, hb1⟩
  have B1 := hid hb1
  clear hb1 CL
  go_wp2_with fail
  refine (CB1.out w1 B1.out).mono ?_
  rintro e w2 ⟨x, E, rfl, hq1, hb2⟩
  have B2 := hid (B1.out.trans (hb2.mono B1.out.size))
  have Q1 := hid hq1
  clear hb2 hq1 CB1 B1
  by_cases hE : E = 0
  case neg =>
    have hE2 : (E == 0) = false := by simpa using hE
    clear Q1 OKA SMALL LT HA
    go_wp2_with fail
    refine (CR2.out w2 B2.out).mono ?_
    rintro e w5 ⟨u, v5, a5, E5, rfl, hq5, hb5⟩
    have B5 := hid (B2.out.trans (hb5.mono B2.out.size))
    have Q5 := hid hq5
    clear hb5 hq5 CR2 B2
    by_cases hE5 : E5 = 0
    case neg =>
      have hE52 : (E5 == 0) = false := by simpa using hE5
      have hE53 : (E5 != 0) = true := by simpa using hE5
      obtain ⟨rfl, rfl⟩ : u = 0 ∧ v5 = .slice none 0 0 := by
        rcases Q5.out with ⟨h, _⟩ | ⟨_, h1, h2, _⟩
        · exact absurd h hE5
        · exact ⟨h1, h2⟩
      clear Q5
      go_wp2
      go_ret
      exact ⟨rfl, B5.out⟩
    case pos =>
      subst hE5
      obtain ⟨ls, TO, hl5, hraw, okl⟩ : ∃ ls, TagOk u ls ∧ HL w5 v5 ls ∧ tagB u ls = lb ∧ Ok ls := by
        rcases Q5.out with ⟨_, _, ls, h1, h2, h3, h4⟩ | ⟨h, _⟩
        · exact ⟨ls, h1, h2, h3, h4⟩
        · exact absurd rfl h
      have FL : ls.flatten.length ≤ 2000000 := by
        have h1 : (tagB u ls).length = lb.length := by rw [hraw]
        unfold tagB at h1
        rw [framed_length, List.flatten_cons, List.length_append] at h1
        have := NB.out
        omega
      have CB3 := hid (tbytes_any w5 u v5 ls hl5 (fun l hl => by have := mem_len hl; omega))
      obtain ⟨p5, c5, rfl, _, _⟩ := hl5.open
      obtain ⟨z5, Hz5⟩ : ∃ q, Hid (ls.length = q) := ⟨_, rfl⟩
      rw [Hz5.out] at CB3 ⊢
      have HTO := hid TO
      have HRAW := hid hraw
      clear TO hl5 hraw okl FL Q5
      go_wp2_with fail
      refine CB3.out.mono ?_
      rintro e w6 ⟨v6, E6, rfl, hq6, hb6⟩
      obtain ⟨rfl, hv6⟩ : E6 = 0 ∧ HB w6 v6 lb := by
        rcases hq6 with ⟨h1, _, h2⟩ | ⟨_, h, _⟩
        · exact ⟨h1, by rw [← HRAW.out]; exact h2⟩
        · exact absurd HTO.out h
      have B6 := hid (B5.out.trans (hb6.mono B5.out.size))
      have CSB := hid (sameBytes_any w6 v6 _ lb lb hv6 (HBB.out.below B6.out))
      rw [decide_eq_true rfl] at CSB
      obtain ⟨p6, c6, rfl, _, _⟩ := hv6.open
      rw [Hzb.out] at CSB ⊢
      clear hq6 hb6 hv6 CB3 B5
      go_wp2_with fail
      refine CSB.out.mono ?_
      rintro e w7 ⟨rfl, hd7⟩
      have B7 := hid (B6.out.trans ((hd7.below _).mono B6.out.size))
      clear hd7 CSB
      go_wp2
      go_ret
      exact ⟨rfl, B7.out⟩
  case pos =>
    subst hE
    obtain ⟨TA, XB⟩ : TagOk t la ∧ HB w2 x (tagB t la) := by
      rcases Q1.out with ⟨_, h1, h2⟩ | ⟨h, _⟩
      · exact ⟨h1, h2⟩
      · exact absurd rfl h
    have CR1 := hid (tread_any w2 x _ XB (LT.out TA))
    obtain ⟨px, cx, rfl, _, _⟩ := XB.open
    have HTA := hid TA
    obtain ⟨zx, Hzx⟩ : ∃ q, Hid ((tagB t la).length = q) := ⟨_, rfl⟩
    rw [Hzx.out] at CR1 ⊢
    clear XB TA Q1 LT
    go_wp2_with fail
    refine CR1.out.mono ?_
    rintro e w3 ⟨t2, v2, a2, E2, rfl, hq2, hb3⟩
    have B3 := hid (B2.out.trans (hb3.mono B2.out.size))
    obtain ⟨rfl, rfl, rfl, hl2⟩ : E2 = 0 ∧ a2 = 0 ∧ t2 = t ∧ HL w3 v2 la := by
      rcases hq2 with ⟨h1, h2, ls, h3, h4, h5, h6⟩ | ⟨_, _, _, h⟩
      · obtain ⟨rfl, rfl⟩ := tag_one h3 HTA.out h6 OKA.out h5
        exact ⟨h1, h2, rfl, h4⟩
      · exact absurd rfl (h t la HTA.out OKA.out)
    have CSL := hid (sameLists_any w3 v2 _ la la hl2 (HA.out.below B3.out))
    rw [decide_eq_true rfl] at CSL
    obtain ⟨p2, c2, rfl, _, _⟩ := hl2.open
    rw [Hza.out] at CSL ⊢
    clear hl2 hq2 hb3 CR1 B2 HTA OKA SMALL
    go_wp2_with fail
    refine CSL.out.mono ?_
    rintro e w4 ⟨rfl, hd4⟩
    have B4 := hid (B3.out.trans ((hd4.below _).mono B3.out.size))
    clear hd4 CSL B3 HA
    go_wp2_with fail
    refine (CR2.out w4 B4.out).mono ?_
    rintro e w5 ⟨u, v5, a5, E5, rfl, hq5, hb5⟩
    have B5 := hid (B4.out.trans (hb5.mono B4.out.size))
    have Q5 := hid hq5
    clear hb5 hq5 CR2 B4
    by_cases hE5 : E5 = 0
    case neg =>
      have hE52 : (E5 == 0) = false := by simpa using hE5
      have hE53 : (E5 != 0) = true := by simpa using hE5
      obtain ⟨rfl, rfl⟩ : u = 0 ∧ v5 = .slice none 0 0 := by
        rcases Q5.out with ⟨h, _⟩ | ⟨_, h1, h2, _⟩
        · exact absurd h hE5
        · exact ⟨h1, h2⟩
      clear Q5
      go_wp2
      go_ret
      exact ⟨rfl, B5.out⟩
    case pos =>
      subst hE5
      obtain ⟨ls, TO, hl5, hraw, okl⟩ : ∃ ls, TagOk u ls ∧ HL w5 v5 ls ∧ tagB u ls = lb ∧ Ok ls := by
        rcases Q5.out with ⟨_, _, ls, h1, h2, h3, h4⟩ | ⟨h, _⟩
        · exact ⟨ls, h1, h2, h3, h4⟩
        · exact absurd rfl h
      have FL : ls.flatten.length ≤ 2000000 := by
        have h1 : (tagB u ls).length = lb.length := by rw [hraw]
        unfold tagB at h1
        rw [framed_length, List.flatten_cons, List.length_append] at h1
        have := NB.out
        omega
      have CB3 := hid (tbytes_any w5 u v5 ls hl5 (fun l hl => by have := mem_len hl; omega))
      obtain ⟨p5, c5, rfl, _, _⟩ := hl5.open
      obtain ⟨z5, Hz5⟩ : ∃ q, Hid (ls.length = q) := ⟨_, rfl⟩
      rw [Hz5.out] at CB3 ⊢
      have HTO := hid TO
      have HRAW := hid hraw
      clear TO hl5 hraw okl FL Q5
      go_wp2_with fail
      refine CB3.out.mono ?_
      rintro e w6 ⟨v6, E6, rfl, hq6, hb6⟩
      obtain ⟨rfl, hv6⟩ : E6 = 0 ∧ HB w6 v6 lb := by
        rcases hq6 with ⟨h1, _, h2⟩ | ⟨_, h, _⟩
        · exact ⟨h1, by rw [← HRAW.out]; exact h2⟩
        · exact absurd HTO.out h
      have B6 := hid (B5.out.trans (hb6.mono B5.out.size))
      have CSB := hid (sameBytes_any w6 v6 _ lb lb hv6 (HBB.out.below B6.out))
      rw [decide_eq_true rfl] at CSB
      obtain ⟨p6, c6, rfl, _, _⟩ := hv6.open
      rw [Hzb.out] at CSB ⊢
      clear hq6 hb6 hv6 CB3 B5
      go_wp2_with fail
      refine CSB.out.mono ?_
      rintro e w7 ⟨rfl, hd7⟩
      have B7 := hid (B6.out.trans ((hd7.below _).mono B6.out.size))
      clear hd7 CSB
      go_wp2
      go_ret
      exact ⟨rfl, B7.out⟩
end Go.Proofs.YtokamemkfgpfpaaDoor
namespace Go.Proofs.YtokamemkfgpfpaaDoor
open Go Go.RowKit Go.ChangeShapes Go.WideShapes Go.ChangeAt
def shaLaid : List (String × DataW Unit) := [("strongroom/sha.constants", Rows.laid_strongroom_sha_constants)]
theorem gK : Tryd.prog.globalNamed "strongroom/sha.constants" = some 0 := by kernel_rfl
theorem tK : (Tryd.prog.globals[0]?).map (·.type) = some 101 := by kernel_rfl
theorem cK : Tryd.prog.cellsOf 35 = 1 := by kernel_rfl
theorem dK : (Rows.laid_strongroom_sha_constants : DataW Unit) = .agg (kW.map fun x : Nat => .lit (.int .u32 (x : Int))) := by kernel_rfl
theorem kc_of_laid {W : World} (h : laidMetH Tryd.prog shaLaid W) : KC W := by
  rw [MakeChecks.laidMetH_plain _ _ _ (by kernel_rfl)] at h
  obtain ⟨ps, ⟨g0, t0, cs0, f0, p0, q0, hg0, ht0, hv0, hd0, _, _⟩, _, _⟩ := h
  obtain rfl := Option.some.inj (gK.symm.trans hg0)
  obtain rfl := Option.some.inj (tK.symm.trans ht0)
  obtain ⟨xs, m, rfl, hx, hlen, hn, hel⟩ := DataW.trod_array Tryd.underlying101 hd0
  intro t ht
  have h1 := hel t ht
  have hxt : xs[t]? = some xs[t] := List.getElem?_eq_getElem (by omega)
  rw [cK, hxt] at h1
  obtain ⟨k, e1, e2, _⟩ := DataW.trod_int Tryd.underlying35 h1
  simp only [Prod.mk.injEq] at hx
  have hd := hx.1
  rw [dK] at hd
  simp only [DataW.agg.injEq] at hd
  have hd2 : (kW.map fun x : Nat => (DataW.lit (.int .u32 (x : Int)) : DataW Unit))[t]? = (xs.map (·.1))[t]? := by rw [hd]
  have hkt : t < kW.length := by rw [kW_length]; exact ht
  rw [List.getElem?_map, List.getElem?_map, hxt, List.getElem?_eq_getElem hkt] at hd2
  simp only [Option.map_some, Option.some.injEq, e2, DataW.lit.injEq, Lit.int.injEq, true_and] at hd2
  have hv := World.var?_cell hg0 hv0 t
  have hcs : cs0[t]? = some (.int .u32 k) := by
    have : ((cs0.toList.drop (t * 1)).take 1)[0]? = some (.int .u32 k) := by rw [e1]; rfl
    simpa using this
  rw [hv, hcs, ← hd2]
  simp [List.getD, List.getElem?_eq_getElem hkt]
end Go.Proofs.YtokamemkfgpfpaaDoor
namespace Go.Proofs.YtokamemkfgpfpaaDoor
open Go.ChangeShapes Go.WideShapes Go.ChangeAt Go.RowKit
theorem handed_cond_and {H : Type} {enc : TypeId × Value → H} {a : Assume} {C : Checked} {os : Os} {f : FuncId} {fn : Func} {s : OpenSpec} {k : (H : Type) → List (DataW H) → Bool} (hk : s.cond = some k) {F : Stop.Interp} {conds : List PathCond} {apart fresh handsOn again : Bool} {X : World → Array Value → Prop}
    (hX : ∀ (w w' : World) (args : Array Value), w.heap = w'.heap → X w args → X w' args)
    (own : ownKnob C.prog.godebug = none) (started : os.Started) (noInit : C.prog.inits.idxOf? f = none) (hfn : C.prog.funcs[f]? = some fn)
    (witness : ∃ (w : World) (tape : Tape) (i : Input), w.os = os ∧ (w.forCall tape i).Shaped C.prog ∧ i.vars = [] ∧ Input.okWide C.prog (w.forCall tape i) .any w.heap.size f i ∧
      ((s.pre enc C.prog fn conds apart (w.forCall tape i).memory i.args ∧ X (w.forCall tape i).memory i.args) ∧ sizedMet enc C.prog fn s apart (w.forCall tape i).memory i.args) ∧ a.holds C.prog (lone (Frame.enter C.prog f i.args .normal) [] (w.forCall tape i)))
    (contract : ∀ (W : World) (base : Nat) (args : Array Value) (ds gs : List (DataW H)) (before : List MemPlace),
      (∀ (j : Nat) t v, fn.params[j]? = some t → args[j]? = some v → Value.okWide C.prog W .any base t v) →
      DataW.Whole enc C.prog fn.params.toList s.vars apart W args.toList ds gs before → k H (ds ++ gs) = true → X W args →
      Calls C.prog f args W fun e W' => ∃ v, e = .returned v ∧ (s.at F).post enc C.prog fn apart fresh handsOn again W args v W') :
    ReturnsInHanded a C os f .any (fun w args => (s.pre enc C.prog fn conds apart w args ∧ X w args) ∧ sizedMet enc C.prog fn s apart w args) ((s.at F).post enc C.prog fn apart fresh handsOn again) := by
  refine returnsInHanded_of_calls own started noInit witness ?_
  intro w tape i _ _ _ hok hpre hholds
  obtain ⟨_, _, _, fn', hfn', _, _, _, _, hval⟩ := hok
  have e : fn' = fn := Option.some.inj (hfn'.symm.trans hfn)
  subst e
  obtain ⟨⟨hp, hx⟩, _⟩ := hpre
  obtain ⟨ds, gs, before, hw, hc, hkk⟩ := (OpenSpec.pre_some hk conds apart _ _).1 hp
  have hw' := DataW.Whole.of_heap (w' := w.forCall tape i) (by rfl) hw
  refine (contract (w.forCall tape i) w.heap.size i.args ds gs before hval hw' hkk (hX _ _ _ (by rfl) hx)).mono fun e W' ⟨v, he, hp⟩ => ?_
  subst he
  exact ChangeSpec.post_blind hp
theorem witness_cond {H : Type} {enc : TypeId × Value → H} {C : Checked} {os : Os} {f : FuncId} {fn : Func} {s : OpenSpec} {k : (H : Type) → List (DataW H) → Bool} (hk : s.cond = some k) {conds : List PathCond} {apart : Bool} {X : World → Array Value → Prop} (modest : Bool) (w0 : World) (args : Array Value) (fuel : Nat) (hos : w0.os = os)
    (hsh : (w0.forCall (fun _ _ => 0) ⟨#[], args, []⟩).Shaped C.prog)
    (hok : Input.okWideB C.prog (w0.forCall (fun _ _ => 0) ⟨#[], args, []⟩) f ⟨#[], args, []⟩ = true)
    {x : List (DataW H) × List (DataW H) × List MemPlace} (hx : DataW.whole enc C.prog (w0.forCall (fun _ _ => 0) ⟨#[], args, []⟩).memory fn.params.toList s.vars apart args.toList fuel = some x)
    (hconds : conds.all (PathCond.test C.prog ⟨fn.params.toList, x.1, s.bare.plain.varTypes C.prog, x.2.1⟩) = true) (hkk : k H (x.1 ++ x.2.1) = true)
    (hsz : s.bare.sizedB enc C.prog fn apart (w0.forCall (fun _ _ => 0) ⟨#[], args, []⟩).memory args fuel = true)
    (hX : X (w0.forCall (fun _ _ => 0) ⟨#[], args, []⟩).memory args) :
    ∃ (w : World) (tape : Tape) (i : Input), w.os = os ∧ (w.forCall tape i).Shaped C.prog ∧ i.vars = [] ∧ Input.okWide C.prog (w.forCall tape i) .any w.heap.size f i ∧
      ((s.pre enc C.prog fn conds apart (w.forCall tape i).memory i.args ∧ X (w.forCall tape i).memory i.args) ∧ sizedMet enc C.prog fn s apart (w.forCall tape i).memory i.args) ∧ ({ modest := modest } : Assume).holds C.prog (lone (Frame.enter C.prog f i.args .normal) [] (w.forCall tape i)) :=
  ⟨w0, fun _ _ => 0, ⟨#[], args, []⟩, hos, hsh, (Input.okWide_of_okWideB (base := 0) hok).1, (Input.okWide_of_okWideB hok).2,
    ⟨⟨(OpenSpec.pre_some hk conds apart _ _).2 ⟨x.1, x.2.1, x.2.2, DataW.Whole_of_whole hx, hconds, hkk⟩, hX⟩, sizedMet_of_sizedB hsz⟩, by
    simp only [Assume.holds]
    exact ⟨by simp, by simp, fun _ => Modest.zero, by simp, by simp⟩⟩
end Go.Proofs.YtokamemkfgpfpaaDoor
