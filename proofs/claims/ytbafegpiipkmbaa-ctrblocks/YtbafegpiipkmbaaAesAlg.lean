/- The algebra of a round: each step is taken back by its fellow; the field's laws. -/
import Derived.Test.YtbafegpiipkmbaaAesChain
set_option linter.unusedSimpArgs false
set_option linter.unusedVariables false
namespace Go.Proofs.Ytbafegpiipkmbaa
open Go Go.RowKit Ev

theorem two_bytes {p : Nat → Nat → Bool} (h : ((List.range 256).all fun a => (List.range 256).all (p a)) = true) (a b : Nat) (ha : a < 256) (hb : b < 256) : p a b = true :=
  List.all_eq_true.1 (List.all_eq_true.1 h a (List.mem_range.2 ha)) b (List.mem_range.2 hb)
theorem dbl_xor (a b : Nat) (ha : a < 256) (hb : b < 256) : dbl (a ^^^ b) = dbl a ^^^ dbl b := by
  have h : ((List.range 256).all fun a => (List.range 256).all fun b => dbl (a ^^^ b) == dbl a ^^^ dbl b) = true := by decide +kernel
  simpa using two_bytes h a b ha hb
theorem prod4 (a : Nat) (ha : a < 256) : prod a 4 = dbl (dbl a) := by
  have h : (List.range 256).all (fun a => prod a 4 == dbl (dbl a)) = true := by decide +kernel
  simpa using byte_all h a ha

/-- Sixteen bytes, one by one. -/
theorem list16 {s : List Nat} (h : s.length = 16) : ∃ x0 x1 x2 x3 x4 x5 x6 x7 x8 x9 x10 x11 x12 x13 x14 x15, s = [x0, x1, x2, x3, x4, x5, x6, x7, x8, x9, x10, x11, x12, x13, x14, x15] := by
  match s, h with
  | [x0, x1, x2, x3, x4, x5, x6, x7, x8, x9, x10, x11, x12, x13, x14, x15], _ => exact ⟨x0, x1, x2, x3, x4, x5, x6, x7, x8, x9, x10, x11, x12, x13, x14, x15, rfl⟩
theorem gather_spread {ks s : List Nat} (h : s.length = 16) : St.gather.ap ks (St.spread.ap ks s) = s := by
  obtain ⟨x0, x1, x2, x3, x4, x5, x6, x7, x8, x9, x10, x11, x12, x13, x14, x15, rfl⟩ := list16 h
  rfl
theorem spread_gather {ks s : List Nat} (h : s.length = 16) : St.spread.ap ks (St.gather.ap ks s) = s := by
  obtain ⟨x0, x1, x2, x3, x4, x5, x6, x7, x8, x9, x10, x11, x12, x13, x14, x15, rfl⟩ := list16 h
  rfl
theorem unshift_shift {ks s : List Nat} (h : s.length = 16) : St.unshift.ap ks (St.shift.ap ks s) = s := by
  obtain ⟨x0, x1, x2, x3, x4, x5, x6, x7, x8, x9, x10, x11, x12, x13, x14, x15, rfl⟩ := list16 h
  rfl
theorem shift_unshift {ks s : List Nat} (h : s.length = 16) : St.shift.ap ks (St.unshift.ap ks s) = s := by
  obtain ⟨x0, x1, x2, x3, x4, x5, x6, x7, x8, x9, x10, x11, x12, x13, x14, x15, rfl⟩ := list16 h
  rfl
theorem subE_ap {ks s : List Nat} (h : s.length = 16) : St.sub.ap ks s = s.map sub := by
  obtain ⟨x0, x1, x2, x3, x4, x5, x6, x7, x8, x9, x10, x11, x12, x13, x14, x15, rfl⟩ := list16 h
  rfl
theorem unsubE_ap {ks s : List Nat} (h : s.length = 16) : St.unsub.ap ks s = s.map unsub := by
  obtain ⟨x0, x1, x2, x3, x4, x5, x6, x7, x8, x9, x10, x11, x12, x13, x14, x15, rfl⟩ := list16 h
  rfl
theorem map_id_of {f : Nat → Nat} {s : List Nat} (h : ∀ x ∈ s, f x = x) : s.map f = s := by
  induction s with
  | nil => rfl
  | cons x s ih => rw [List.map_cons, h x List.mem_cons_self, ih fun y hy => h y (List.mem_cons_of_mem _ hy)]
theorem unsub_sub_ap {ks s : List Nat} (h : s.length = 16) (hs : Byt s) : St.unsub.ap ks (St.sub.ap ks s) = s := by
  rw [subE_ap h, unsubE_ap (by simpa using h), List.map_map]
  exact map_id_of fun x hx => by simp only [Function.comp]; exact unsub_sub x (hs x hx)
theorem sub_unsub_ap {ks s : List Nat} (h : s.length = 16) (hs : Byt s) : St.sub.ap ks (St.unsub.ap ks s) = s := by
  rw [unsubE_ap h, subE_ap (by simpa using h), List.map_map]
  exact map_id_of fun x hx => by simp only [Function.comp]; exact sub_unsub x (hs x hx)
theorem key_key {ks s : List Nat} (h : s.length = 16) (n : Nat) : (St.key n).ap ks ((St.key n).ap ks s) = s := by
  obtain ⟨x0, x1, x2, x3, x4, x5, x6, x7, x8, x9, x10, x11, x12, x13, x14, x15, rfl⟩ := list16 h
  have e : ∀ (y0 y1 y2 y3 y4 y5 y6 y7 y8 y9 y10 y11 y12 y13 y14 y15 : Nat) (k : List Nat), keyE.map (nden (at8 ([y0, y1, y2, y3, y4, y5, y6, y7, y8, y9, y10, y11, y12, y13, y14, y15] ++ k))) =
      [y0 ^^^ at8 k 0, y1 ^^^ at8 k 4, y2 ^^^ at8 k 8, y3 ^^^ at8 k 12, y4 ^^^ at8 k 1, y5 ^^^ at8 k 5, y6 ^^^ at8 k 9, y7 ^^^ at8 k 13, y8 ^^^ at8 k 2, y9 ^^^ at8 k 6, y10 ^^^ at8 k 10, y11 ^^^ at8 k 14, y12 ^^^ at8 k 3, y13 ^^^ at8 k 7, y14 ^^^ at8 k 11, y15 ^^^ at8 k 15] := by
    intros; rfl
  show keyE.map (nden (at8 (keyE.map (nden (at8 (_ ++ keyAt ks n))) ++ keyAt ks n))) = _
  rw [e, e]
  simp only [Nat.xor_assoc, Nat.xor_self, Nat.xor_zero]
/-- Two times, as the symbols have it. -/
theorem dblE_den (f : Nat → Nat) (e : Ex) (h : nden f e < 256) : nden f (dblE e) = dbl (nden f e) := by
  show (nden f e * 2 ^ 1 % 256) ^^^ ((nden f e / 2 ^ 7) * 27 % 256) = _
  unfold dbl
  congr 1
  omega
theorem mixOf_get (v : Nat → Nat → Ex) (r c : Nat) (hr : r < 4) (hc : c < 4) : (mixOf v)[4 * r + c]? = some (xorE (xorE (dblE (xorE (v r c) (v ((r + 1) % 4) c))) (v r c)) (xorE (xorE (xorE (v 0 c) (v 1 c)) (v 2 c)) (v 3 c))) := by
  have h : 4 * r + c < 16 := by omega
  simp only [mixOf, row, List.getElem?_map, List.getElem?_range h, Option.map_some]
  rw [show (4 * r + c) / 4 = r by omega, show (4 * r + c) % 4 = c by omega]
/-- A byte behind Mix: its own, the next one below, and the whole column. -/
def mixB (a b t : Nat) : Nat := dbl (a ^^^ b) ^^^ a ^^^ t
theorem mixOf_den {f : Nat → Nat} (v : Nat → Nat → Ex) (hv : ∀ r c, nden f (v r c) < 256) (r c : Nat) (hr : r < 4) (hc : c < 4) :
    at8 ((mixOf v).map (nden f)) (4 * r + c) = mixB (nden f (v r c)) (nden f (v ((r + 1) % 4) c)) (nden f (v 0 c) ^^^ nden f (v 1 c) ^^^ nden f (v 2 c) ^^^ nden f (v 3 c)) := by
  simp only [at8, List.getD, List.getElem?_map, mixOf_get v r c hr hc, Option.map_some, Option.getD_some]
  show nden f (dblE (xorE (v r c) (v ((r + 1) % 4) c))) ^^^ nden f (v r c) ^^^ _ = _
  rw [dblE_den f (xorE (v r c) (v ((r + 1) % 4) c)) (xor8 (hv r c) (hv _ c))]
  rfl
theorem xor_left_self (x y : Nat) : x ^^^ (x ^^^ y) = y := by rw [← Nat.xor_assoc, Nat.xor_self, Nat.zero_xor]
/-- A byte, and what lies across it, doubled twice. -/
def pre (a c : Nat) : Nat := a ^^^ dbl (dbl (a ^^^ c))
theorem pre_lt {a c : Nat} (ha : a < 256) (hc : c < 256) : pre a c < 256 := xor8 ha (dbl_lt (dbl_lt (xor8 ha hc)))
theorem mixB_lt {a b t : Nat} (ha : a < 256) (hb : b < 256) (ht : t < 256) : mixB a b t < 256 := xor8 (xor8 (dbl_lt (xor8 ha hb)) ha) ht
theorem xlc (x y z : Nat) : x ^^^ (y ^^^ z) = y ^^^ (x ^^^ z) := by rw [← Nat.xor_assoc, Nat.xor_comm x y, Nat.xor_assoc]
theorem pre_pre (a c : Nat) : pre (pre a c) (pre c a) = a := by
  have e : pre a c ^^^ pre c a = a ^^^ c := by
    unfold pre
    rw [Nat.xor_comm c a]
    simp only [Nat.xor_assoc, Nat.xor_comm, xlc, xor_left_self, Nat.xor_self, Nat.xor_zero, Nat.zero_xor]
  show pre a c ^^^ dbl (dbl (pre a c ^^^ pre c a)) = a
  rw [e]
  unfold pre
  simp only [Nat.xor_assoc, Nat.xor_comm, xlc, xor_left_self, Nat.xor_self, Nat.xor_zero, Nat.zero_xor]
theorem mix_two (a b c d T : Nat) (ha : a < 256) (hb : b < 256) (hc : c < 256) (hT : a ^^^ b ^^^ c ^^^ d = T) : mixB (mixB a b T) (mixB b c T) T = pre a c := by
  have lab := xor8 ha hb
  have lbc := xor8 hb hc
  have lac := xor8 ha hc
  have e1 : mixB a b T ^^^ mixB b c T = dbl (a ^^^ c) ^^^ (a ^^^ b) := by
    have : dbl (a ^^^ c) = dbl (a ^^^ b) ^^^ dbl (b ^^^ c) := by rw [← dbl_xor _ _ lab lbc]; congr 1; simp only [Nat.xor_assoc, xor_left_self]
    rw [this]
    unfold mixB
    simp only [Nat.xor_assoc, Nat.xor_comm, xlc, xor_left_self, Nat.xor_self, Nat.xor_zero, Nat.zero_xor]
  show dbl (mixB a b T ^^^ mixB b c T) ^^^ mixB a b T ^^^ T = pre a c
  rw [e1, dbl_xor _ _ (dbl_lt lac) lab]
  unfold mixB pre
  simp only [Nat.xor_assoc, Nat.xor_comm, xlc, xor_left_self, Nat.xor_self, Nat.xor_zero, Nat.zero_xor]
theorem mix_sum (a b c d T : Nat) (ha : a < 256) (hb : b < 256) (hc : c < 256) (hd : d < 256) (hT : a ^^^ b ^^^ c ^^^ d = T) : mixB a b T ^^^ mixB b c T ^^^ mixB c d T ^^^ mixB d a T = T := by
  have lab := xor8 ha hb
  have lbc := xor8 hb hc
  have lcd := xor8 hc hd
  have e : dbl (d ^^^ a) = dbl (a ^^^ b) ^^^ dbl (b ^^^ c) ^^^ dbl (c ^^^ d) := by
    rw [← dbl_xor _ _ lab lbc, ← dbl_xor _ _ (xor8 lab lbc) lcd]
    congr 1
    simp only [Nat.xor_assoc, Nat.xor_comm, xlc, xor_left_self, Nat.xor_self, Nat.xor_zero, Nat.zero_xor]
  unfold mixB
  rw [e, ← hT]
  simp only [Nat.xor_assoc, Nat.xor_comm, xlc, xor_left_self, Nat.xor_self, Nat.xor_zero, Nat.zero_xor]
/-- Lists of sixteen, byte by byte. -/
theorem ext16 {s t : List Nat} (hs : s.length = 16) (ht : t.length = 16) (h : ∀ r c, r < 4 → c < 4 → at8 s (4 * r + c) = at8 t (4 * r + c)) : s = t := by
  refine List.ext_getElem (by omega) fun i h1 h2 => ?_
  have := h (i / 4) (i % 4) (by omega) (by omega)
  rw [show 4 * (i / 4) + i % 4 = i by omega] at this
  simpa [at8, List.getD, List.getElem?_eq_getElem h1, List.getElem?_eq_getElem h2] using this
def preL (s : List Nat) : List Nat := (List.range 16).map fun i => pre (at8 s i) (at8 s ((i + 8) % 16))
theorem preL_length (s : List Nat) : (preL s).length = 16 := by simp [preL]
theorem preL_get (s : List Nat) (r c : Nat) (hr : r < 4) (hc : c < 4) : at8 (preL s) (4 * r + c) = pre (at8 s (4 * r + c)) (at8 s (4 * ((r + 2) % 4) + c)) := by
  have h : 4 * r + c < 16 := by omega
  simp only [at8, preL, List.getD, List.getElem?_map, List.getElem?_range h, Option.map_some, Option.getD_some]
  rw [show (4 * r + c + 8) % 16 = 4 * ((r + 2) % 4) + c by omega]
theorem preL_byt {s : List Nat} (hs : Byt s) : Byt (preL s) := fun x hx => by
  obtain ⟨i, _, rfl⟩ := List.mem_map.1 hx
  exact pre_lt (byt_at hs _) (byt_at hs _)
theorem mixL_get {ks s : List Nat} (hs : Byt s) (r c : Nat) (hr : r < 4) (hc : c < 4) : at8 (St.mix.ap ks s) (4 * r + c) = mixB (at8 s (4 * r + c)) (at8 s (4 * ((r + 1) % 4) + c)) (at8 s c ^^^ at8 s (4 + c) ^^^ at8 s (8 + c) ^^^ at8 s (12 + c)) := by
  have := mixOf_den (f := at8 s) (fun r c => .var (4 * r + c)) (fun r c => byt_at hs _) r c hr hc
  simp only [nden, Nat.mul_zero, Nat.zero_add, Nat.mul_one, show 4 * 2 = 8 from rfl, show 4 * 3 = 12 from rfl] at this
  exact this
theorem mix_mix {ks s : List Nat} (hs : Byt s) (hk : Byt ks) : St.mix.ap ks (St.mix.ap ks s) = preL s := by
  have hm := (St.ap_ok hk hs .mix)
  refine ext16 (St.ap_ok hk hm.2 .mix).1 (preL_length s) fun r c hr hc => ?_
  have g := fun r hr => mixL_get (ks := ks) hs r c hr hc
  rw [mixL_get hm.2 r c hr hc, preL_get s r c hr hc]
  have g0 := g 0 (by decide)
  have g1 := g 1 (by decide)
  have g2 := g 2 (by decide)
  have g3 := g 3 (by decide)
  simp only [Nat.mul_zero, Nat.zero_add, Nat.mul_one, show 4 * 2 = 8 from rfl, show 4 * 3 = 12 from rfl, show (0 + 1) % 4 = 1 from rfl, show (1 + 1) % 4 = 2 from rfl, show (2 + 1) % 4 = 3 from rfl, show (3 + 1) % 4 = 0 from rfl] at g0 g1 g2 g3
  have ha := byt_at hs c
  have hb := byt_at hs (4 + c)
  have hcc := byt_at hs (8 + c)
  have hd := byt_at hs (12 + c)
  rw [g0, g1, g2, g3, mix_sum _ _ _ _ _ ha hb hcc hd rfl]
  have hcase : r = 0 ∨ r = 1 ∨ r = 2 ∨ r = 3 := by omega
  rcases hcase with rfl | rfl | rfl | rfl <;> simp only [Nat.mul_zero, Nat.zero_add, Nat.mul_one, show 4 * 2 = 8 from rfl, show 4 * 3 = 12 from rfl, show (0 + 1) % 4 = 1 from rfl, show (1 + 1) % 4 = 2 from rfl, show (2 + 1) % 4 = 3 from rfl, show (3 + 1) % 4 = 0 from rfl, show (0 + 2) % 4 = 2 from rfl, show (1 + 2) % 4 = 3 from rfl, show (2 + 2) % 4 = 0 from rfl, show (3 + 2) % 4 = 1 from rfl, g0, g1, g2, g3]
  · exact mix_two _ _ _ (at8 s (12 + c)) _ ha hb hcc rfl
  · exact mix_two _ _ _ (at8 s c) _ hb hcc hd (by simp only [Nat.xor_assoc, Nat.xor_comm, xlc])
  · exact mix_two _ _ _ (at8 s (4 + c)) _ hcc hd ha (by simp only [Nat.xor_assoc, Nat.xor_comm, xlc])
  · exact mix_two _ _ _ (at8 s (8 + c)) _ hd ha hb (by simp only [Nat.xor_assoc, Nat.xor_comm, xlc])
theorem preL_preL {s : List Nat} (hl : s.length = 16) : preL (preL s) = s := by
  refine ext16 (preL_length _) hl fun r c hr hc => ?_
  rw [preL_get _ r c hr hc, preL_get s r c hr hc, preL_get s _ c (Nat.mod_lt _ (by decide)) hc, show ((r + 2) % 4 + 2) % 4 = r by omega]
  exact pre_pre _ _
theorem unmix_mixpre {ks s : List Nat} (hs : Byt s) (hk : Byt ks) : St.unmix.ap ks s = St.mix.ap ks (preL s) := by
  have hp := preL_byt hs
  refine ext16 (St.ap_ok hk hs .unmix).1 (St.ap_ok hk hp .mix).1 fun r c hr hc => ?_
  have hv : ∀ r c, nden (at8 s) (xorE (.var (4 * r + c)) (.app 0 (xorE (.var (4 * r + c)) (.var (4 * ((r + 2) % 4) + c))) (.lit 4))) = pre (at8 s (4 * r + c)) (at8 s (4 * ((r + 2) % 4) + c)) := fun r c => by
    show at8 s (4 * r + c) ^^^ prod (at8 s (4 * r + c) ^^^ at8 s (4 * ((r + 2) % 4) + c)) 4 = _
    rw [prod4 _ (xor8 (byt_at hs _) (byt_at hs _))]
    rfl
  have e := mixOf_den (f := at8 s) (fun r c => xorE (.var (4 * r + c)) (.app 0 (xorE (.var (4 * r + c)) (.var (4 * ((r + 2) % 4) + c))) (.lit 4))) (fun r c => by rw [hv]; exact pre_lt (byt_at hs _) (byt_at hs _)) r c hr hc
  simp only [hv] at e
  rw [mixL_get hp r c hr hc]
  refine e.trans ?_
  have q := fun r hr => preL_get s r c hr hc
  have q0 := q 0 (by decide)
  have q1 := q 1 (by decide)
  have q2 := q 2 (by decide)
  have q3 := q 3 (by decide)
  simp only [Nat.mul_zero, Nat.zero_add, Nat.mul_one, show 4 * 2 = 8 from rfl, show 4 * 3 = 12 from rfl] at q0 q1 q2 q3
  rw [q r hr, q _ (Nat.mod_lt _ (by decide)), q0, q1, q2, q3]
  simp only [Nat.mul_zero, Nat.zero_add, Nat.mul_one, show 4 * 2 = 8 from rfl, show 4 * 3 = 12 from rfl]
theorem unmix_mix {ks s : List Nat} (hl : s.length = 16) (hs : Byt s) (hk : Byt ks) : St.unmix.ap ks (St.mix.ap ks s) = s := by
  have hm := (St.ap_ok hk hs .mix).2
  rw [unmix_mixpre hm hk, ← mix_mix hm hk, mix_mix hs hk, mix_mix (preL_byt hs) hk, preL_preL hl]
theorem mix_unmix {ks s : List Nat} (hl : s.length = 16) (hs : Byt s) (hk : Byt ks) : St.mix.ap ks (St.unmix.ap ks s) = s := by
  rw [unmix_mixpre hs hk, mix_mix (preL_byt hs) hk, preL_preL hl]
def St.inv : St → St
  | .spread => .gather
  | .gather => .spread
  | .key n => .key n
  | .sub => .unsub
  | .shift => .unshift
  | .mix => .unmix
  | .unsub => .sub
  | .unshift => .shift
  | .unmix => .mix
theorem St.inv_ap {ks s : List Nat} (hk : Byt ks) (hl : s.length = 16) (hs : Byt s) (st : St) : st.inv.ap ks (st.ap ks s) = s := by
  cases st
  · exact gather_spread hl
  · exact spread_gather hl
  · exact key_key hl _
  · exact unsub_sub_ap hl hs
  · exact unshift_shift hl
  · exact unmix_mix hl hs hk
  · exact sub_unsub_ap hl hs
  · exact shift_unshift hl
  · exact mix_unmix hl hs hk
theorem runSt_inv {ks : List Nat} (hk : Byt ks) : ∀ (l : List St) (s : List Nat), s.length = 16 → Byt s → runSt ks (l.reverse.map St.inv) (runSt ks l s) = s
  | [], _, _, _ => rfl
  | st :: l, s, hl, hs => by
    obtain ⟨h1, h2⟩ := st.ap_ok hk hs
    rw [List.reverse_cons, List.map_append, runSt_append]
    show runSt ks _ (runSt ks _ (runSt ks l (st.ap ks s))) = s
    rw [runSt_inv hk l _ h1 h2]
    exact st.inv_ap hk hl hs
theorem back_forth {ks b : List Nat} (hk : Byt ks) (hl : b.length = 16) (hb : Byt b) : backL ks (forthL ks b 10) = b := by
  have e : backSt = (forthSt 10).reverse.map St.inv := by decide +kernel
  unfold backL forthL
  rw [e]
  exact runSt_inv hk _ b hl hb
theorem forth_back {ks b : List Nat} (hk : Byt ks) (hl : b.length = 16) (hb : Byt b) : forthL ks (backL ks b) 10 = b := by
  have e : forthSt 10 = backSt.reverse.map St.inv := by decide +kernel
  unfold backL forthL
  rw [e]
  exact runSt_inv hk _ b hl hb
end Go.Proofs.Ytbafegpiipkmbaa
