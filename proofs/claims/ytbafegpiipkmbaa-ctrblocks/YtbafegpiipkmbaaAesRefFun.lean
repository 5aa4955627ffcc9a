/- The document's answers of states, by the evaluator: they are the program's. -/
import Derived.Test.YtbafegpiipkmbaaAesRef
import Derived.Test.YtbafegpiipkmbaaAesAlg
import Derived.Test.YtbafegpiipkmbaaEvRows
set_option linter.unusedVariables false
set_option linter.unusedSimpArgs false
namespace Go.Proofs.Ytbafegpiipkmbaa
open Go Go.RowKit Ev

def conR : ConF := conOr (conOne 73 1) (conTwo 74 0)
theorem below_rfl {P : Program} {g : Nat} {args : Array Value} {w : World} {v : Value} (h : Calls P g args w fun e w' => e = .returned v ∧ w' = w) : Calls P g args w fun e w' => e = .returned v ∧ Below w.heap.size w w' :=
  h.mono fun e w' ⟨h1, h2⟩ => ⟨h1, h2 ▸ Below.refl _ _⟩
theorem conR_ok {f : Nat → Nat} (hf : ∀ i, f i < 256) : ConOk Try.prog (envB f) conR :=
  conOr_ok (conOne_ok hf fun w a ha => by
    have := below_rfl (rsub_any w a ha)
    rw [sub_rsub a ha] at this
    exact this) (conTwo_ok hf fun w a b ha hb => below_rfl (rproduct_any w a b ha hb))
theorem funR {g fuel n : Nat} {out : List Ex} (h : evCall Try.prog noLore conR fuel g [.tv (.agg (vars 0 n))] [] = some (.tv (.agg (bytesE out)), [])) (hok : out.all okB = true) (w : World) (s : List Nat) (hl : s.length = n) (hb : Byt s) :
    Calls Try.prog g #[.agg (cells8 s)] w fun e w' => e = .returned (.agg (cells8 (out.map (nden (at8 s))))) ∧ Below w.heap.size w w' := by
  have hs := byt_get hb
  refine (calls_of_ev (noLore_ok (envB (at8 s))) (conR_ok hs) mixedOrders fuel h (args := #[.agg (cells8 s)]) w ?_).mono ?_
  · simp only [List.map_cons, List.map_nil, AV.inst]
    rw [vars_inst hs [] 0 n s hl (fun i _ => by rw [Nat.zero_add]; rfl)]
  · rintro e w' ⟨ms, u, rfl, h1, h2, h3⟩
    simp only [AV.inst, bytesE_inst hs ms hok, Option.some.injEq] at h1
    rw [← h1]
    exact ⟨rfl, h3⟩
def rmixOf (fs : Nat → Int) : List Ex := row fun r c => xorE (xorE (xorE (xorE (.lit 0) (.app 0 (.lit (fs ((4 - r) % 4))) (.var c))) (.app 0 (.lit (fs ((5 - r) % 4))) (.var (4 + c)))) (.app 0 (.lit (fs ((6 - r) % 4))) (.var (8 + c)))) (.app 0 (.lit (fs ((7 - r) % 4))) (.var (12 + c)))
def fac (l : List Int) (i : Nat) : Int := l.getD i 0
def rmixE : List Ex := rmixOf (fac [2, 3, 1, 1])
def runmixE : List Ex := rmixOf (fac [14, 11, 13, 9])
theorem rspread_ev : evCall Try.prog noLore conR 100 59 [.tv (.agg (vars 0 16))] [] = some (.tv (.agg (bytesE spreadE)), []) := by kernel_rfl
theorem rgather_ev : evCall Try.prog noLore conR 100 62 [.tv (.agg (vars 0 16))] [] = some (.tv (.agg (bytesE gatherE)), []) := by kernel_rfl
theorem rshift_ev : evCall Try.prog noLore conR 100 60 [.tv (.agg (vars 0 16))] [] = some (.tv (.agg (bytesE shiftE)), []) := by kernel_rfl
theorem rsubAll_ev : evCall Try.prog noLore conR 100 58 [.tv (.agg (vars 0 16))] [] = some (.tv (.agg (bytesE subE)), []) := by kernel_rfl
theorem rmix_ev : evCall Try.prog noLore conR 100 61 [.tv (.agg (vars 0 16))] [] = some (.tv (.agg (bytesE rmixE)), []) := by kernel_rfl
theorem prod_by {c : Nat} {g : Nat → Nat} (h : (List.range 256).all (fun x => prod c x == g x) = true) (x : Nat) (hx : x < 256) : prod c x = g x := by simpa using byte_all h x hx
theorem p1 (x : Nat) (hx : x < 256) : prod 1 x = x := prod_by (g := id) (by decide +kernel) x hx
theorem p2 (x : Nat) (hx : x < 256) : prod 2 x = dbl x := prod_by (by decide +kernel) x hx
theorem p3 (x : Nat) (hx : x < 256) : prod 3 x = dbl x ^^^ x := prod_by (g := fun x => dbl x ^^^ x) (by decide +kernel) x hx
theorem p9 (x : Nat) (hx : x < 256) : prod 9 x = dbl (dbl (dbl x)) ^^^ x := prod_by (g := fun x => dbl (dbl (dbl x)) ^^^ x) (by decide +kernel) x hx
theorem p11 (x : Nat) (hx : x < 256) : prod 11 x = dbl (dbl (dbl x)) ^^^ (dbl x ^^^ x) := prod_by (g := fun x => dbl (dbl (dbl x)) ^^^ (dbl x ^^^ x)) (by decide +kernel) x hx
theorem p13 (x : Nat) (hx : x < 256) : prod 13 x = dbl (dbl (dbl x)) ^^^ (dbl (dbl x) ^^^ x) := prod_by (g := fun x => dbl (dbl (dbl x)) ^^^ (dbl (dbl x) ^^^ x)) (by decide +kernel) x hx
theorem p14 (x : Nat) (hx : x < 256) : prod 14 x = dbl (dbl (dbl x)) ^^^ (dbl (dbl x) ^^^ dbl x) := prod_by (g := fun x => dbl (dbl (dbl x)) ^^^ (dbl (dbl x) ^^^ dbl x)) (by decide +kernel) x hx
theorem rmixOf_get (f : Nat → Nat) (fs : Nat → Int) (r c : Nat) (hr : r < 4) (hc : c < 4) : at8 ((rmixOf fs).map (nden f)) (4 * r + c) = prod (fs ((4 - r) % 4)).toNat (f c) ^^^ prod (fs ((5 - r) % 4)).toNat (f (4 + c)) ^^^ prod (fs ((6 - r) % 4)).toNat (f (8 + c)) ^^^ prod (fs ((7 - r) % 4)).toNat (f (12 + c)) := by
  have h : 4 * r + c < 16 := by omega
  simp only [at8, rmixOf, row, List.getD, List.getElem?_map, List.getElem?_range h, Option.map_some, Option.getD_some]
  rw [show (4 * r + c) / 4 = r by omega, show (4 * r + c) % 4 = c by omega]
  show 0 ^^^ _ ^^^ _ ^^^ _ ^^^ _ = _
  rw [Nat.zero_xor]
  rfl
theorem rmix_mix {s : List Nat} (hs : Byt s) : rmixE.map (nden (at8 s)) = St.mix.ap [] s := by
  have hn : Byt ([] : List Nat) := fun y hy => by simp at hy
  refine ext16 (by simp [rmixE, rmixOf, row]) (St.ap_ok hn hs .mix).1 fun r c hr hc => ?_
  rw [mixL_get hs r c hr hc]
  refine (rmixOf_get (at8 s) _ r c hr hc).trans ?_
  have ha := byt_at hs c
  have hb := byt_at hs (4 + c)
  have hcc := byt_at hs (8 + c)
  have hd := byt_at hs (12 + c)
  have hcase : r = 0 ∨ r = 1 ∨ r = 2 ∨ r = 3 := by omega
  rcases hcase with rfl | rfl | rfl | rfl
  · show prod 2 _ ^^^ prod 3 _ ^^^ prod 1 _ ^^^ prod 1 _ = mixB (at8 s (4 * 0 + c)) (at8 s (4 * 1 + c)) _
    simp only [Nat.mul_zero, Nat.zero_add, Nat.mul_one, p1 _ hcc, p1 _ hd, p2 _ ha, p3 _ hb, mixB, dbl_xor _ _ ha hb]
    simp only [Nat.xor_assoc, Nat.xor_comm, xlc, xor_left_self, Nat.xor_self, Nat.xor_zero, Nat.zero_xor]
  · show prod 1 _ ^^^ prod 2 _ ^^^ prod 3 _ ^^^ prod 1 _ = mixB (at8 s (4 * 1 + c)) (at8 s (4 * 2 + c)) _
    simp only [Nat.mul_zero, Nat.zero_add, Nat.mul_one, show 4 * 2 = 8 from rfl, p1 _ ha, p1 _ hd, p2 _ hb, p3 _ hcc, mixB, dbl_xor _ _ hb hcc]
    simp only [Nat.xor_assoc, Nat.xor_comm, xlc, xor_left_self, Nat.xor_self, Nat.xor_zero, Nat.zero_xor]
  · show prod 1 _ ^^^ prod 1 _ ^^^ prod 2 _ ^^^ prod 3 _ = mixB (at8 s (4 * 2 + c)) (at8 s (4 * 3 + c)) _
    simp only [Nat.mul_zero, Nat.zero_add, Nat.mul_one, show 4 * 2 = 8 from rfl, show 4 * 3 = 12 from rfl, p1 _ ha, p1 _ hb, p2 _ hcc, p3 _ hd, mixB, dbl_xor _ _ hcc hd]
    simp only [Nat.xor_assoc, Nat.xor_comm, xlc, xor_left_self, Nat.xor_self, Nat.xor_zero, Nat.zero_xor]
  · show prod 3 _ ^^^ prod 1 _ ^^^ prod 1 _ ^^^ prod 2 _ = mixB (at8 s (4 * 3 + c)) (at8 s (4 * 0 + c)) _
    simp only [Nat.mul_zero, Nat.zero_add, Nat.mul_one, show 4 * 3 = 12 from rfl, p1 _ hb, p1 _ hcc, p2 _ hd, p3 _ ha, mixB, dbl_xor _ _ hd ha]
    simp only [Nat.xor_assoc, Nat.xor_comm, xlc, xor_left_self, Nat.xor_self, Nat.xor_zero, Nat.zero_xor]
/-- A column unmixed by its four factors. -/
theorem un4 (a b c d : Nat) (ha : a < 256) (hb : b < 256) (hc : c < 256) (hd : d < 256) : mixB (pre a c) (pre b d) (pre a c ^^^ pre b d ^^^ pre c a ^^^ pre d b) = prod 14 a ^^^ prod 11 b ^^^ prod 13 c ^^^ prod 9 d := by
  have lac := xor8 ha hc
  have lbd := xor8 hb hd
  have da := dbl_lt ha
  have db := dbl_lt hb
  have dc := dbl_lt hc
  have dd := dbl_lt hd
  have da2 := dbl_lt da
  have db2 := dbl_lt db
  have dc2 := dbl_lt dc
  have dd2 := dbl_lt dd
  have pA : pre a c = a ^^^ (dbl (dbl a) ^^^ dbl (dbl c)) := by unfold pre; rw [dbl_xor _ _ ha hc, dbl_xor _ _ da dc]
  have pB : pre b d = b ^^^ (dbl (dbl b) ^^^ dbl (dbl d)) := by unfold pre; rw [dbl_xor _ _ hb hd, dbl_xor _ _ db dd]
  have pC : pre c a = c ^^^ (dbl (dbl c) ^^^ dbl (dbl a)) := by unfold pre; rw [dbl_xor _ _ hc ha, dbl_xor _ _ dc da]
  have pD : pre d b = d ^^^ (dbl (dbl d) ^^^ dbl (dbl b)) := by unfold pre; rw [dbl_xor _ _ hd hb, dbl_xor _ _ dd db]
  have eD : dbl (pre a c ^^^ pre b d) = dbl a ^^^ (dbl (dbl (dbl a)) ^^^ dbl (dbl (dbl c))) ^^^ (dbl b ^^^ (dbl (dbl (dbl b)) ^^^ dbl (dbl (dbl d)))) := by
    rw [pA, pB, dbl_xor _ _ (xor8 ha (xor8 da2 dc2)) (xor8 hb (xor8 db2 dd2)), dbl_xor _ _ ha (xor8 da2 dc2), dbl_xor _ _ da2 dc2, dbl_xor _ _ hb (xor8 db2 dd2), dbl_xor _ _ db2 dd2]
  show dbl (pre a c ^^^ pre b d) ^^^ pre a c ^^^ _ = _
  rw [eD, pA, pB, pC, pD, p14 _ ha, p11 _ hb, p13 _ hc, p9 _ hd]
  simp only [Nat.xor_assoc, Nat.xor_comm, xlc, xor_left_self, Nat.xor_self, Nat.xor_zero, Nat.zero_xor]
theorem runmix_unmix {s : List Nat} (hs : Byt s) : runmixE.map (nden (at8 s)) = St.unmix.ap [] s := by
  have hn : Byt ([] : List Nat) := fun y hy => by simp at hy
  refine ext16 (by simp [runmixE, rmixOf, row]) (St.ap_ok hn hs .unmix).1 fun r c hr hc => ?_
  rw [unmix_mixpre hs hn, mixL_get (preL_byt hs) r c hr hc]
  refine (rmixOf_get (at8 s) _ r c hr hc).trans ?_
  have q := fun r hr => preL_get s r c hr hc
  have q0 := q 0 (by decide)
  have q1 := q 1 (by decide)
  have q2 := q 2 (by decide)
  have q3 := q 3 (by decide)
  simp only [Nat.mul_zero, Nat.zero_add, Nat.mul_one, show 4 * 2 = 8 from rfl, show 4 * 3 = 12 from rfl, show (0 + 2) % 4 = 2 from rfl, show (1 + 2) % 4 = 3 from rfl, show (2 + 2) % 4 = 0 from rfl, show (3 + 2) % 4 = 1 from rfl] at q0 q1 q2 q3
  have ha := byt_at hs c
  have hb := byt_at hs (4 + c)
  have hcc := byt_at hs (8 + c)
  have hd := byt_at hs (12 + c)
  have hcase : r = 0 ∨ r = 1 ∨ r = 2 ∨ r = 3 := by omega
  rcases hcase with rfl | rfl | rfl | rfl <;> simp only [Nat.mul_zero, Nat.zero_add, Nat.mul_one, show 4 * 2 = 8 from rfl, show 4 * 3 = 12 from rfl, show (0 + 1) % 4 = 1 from rfl, show (1 + 1) % 4 = 2 from rfl, show (2 + 1) % 4 = 3 from rfl, show (3 + 1) % 4 = 0 from rfl, q0, q1, q2, q3]
  · show prod 14 _ ^^^ prod 11 _ ^^^ prod 13 _ ^^^ prod 9 _ = _
    rw [un4 _ _ _ _ ha hb hcc hd]
  · show prod 9 _ ^^^ prod 14 _ ^^^ prod 11 _ ^^^ prod 13 _ = _
    have := un4 _ _ _ _ hb hcc hd ha
    rw [show pre (at8 s c) (at8 s (8 + c)) ^^^ pre (at8 s (4 + c)) (at8 s (12 + c)) ^^^ pre (at8 s (8 + c)) (at8 s c) ^^^ pre (at8 s (12 + c)) (at8 s (4 + c)) = pre (at8 s (4 + c)) (at8 s (12 + c)) ^^^ pre (at8 s (8 + c)) (at8 s c) ^^^ pre (at8 s (12 + c)) (at8 s (4 + c)) ^^^ pre (at8 s c) (at8 s (8 + c)) by simp only [Nat.xor_assoc, Nat.xor_comm, xlc], this]
    simp only [Nat.xor_assoc, Nat.xor_comm, xlc]
  · show prod 13 _ ^^^ prod 9 _ ^^^ prod 14 _ ^^^ prod 11 _ = _
    have := un4 _ _ _ _ hcc hd ha hb
    rw [show pre (at8 s c) (at8 s (8 + c)) ^^^ pre (at8 s (4 + c)) (at8 s (12 + c)) ^^^ pre (at8 s (8 + c)) (at8 s c) ^^^ pre (at8 s (12 + c)) (at8 s (4 + c)) = pre (at8 s (8 + c)) (at8 s c) ^^^ pre (at8 s (12 + c)) (at8 s (4 + c)) ^^^ pre (at8 s c) (at8 s (8 + c)) ^^^ pre (at8 s (4 + c)) (at8 s (12 + c)) by simp only [Nat.xor_assoc, Nat.xor_comm, xlc], this]
    simp only [Nat.xor_assoc, Nat.xor_comm, xlc]
  · show prod 11 _ ^^^ prod 13 _ ^^^ prod 9 _ ^^^ prod 14 _ = _
    have := un4 _ _ _ _ hd ha hb hcc
    rw [show pre (at8 s c) (at8 s (8 + c)) ^^^ pre (at8 s (4 + c)) (at8 s (12 + c)) ^^^ pre (at8 s (8 + c)) (at8 s c) ^^^ pre (at8 s (12 + c)) (at8 s (4 + c)) = pre (at8 s (12 + c)) (at8 s (4 + c)) ^^^ pre (at8 s c) (at8 s (8 + c)) ^^^ pre (at8 s (4 + c)) (at8 s (12 + c)) ^^^ pre (at8 s (8 + c)) (at8 s c) by simp only [Nat.xor_assoc, Nat.xor_comm, xlc], this]
    simp only [Nat.xor_assoc, Nat.xor_comm, xlc]
end Go.Proofs.Ytbafegpiipkmbaa
