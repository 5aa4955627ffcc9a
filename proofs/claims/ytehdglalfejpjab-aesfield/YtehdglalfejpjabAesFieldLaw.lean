/- AesField: the laws of the cipher's field; the law, walked by the evaluator. -/
import Derived.Test.YtehdglalfejpjabAesNilWalk
import Derived.Test.YtehdglalfejpjabAesAlg
import Derived.Test.YtehdglalfejpjabEvTab
set_option linter.unusedVariables false
set_option linter.unusedSimpArgs false
namespace Go.Proofs.Ytehdglalfejpjab
open Go Go.RowKit Ev

theorem xor_mod2 (b c : Nat) : (b ^^^ c) % 2 = (b % 2 + c % 2) % 2 := by
  have h := Nat.xor_mod_two_pow (a := b) (b := c) (n := 1)
  have hb : b % 2 = 0 ∨ b % 2 = 1 := by omega
  have hc : c % 2 = 0 ∨ c % 2 = 1 := by omega
  simp only [Nat.pow_one] at h
  rw [h]
  rcases hb with hb | hb <;> rcases hc with hc | hc <;> rw [hb, hc] <;> rfl
theorem xor_div2 (b c : Nat) : (b ^^^ c) / 2 = b / 2 ^^^ c / 2 := by
  have h := Nat.xor_div_two_pow (a := b) (b := c) (n := 1)
  simpa using h
theorem prodF_right : ∀ (k a b c s t : Nat), prodF k a (b ^^^ c) (s ^^^ t) = prodF k a b s ^^^ prodF k a c t
  | 0, _, _, _, _, _ => rfl
  | k + 1, a, b, c, s, t => by
    simp only [prodF]
    rw [xor_div2, ← prodF_right k (dbl a) (b / 2) (c / 2)]
    congr 1
    rw [xor_mod2]
    have hb : b % 2 = 0 ∨ b % 2 = 1 := by omega
    have hc : c % 2 = 0 ∨ c % 2 = 1 := by omega
    rcases hb with hb | hb <;> rcases hc with hc | hc <;> simp only [hb, hc, Nat.zero_add, Nat.add_zero, Nat.reduceAdd, Nat.reduceMod, if_true, if_false, Nat.zero_ne_one, reduceIte]
    all_goals simp only [Nat.xor_assoc, Nat.xor_comm, xlc, xor_left_self, Nat.xor_self, Nat.xor_zero, Nat.zero_xor]
theorem prod_right (a b c : Nat) : prod a (b ^^^ c) = prod a b ^^^ prod a c := by
  have := prodF_right 8 a b c 0 0
  rwa [Nat.xor_self] at this
theorem prodF_left : ∀ (k a a' b s t : Nat), a < 256 → a' < 256 → prodF k (a ^^^ a') b (s ^^^ t) = prodF k a b s ^^^ prodF k a' b t
  | 0, _, _, _, _, _, _, _ => rfl
  | k + 1, a, a', b, s, t, ha, ha' => by
    simp only [prodF]
    rw [dbl_xor a a' ha ha', ← prodF_left k (dbl a) (dbl a') (b / 2) _ _ (dbl_lt ha) (dbl_lt ha')]
    congr 1
    split
    · simp only [Nat.xor_assoc, Nat.xor_comm, xlc]
    · rfl
theorem prod_left (a a' b : Nat) (ha : a < 256) (ha' : a' < 256) : prod (a ^^^ a') b = prod a b ^^^ prod a' b := by
  have := prodF_left 8 a a' b 0 0 ha ha'
  rwa [Nat.xor_self] at this
/-- What agrees on the bits agrees on all bytes. -/
theorem by_bits {f g : Nat → Nat} (hf : ∀ x y, x < 256 → y < 256 → f (x ^^^ y) = f x ^^^ f y) (hg : ∀ x y, x < 256 → y < 256 → g (x ^^^ y) = g x ^^^ g y) (h : ∀ i, i < 8 → f (2 ^ i) = g (2 ^ i)) (x : Nat) (hx : x < 256) : f x = g x := by
  have f0 : f 0 = 0 := by have := hf 0 0 (by decide) (by decide); rw [Nat.xor_self] at this; rw [this, Nat.xor_self]
  have g0 : g 0 = 0 := by have := hg 0 0 (by decide) (by decide); rw [Nat.xor_self] at this; rw [this, Nat.xor_self]
  have key : ∀ n, n ≤ 8 → f (x % 2 ^ n) = g (x % 2 ^ n) := by
    intro n
    induction n with
    | zero => intro _; rw [Nat.pow_zero, Nat.mod_one, f0, g0]
    | succ n ih =>
      intro hn
      have hs : (List.range 256).all (fun x => (List.range 8).all fun n => x % 2 ^ (n + 1) == (x % 2 ^ n) ^^^ (if x / 2 ^ n % 2 = 1 then 2 ^ n else 0)) = true := by decide +kernel
      have h1 := List.all_eq_true.1 (List.all_eq_true.1 hs x (List.mem_range.2 hx)) n (List.mem_range.2 (by omega))
      simp only [beq_iff_eq] at h1
      have l1 : x % 2 ^ n < 256 := Nat.lt_of_le_of_lt (Nat.mod_le _ _) hx
      have l2 : (2 : Nat) ^ n < 256 := Nat.lt_of_lt_of_le (Nat.pow_lt_pow_right (by decide) (by omega : n < 8)) (by decide)
      rw [h1]
      split
      · rw [hf _ _ l1 l2, hg _ _ l1 l2, ih (by omega), h n (by omega)]
      · rw [Nat.xor_zero]; exact ih (by omega)
  have := key 8 (Nat.le_refl _)
  rwa [Nat.mod_eq_of_lt hx] at this
theorem pow_lt (i : Nat) (hi : i < 8) : 2 ^ i < 256 := Nat.lt_of_lt_of_le (Nat.pow_lt_pow_right (by decide) hi) (by decide)
theorem prod_comm (a b : Nat) (ha : a < 256) (hb : b < 256) : prod a b = prod b a := by
  refine by_bits (f := fun b => prod a b) (g := fun b => prod b a) (fun x y _ _ => prod_right a x y) (fun x y hx hy => prod_left x y a hx hy) (fun j hj => ?_) b hb
  refine by_bits (f := fun a => prod a (2 ^ j)) (g := fun a => prod (2 ^ j) a) (fun x y hx hy => prod_left x y _ hx hy) (fun x y _ _ => prod_right _ x y) (fun i hi => ?_) a ha
  have h : (List.range 8).all (fun i => (List.range 8).all fun j => prod (2 ^ i) (2 ^ j) == prod (2 ^ j) (2 ^ i)) = true := by decide +kernel
  simpa using List.all_eq_true.1 (List.all_eq_true.1 h i (List.mem_range.2 hi)) j (List.mem_range.2 hj)
theorem prod_assoc (a b c : Nat) (ha : a < 256) (hb : b < 256) (hc : c < 256) : prod a (prod b c) = prod (prod a b) c := by
  refine by_bits (f := fun c => prod a (prod b c)) (g := fun c => prod (prod a b) c) (fun x y _ _ => by simp only [prod_right]) (fun x y _ _ => prod_right _ x y) (fun k hk => ?_) c hc
  refine by_bits (f := fun b => prod a (prod b (2 ^ k))) (g := fun b => prod (prod a b) (2 ^ k)) (fun x y hx hy => by simp only [prod_left x y _ hx hy, prod_right]) (fun x y hx hy => by simp only [prod_right]; exact prod_left _ _ _ (prod_lt _ ha) (prod_lt _ ha)) (fun j hj => ?_) b hb
  refine by_bits (f := fun a => prod a (prod (2 ^ j) (2 ^ k))) (g := fun a => prod (prod a (2 ^ j)) (2 ^ k)) (fun x y hx hy => prod_left x y _ hx hy) (fun x y hx hy => by simp only [prod_left x y _ hx hy]; exact prod_left _ _ _ (prod_lt _ hx) (prod_lt _ hy)) (fun i hi => ?_) a ha
  have h : (List.range 8).all (fun i => (List.range 8).all fun j => (List.range 8).all fun k => prod (2 ^ i) (prod (2 ^ j) (2 ^ k)) == prod (prod (2 ^ i) (2 ^ j)) (2 ^ k)) = true := by decide +kernel
  simpa using List.all_eq_true.1 (List.all_eq_true.1 (List.all_eq_true.1 h i (List.mem_range.2 hi)) j (List.mem_range.2 hj)) k (List.mem_range.2 hk)
theorem prod_one (a : Nat) (ha : a < 256) : prod a 1 = a := by
  have h : (List.range 256).all (fun a => prod a 1 == a) = true := by decide +kernel
  simpa using byte_all h a ha
theorem prod_inv (a : Nat) (ha : a < 256) : prod a (inv a) = if a = 0 then 0 else 1 := by
  have h : (List.range 256).all (fun a => prod a (invLit.getD a 0) == if a = 0 then 0 else 1) = true := by decide +kernel
  have := byte_all h a ha
  unfold inv
  rw [invT_lit]
  simpa using this

def E8 (e : Ex) : AV := .tv (.sc (.int .u8 e))
theorem entE2 {f : Nat → Nat} (hf : ∀ i, f i < 256) {g : Nat} {a b c : Ex} (ha : okB a = true) (hb : okB b = true) (hc : okB c = true) (h : ∀ w, Calls Try.prog g #[.int .u8 ((nden f a : Nat) : Int), .int .u8 ((nden f b : Nat) : Int)] w fun e w' => e = .returned (.int .u8 ((nden f c : Nat) : Int)) ∧ Below w.heap.size w w') : EntOk (envB f) (g, [E8 a, E8 b], E8 c) := by
  intro ms w args hargs
  obtain rfl := argsB hargs
  rw [(nden_ok hf a ha).1, (nden_ok hf b hb).1]
  refine (h w).mono fun e w' ⟨q1, q2⟩ => ⟨_, q1, ?_, q2⟩
  simp only [E8, AV.inst, TV.inst, SV.inst, (nden_ok hf c hc).1]
def one (q : Bool) : Ex := .lit (if q then 0 else 1)
def fieldTab (q : Bool) : List (Nat × List AV × AV) := [
  (10, [], .tv (.sc (.bool true))),
  (11, [E8 (.var 0), E8 (.var 1)], E8 (.var 3)),
  (11, [E8 (.var 1), E8 (.var 0)], E8 (.var 3)),
  (11, [E8 (.var 1), E8 (.var 2)], E8 (.var 4)),
  (11, [E8 (.var 0), E8 (.var 4)], E8 (.var 5)),
  (11, [E8 (.var 3), E8 (.var 2)], E8 (.var 5)),
  (11, [E8 (.var 0), E8 (.var 2)], E8 (.var 6)),
  (11, [E8 (.var 0), E8 (.bit .xor .u8 (.var 1) (.var 2))], E8 (.bit .xor .u8 (.var 3) (.var 6))),
  (11, [E8 (.var 0), E8 (.lit 1)], E8 (.var 0)),
  (11, [E8 (.var 0), E8 (.lit 0)], E8 (.lit 0)),
  (12, [B8 0], B8 7),
  (11, [E8 (.var 0), E8 (.var 7)], E8 (one q))]
def fieldCmp (q : Bool) : List (BinOp × Ex × Ex × Bool) := [(.eql, .var 0, .lit 0, q)]
theorem field_ev : ([true, false].all fun q => decide (evCall Try.prog (tabLore (fieldCmp q) []) (tabCon (fieldTab q)) 100 4 [B8 0, B8 1, B8 2] [] = some (.tv (.sc (.bool true)), []))) = true := by kernel_rfl
theorem field_walk (w : World) (a b c : Nat) (ha : a < 256) (hb : b < 256) (hc : c < 256) :
    Calls Try.prog 4 #[.int .u8 (a : Int), .int .u8 (b : Int), .int .u8 (c : Int)] w fun e w' => e = .returned (.bool true) ∧ Below w.heap.size w w' := by
  obtain ⟨ab, hab⟩ : ∃ x, x = prod a b := ⟨_, rfl⟩
  obtain ⟨bc, hbc⟩ : ∃ x, x = prod b c := ⟨_, rfl⟩
  obtain ⟨ac, hac⟩ : ∃ x, x = prod a c := ⟨_, rfl⟩
  obtain ⟨t, ht⟩ : ∃ x, x = prod a bc := ⟨_, rfl⟩
  obtain ⟨i, hi⟩ : ∃ x, x = inv a := ⟨_, rfl⟩
  have lab : ab < 256 := by rw [hab]; exact prod_lt _ ha
  have lbc : bc < 256 := by rw [hbc]; exact prod_lt _ hb
  have lac : ac < 256 := by rw [hac]; exact prod_lt _ ha
  have lt : t < 256 := by rw [ht]; exact prod_lt _ ha
  have li : i < 256 := by rw [hi]; exact inv_lt _
  obtain ⟨f, hf⟩ : ∃ f, f = at8 [a, b, c, ab, bc, t, ac, i] := ⟨_, rfl⟩
  have hlt : ∀ j, f j < 256 := by
    rw [hf]
    refine byt_get fun y hy => ?_
    simp only [List.mem_cons, List.not_mem_nil, or_false] at hy
    rcases hy with rfl | rfl | rfl | rfl | rfl | rfl | rfl | rfl <;> assumption
  have f0 : f 0 = a := by rw [hf]; rfl
  have f1 : f 1 = b := by rw [hf]; rfl
  have f2 : f 2 = c := by rw [hf]; rfl
  have f3 : f 3 = ab := by rw [hf]; rfl
  have f4 : f 4 = bc := by rw [hf]; rfl
  have f5 : f 5 = t := by rw [hf]; rfl
  have f6 : f 6 = ac := by rw [hf]; rfl
  have f7 : f 7 = i := by rw [hf]; rfl
  clear hf
  have hev := List.all_eq_true.1 field_ev (decide (a = 0)) (by cases decide (a = 0) <;> simp)
  rw [decide_eq_true_eq] at hev
  have P : ∀ (w : World) (x y z : Nat), x < 256 → y < 256 → prod x y = z → Calls Try.prog 11 #[.int .u8 (x : Int), .int .u8 (y : Int)] w fun e w' => e = .returned (.int .u8 (z : Int)) ∧ Below w.heap.size w w' := fun w x y z hx hy hz => by
    rw [← hz]
    exact (product_any w x y hx hy).mono fun e w' ⟨q1, q2⟩ => ⟨q1, q2 ▸ Below.refl _ _⟩
  refine ret_true (calls_of_ev (tabLore_ok (ρ := envB f) ?_ ?_) (tabCon_ok ?_) mixedOrders 100 hev (args := #[.int .u8 (a : Int), .int .u8 (b : Int), .int .u8 (c : Int)]) w ?_)
  · intro e he
    simp only [fieldCmp, List.mem_cons, List.not_mem_nil, or_false] at he
    subst he
    simp only [CmpOk, cmpOf, Ex.den, envB, f0, Option.some.injEq]
    by_cases h : a = 0
    · subst h; rfl
    · rw [decide_eq_false h]
      simp only [beq_eq_false_iff_ne, ne_eq]
      omega
  · intro e he; simp at he
  · intro e he
    simp only [fieldTab, List.mem_cons, List.not_mem_nil, or_false] at he
    rcases he with rfl | rfl | rfl | rfl | rfl | rfl | rfl | rfl | rfl | rfl | rfl | rfl
    · exact ent0 fun w => awake_any w
    · exact entE2 hlt rfl rfl rfl fun w => by simp only [nden, f0, f1, f3]; exact P w a b ab ha hb hab.symm
    · exact entE2 hlt rfl rfl rfl fun w => by simp only [nden, f0, f1, f3]; exact P w b a ab hb ha (by rw [hab]; exact prod_comm b a hb ha)
    · exact entE2 hlt rfl rfl rfl fun w => by simp only [nden, f1, f2, f4]; exact P w b c bc hb hc hbc.symm
    · exact entE2 hlt rfl rfl rfl fun w => by simp only [nden, f0, f4, f5]; exact P w a bc t ha lbc ht.symm
    · exact entE2 hlt rfl rfl rfl fun w => by simp only [nden, f3, f2, f5]; exact P w ab c t lab hc (by rw [ht, hab, hbc]; exact (prod_assoc a b c ha hb hc).symm)
    · exact entE2 hlt rfl rfl rfl fun w => by simp only [nden, f0, f2, f6]; exact P w a c ac ha hc hac.symm
    · exact entE2 hlt rfl rfl rfl fun w => by simp only [nden, f0, f1, f2, f3, f6]; exact P w a (b ^^^ c) (ab ^^^ ac) ha (xor8 hb hc) (by rw [hab, hac]; exact prod_right a b c)
    · exact entE2 hlt rfl rfl rfl fun w => by simp only [nden, f0]; exact P w a 1 a ha (by decide) (prod_one a ha)
    · exact entE2 hlt rfl rfl rfl fun w => by simp only [nden, f0]; exact P w a 0 0 ha (by decide) (prodF_zero 8 a 0)
    · exact entB1 hlt fun w => by rw [f0, f7, hi]; exact inverse_any w a ha
    · refine entE2 hlt rfl rfl (by cases decide (a = 0) <;> rfl) fun w => ?_
      have e1 : nden f (one (decide (a = 0))) = if a = 0 then 0 else 1 := by by_cases h : a = 0 <;> simp [h, one, nden]
      simp only [e1]
      simp only [nden, f0, f7]
      exact P w a i _ ha li (by rw [hi]; exact prod_inv a ha)
  · have e : ∀ (j v : Nat), f j = v → (B8 j).inst (envB f) [] = some (.int .u8 (v : Int)) := fun j v h => by
      simp only [B8, AV.inst, TV.inst, SV.inst, Ex.den, envB, h]
    simp only [List.map_cons, List.map_nil, e 0 a f0, e 1 b f1, e 2 c f2]
end Go.Proofs.Ytehdglalfejpjab
