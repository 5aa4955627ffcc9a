/- Tables of names and values and their bytes: lists alone. -/
import Derived.Test.YtfaojnnpekpomaaDoorBsNumM
import Derived.Test.YtfaojnnpekpomaaDoorBsStr
import Derived.Lib.Bytealg
import Derived.Lib.Bytes
set_option linter.unusedSimpArgs false
set_option linter.unusedVariables false
namespace Go.Proofs.YtfaojnnpekpomaaDoor
open Go

abbrev Rw := ByteArray × List Int
/-- Does one text stand at or below another? -/
def leS (a b : ByteArray) : Bool := Op.bytesLess a.toList b.toList || a.toList == b.toList
def dgL (n : Nat) : List Int := (Lib.decDigits n).map fun b => (b.toNat : Int)
/-- The bytes of a name or a value within a row. -/
def fld (l : List Int) : List Int := dgL l.length ++ 58 :: (l ++ [44])
def rowL (r : Rw) : List Int := fld (sB r.1) ++ fld r.2
def packL : List Rw → List Int
  | [] => []
  | r :: t => rowL r ++ packL t
def RwB (r : Rw) : Prop := Byt8 r.2

theorem dgL_dig (n : Nat) : ∀ x ∈ dgL n, 48 ≤ x ∧ x ≤ 57 := by
  intro x hx
  obtain ⟨b, hb, rfl⟩ := List.mem_map.1 hx
  have := (dec_canon n).1.2.1 b hb
  unfold dig at this
  omega
theorem dgL_no (n : Nat) : (58 : Int) ∉ dgL n := fun h => by have := dgL_dig n _ h; omega
theorem dgL_byt (n : Nat) : Byt8 (dgL n) := fun x hx => by have := dgL_dig n x hx; omega
theorem bytesOf_dgL (n : Nat) : Lib.bytesOf (dgL n) = Lib.decDigits n := by
  unfold Lib.bytesOf dgL
  rw [List.map_map]
  have : ∀ x ∈ Lib.decDigits n, ((fun x : Int => UInt8.ofNat x.toNat) ∘ fun b : UInt8 => (b.toNat : Int)) x = x := by
    intro x hx
    simp
  rw [List.map_congr_left this, List.map_id']
theorem dgL_inj {m n : Nat} (h : dgL m = dgL n) : m = n := by
  have h2 : Lib.decDigits m = Lib.decDigits n := by rw [← bytesOf_dgL, h, bytesOf_dgL]
  rw [← (dec_canon m).2.1, h2, (dec_canon n).2.1]
theorem dgL_length (n : Nat) : (dgL n).length = (Lib.decDigits n).length := by unfold dgL; rw [List.length_map]
theorem split58 : ∀ {a b x y : List Int}, (58 : Int) ∉ a → (58 : Int) ∉ b → a ++ 58 :: x = b ++ 58 :: y → a = b ∧ x = y
  | [], [], x, y, _, _, h => ⟨rfl, by simpa using h⟩
  | [], c :: b, x, y, _, hb, h => by
    simp only [List.nil_append, List.cons_append, List.cons.injEq] at h
    exact absurd (h.1 ▸ List.mem_cons_self ..) hb
  | c :: a, [], x, y, ha, _, h => by
    simp only [List.nil_append, List.cons_append, List.cons.injEq] at h
    exact absurd (h.1 ▸ List.mem_cons_self ..) ha
  | c :: a, d :: b, x, y, ha, hb, h => by
    simp only [List.cons_append, List.cons.injEq] at h
    obtain ⟨h1, h2⟩ := split58 (fun q => ha (List.mem_cons_of_mem _ q)) (fun q => hb (List.mem_cons_of_mem _ q)) h.2
    exact ⟨by rw [h.1, h1], h2⟩
theorem fld_app (f x : List Int) : fld f ++ x = dgL f.length ++ 58 :: (f ++ 44 :: x) := by unfold fld; simp
theorem fld_inj {f g x y : List Int} (h : fld f ++ x = fld g ++ y) : f = g ∧ x = y := by
  rw [fld_app, fld_app] at h
  obtain ⟨h1, h2⟩ := split58 (dgL_no _) (dgL_no _) h
  obtain ⟨h3, h4⟩ := List.append_inj h2 (dgL_inj h1)
  exact ⟨h3, by simpa using h4⟩
theorem row_inj {r s : Rw} {x y : List Int} (h : rowL r ++ x = rowL s ++ y) : r = s ∧ x = y := by
  unfold rowL at h
  rw [List.append_assoc, List.append_assoc] at h
  obtain ⟨h1, h2⟩ := fld_inj h
  obtain ⟨h3, h4⟩ := fld_inj h2
  exact ⟨Prod.ext (sB_inj h1) h3, h4⟩
theorem fld_len (f : List Int) : (fld f).length = (dgL f.length).length + f.length + 2 := by unfold fld; simp; omega
theorem dgL_pos (n : Nat) : 1 ≤ (dgL n).length := by
  rw [dgL_length]
  have := (dec_canon n).1.1
  cases h : Lib.decDigits n with
  | nil => exact absurd h this
  | cons a b => simp
theorem row_len (r : Rw) : 6 ≤ (rowL r).length := by
  unfold rowL
  rw [List.length_append, fld_len, fld_len]
  have := dgL_pos (sB r.1).length
  have := dgL_pos r.2.length
  omega
theorem packL_app (a b : List Rw) : packL (a ++ b) = packL a ++ packL b := by
  induction a with
  | nil => rfl
  | cons r t ih => rw [List.cons_append, packL, packL, ih, List.append_assoc]
theorem packL_snoc (a : List Rw) (r : Rw) : packL (a ++ [r]) = packL a ++ rowL r := by rw [packL_app, packL, packL, List.append_nil]
/-- Whoever begins as the bytes of rows do begins with these rows. -/
theorem pack_split : ∀ (rs rows : List Rw) (x : List Int), packL rs ++ x = packL rows → ∃ t, rows = rs ++ t ∧ x = packL t
  | [], rows, x, h => ⟨rows, rfl, h⟩
  | r :: rs, [], x, h => by
    have := congrArg List.length h
    rw [packL, packL, List.length_append, List.length_append, List.length_nil] at this
    have := row_len r
    omega
  | r :: rs, s :: rows, x, h => by
    rw [packL, packL, List.append_assoc] at h
    obtain ⟨rfl, h2⟩ := row_inj h
    obtain ⟨t, rfl, rfl⟩ := pack_split rs rows x h2
    exact ⟨t, rfl, rfl⟩
theorem pack_inj {a b : List Rw} (h : packL a = packL b) : a = b := by
  obtain ⟨t, rfl, h2⟩ := pack_split a b [] (by rw [List.append_nil]; exact h)
  cases t with
  | nil => rw [List.append_nil]
  | cons r t =>
    have := congrArg List.length h2
    rw [packL, List.length_append, List.length_nil] at this
    have := row_len r
    omega

/-- May a row stand behind the name last? -/
def okRow (last : ByteArray) (r : Rw) : Prop := leS r.1 last = false ∧ r.1.size ≤ 64 ∧ r.2.length ≤ 65536
instance (last : ByteArray) (r : Rw) : Decidable (okRow last r) := by unfold okRow; infer_instance
def okRows : ByteArray → List Rw → Prop
  | _, [] => True
  | last, r :: t => okRow last r ∧ okRows r.1 t
instance : ∀ (l : List Rw) (last : ByteArray), Decidable (okRows last l)
  | [], _ => by unfold okRows; infer_instance
  | r :: t, last => by
    unfold okRows
    have := instDecidableOkRows t r.1
    infer_instance
def lastN : ByteArray → List Rw → ByteArray
  | last, [] => last
  | _, r :: t => lastN r.1 t
def noS : ByteArray := ⟨#[]⟩
def mayT (l : List Rw) : Prop := l.length ≤ 64 ∧ okRows noS l
instance (l : List Rw) : Decidable (mayT l) := by unfold mayT; infer_instance
theorem okRows_app : ∀ (a b : List Rw) (last : ByteArray), okRows last (a ++ b) ↔ okRows last a ∧ okRows (lastN last a) b
  | [], b, last => by simp [okRows, lastN]
  | r :: a, b, last => by
    rw [List.cons_append, okRows, okRows, okRows_app a b r.1, lastN, and_assoc]
theorem okRows_snoc (a : List Rw) (r : Rw) (last : ByteArray) : okRows last (a ++ [r]) ↔ okRows last a ∧ okRow (lastN last a) r := by
  rw [okRows_app, okRows, okRows, and_true]
theorem lastN_app : ∀ (a b : List Rw) (last : ByteArray), lastN last (a ++ b) = lastN (lastN last a) b
  | [], b, last => rfl
  | r :: a, b, last => by rw [List.cons_append, lastN, lastN, lastN_app a b r.1]
theorem lastN_snoc (a : List Rw) (r : Rw) (last : ByteArray) : lastN last (a ++ [r]) = r.1 := by rw [lastN_app, lastN, lastN]
theorem okRows_take {a : List Rw} {last : ByteArray} (h : okRows last a) (i : Nat) : okRows last (a.take i) := by
  rw [← List.take_append_drop i a, okRows_app] at h
  exact h.1
theorem mayT_take {a : List Rw} (h : mayT a) (i : Nat) : mayT (a.take i) := ⟨by have := h.1; rw [List.length_take]; omega, okRows_take h.2 i⟩

/-- What Unpack answers of the bytes l: the rows, the place, the error. -/
def UnpQ (l : List Int) (rows : List Rw) (at_ : Nat) (e : Int) : Prop :=
  (e = 0 ∧ at_ = 0 ∧ mayT rows ∧ packL rows = l) ∨
  (e = 131 ∧ rows = [] ∧ at_ < l.length ∧ ∃ rs, mayT rs ∧ packL rs = l.take at_ ∧ ∀ r x, rs.length < 64 → okRow (lastN noS rs) r → l.drop at_ ≠ rowL r ++ x)
/-- Bytes of a table that may be are taken as that table. -/
theorem UnpQ.of_pack {rows t : List Rw} {a : Nat} {e : Int} (hm : mayT rows) (h : UnpQ (packL rows) t a e) : e = 0 ∧ a = 0 ∧ t = rows := by
  rcases h with ⟨h1, h2, h3, h4⟩ | ⟨h1, h2, h3, rs, h4, h5, h6⟩
  · exact ⟨h1, h2, pack_inj h4⟩
  · exfalso
    obtain ⟨u, hu, hx⟩ := pack_split rs rows ((packL rows).drop a) (by rw [h5, List.take_append_drop])
    cases u with
    | nil =>
      have := congrArg List.length hx
      rw [packL, List.length_nil, List.length_drop] at this
      omega
    | cons r u =>
      have h7 := hm.2
      rw [hu, okRows_app, okRows] at h7
      have h8 := hm.1
      rw [hu, List.length_append, List.length_cons] at h8
      exact h6 r (packL u) (by omega) h7.2.1 (by rw [hx, packL])
theorem UnpQ.one {l : List Int} {r s : List Rw} {a b : Nat} {e f : Int} (h : UnpQ l r a e) (g : UnpQ l s b f) (he : e = 0) : f = 0 ∧ b = 0 ∧ s = r := by
  rcases h with ⟨_, _, h3, h4⟩ | ⟨h1, _⟩
  · rw [← h4] at g
    exact g.of_pack h3
  · omega
/-- Rows' bytes grow with the rows. -/
theorem pack_take_lt (rows : List Rw) (i : Nat) (h : i < rows.length) : (packL (rows.take i)).length < (packL (rows.take (i + 1))).length := by
  rw [List.take_succ_eq_append_getElem h, packL_snoc, List.length_append]
  have := row_len rows[i]
  omega
theorem pack_take_le (rows : List Rw) (i j : Nat) (h : i ≤ j) : (packL (rows.take i)).length ≤ (packL (rows.take j)).length := by
  have : rows.take i = (rows.take j).take i := by rw [List.take_take, Nat.min_eq_left h]
  rw [this]
  conv => rhs; rw [← List.take_append_drop i (rows.take j), packL_app, List.length_append]
  omega
/-- The rows' bytes ahead are a beginning. -/
theorem pack_take_pre (rows : List Rw) (i : Nat) : packL (rows.take i) = (packL rows).take (packL (rows.take i)).length := by
  conv => rhs; rw [← List.take_append_drop i rows]
  rw [packL_app, List.take_append_drop, List.take_left']
  rfl
/-- A beginning of a table's bytes that is cut at the end of a row. -/
theorem cut_hit {rows t : List Rw} {a : Nat} {e : Int} {k i : Nat} (hm : mayT rows) (h : UnpQ ((packL rows).take k) t a e) (hi : (packL (rows.take i)).length = k) : e = 0 ∧ a = 0 ∧ t = rows.take i := by
  rw [← hi, ← pack_take_pre] at h
  exact h.of_pack (mayT_take hm i)
theorem cut_miss {rows t : List Rw} {a : Nat} {e : Int} {k : Nat} (hk : k ≤ (packL rows).length) (h : UnpQ ((packL rows).take k) t a e) (hi : ∀ i, i ≤ rows.length → (packL (rows.take i)).length ≠ k) : e = 131 ∧ t = [] ∧ a < k := by
  rcases h with ⟨h1, h2, h3, h4⟩ | ⟨h1, h2, h3, _⟩
  · exfalso
    obtain ⟨u, hu, _⟩ := pack_split t rows ((packL rows).drop k) (by rw [h4, List.take_append_drop])
    refine hi t.length (by rw [hu]; simp) ?_
    rw [hu, List.take_left', h4, List.length_take]
    · omega
    · rfl
  · rw [List.length_take] at h3
    exact ⟨h1, h2, by omega⟩

/-- Where the first colon stands. -/
theorem idx58 : ∀ (xs : List Int), Byt8 xs → (Lib.indexByte (Lib.bytesOf xs) 58 = -1 ∧ (58 : Int) ∉ xs) ∨ ∃ pre suf, xs = pre ++ 58 :: suf ∧ (58 : Int) ∉ pre ∧ Lib.indexByte (Lib.bytesOf xs) 58 = pre.length
  | [], _ => Or.inl ⟨rfl, by simp⟩
  | x :: xs, h => by
    have hx := h x (List.mem_cons_self ..)
    have he : Lib.bytesOf (x :: xs) = UInt8.ofNat x.toNat :: Lib.bytesOf xs := rfl
    by_cases hc : x = 58
    · subst hc
      refine Or.inr ⟨[], xs, rfl, by simp, ?_⟩
      rw [he, Lib.indexByte]
      rfl
    · have hb : (UInt8.ofNat x.toNat == 58) = false := by
        rw [beq_eq_false_iff_ne]
        intro e
        have := congrArg UInt8.toNat e
        rw [UInt8.toNat_ofNat'] at this
        have h58 : (58 : UInt8).toNat = 58 := rfl
        omega
      rcases idx58 xs (fun y hy => h y (List.mem_cons_of_mem _ hy)) with ⟨h1, h2⟩ | ⟨pre, suf, h1, h2, h3⟩
      · refine Or.inl ⟨?_, fun hm => ?_⟩
        · rw [he, Lib.indexByte, hb, h1]; rfl
        · rcases List.mem_cons.1 hm with hm | hm
          · exact hc hm.symm
          · exact h2 hm
      · refine Or.inr ⟨x :: pre, suf, by rw [h1, List.cons_append], fun hm => ?_, ?_⟩
        · rcases List.mem_cons.1 hm with hm | hm
          · exact hc hm.symm
          · exact h2 hm
        · rw [he, Lib.indexByte, hb, h3]
          have : ((pre.length : Int) == -1) = false := by rw [beq_eq_false_iff_ne]; omega
          rw [this]
          simp
theorem dec_len_mono : ∀ (n m : Nat), m ≤ n → (Lib.decDigits m).length ≤ (Lib.decDigits n).length := by
  intro n
  induction n using Nat.strongRecOn with
  | ind n ih =>
    intro m hm
    by_cases h : n < 10
    · rw [Lib.decDigits, dif_pos (by omega), Lib.decDigits, dif_pos h]
      simp
    · by_cases h2 : m < 10
      · rw [Lib.decDigits, dif_pos h2]
        conv => rhs; rw [Lib.decDigits, dif_neg h]
        simp
      · rw [Lib.decDigits, dif_neg h2]
        conv => rhs; rw [Lib.decDigits, dif_neg h]
        have := ih (n / 10) (by omega) (m / 10) (by omega)
        simp only [List.length_append, List.length_singleton]
        omega
/-- No colon among the first bytes: no name, no value. -/
theorem fld_none {l : List Int} {most : Nat} (h : (58 : Int) ∉ l.take ((dgL most).length + 1)) (f x : List Int) (hf : f.length ≤ most) : l ≠ fld f ++ x := by
  intro e
  apply h
  rw [e, fld_app]
  have h1 := dec_len_mono most f.length hf
  rw [← dgL_length, ← dgL_length] at h1
  rw [List.take_append]
  apply List.mem_append.2
  right
  rw [show (dgL most).length + 1 - (dgL f.length).length = ((dgL most).length - (dgL f.length).length) + 1 by omega, List.take_succ_cons]
  exact List.mem_cons_self ..
theorem take_colon {l pre suf : List Int} {n : Nat} (h : l.take n = pre ++ 58 :: suf) : ∃ l', l = pre ++ 58 :: l' ∧ pre.length < n := by
  refine ⟨suf ++ l.drop n, ?_, ?_⟩
  · conv => lhs; rw [← List.take_append_drop n l, h]
    simp
  · have := congrArg List.length h
    rw [List.length_take, List.length_append, List.length_cons] at this
    omega
theorem fld_bad {l pre l' : List Int} {most : Nat} (h : l = pre ++ 58 :: l') (hn : (58 : Int) ∉ pre) (hr : ¬ rdOk (Lib.bytesOf pre) (most : Int)) (f x : List Int) (hf : f.length ≤ most) : l ≠ fld f ++ x := by
  intro e
  rw [h, fld_app] at e
  obtain ⟨h1, _⟩ := split58 hn (dgL_no _) e
  apply hr
  rw [h1, bytesOf_dgL]
  obtain ⟨h2, h3, _⟩ := dec_canon f.length
  exact ⟨h2, by rw [h3]; omega⟩
theorem pre_dgL {pre : List Int} {most : Int} (hb : Byt8 pre) (hr : rdOk (Lib.bytesOf pre) most) : pre = dgL (valD (Lib.bytesOf pre)) := by
  have h := canon_dec _ _ rfl hr.1
  unfold dgL
  rw [h]
  unfold Lib.bytesOf
  rw [List.map_map]
  have : ∀ x ∈ pre, ((fun b : UInt8 => (b.toNat : Int)) ∘ fun x : Int => UInt8.ofNat x.toNat) x = x := by
    intro x hx
    have := hb x hx
    simp only [Function.comp, UInt8.toNat_ofNat']
    omega
  rw [List.map_congr_left this, List.map_id']
theorem fld_short {l l' : List Int} {v most : Nat} (h : l = dgL v ++ 58 :: l') (hs : l'.length ≤ v ∨ l'.getD v 0 ≠ 44) (f x : List Int) (hf : f.length ≤ most) : l ≠ fld f ++ x := by
  intro e
  rw [h, fld_app] at e
  obtain ⟨h1, h2⟩ := split58 (dgL_no _) (dgL_no _) e
  have h3 := dgL_inj h1
  subst h3
  rcases hs with hs | hs
  · rw [h2, List.length_append, List.length_cons] at hs
    omega
  · apply hs
    rw [h2]
    simp
theorem fld_hit {l l' : List Int} {v : Nat} (h : l = dgL v ++ 58 :: l') (hs : v < l'.length) (hc : l'.getD v 0 = 44) : l = fld (l'.take v) ++ l'.drop (v + 1) ∧ (l'.take v).length = v := by
  have hl : (l'.take v).length = v := by rw [List.length_take]; omega
  refine ⟨?_, hl⟩
  rw [fld_app, hl, h]
  congr 2
  conv => lhs; rw [← List.take_append_drop v l']
  rw [List.drop_eq_getElem_cons hs]
  congr 2
  rw [← hc]
  simp [List.getD, List.getElem?_eq_getElem hs]
end Go.Proofs.YtfaojnnpekpomaaDoor
