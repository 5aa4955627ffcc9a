/- UebKnown, walked. -/
import Derived.Test.YthcdefidoibopabDoorUbEq
import Derived.Test.YthcdefidoibopabDoorUbSame
set_option linter.unusedSimpArgs false
set_option linter.unusedVariables false
namespace Go.Proofs.YthcdefidoibopabDoor
open Go Go.RowKit

theorem packL_byt {rs : List Rw} (h : ∀ r ∈ rs, Byt8 r.2) : Byt8 (packL rs) := by
  induction rs with
  | nil => intro x hx; cases hx
  | cons r t ih =>
    intro x hx
    rw [packL] at hx
    have hfld : ∀ l : List Int, Byt8 l → ∀ y ∈ fld l, 0 ≤ y ∧ y < 256 := by
      intro l hl y hy
      unfold fld at hy
      rcases List.mem_append.1 hy with hy | hy
      · exact dgL_byt _ y hy
      · rcases List.mem_cons.1 hy with rfl | hy
        · omega
        · rcases List.mem_append.1 hy with hy | hy
          · exact hl y hy
          · simp at hy; omega
    rcases List.mem_append.1 hx with hx | hx
    · unfold rowL at hx
      rcases List.mem_append.1 hx with hx | hx
      · exact hfld _ (sB_byt _) x hx
      · exact hfld _ (h r (List.mem_cons_self ..)) x hx
    · exact ih (fun q hq => h q (List.mem_cons_of_mem _ hq)) x hx
/-- Where the first row at fault begins is but one. -/
theorem UnpQ.err_at {l : List Int} {rows rs : List Rw} {k a : Nat} {e : Int} (h : UnpQ l rows k e) (hm : mayT rs) (hp : packL rs = l.take a) (ha : a < l.length) (hno : ∀ r x, okRow (lastN noS rs) r → l.drop a ≠ rowL r ++ x) : e = 131 ∧ rows = [] ∧ k = a := by
  have hl : l = packL rs ++ l.drop a := by rw [hp, List.take_append_drop]
  have key : ∀ ts : List Rw, mayT ts → ∀ y, packL ts ++ y = l → (∃ t, rs = ts ++ t ∧ y = packL t ++ l.drop a) := by
    intro ts hts y hy
    by_cases q : (packL rs).length ≤ (packL ts).length
    · have e1 : packL ts = packL rs ++ (packL ts).drop (packL rs).length := by
        conv => lhs; rw [← List.take_append_drop (packL rs).length (packL ts)]
        congr 1
        have h1 : (packL ts ++ y).take (packL rs).length = (packL ts).take (packL rs).length := List.take_append_of_le_length q
        have h2 : l.take (packL rs).length = packL rs := by rw [hl]; exact List.take_left' rfl
        rw [← h1, hy, h2]
      obtain ⟨t, ht, _⟩ := pack_split rs ts _ e1.symm
      cases t with
      | nil =>
        rw [List.append_nil] at ht
        subst ht
        refine ⟨[], by rw [List.append_nil], ?_⟩
        rw [hl] at hy
        exact List.append_cancel_left hy
      | cons r t =>
        exfalso
        rw [ht] at hts hy
        have h7 := hts.2
        rw [okRows_app, okRows] at h7
        refine hno r (packL t ++ y) h7.2.1 ?_
        rw [packL_app, packL, hl, List.append_assoc, List.append_assoc] at hy
        rw [← List.append_cancel_left hy]
    · have e1 : packL rs = packL ts ++ (packL rs).drop (packL ts).length := by
        conv => lhs; rw [← List.take_append_drop (packL ts).length (packL rs)]
        congr 1
        have h1 : (packL rs ++ l.drop a).take (packL ts).length = (packL rs).take (packL ts).length := List.take_append_of_le_length (by omega)
        rw [← h1, ← hl, ← hy]
        exact List.take_left' rfl
      obtain ⟨t, ht, hx⟩ := pack_split ts rs _ e1.symm
      refine ⟨t, ht, ?_⟩
      rw [ht, packL_app, List.append_assoc] at hl
      exact List.append_cancel_left (hy.trans hl)
  rcases h with ⟨_, _, h3, h4⟩ | ⟨h1, h2, h3, ts, h4, h5, h6⟩
  · exfalso
    obtain ⟨t, _, ht⟩ := key rows h3 [] (by rw [List.append_nil]; exact h4)
    have := congrArg List.length ht
    rw [List.length_append, List.length_drop, List.length_nil] at this
    omega
  · refine ⟨h1, h2, ?_⟩
    obtain ⟨t, ht, hy⟩ := key ts h4 (l.drop k) (by rw [h5, List.take_append_drop])
    cases t with
    | nil =>
      rw [packL, List.nil_append] at hy
      have := congrArg List.length hy
      rw [List.length_drop, List.length_drop] at this
      omega
    | cons r t =>
      exfalso
      have h7 := hm.2
      rw [ht, okRows_app, okRows] at h7
      have h8 := hm.1
      rw [ht, List.length_append, List.length_cons] at h8
      refine h6 r (packL t ++ l.drop a) (by omega) h7.2.1 ?_
      rw [hy, packL, List.append_assoc]
def sA : ByteArray := ⟨#[97]⟩
def sBb : ByteArray := ⟨#[98]⟩
def sZ : ByteArray := ⟨#[122]⟩
def kb : List Int := [49, 58, 97, 44, 51, 58, 120, 121, 122, 44, 49, 58, 98, 44, 48, 58, 44]
def k1 : List Int := [49, 58, 97, 44, 51, 58, 120, 121, 122, 44, 49, 58, 97, 44, 48, 58, 44]
def k2 : List Int := [48, 49, 58, 97, 44, 48, 58, 44]
def k3 : List Int := [49, 58, 97, 44, 49, 58]
def kz : List Int := [49, 58, 122, 44, 48, 58, 44]
theorem ba_no : ¬ mayT [(sBb, []), (sA, [])] := by decide +kernel
theorem kb_may : mayT [(sA, [120, 121, 122]), (sBb, [])] := by decide +kernel
theorem kb_is : packL [(sA, [120, 121, 122]), (sBb, [])] = kb := by decide +kernel
theorem k1_at {rows : List Rw} {k : Nat} {e : Int} (h : UnpQ k1 rows k e) : e = 131 ∧ rows = [] ∧ k = 10 := by
  refine h.err_at (rs := [(sA, [120, 121, 122])]) (by decide +kernel) (by decide +kernel) (by decide) (fun r x ok e => ?_)
  have h1 : k1.drop 10 = rowL (sA, []) ++ [] := by decide +kernel
  rw [h1] at e
  obtain ⟨rfl, _⟩ := row_inj e
  have : ¬ okRow (lastN noS [(sA, [120, 121, 122])]) (sA, []) := by decide +kernel
  exact this ok
theorem k2_at {rows : List Rw} {k : Nat} {e : Int} (h : UnpQ k2 rows k e) : e = 131 ∧ rows = [] ∧ k = 0 := by
  refine h.err_at (rs := []) (by decide) rfl (by decide) (fun r x ok e => ?_)
  unfold rowL at e
  rw [List.append_assoc, fld_app] at e
  have h1 : k2.drop 0 = [48, 49] ++ 58 :: [97, 44, 48, 58, 44] := rfl
  rw [h1] at e
  obtain ⟨e1, _⟩ := split58 (by decide) (dgL_no _) e
  have h2 := congrArg Lib.bytesOf e1
  rw [bytesOf_dgL] at h2
  have h3 := (dec_canon (sB r.1).length).1.2.2
  rw [← h2] at h3
  exact h3 (by decide) rfl
theorem k3_at {rows : List Rw} {k : Nat} {e : Int} (h : UnpQ k3 rows k e) : e = 131 ∧ rows = [] ∧ k = 0 := by
  refine h.err_at (rs := []) (by decide) rfl (by decide) (fun r x ok e => ?_)
  unfold rowL at e
  rw [List.append_assoc] at e
  have h1 : k3.drop 0 = fld [97] ++ [49, 58] := by decide +kernel
  rw [h1] at e
  obtain ⟨_, e2⟩ := fld_inj e
  have := congrArg List.length e2
  rw [List.length_append, fld_len] at this
  have := dgL_pos r.2.length
  simp at *
  omega
theorem nil_at {rows : List Rw} {k : Nat} {e : Int} (h : UnpQ [] rows k e) : e = 0 ∧ rows = [] ∧ k = 0 := by
  have := h.of_pack (rows := []) (by decide)
  exact ⟨this.1, this.2.2, this.2.1⟩
theorem kz_may : mayT (ubRows ubK ++ [(sZ, [])]) := by decide +kernel
theorem kz_is : packL (ubRows ubK ++ [(sZ, [])]) = packL (ubRows ubK) ++ kz := by rw [packL_snoc, show rowL (sZ, []) = kz from by decide +kernel]
theorem kz_read {u : Ub} {k : Nat} {e : Int} (h : ReadQ (packL (ubRows ubK) ++ kz) u k e) : e = 132 ∧ k = 0 := by
  rw [← kz_is] at h
  rcases h with ⟨_, _, _, _, h5⟩ | ⟨_, _, h3⟩
  · have := congrArg List.length (pack_inj h5)
    simp [ubRows] at this
  · rcases h3 with ⟨_, h4⟩ | ⟨hk, rs, _, h5, h6⟩
    · have := (h4.of_pack kz_may).1
      omega
    · rcases h6 with ⟨h7, _⟩ | ⟨_, u', _, _, q3, _⟩
      · exact ⟨h7, hk⟩
      · have := congrArg List.length (pack_inj h5)
        rw [q3] at this
        simp [ubRows] at this
def ub64 : Ub := ⟨3, 10, 64, 1000, zeros32', zeros32'⟩
theorem ub64_ch : chE ub64 = 133 := by decide +kernel
theorem kb_byt : Byt8 kb := by intro x hx; simp [kb] at hx; omega
theorem kz_byt : Byt8 kz := by intro x hx; simp [kz] at hx; omega
end Go.Proofs.YthcdefidoibopabDoor
