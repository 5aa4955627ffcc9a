/- wire: what is laid down as a reply is read as that reply, and nothing else is. -/
import Derived.Test.YtmegeogfpkdodaaWrM2
import Derived.Test.YtmegeogfpkdodaaWrPutP
set_option linter.unusedVariables false
set_option linter.unusedSimpArgs false
namespace Go.Proofs.Ytmegeogfpkdodaa
open Go Go.RowKit

theorem pt1_cons (k : Int) (h0 : 0 ≤ k) (T : List Int) : pt1 (ps0 (k :: T)) = ⟨false, T, k, [], 0, 0⟩ := by
  show (kindP (ps0 (k :: T))).1 = _
  simp [kindP, ps0, okT_cons, taken_cons, left_cons, small1 k h0]
theorem tk1_iff {n : Nat} {φ : Pst} {s : PS} : (tkP n [φ] s).2 = true ↔ (φ s).1.f = false ∧ (φ s).2 = true := by
  unfold tkP
  rw [tkE_ok]
  constructor
  · rintro ⟨h1, h2⟩
    exact ⟨h1, h2 0 (by simp)⟩
  · rintro ⟨h1, h2⟩
    refine ⟨h1, fun k hk => ?_⟩
    have : k = 0 := by simpa using hk
    subst this
    exact h2
theorem pd1_cons (n : Nat) (k : Int) (h0 : 0 ≤ k) (T : List Int) : (pd1 n (ps0 (k :: T))).2 = rkB k := by
  rw [Bool.eq_iff_iff]
  unfold pd1
  rw [tk1_iff]
  have e1 : (kindP (ps0 (k :: T))).1 = ⟨false, T, k, [], 0, 0⟩ := pt1_cons k h0 T
  have e2 : (kindP (ps0 (k :: T))).2 = rkB (kindP (ps0 (k :: T))).1.k := rfl
  rw [e2, e1]
  simp
theorem pd1_nil (n : Nat) : (pd1 n (ps0 [])).2 = false := by
  rw [Bool.eq_false_iff]
  intro h
  have := (tk1_iff.1 h).1
  simp [kindP, ps0, okTake] at this
theorem numbersP_app (f : Bool) (c : Int) (h0 : 0 ≤ c) (t : List Int) (k : Int) (ns : List Int) (many sz : Int) : numbersP ⟨f, c :: t, k, ns, many, sz⟩ = (⟨f, t, k, ns, c, sz⟩, true) := by
  simp [numbersP, okT_cons, taken_cons, left_cons, small1 c h0]
theorem bytesP_app (f : Bool) (a t : List Int) (h : (a.length : Int) = 4) (k : Int) (ns : List Int) (many sz : Int) : bytesP ⟨f, a ++ t, k, ns, many, sz⟩ = (⟨f, t, k, ns, many, (smallNo 4 a : Nat)⟩, flB (smallNo 4 a : Nat)) := by
  simp [bytesP, okT_app a t 4 h, taken_app a t 4 h, left_app a t 4 h]
theorem numberP_app (f : Bool) (x : Int) (h0 : 0 ≤ x) (t : List Int) (k : Int) (ns : List Int) (many sz : Int) : numberP ⟨f, x :: t, k, ns, many, sz⟩ = (⟨f, t, k, ns ++ [x], many, sz⟩, folB ns x) := by
  simp [numberP, okT_cons, taken_cons, left_cons, small1 x h0]
/-- Numbers that are taken one by one. -/
theorem num_seq (m : Nat) (f : Bool) (l : List Int) (hl : ∀ x ∈ l, 0 ≤ x) (k many sz : Int) (hm : m ≤ l.length) : ∀ j, j ≤ m → sqP (List.replicate m numberP) ⟨f, l, k, [], many, sz⟩ j = ⟨f, l.drop j, k, l.take j, many, sz⟩
  | 0, _ => by simp [sqP]
  | j + 1, hj => by
    unfold sqP
    rw [num_seq m f l hl k many sz hm j (by omega)]
    have e : (List.replicate m numberP).getD j (fun s => (s, true)) = numberP := by simp [List.getD, show j < m by omega]
    have hj2 : j < l.length := by omega
    rw [e, List.drop_eq_getElem_cons hj2]
    rw [numberP_app _ _ (hl _ (List.getElem_mem hj2)), List.take_succ_eq_append_getElem hj2]
theorem pd3_of {n : Nat} {s : PS} {l : List Int} {k many sz : Int} (h : pt2 s = ⟨false, l, k, [], many, sz⟩) (hl : ∀ x ∈ l, 0 ≤ x) : ((pd3 n s).2 = true ↔ ∀ j, j < herP s → folB (l.take j) (l.getD j 0) = true) ∧ pt3 s = ⟨false, l.drop (herP s), k, l.take (herP s), many, sz⟩ := by
  have hle : herP s ≤ l.length := by unfold herP; rw [h]; exact Nat.min_le_right _ _
  have hs := num_seq (herP s) false l hl k many sz hle
  constructor
  · unfold pd3 tkP
    rw [tkE_ok, h, List.length_replicate, hs _ (Nat.le_refl _)]
    simp only [true_and]
    constructor
    · intro hb j hj
      have := hb j hj
      have e : (List.replicate (herP s) numberP).getD j (fun s => (s, true)) = numberP := by simp [List.getD, hj]
      have hj2 : j < l.length := by omega
      rw [hs j (by omega), e, List.drop_eq_getElem_cons hj2] at this
      rw [numberP_app _ _ (hl _ (List.getElem_mem hj2))] at this
      rw [getD_of_lt hj2]
      exact this
    · intro hb j hj
      have e : (List.replicate (herP s) numberP).getD j (fun s => (s, true)) = numberP := by simp [List.getD, hj]
      have hj2 : j < l.length := by omega
      have := hb j hj
      rw [hs j (by omega), e, List.drop_eq_getElem_cons hj2]
      rw [getD_of_lt hj2] at this
      rw [numberP_app _ _ (hl _ (List.getElem_mem hj2))]
      exact this
  · unfold pt3
    rw [h, hs _ (Nat.le_refl _)]
theorem risTo_of {ns : List Int} : ∀ n, (∀ i, i < n → folB (ns.take i) (ns.getD i 0) = true) → risTo ns n = true
  | 0, _ => rfl
  | n + 1, h => by rw [risTo, risTo_of n (fun i hi => h i (by omega)), h n (by omega)]; rfl
/-- The reply of a kind without fields. -/
theorem pt2_other {k : Int} (h0 : 0 ≤ k) (h1 : k ≠ 1) (h5 : k ≠ 5) (T : List Int) (n : Nat) : pt2 (ps0 (k :: T)) = ⟨false, T, k, [], 0, 0⟩ ∧ (pd2 n (ps0 (k :: T))).2 = true := by
  have e : flPS (pt1 (ps0 (k :: T))).k = [] := by rw [pt1_cons k h0]; simp [flPS, h1, h5]
  constructor
  · unfold pt2
    rw [e, pt1_cons k h0]
    rfl
  · unfold pd2 tkP
    rw [e, tkE_ok, pt1_cons k h0]
    exact ⟨rfl, fun j hj => absurd hj (by simp)⟩
theorem pt2_1 (c : Int) (h0 : 0 ≤ c) (T : List Int) (n : Nat) : pt2 (ps0 (1 :: c :: T)) = ⟨false, T, 1, [], c, 0⟩ ∧ (pd2 n (ps0 (1 :: c :: T))).2 = true := by
  have e : flPS (pt1 (ps0 (1 :: c :: T))).k = [numbersP] := by rw [pt1_cons 1 (by omega)]; rfl
  constructor
  · unfold pt2
    rw [e, pt1_cons 1 (by omega)]
    show (numbersP _).1 = _
    simp only [sqP]
    rw [numbersP_app _ _ h0]
  · unfold pd2
    rw [e, tk1_iff, pt1_cons 1 (by omega), numbersP_app _ _ h0]
    exact ⟨rfl, rfl⟩
theorem pt2_5 (a t : List Int) (h : (a.length : Int) = 4) (n : Nat) : pt2 (ps0 (5 :: (a ++ t))) = ⟨false, t, 5, [], 0, (smallNo 4 a : Nat)⟩ ∧ ((pd2 n (ps0 (5 :: (a ++ t)))).2 = true ↔ flB (smallNo 4 a : Nat) = true) := by
  have e : flPS (pt1 (ps0 (5 :: (a ++ t)))).k = [bytesP] := by rw [pt1_cons 5 (by omega)]; rfl
  constructor
  · unfold pt2
    rw [e, pt1_cons 5 (by omega)]
    show (bytesP _).1 = _
    simp only [sqP]
    rw [bytesP_app _ _ _ h]
  · unfold pd2
    rw [e, tk1_iff, pt1_cons 5 (by omega), bytesP_app _ _ _ h]
    simp
theorem inv1P {n : Nat} {T : List Int} (h : (pd2 n (ps0 (1 :: T))).2 = true) : ∃ c t, T = c :: t := by
  have e : flPS (pt1 (ps0 (1 :: T))).k = [numbersP] := by rw [pt1_cons 1 (by omega)]; rfl
  unfold pd2 at h
  rw [e, tk1_iff, pt1_cons 1 (by omega)] at h
  have h1 : (false || !okTake T 1) = false := h.1
  cases T with
  | nil => simp [okTake] at h1
  | cons c t => exact ⟨c, t, rfl⟩
theorem inv5P {n : Nat} {T : List Int} (h : (pd2 n (ps0 (5 :: T))).2 = true) : ∃ a t, T = a ++ t ∧ (a.length : Int) = 4 := by
  have e : flPS (pt1 (ps0 (5 :: T))).k = [bytesP] := by rw [pt1_cons 5 (by omega)]; rfl
  unfold pd2 at h
  rw [e, tk1_iff, pt1_cons 5 (by omega)] at h
  have h1 : (false || !okTake T 4) = false := h.1
  simp at h1
  exact ok_cut (n := 4) h1
/-- Whatever may stand behind the bytes of a reply: so far they are read. -/
theorem read_layP (k : Int) (ns b t : List Int) (hk : 0 ≤ k) (ht : ∀ x ∈ t, 0 ≤ x) (hb : ∀ x ∈ b, 0 ≤ x) (hm : mayP k ns b.length = true) (n : Nat) :
    (pd1 n (ps0 (layP k ns b ++ t))).2 = true ∧ (pd2 n (ps0 (layP k ns b ++ t))).2 = true ∧ (pd3 n (ps0 (layP k ns b ++ t))).2 = true ∧ (pt3 (ps0 (layP k ns b ++ t))).l = b ++ t ∧ (pt3 (ps0 (layP k ns b ++ t))).k = k ∧ (pt3 (ps0 (layP k ns b ++ t))).ns = ns ∧ (pt3 (ps0 (layP k ns b ++ t))).sz = b.length ∧ lackP (ps0 (layP k ns b ++ t)) = b.length := by
  by_cases h1 : k = 1
  · subst h1
    simp [mayP] at hm
    obtain ⟨hr, hb0⟩ := hm
    obtain rfl : b = [] := by simpa using hb0
    obtain ⟨h255, hns⟩ := ris_len hr
    have e : layP 1 ns [] ++ t = 1 :: (ns.length : Int) :: (ns ++ t) := by
      simp [layP, bigL_one ns.length (by omega)]
    rw [e, pd1_cons n 1 (by omega)]
    obtain ⟨c1, c2⟩ := pt2_1 (ns.length : Int) (by omega) (ns ++ t) n
    have hh : herP (ps0 (1 :: (ns.length : Int) :: (ns ++ t))) = ns.length := by
      unfold herP
      rw [c1]
      simp
    have hpos : ∀ x ∈ ns ++ t, 0 ≤ x := fun x hx => by
      rcases List.mem_append.1 hx with h | h
      · exact (hns x h).1
      · exact ht x h
    obtain ⟨d1, d2⟩ := pd3_of (n := n) c1 hpos
    rw [hh] at d1 d2
    refine ⟨rfl, c2, d1.2 fun j hj => ?_, ?_, ?_, ?_, ?_, ?_⟩
    · have := risTo_at hr j hj
      rw [List.take_append_of_le_length (by omega), show (ns ++ t).getD j 0 = ns.getD j 0 by simp [List.getD, List.getElem?_append_left hj]]
      exact this
    · rw [d2]; simp
    · rw [d2]
    · rw [d2]; simp
    · rw [d2]; rfl
    · unfold lackP; rw [d2, hh]; simp
  · by_cases h5 : k = 5
    · subst h5
      simp [mayP] at hm
      obtain ⟨hn0, hf⟩ := hm
      obtain rfl : ns = [] := by simpa using hn0
      have hfl : 1 ≤ b.length ∧ b.length ≤ 131072 := by simp [flB] at hf; omega
      have e : layP 5 [] b ++ t = 5 :: (bigL 4 b.length ++ (b ++ t)) := by simp [layP]
      rw [e, pd1_cons n 5 (by omega)]
      obtain ⟨c1, c2⟩ := pt2_5 (bigL 4 b.length) (b ++ t) (g4 _) n
      rw [e4 b.length (by omega)] at c1 c2
      have hh : herP (ps0 (5 :: (bigL 4 b.length ++ (b ++ t)))) = 0 := by
        unfold herP
        rw [c1]
        simp
      obtain ⟨d1, d2⟩ := pd3_of (n := n) c1 (fun x hx => by
        rcases List.mem_append.1 hx with h | h
        · exact hb x h
        · exact ht x h)
      rw [hh] at d1 d2
      refine ⟨rfl, c2.2 hf, d1.2 (fun j hj => absurd hj (by omega)), ?_, ?_, ?_, ?_, ?_⟩
      · rw [d2]; simp
      · rw [d2]
      · rw [d2]; simp
      · rw [d2]
      · unfold lackP; rw [d2, hh]; simp
    · simp [mayP, h1, h5] at hm
      obtain ⟨hrk, hn0, hb0⟩ := hm
      obtain rfl : ns = [] := by simpa using hn0
      obtain rfl : b = [] := by simpa using hb0
      have e : layP k [] [] ++ t = k :: t := by simp [layP, h1, h5]
      rw [e, pd1_cons n k hk]
      obtain ⟨c1, c2⟩ := pt2_other hk h1 h5 t n
      have hh : herP (ps0 (k :: t)) = 0 := by
        unfold herP
        rw [c1]
        simp
      obtain ⟨d1, d2⟩ := pd3_of (n := n) c1 ht
      rw [hh] at d1 d2
      refine ⟨hrk, c2, d1.2 (fun j hj => absurd hj (by omega)), ?_, ?_, ?_, ?_, ?_⟩
      · rw [d2]; simp
      · rw [d2]
      · rw [d2]; simp
      · rw [d2]; rfl
      · unfold lackP; rw [d2, hh]; simp
theorem taken_all (t : List Int) (n : Int) (h : (t.length : Int) = n) : taken t n = t := by
  have := taken_app t [] n h
  rwa [List.append_nil] at this
/-- What is read was laid down, and may be. -/
theorem lay_readP {l : List Int} {k : Int} {ns b : List Int} (hl : ∀ x ∈ l, 0 ≤ x ∧ x < 256) (h : rpGood l k ns b) : mayP k ns b.length = true ∧ l = layP k ns b ∧ 0 ≤ k ∧ k < 256 := by
  obtain ⟨h1, h2, h3, h4, hk, hns, hb⟩ := h
  cases l with
  | nil => rw [pd1_nil] at h1; cases h1
  | cons k0 T =>
    have hk0 := hl k0 (by simp)
    have hT : ∀ x ∈ T, 0 ≤ x ∧ x < 256 := fun x hx => hl x (by simp [hx])
    rw [pd1_cons _ k0 hk0.1] at h1
    by_cases e1 : k0 = 1
    · subst e1
      obtain ⟨c, t, rfl⟩ := inv1P h2
      have hc := hT c (by simp)
      have ht : ∀ x ∈ t, 0 ≤ x := fun x hx => (hT x (by simp [hx])).1
      obtain ⟨c1, c2⟩ := pt2_1 c hc.1 t (1 :: c :: t).length
      obtain ⟨d1, d2⟩ := pd3_of (n := (1 :: c :: t).length) c1 ht
      have hh : herP (ps0 (1 :: c :: t)) = min c.toNat t.length := by unfold herP; rw [c1]
      have d3 := d1.1 h3
      unfold lackP at h4
      rw [d2] at h4 hk hns hb
      simp only [List.length_drop] at h4
      have hlen : t.length = c.toNat ∧ herP (ps0 (1 :: c :: t)) = t.length := by
        rw [hh] at h4 ⊢
        omega
      rw [hlen.2] at d3 hns hb
      simp only at hk hns hb
      rw [List.take_length] at hns
      subst hk hns
      have hb' : b = [] := by rw [hb, List.drop_length]; exact taken_all [] 0 rfl
      subst hb'
      have hr : risB ns = true := risTo_of _ d3
      refine ⟨by simp [mayP, hr], ?_, by omega, by omega⟩
      obtain ⟨h255, _⟩ := ris_len hr
      simp [layP, bigL_one ns.length (by omega)]
      omega
    · by_cases e5 : k0 = 5
      · subst e5
        obtain ⟨a, t, rfl, ha⟩ := inv5P h2
        obtain ⟨b1, b2⟩ := bytL hT
        obtain ⟨c1, c2⟩ := pt2_5 a t ha (5 :: (a ++ t)).length
        have hf := c2.1 h2
        obtain ⟨d1, d2⟩ := pd3_of (n := (5 :: (a ++ t)).length) c1 (fun x hx => (b2 x hx).1)
        have hh : herP (ps0 (5 :: (a ++ t))) = 0 := by unfold herP; rw [c1]; simp
        rw [hh] at d2
        unfold lackP at h4
        rw [d2, hh] at h4
        rw [d2] at hk hns hb
        simp only [List.drop_zero, List.take_zero] at h4 hk hns hb
        subst hk hns
        have hlt : (t.length : Int) = (smallNo 4 a : Nat) := by omega
        rw [taken_all t _ hlt] at hb
        subst hb
        have hlt' : b.length = smallNo 4 a := by omega
        refine ⟨by simp only [mayP, hlt']; simp [hf], ?_, by omega, by omega⟩
        have z := big_small (n := 4) ha b1
        simp [layP, hlt', z]
      · obtain ⟨c1, c2⟩ := pt2_other hk0.1 e1 e5 T (k0 :: T).length
        obtain ⟨d1, d2⟩ := pd3_of (n := (k0 :: T).length) c1 (fun x hx => (hT x hx).1)
        have hh : herP (ps0 (k0 :: T)) = 0 := by unfold herP; rw [c1]; simp
        rw [hh] at d2
        unfold lackP at h4
        rw [d2, hh] at h4
        rw [d2] at hk hns hb
        simp only [List.drop_zero, List.take_zero] at h4 hk hns hb
        have hT0 : T = [] := List.length_eq_zero_iff.1 (by omega)
        subst hT0
        have hb' : b = [] := by rw [hb]; exact taken_all [] 0 rfl
        subst hk hns hb'
        exact ⟨by simp [mayP, e1, e5, h1], by simp [layP, e1, e5], hk0.1, hk0.2⟩
theorem bad_leP {l : List Int} {p : Int} (hl : ∀ x ∈ l, 0 ≤ x ∧ x < 256) (h : rpBad l p) : 0 ≤ p ∧ p ≤ l.length := by
  have A1 : AllP [68] [kindP] := .cons runsP_kind .nil
  have hs1 : (pt1 (ps0 l)).l.length ≤ l.length := (sqP_le A1 (ps0 l) 1).1
  have hs2 : (pt2 (ps0 l)).l.length ≤ l.length := Nat.le_trans (sqP_le (flP_runs _) (pt1 (ps0 l)) _).1 hs1
  have hs3 : (pt3 (ps0 l)).l.length ≤ l.length := Nat.le_trans (sqP_le (AllP.rep runsP_number _) (pt2 (ps0 l)) _).1 hs2
  rcases h with ⟨_, rfl⟩ | ⟨h1, _, rfl⟩ | ⟨h1, h2, _, rfl⟩ | ⟨h1, h2, _, h3, rfl⟩
  · exact tkE_le (fun k => (sqP_le A1 (ps0 l) k).1)
  · exact tkE_le (fun k => Nat.le_trans (sqP_le (flP_runs _) (pt1 (ps0 l)) k).1 hs1)
  · exact tkE_le (fun k => Nat.le_trans (sqP_le (AllP.rep runsP_number _) (pt2 (ps0 l)) k).1 hs2)
  · have h6 : 0 ≤ lackP (ps0 l) := by
      unfold lackP
      have q := sqP_many (herP (ps0 l)) (pt2 (ps0 l)) (herP (ps0 l))
      have e1 : (pt3 (ps0 l)).many = (pt2 (ps0 l)).many := q.1
      have e2 : (pt3 (ps0 l)).sz = (pt2 (ps0 l)).sz := q.2.1
      have h7 : 0 ≤ (pt2 (ps0 l)).many ∧ 0 ≤ (pt2 (ps0 l)).sz := by
        unfold pt2 flPS
        split
        · exact ⟨by show (0 : Int) ≤ ((smallNo 1 _ : Nat) : Int); omega, by show (0 : Int) ≤ 0; omega⟩
        · split
          · exact ⟨by show (0 : Int) ≤ 0; omega, by show (0 : Int) ≤ ((smallNo 4 _ : Nat) : Int); omega⟩
          · exact ⟨by show (0 : Int) ≤ 0; omega, by show (0 : Int) ≤ 0; omega⟩
      have h8 : (herP (ps0 l) : Int) ≤ (pt2 (ps0 l)).many := by
        have : herP (ps0 l) ≤ (pt2 (ps0 l)).many.toNat := Nat.min_le_left _ _
        omega
      omega
    unfold edA
    omega
theorem bad_goodP {l : List Int} {p k : Int} {ns b : List Int} (h : rpBad l p) (g : rpGood l k ns b) : False := by
  obtain ⟨g1, g2, g3, g4, _⟩ := g
  rcases h with ⟨h1, _⟩ | ⟨_, h1, _⟩ | ⟨_, _, h1, _⟩ | ⟨_, _, _, h1, _⟩
  · rw [g1] at h1; cases h1
  · rw [g2] at h1; cases h1
  · rw [g3] at h1; cases h1
  · exact h1 g4
theorem good_oneP {l : List Int} {k k' : Int} {ns ns' b b' : List Int} (h : rpGood l k ns b) (g : rpGood l k' ns' b') : k = k' ∧ ns = ns' ∧ b = b' := ⟨h.2.2.2.2.1.trans g.2.2.2.2.1.symm, h.2.2.2.2.2.1.trans g.2.2.2.2.2.1.symm, h.2.2.2.2.2.2.trans g.2.2.2.2.2.2.symm⟩
theorem good_layP (k : Int) (ns b : List Int) (hk : 0 ≤ k) (hb : ∀ x ∈ b, 0 ≤ x) (hm : mayP k ns b.length = true) : rpGood (layP k ns b) k ns b := by
  obtain ⟨h1, h2, h3, h4, h5, h6, h7, h8⟩ := read_layP k ns b [] hk (by simp) hb hm (layP k ns b).length
  simp only [List.append_nil] at h1 h2 h3 h4 h5 h6 h7 h8
  refine ⟨h1, h2, h3, by rw [h4, h8], h5.symm, h6.symm, ?_⟩
  rw [h4, h7]
  exact (taken_all b _ rfl).symm
/-- Bytes behind the last one that belongs to it. -/
theorem more_badP (k : Int) (ns b t : List Int) (hk : 0 ≤ k) (ht0 : ∀ x ∈ t, 0 ≤ x) (hb : ∀ x ∈ b, 0 ≤ x) (hm : mayP k ns b.length = true) (ht : t ≠ []) : (∀ k' ns' b', ¬ rpGood (layP k ns b ++ t) k' ns' b') ∧ ∀ p, rpBad (layP k ns b ++ t) p → p = (layP k ns b).length := by
  obtain ⟨h1, h2, h3, h4, h5, h6, h7, h8⟩ := read_layP k ns b t hk ht0 hb hm (layP k ns b ++ t).length
  have hl : 0 < t.length := List.length_pos_iff.2 ht
  constructor
  · rintro k' ns' b' ⟨_, _, _, g4, _⟩
    rw [h4, h8] at g4
    simp at g4
    omega
  · rintro p (⟨q1, _⟩ | ⟨_, q1, _⟩ | ⟨_, _, q1, _⟩ | ⟨_, _, _, q1, rfl⟩)
    · rw [h1] at q1; cases q1
    · rw [h2] at q1; cases q1
    · rw [h3] at q1; cases q1
    · rw [h4, h8]
      simp only [edA, List.length_append]
      omega
end Go.Proofs.Ytmegeogfpkdodaa
