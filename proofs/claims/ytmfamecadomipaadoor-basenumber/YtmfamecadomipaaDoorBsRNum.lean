/- The document's Number and ReadNumber, walked. -/
import Derived.Test.YtmfamecadomipaaDoorBsNum
set_option linter.unusedSimpArgs false
set_option linter.unusedVariables false
namespace Go.Proofs.YtmfamecadomipaaDoor
open Go Go.RowKit

theorem canon_len {l : List UInt8} (h : Canon l) (hn : valD l < 10000000000000000000) : l.length ≤ 19 := by
  by_cases hl : 1 < l.length
  · have h3 := valD_pos h (Or.inl hl)
    apply Classical.byContradiction
    intro hc
    have h4 : (10 : Nat) ^ 19 ≤ 10 ^ (l.length - 1) := Nat.pow_le_pow_right (by decide) (by omega)
    have h5 : (10 : Nat) ^ 19 = 10000000000000000000 := by decide
    omega
  · omega
theorem dec_len (n : Nat) (hn : n < 10000000000000000000) : (Lib.decDigits n).length ≤ 19 := by
  obtain ⟨h1, h2, _⟩ := dec_canon n
  exact canon_len h1 (by omega)
theorem conv_one (w : World) (c : Int) (hc : 0 ≤ c ∧ c < 256) : (convert 28 9 (.slice (some ⟨w.heap.size, 0, none⟩) 1 1)).run Tryd.prog (w.alloc (.cells #[.int .u8 c] 5)) = .ok (.string (bS [c])) (w.alloc (.cells #[.int .u8 c] 5)) := by
  apply conv_str (l := [c])
  refine ⟨⟨_, 1, rfl, by simp, by decide, (fun e => by cases e), fun _ => ⟨w.heap.size, 0, rfl, fun j hj => ?_⟩⟩, by intro x hx; simp at hx; subst hx; exact hc⟩
  simp at hj
  subst hj
  simp
set_option maxRecDepth 100000 in
set_option maxHeartbeats 2000000 in
theorem rnumber_any (w : World) (x : Int) (h0 : -9223372036854775808 ≤ x) (h1 : x ≤ 9223372036854775807) :
    Calls Tryd.prog 8 #[.int .i64 x] w fun e w' => e = .returned (.tuple #[.string (nS x), .int .i64 (nE x)]) ∧ Below w.heap.size w w' := by
  by_cases h : x < 0
  · have e1 := hid (show nS x = ⟨#[]⟩ by unfold nS; rw [if_pos h])
    have e2 := hid (show nE x = 102 by unfold nE; rw [if_pos h])
    go_enter Tryd.func8, Tryd.ntmps8
    go_wp2
    go_ret2
    exact ⟨by rw [e1.out, e2.out]; rfl, Below.refl _ _⟩
  · have e1 := hid (show nS x = ⟨(Lib.decDigits x.toNat).toArray⟩ by unfold nS; rw [if_neg h])
    have e2 := hid (show nE x = 0 by unfold nE; rw [if_neg h])
    obtain ⟨n, rfl⟩ := Int.eq_ofNat_of_zero_le (show 0 ≤ x by omega)
    rw [Int.toNat_natCast] at e1
    have hdl := dec_len n (by omega)
    obtain ⟨D, HD⟩ : ∃ D, Hid (Lib.decDigits n = D) := ⟨_, rfl⟩
    rw [HD.out] at e1 hdl
    go_enter Tryd.func8, Tryd.ntmps8
    go_wp2
    go_loopw [0, 4] (fun x t wr => ∃ X : Nat, ∃ T : ByteArray, x = .int .i64 (X : Int) ∧ t = .string T ∧ X ≤ n ∧ Hid (Lib.decDigits X ++ T.data.toList = D) ∧ Hid (Below w.heap.size w wr)) (fun x _ _ => (intOf x).toNat)
    case atStart => exact ⟨n, ⟨#[]⟩, rfl, rfl, Nat.le_refl _, hid (by rw [HD.out]; simp), Below.refl _ _⟩
    case round =>
      obtain ⟨X, T, rfl, rfl, hX, HE, B⟩ := hrel
      have hTs : T.size ≤ 19 := by
        have e := congrArg List.length HE.out
        rw [List.length_append, ← Lib.size_eq] at e
        have h2 : 0 < (Lib.decDigits X).length := by
          rcases Nat.eq_zero_or_pos (Lib.decDigits X).length with q | q
          · exact absurd (List.length_eq_zero_iff.1 q) (dec_canon X).1.1
          · exact q
        omega
      by_cases h10 : X < 10
      · have hcv := conv_one wr (48 + (X : Int)) (by omega)
        have h2 : (bS [48 + (X : Int)]).size = 1 := by rw [bS_size]; rfl
        have n1 : ¬ (9223372036854775807 < (bS [48 + (X : Int)]).size + T.size) := by rw [h2]; omega
        have hfin : Hid (bS [48 + (X : Int)] ++ T = ⟨D.toArray⟩) := by
          refine hid (ByteArray.ext ?_)
          rw [← HE.out, Lib.decDigits, dif_pos h10]
          have : (bS [48 + (X : Int)]) = ⟨#[UInt8.ofNat (48 + X)]⟩ := by
            unfold bS
            simp only [List.map_cons, List.map_nil]
            congr 3
          rw [this]
          simp
        obtain ⟨O, HO⟩ : ∃ O, Hid (bS [48 + (X : Int)] = O) := ⟨_, rfl⟩
        rw [HO.out] at hcv h2 n1 hfin
        go_wp2
        go_ret2
        exact ⟨by rw [e1.out, e2.out, ← hfin.out]; rfl, B.out.trans ((Below.refl _ wr).alloc (Nat.le_refl _) _ |>.mono B.out.size)⟩
      · have hcv := conv_one wr (48 + (X : Int) % 10) (by omega)
        have h2 : (bS [48 + (X : Int) % 10]).size = 1 := by rw [bS_size]; rfl
        have n1 : ¬ (9223372036854775807 < (bS [48 + (X : Int) % 10]).size + T.size) := by rw [h2]; omega
        have hfin : Hid (Lib.decDigits (X / 10) ++ (bS [48 + (X : Int) % 10] ++ T).data.toList = D) := by
          refine hid ?_
          have : (bS [48 + (X : Int) % 10]) = ⟨#[UInt8.ofNat (48 + X % 10)]⟩ := by
            unfold bS
            simp only [List.map_cons, List.map_nil]
            rw [show (48 + (X : Int) % 10).toNat = 48 + X % 10 by omega]
          rw [← HE.out, this, Lib.decDigits.eq_def X, dif_neg h10]
          simp
        obtain ⟨O, HO⟩ : ∃ O, Hid (bS [48 + (X : Int) % 10] = O) := ⟨_, rfl⟩
        rw [HO.out] at hcv h2 n1 hfin
        have hdv := hid (show (X : Int) / 10 = ((X / 10 : Nat) : Int) by omega)
        go_wp2
        exact ⟨⟨X / 10, O ++ T, by rw [hdv.out], rfl, by omega, hfin, B.out.trans ((Below.refl _ wr).alloc (Nat.le_refl _) _ |>.mono B.out.size)⟩, by simp [intOf]; omega⟩
theorem idx_u8 (w : World) (s : ByteArray) (i : Nat) (h : i < s.size) : (Instr.index 9 (.string s) (.int .i64 (i : Int))).run Tryd.prog w = .ok (.int .u8 ((s.data.toList.getD i 0).toNat : Int)) w := by
  rw [idx_str w s i h]
  congr 2
  have h2 : i < s.data.toList.length := by rw [← Lib.size_eq]; exact h
  unfold sB
  simp [List.getD, List.getElem?_eq_getElem h2]
theorem rd_len {l : List UInt8} {most : Int} (h : rdOk l most) (hm : most ≤ 9223372036854775807) : l.length ≤ 19 := canon_len h.1 (by have := h.2; omega)
theorem getD_u8 {l : List UInt8} {k : Nat} (h : k < l.length) : l.getD k 0 = l[k] := by simp [List.getD, List.getElem?_eq_getElem h]
set_option maxRecDepth 100000 in
set_option maxHeartbeats 4000000 in
theorem rread_any (w : World) (s : ByteArray) (most : Int) (hs : s.size ≤ 281474976710656) (hm0 : -9223372036854775808 ≤ most) (hm1 : most ≤ 9223372036854775807) :
    Calls Tryd.prog 10 #[.string s, .int .i64 most] w fun e w' => e = .returned (.tuple #[.int .i64 (rdV s.data.toList most), .int .i64 (rdE s.data.toList most)]) ∧ Below w.heap.size w w' := by
  have HI : Hid (∀ W i, i < s.size → (Instr.index 9 (.string s) (.int .i64 (i : Int))).run Tryd.prog W = .ok (.int .u8 ((s.data.toList.getD i 0).toNat : Int)) W) := hid fun W i h => idx_u8 W s i h
  have hll : s.data.toList.length = s.size := (Lib.size_eq s).symm
  obtain ⟨l, Hl⟩ : ∃ l, Hid (s.data.toList = l) := ⟨_, rfl⟩
  rw [Hl.out] at HI hll
  rw [Hl.out]
  have HLL := hid hll
  clear hll
  have NO : Hid (¬ rdOk l most → rdV l most = 0 ∧ rdE l most = 102) := hid rd_no
  by_cases h0 : s.size = 0
  · have E := hid (NO.out fun h => h.1.1 (List.length_eq_zero_iff.1 (by rw [HLL.out]; exact h0)))
    go_enter Tryd.func10, Tryd.ntmps10
    go_wp2
    go_ret2
    exact ⟨by rw [E.out.1, E.out.2]; rfl, Below.refl _ _⟩
  by_cases h19 : 19 < s.size
  · have E := hid (NO.out fun h => by have := rd_len h hm1; rw [HLL.out] at this; omega)
    go_enter Tryd.func10, Tryd.ntmps10
    go_wp2
    go_ret2
    exact ⟨by rw [E.out.1, E.out.2]; rfl, Below.refl _ _⟩
  have hx0 := HI.out w 0 (by omega)
  obtain ⟨c0, Hc0⟩ : ∃ c : Int, Hid (((l.getD 0 0).toNat : Int) = c) := ⟨_, rfl⟩
  rw [Hc0.out] at hx0
  have hx0' : (Instr.index 9 (.string s) (.int .i64 0)).run Tryd.prog w = .ok (.int .u8 c0) w := hx0
  clear hx0
  have Hhead : Hid (c0 = 48 ↔ l.head? = some 48) := by
    refine hid ?_
    have h1 : 0 < l.length := by rw [HLL.out]; omega
    have hg := getD_u8 h1
    have hh : l.head? = some (l.getD 0 0) := by rw [hg, List.head?_eq_getElem?, List.getElem?_eq_getElem h1]
    rw [hh, ← Hc0.out, Option.some.injEq]
    constructor
    · intro e
      apply UInt8.toNat_inj.1
      have : (48 : UInt8).toNat = 48 := rfl
      omega
    · intro e
      rw [e]
      rfl
  by_cases hz : 1 < s.size ∧ c0 = 48
  · have E := hid (NO.out fun h => h.1.2.2 (by rw [HLL.out]; exact hz.1) (Hhead.out.1 hz.2))
    obtain ⟨hz1, rfl⟩ := hz
    go_enter Tryd.func10, Tryd.ntmps10
    go_wp2
    go_ret2
    exact ⟨by rw [E.out.1, E.out.2]; rfl, Below.refl _ _⟩
  have HCN : Hid ((∀ c ∈ l, dig c) → Canon l) := by
    refine hid fun hd => ⟨fun e => h0 (by rw [← HLL.out, e]; rfl), hd, fun h1 e => hz ⟨by rw [← HLL.out]; exact h1, Hhead.out.2 e⟩⟩
  have b0 : ((s.size : Int) == 0) = false := by
    rw [beq_eq_false_iff_ne]
    omega
  have i19 : ¬ (19 < (s.size : Int)) := by omega
  have HZ : Hid (¬ (1 < s.size ∧ c0 = 48)) := hz
  clear hz
  by_cases h1s : 1 < s.size
  · have hc48 : (c0 == 48) = false := by
      rw [beq_eq_false_iff_ne]
      exact fun e => HZ.out ⟨h1s, e⟩
    have i1 : 1 < (s.size : Int) := by omega
    go_enter Tryd.func10, Tryd.ntmps10
    go_wp2
    go_loopw [6, 7] (fun x i wr => ∃ I : Nat, I ≤ s.size ∧ x = .int .u64 ((fD 0 (l.take I) : Nat) : Int) ∧ i = .int .i64 (I : Int) ∧ Hid (∀ c ∈ l.take I, dig c) ∧ wr = w) (fun _ i _ => s.size - (intOf i).toNat)
    case atStart => exact ⟨0, Nat.zero_le _, rfl, rfl, hid (by simp), rfl⟩
    case round =>
      obtain ⟨I, hI, rfl, rfl, HG, rfl⟩ := hrel
      by_cases hlt : I < s.size
      · have q1 := HI.out wr I hlt
        have hIl : I < l.length := by rw [HLL.out]; exact hlt
        have htk : l.take (I + 1) = l.take I ++ [l.getD I 0] := by rw [List.take_succ_eq_append_getElem hIl, getD_u8 hIl]
        have hF := fD_lt (l.take I) HG.out 0
        rw [List.length_take, Nat.min_eq_left (Nat.le_of_lt hIl), Nat.zero_add, Nat.one_mul] at hF
        have hP : (10 : Nat) ^ I ≤ 10 ^ 18 := Nat.pow_le_pow_right (by decide) (by omega)
        have hP2 : (10 : Nat) ^ 18 = 1000000000000000000 := by decide
        have hFb : fD 0 (l.take I) < 1000000000000000000 := by omega
        have hmem : l.getD I 0 ∈ l := by rw [getD_u8 hIl]; exact List.getElem_mem hIl
        have HNX : Hid (fD 0 (l.take (I + 1)) = fD 0 (l.take I) * 10 + ((l.getD I 0).toNat - 48)) := by rw [htk, fD_snoc]; exact rfl
        have hcl := (l.getD I 0).toNat_lt
        have HDG : Hid (dig (l.getD I 0) → ∀ c ∈ l.take (I + 1), dig c) := by
          refine hid fun hd c hc => ?_
          rw [htk] at hc
          rcases List.mem_append.1 hc with hc | hc
          · exact HG.out c hc
          · rw [List.mem_singleton.1 hc]; exact hd
        have HBD : Hid (¬ dig (l.getD I 0) → rdV l most = 0 ∧ rdE l most = 102) := hid fun hd => NO.out fun h => hd (h.1.2.1 _ hmem)
        obtain ⟨F, HF⟩ : ∃ F, Hid (fD 0 (l.take I) = F) := ⟨_, rfl⟩
        obtain ⟨G, HGG⟩ : ∃ G, Hid (fD 0 (l.take (I + 1)) = G) := ⟨_, rfl⟩
        rw [HF.out] at hFb HNX
        rw [HGG.out] at HNX
        rw [HF.out]
        unfold dig at HBD
        have HDG2 : Hid ((48 ≤ (l.getD I 0).toNat ∧ (l.getD I 0).toNat ≤ 57) → ∀ c ∈ l.take (I + 1), dig c) := hid fun h => HDG.out h
        obtain ⟨C, HC⟩ : ∃ C, Hid ((l.getD I 0).toNat = C) := ⟨_, rfl⟩
        rw [HC.out] at q1 HNX hcl HBD HDG2
        clear htk hF hP hP2 hmem hIl HDG
        by_cases hlo : C < 48
        · have E := hid (HBD.out (by omega))
          have hlo' : (C : Int) < 48 := by omega
          go_wp2
          go_ret2
          exact ⟨by rw [E.out.1, E.out.2]; rfl, Below.refl _ _⟩
        · by_cases hhi : 57 < C
          · have E := hid (HBD.out (by omega))
            have hlo' : ¬ (C : Int) < 48 := by omega
            have hhi' : (57 : Int) < C := by omega
            go_wp2
            go_ret2
            exact ⟨by rw [E.out.1, E.out.2]; rfl, Below.refl _ _⟩
          · have hlo' : ¬ (C : Int) < 48 := by omega
            have hhi' : ¬ (57 : Int) < C := by omega
            have HX : Hid (10 * (F : Int) + ((C : Int) - 48) = (G : Int)) := by
              refine hid ?_
              have := HNX.out
              omega
            have HG2 := hid (HDG2.out (by omega))
            go_wp2
            exact ⟨⟨I + 1, by omega, by rw [HGG.out, ← HX.out], by go_num, HG2, trivial⟩, by simp [intOf]; omega⟩
      · have htl : l.take I = l := List.take_of_length_le (by rw [HLL.out]; omega)
        have HCC : Hid (Canon l) := by
          refine hid (HCN.out ?_)
          have := HG.out
          rwa [htl] at this
        have hF := fD_lt l HCC.out.2.1 0
        have hP : (10 : Nat) ^ l.length ≤ 10 ^ 19 := Nat.pow_le_pow_right (by decide) (by rw [HLL.out]; omega)
        have hP2 : (10 : Nat) ^ 19 = 10000000000000000000 := by decide
        rw [Nat.zero_add, Nat.one_mul] at hF
        have hFb : fD 0 l < 10000000000000000000 := by omega
        rw [htl]
        have HOK : Hid (∀ v : Nat, fD 0 l = v → (v : Int) ≤ most → rdV l most = v ∧ rdE l most = 0) := by
          refine hid fun v hv h => ?_
          have hok : rdOk l most := ⟨HCC.out, by unfold valD; omega⟩
          obtain ⟨e1, e2⟩ := rd_ok hok
          exact ⟨by rw [e1]; unfold valD; rw [hv], e2⟩
        have HBD : Hid (∀ v : Nat, fD 0 l = v → ¬ (v : Int) ≤ most → rdV l most = 0 ∧ rdE l most = 102) := by
          refine hid fun v hv h => NO.out fun hr => h ?_
          have := hr.2
          unfold valD at this
          omega
        obtain ⟨F, HF⟩ : ∃ F, Hid (fD 0 l = F) := ⟨_, rfl⟩
        rw [HF.out] at hFb
        rw [HF.out]
        clear htl hF hP hP2
        by_cases hmn : most < 0
        · have E := hid (HBD.out F HF.out (by omega))
          go_wp2
          go_ret2
          exact ⟨by rw [E.out.1, E.out.2]; rfl, Below.refl _ _⟩
        · by_cases hle : (F : Int) ≤ most
          · have E := hid (HOK.out F HF.out hle)
            have hgt : ¬ most < (F : Int) := by omega
            go_wp2
            go_ret2
            exact ⟨by rw [E.out.1, E.out.2]; rfl, Below.refl _ _⟩
          · have E := hid (HBD.out F HF.out hle)
            have hgt : most < (F : Int) := by omega
            go_wp2
            go_ret2
            exact ⟨by rw [E.out.1, E.out.2]; rfl, Below.refl _ _⟩
  · have i1 : ¬ 1 < (s.size : Int) := by omega
    go_enter Tryd.func10, Tryd.ntmps10
    go_wp2
    go_loopw [6, 7] (fun x i wr => ∃ I : Nat, I ≤ s.size ∧ x = .int .u64 ((fD 0 (l.take I) : Nat) : Int) ∧ i = .int .i64 (I : Int) ∧ Hid (∀ c ∈ l.take I, dig c) ∧ wr = w) (fun _ i _ => s.size - (intOf i).toNat)
    case atStart => exact ⟨0, Nat.zero_le _, rfl, rfl, hid (by simp), rfl⟩
    case round =>
      obtain ⟨I, hI, rfl, rfl, HG, rfl⟩ := hrel
      by_cases hlt : I < s.size
      · have q1 := HI.out wr I hlt
        have hIl : I < l.length := by rw [HLL.out]; exact hlt
        have htk : l.take (I + 1) = l.take I ++ [l.getD I 0] := by rw [List.take_succ_eq_append_getElem hIl, getD_u8 hIl]
        have hF := fD_lt (l.take I) HG.out 0
        rw [List.length_take, Nat.min_eq_left (Nat.le_of_lt hIl), Nat.zero_add, Nat.one_mul] at hF
        have hP : (10 : Nat) ^ I ≤ 10 ^ 18 := Nat.pow_le_pow_right (by decide) (by omega)
        have hP2 : (10 : Nat) ^ 18 = 1000000000000000000 := by decide
        have hFb : fD 0 (l.take I) < 1000000000000000000 := by omega
        have hmem : l.getD I 0 ∈ l := by rw [getD_u8 hIl]; exact List.getElem_mem hIl
        have HNX : Hid (fD 0 (l.take (I + 1)) = fD 0 (l.take I) * 10 + ((l.getD I 0).toNat - 48)) := by rw [htk, fD_snoc]; exact rfl
        have hcl := (l.getD I 0).toNat_lt
        have HDG : Hid (dig (l.getD I 0) → ∀ c ∈ l.take (I + 1), dig c) := by
          refine hid fun hd c hc => ?_
          rw [htk] at hc
          rcases List.mem_append.1 hc with hc | hc
          · exact HG.out c hc
          · rw [List.mem_singleton.1 hc]; exact hd
        have HBD : Hid (¬ dig (l.getD I 0) → rdV l most = 0 ∧ rdE l most = 102) := hid fun hd => NO.out fun h => hd (h.1.2.1 _ hmem)
        obtain ⟨F, HF⟩ : ∃ F, Hid (fD 0 (l.take I) = F) := ⟨_, rfl⟩
        obtain ⟨G, HGG⟩ : ∃ G, Hid (fD 0 (l.take (I + 1)) = G) := ⟨_, rfl⟩
        rw [HF.out] at hFb HNX
        rw [HGG.out] at HNX
        rw [HF.out]
        unfold dig at HBD
        have HDG2 : Hid ((48 ≤ (l.getD I 0).toNat ∧ (l.getD I 0).toNat ≤ 57) → ∀ c ∈ l.take (I + 1), dig c) := hid fun h => HDG.out h
        obtain ⟨C, HC⟩ : ∃ C, Hid ((l.getD I 0).toNat = C) := ⟨_, rfl⟩
        rw [HC.out] at q1 HNX hcl HBD HDG2
        clear htk hF hP hP2 hmem hIl HDG
        by_cases hlo : C < 48
        · have E := hid (HBD.out (by omega))
          have hlo' : (C : Int) < 48 := by omega
          go_wp2
          go_ret2
          exact ⟨by rw [E.out.1, E.out.2]; rfl, Below.refl _ _⟩
        · by_cases hhi : 57 < C
          · have E := hid (HBD.out (by omega))
            have hlo' : ¬ (C : Int) < 48 := by omega
            have hhi' : (57 : Int) < C := by omega
            go_wp2
            go_ret2
            exact ⟨by rw [E.out.1, E.out.2]; rfl, Below.refl _ _⟩
          · have hlo' : ¬ (C : Int) < 48 := by omega
            have hhi' : ¬ (57 : Int) < C := by omega
            have HX : Hid (10 * (F : Int) + ((C : Int) - 48) = (G : Int)) := by
              refine hid ?_
              have := HNX.out
              omega
            have HG2 := hid (HDG2.out (by omega))
            go_wp2
            exact ⟨⟨I + 1, by omega, by rw [HGG.out, ← HX.out], by go_num, HG2, trivial⟩, by simp [intOf]; omega⟩
      · have htl : l.take I = l := List.take_of_length_le (by rw [HLL.out]; omega)
        have HCC : Hid (Canon l) := by
          refine hid (HCN.out ?_)
          have := HG.out
          rwa [htl] at this
        have hF := fD_lt l HCC.out.2.1 0
        have hP : (10 : Nat) ^ l.length ≤ 10 ^ 19 := Nat.pow_le_pow_right (by decide) (by rw [HLL.out]; omega)
        have hP2 : (10 : Nat) ^ 19 = 10000000000000000000 := by decide
        rw [Nat.zero_add, Nat.one_mul] at hF
        have hFb : fD 0 l < 10000000000000000000 := by omega
        rw [htl]
        have HOK : Hid (∀ v : Nat, fD 0 l = v → (v : Int) ≤ most → rdV l most = v ∧ rdE l most = 0) := by
          refine hid fun v hv h => ?_
          have hok : rdOk l most := ⟨HCC.out, by unfold valD; omega⟩
          obtain ⟨e1, e2⟩ := rd_ok hok
          exact ⟨by rw [e1]; unfold valD; rw [hv], e2⟩
        have HBD : Hid (∀ v : Nat, fD 0 l = v → ¬ (v : Int) ≤ most → rdV l most = 0 ∧ rdE l most = 102) := by
          refine hid fun v hv h => NO.out fun hr => h ?_
          have := hr.2
          unfold valD at this
          omega
        obtain ⟨F, HF⟩ : ∃ F, Hid (fD 0 l = F) := ⟨_, rfl⟩
        rw [HF.out] at hFb
        rw [HF.out]
        clear htl hF hP hP2
        by_cases hmn : most < 0
        · have E := hid (HBD.out F HF.out (by omega))
          go_wp2
          go_ret2
          exact ⟨by rw [E.out.1, E.out.2]; rfl, Below.refl _ _⟩
        · by_cases hle : (F : Int) ≤ most
          · have E := hid (HOK.out F HF.out hle)
            have hgt : ¬ most < (F : Int) := by omega
            go_wp2
            go_ret2
            exact ⟨by rw [E.out.1, E.out.2]; rfl, Below.refl _ _⟩
          · have E := hid (HBD.out F HF.out hle)
            have hgt : most < (F : Int) := by omega
            go_wp2
            go_ret2
            exact ⟨by rw [E.out.1, E.out.2]; rfl, Below.refl _ _⟩
end Go.Proofs.YtmfamecadomipaaDoor
