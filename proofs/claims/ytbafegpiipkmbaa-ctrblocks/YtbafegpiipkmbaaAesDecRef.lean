/- The document's Decrypt and Encrypt. -/
import Derived.Test.YtbafegpiipkmbaaAesRoundsRef
set_option linter.unusedVariables false
namespace Go.Proofs.Ytbafegpiipkmbaa
open Go Go.RowKit Ev

def dunround (n : Nat) : List DS := [.bx n, .st .spread] ++ (if n < 10 then [.st .unmix] else []) ++ [.st .unshift, .st .unsub, .st .gather]
def docBackSt : List DS := (List.range 10).flatMap (fun n => dunround (10 - n)) ++ [.bx 0]
theorem dunround_ap {ks s : List Nat} (hk : Byt ks) (h : s.length = 16) (hb : Byt s) (n : Nat) : runD ks (dunround n) (St.gather.ap ks s) = St.gather.ap ks (runSt ks (unroundSt n) s) := by
  have g1 := St.ap_ok hk hb (.key n)
  unfold dunround unroundSt
  by_cases hn : n < 10
  · rw [if_pos hn, if_pos hn]
    show St.gather.ap ks (St.unsub.ap ks (St.unshift.ap ks (St.unmix.ap ks (St.spread.ap ks (DS.ap ks (.bx n) (St.gather.ap ks s)))))) = _
    rw [bx_of_gather hk h hb, spread_gather g1.1]
    rfl
  · rw [if_neg hn, if_neg hn]
    show St.gather.ap ks (St.unsub.ap ks (St.unshift.ap ks (St.spread.ap ks (DS.ap ks (.bx n) (St.gather.ap ks s))))) = _
    rw [bx_of_gather hk h hb, spread_gather g1.1]
    rfl
theorem unrounds_ap {ks : List Nat} (hk : Byt ks) : ∀ (l : List Nat) (s : List Nat), s.length = 16 → Byt s → runD ks (l.flatMap fun n => dunround (10 - n)) (St.gather.ap ks s) = St.gather.ap ks (runSt ks (l.flatMap fun n => unroundSt (10 - n)) s)
  | [], _, _, _ => rfl
  | n :: l, s, h1, h2 => by
    rw [List.flatMap_cons, List.flatMap_cons, runD_append, runSt_append, dunround_ap hk h1 h2]
    have := runSt_ok hk (unroundSt (10 - n)) s h1 h2
    exact unrounds_ap hk l _ this.1 this.2
theorem gather_spread16 {ks b : List Nat} (h : b.length = 16) : St.gather.ap ks (St.spread.ap ks b) = b := by
  obtain ⟨x0, x1, x2, x3, x4, x5, x6, x7, x8, x9, x10, x11, x12, x13, x14, x15, rfl⟩ := list16 h
  rfl
theorem doc_back {ks b : List Nat} (hk : Byt ks) (h : b.length = 16) (hb : Byt b) : runD ks docBackSt b = backL ks b := by
  unfold docBackSt backL backSt
  have g1 := St.ap_ok hk hb .spread
  rw [runD_append, runSt_append, runSt_append]
  show DS.ap ks (.bx 0) (runD ks _ b) = St.gather.ap ks ((St.key 0).ap ks (runSt ks _ (St.spread.ap ks b)))
  have g2 := runSt_ok hk ((List.range 10).flatMap fun n => unroundSt (10 - n)) _ g1.1 g1.2
  conv => lhs; rw [← gather_spread16 (ks := ks) h]
  rw [unrounds_ap hk _ _ g1.1 g1.2, bx_of_gather hk g2.1 g2.2]
theorem named_at {f : Nat → Nat} {o n : Nat} {l : List Nat} (hl : l.length = n) (h : ∀ i, i < n → f (o + i) = at8 l i) : named f o n = l := by
  refine List.ext_getElem (by rw [named_length, hl]) fun i h1 h2 => ?_
  rw [named_length] at h1
  simp only [named, List.getElem_map, List.getElem_range]
  rw [h i h1]
  simp [at8, List.getD, List.getElem?_eq_getElem h2]
def threeF (k b x : List Nat) : Nat → Nat := fun i => if i < 16 then at8 k i else if i < 32 then at8 b (i - 16) else at8 x (i - 32)
def rencTab : List (Nat × List AV × AV) := [(43, [V 0 16, V 16 16, N64 10], V 32 16)]
theorem rencrypt_ev : (evCallF Try.prog noLore (tabCon rencTab) 100 33 [V 0 16, V 16 16] []).map (·.1) = some (V 32 16) := by kernel_rfl
theorem rencrypt_any (w : World) (k b : List Nat) (hk : Byt k) (hkl : k.length = 16) (hb : Byt b) (hbl : b.length = 16) :
    Calls Try.prog 33 #[.agg (cells8 k), .agg (cells8 b)] w fun e w' => e = .returned (.agg (cells8 (forthL (schedL k) b 10))) ∧ Below w.heap.size w w' := by
  obtain ⟨x, hx⟩ : ∃ x, x = forthL (schedL k) b 10 := ⟨_, rfl⟩
  have ox : x.length = 16 ∧ Byt x := by rw [hx]; exact runSt_ok (schedL_ok hkl hk).2.1 _ b hbl hb
  have hlt : ∀ i, threeF k b x i < 256 := fun i => by
    unfold threeF
    split
    · exact byt_at hk i
    · split
      · exact byt_at hb _
      · exact byt_at ox.2 _
  have n1 : named (threeF k b x) 0 16 = k := named_at hkl fun i hi => by unfold threeF; rw [if_pos (by omega), Nat.zero_add]
  have n2 : named (threeF k b x) 16 16 = b := named_at hbl fun i hi => by unfold threeF; rw [if_neg (by omega), if_pos (by omega), show 16 + i - 16 = i by omega]
  have n3 : named (threeF k b x) 32 16 = x := named_at ox.1 fun i hi => by unfold threeF; rw [if_neg (by omega), if_neg (by omega), show 32 + i - 32 = i by omega]
  obtain ⟨⟨v, H'⟩, hev, hv⟩ := Option.map_eq_some_iff.1 rencrypt_ev
  simp only at hv
  subst hv
  refine (calls_of_evF (noLore_ok (envB (threeF k b x))) (tabCon_ok ?_) mixedOrders 100 hev (args := #[.agg (cells8 k), .agg (cells8 b)]) w ?_).mono ?_
  · intro e he
    simp only [rencTab, List.mem_cons, List.not_mem_nil, or_false] at he
    subst he
    exact ent3 hlt fun w => by rw [n1, n2, n3, hx]; exact rbehind_any w k b hk hkl hb hbl 10 (by decide)
  · simp only [List.map_cons, List.map_nil, V_inst hlt, n1, n2]
  · rintro e w' ⟨ms, u, rfl, h1, h2, h3⟩
    rw [V_inst hlt, n3, Option.some.injEq] at h1
    rw [← h1, hx]
    exact ⟨rfl, h3⟩
end Go.Proofs.Ytbafegpiipkmbaa
