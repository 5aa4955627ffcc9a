/- Of the road to uebWriteCard_holds: UbRPack, TgT1, Lists, Frames, TgUeb, TgRefU, UbDig. -/
import Derived.Test.YtklklldmhoofnaaDoorG19
import Derived.Test.YtklklldmhoofnaaDoorG06
import Derived.Test.YtklklldmhoofnaaDoorG18
import Derived.Test.YtklklldmhoofnaaDoorG13
import Derived.Test.YtklklldmhoofnaaDoorG04
import Derived.Test.YtklklldmhoofnaaDoorG00
import Derived.Test.YtklklldmhoofnaaDoorG17
import Derived.Test.YtklklldmhoofnaaDoorG01
import Derived.Test.YtklklldmhoofnaaDoorG16
set_option linter.unusedVariables false
set_option linter.unusedSimpArgs false
namespace Go.Proofs.YtklklldmhoofnaaDoor
open Go Go.RowKit
theorem bS_app' (a b : List Int) : bS a ++ bS b = bS (a ++ b) := by
  unfold bS
  rw [ByteArray.mk_append_mk, List.map_append]
theorem nS_bS (n : Nat) : nS (n : Int) = bS (dgL n) := by rw [← sB_nS n, bS_sB]
theorem strCells_bS {l : List Int} (h : Byt8 l) : Lib.strCells (bS l) = l.map (Value.int .u8) := by
  have e := sB_bS h
  have : Lib.strCells (bS l) = (sB (bS l)).map (Value.int .u8) := by unfold Lib.strCells sB; rw [List.map_map]; rfl
  rw [this, e]
theorem wp_append_text {w : World} {o : Oper} {a : Act} {K : Act → World → Prop} {Q : Exit → Act → World → Prop} (s x : Operand)
    (ho : o.op = .call { callee := .builtin .append, args := #[s, x], argTypes := #[26, 9] })
    (base : Nat) (v : Value) (n : Nat) (xs : List Value) (hs : a.eval s = v) (hown : w.ownsRow base 5 1 v n xs)
    (t : ByteArray) (hx : a.eval x = .string t) (h0 : 0 < t.size) (hn : n + t.size ≤ 140737488355328) (hbase : base ≤ w.heap.size)
    (h : ∀ v' w', w'.ownsRow base 5 1 v' (n + t.size) (xs ++ Lib.strCells t) → w.grownBy w' v.ownBlock → K (a.put o.dst v') w') : o.wp Tryd.prog a w K Q := by
  obtain ⟨v', w', hr, h2, h3, h4⟩ := run_append_text w base o.type v n xs hown t h0 hn hbase
  unfold Oper.wp execOp
  simp only [ho, resolve, invoke, builtin, Sem.run_bind, Sem.run_pure, Result.andThen_ok, List.map_toArray, List.map_cons, List.map_nil, hs, hx, hr]
  exact h v' w' h2 h3
def hdL (s : ByteArray) (n : Nat) : List Int := dgL s.size ++ 58 :: (sB s ++ 44 :: (dgL n ++ [58]))
theorem hdL_row (s : ByteArray) (l : List Int) : hdL s l.length ++ (l ++ [44]) = rowL (s, l) := by
  unfold hdL rowL fld
  simp [sB_length]
theorem hdL_byt (s : ByteArray) (n : Nat) : Byt8 (hdL s n) := by
  intro x hx
  unfold hdL at hx
  rcases List.mem_append.1 hx with h | h
  · exact dgL_byt _ x h
  rcases List.mem_cons.1 h with rfl | h
  · omega
  rcases List.mem_append.1 h with h | h
  · exact sB_byt _ x h
  rcases List.mem_cons.1 h with rfl | h
  · omega
  rcases List.mem_append.1 h with h | h
  · exact dgL_byt _ x h
  · simp at h; omega
set_option maxRecDepth 100000 in
set_option maxHeartbeats 16000000 in
theorem rpack_ok (w : World) (v : Value) (rs : List Rw) (h : HRw w v rs) (hm : mayT rs) :
    Calls Tryd.prog 18 #[v] w fun e w' => ∃ v', e = .returned (.tuple #[v', .int .i64 0]) ∧ w'.ownsRow w.heap.size 5 1 v' (packL rs).length ((packL rs).map (Value.int .u8)) ∧ Below w.heap.size w w' := by
  have C0 := hid (rmay_ok w v rs h hm)
  obtain ⟨p, c, rfl, hlc, hcm, hrow⟩ := h.open
  have HR := hid hrow
  have HM := hid hm
  have PLE : Hid (∀ k, (packL (rs.take k)).length ≤ 4480000) := hid fun k => by
    have a := pack_len_le (rs.take k) noS (okRows_take hm.2 k)
    have b := hm.1
    have c : (rs.take k).length ≤ rs.length := by rw [List.length_take]; omega
    omega
  clear hrow h
  have hm63 : rs.length ≤ 9223372036854775807 := by unfold maxLen at hcm; omega
  obtain ⟨n, HN⟩ : ∃ n, Hid (rs.length = n) := ⟨_, rfl⟩
  have h64 : n ≤ 64 := by rw [← HN.out]; exact hm.1
  rw [HN.out] at hlc hm63 C0
  rw [HN.out]
  clear hm
  go_enter Tryd.func18, Tryd.ntmps18
  go_wp2_with fail
  refine C0.out.mono ?_
  rintro e w1 ⟨rfl, hb1⟩
  have B1 := hid hb1
  clear hb1 C0
  go_wp2
  go_loopw [4, 5] (fun o i wr => ∃ k : Nat, k ≤ n ∧ i = .int .i64 (k : Int) ∧ Hid (wr.ownsRow w.heap.size 5 1 o (packL (rs.take k)).length ((packL (rs.take k)).map (Value.int .u8))) ∧ Hid (Below w.heap.size w wr)) (fun _ i _ => n - (intOf i).toNat)
  case atStart => exact ⟨0, Nat.zero_le _, rfl, hid (by simp [packL]; exact World.ownsRow_nil _ _ _ _), B1⟩
  case round =>
    obtain ⟨k, hk, rfl, HO, HB0⟩ := hrel
    have hsz := HB0.out.size
    by_cases hlt : k < n
    · obtain ⟨b, off, rfl, hbl, hcell⟩ := HR.out (by have := HN.out; omega)
      obtain ⟨u, hu, hv⟩ := hcell k (by have := HN.out; omega)
      have hok := okRows_take HM.out.2 (k + 1)
      have hts := take_snoc (rs := rs) (k := k) (by have := HN.out; omega)
      rw [hts, okRows_snoc] at hok
      obtain ⟨_, hle, hs64, hl64⟩ := hok
      obtain ⟨⟨s, l⟩, Hx⟩ : ∃ x, Hid (rs.getD k rw0 = x) := ⟨_, rfl⟩
      rw [Hx.out] at hu hv hle hs64 hl64 hts
      obtain ⟨pu, cu, rfl, hlu, hcu⟩ := hv.open
      have hs64 : s.size ≤ 64 := hs64
      have hl64 : l.length ≤ 65536 := hl64
      have HV := hid hv
      have PS : Hid (packL (rs.take (k + 1)) = packL (rs.take k) ++ (hdL s l.length ++ (l ++ [44]))) := hid (by rw [hts, packL_snoc, hdL_row])
      have r1 := range_below2 hu HB0.out hbl
      have cN : wr.cell? ⟨b, off + k * 2, none⟩ = some (.string s) := by have := r1 0 _ rfl; simpa using this
      have cV : wr.cell? ⟨b, off + k * 2 + 1, none⟩ = some (.slice pu l.length cu) := r1 1 _ rfl
      have FC : Hid (∀ W, Below w.heap.size w W → W.cell? ⟨b, off + k * 2, none⟩ = some (.string s) ∧ W.cell? ⟨b, off + k * 2 + 1, none⟩ = some (.slice pu l.length cu)) := hid fun W hW => by
        have r := range_below2 hu hW hbl
        exact ⟨by have := r 0 _ rfl; simpa using this, r 1 _ rfl⟩
      have CD1 := hid fun W => rdigits13_any W (s.size : Int) (by omega) (by omega)
      have CD2 := hid fun W => rdigits13_any W (l.length : Int) (by omega) (by omega)
      obtain ⟨d1, HD1⟩ : ∃ x, Hid (nS (s.size : Int) = x) := ⟨_, rfl⟩
      obtain ⟨d2, HD2⟩ : ∃ x, Hid (nS (l.length : Int) = x) := ⟨_, rfl⟩
      rw [HD1.out] at CD1
      rw [HD2.out] at CD2
      have y1 : d1.size ≤ 1000 := by rw [← HD1.out]; exact nS_size10 _ (by omega) (by omega)
      have y2 : d2.size ≤ 1000 := by rw [← HD2.out]; exact nS_size10 _ (by omega) (by omega)
      have TX : Hid (d1 ++ ⟨#[58]⟩ ++ s ++ ⟨#[44]⟩ ++ d2 ++ ⟨#[58]⟩ = bS (hdL s l.length)) := by
        refine hid ?_
        have e : d1 ++ ⟨#[58]⟩ ++ s ++ ⟨#[44]⟩ ++ d2 ++ ⟨#[58]⟩ = bS (dgL s.size) ++ bS [58] ++ bS (sB s) ++ bS [44] ++ bS (dgL l.length) ++ bS [58] := by
          rw [bS_sB, ← nS_bS, ← nS_bS, HD1.out, HD2.out]
          rfl
        rw [e]
        simp only [bS_app']
        unfold hdL
        simp
      have TZ : Hid ((bS (hdL s l.length)).size = (hdL s l.length).length) := hid (bS_size _)
      have HZ : Hid (0 < (hdL s l.length).length ∧ (hdL s l.length).length ≤ 1000) := by
        refine hid ?_
        unfold hdL
        have a := dec_len_small s.size (by omega)
        have b := dec_len_small l.length (by omega)
        have c := sB_length s
        simp only [List.length_append, List.length_cons, List.length_nil]
        omega
      have HC := hid (strCells_bS (hdL_byt s l.length))
      obtain ⟨tx, HTX⟩ : ∃ x, Hid (bS (hdL s l.length) = x) := ⟨_, rfl⟩
      rw [HTX.out] at TX TZ HC
      have ple := PLE.out k
      obtain ⟨L, HLk⟩ : ∃ x, Hid (packL (rs.take k) = x) := ⟨_, rfl⟩
      rw [HLk.out] at HO PS ple
      obtain ⟨Hd, HHd⟩ : ∃ x, Hid (hdL s l.length = x) := ⟨_, rfl⟩
      rw [HHd.out] at HC TZ HZ PS
      clear hu hv hcell r1 cN cV hts hle
      go_wp2
      refine wp_region_held_drew (S := Below w.heap.size w) (by kernel_rfl) HB0.out.drew (fun hHeld => ?_)
      have HS := hid hHeld
      clear hHeld
      change wpAnyH _ _ _ _ _ _ _ _ (World.drew _)
      refine wpAnyH_take (i := 0) (v := ?_) rfl (by kernel_rfl) (by kernel_rfl) (by kernel_rfl) (fun _ _ _ h => h) (Or.inl ⟨by rfl, ?q0⟩) HS.out ?_
      case q0 => intro W hSw; obtain ⟨z1, z2⟩ := FC.out W hSw; first | (go_simp; done) | (go_simp; rfl) | (go_simp; omega) | (go_simp; intro hq; exfalso; omega)
      simp only [Act.put, List.getElem_toArray, List.getElem_cons_zero, List.getElem_cons_succ, List.setIfInBounds_toArray, List.set_cons_zero, List.set_cons_succ]
      refine wpAnyH_take (i := 1) (v := .slice (some ⟨b, off, none⟩) n c) rfl (by kernel_rfl) (by kernel_rfl) (by kernel_rfl) (fun _ _ _ h => h) (Or.inl ⟨by rfl, ?q1⟩) HS.out ?_
      case q1 => intro W hSw; obtain ⟨z1, z2⟩ := FC.out W hSw; first | (go_simp; done) | (go_simp; rfl) | (go_simp; omega) | (go_simp; intro hq; exfalso; omega)
      simp only [Act.put, List.getElem_toArray, List.getElem_cons_zero, List.getElem_cons_succ, List.setIfInBounds_toArray, List.set_cons_zero, List.set_cons_succ]
      refine wpAnyH_take (i := 2) (v := .int .i64 (k : Int)) rfl (by kernel_rfl) (by kernel_rfl) (by kernel_rfl) (fun _ _ _ h => h) (Or.inl ⟨by rfl, ?q2⟩) HS.out ?_
      case q2 => intro W hSw; obtain ⟨z1, z2⟩ := FC.out W hSw; first | (go_simp; done) | (go_simp; rfl) | (go_simp; omega) | (go_simp; intro hq; exfalso; omega)
      simp only [Act.put, List.getElem_toArray, List.getElem_cons_zero, List.getElem_cons_succ, List.setIfInBounds_toArray, List.set_cons_zero, List.set_cons_succ]
      refine wpAnyH_take (i := 3) (v := .pointer (some ⟨b, off + k * 2, none⟩)) rfl (by kernel_rfl) (by kernel_rfl) (by kernel_rfl) (fun _ _ _ h => h) (Or.inl ⟨by rfl, ?q3⟩) HS.out ?_
      case q3 => intro W hSw; obtain ⟨z1, z2⟩ := FC.out W hSw; first | (go_simp; done) | (go_simp; rfl) | (go_simp; omega) | (go_simp; intro hq; exfalso; omega)
      simp only [Act.put, List.getElem_toArray, List.getElem_cons_zero, List.getElem_cons_succ, List.setIfInBounds_toArray, List.set_cons_zero, List.set_cons_succ]
      refine wpAnyH_take (i := 4) (v := .pointer (some ⟨b, off + k * 2, none⟩)) rfl (by kernel_rfl) (by kernel_rfl) (by kernel_rfl) (fun _ _ _ h => h) (Or.inl ⟨by rfl, ?q4⟩) HS.out ?_
      case q4 => intro W hSw; obtain ⟨z1, z2⟩ := FC.out W hSw; first | (go_simp; done) | (go_simp; rfl) | (go_simp; omega) | (go_simp; intro hq; exfalso; omega)
      simp only [Act.put, List.getElem_toArray, List.getElem_cons_zero, List.getElem_cons_succ, List.setIfInBounds_toArray, List.set_cons_zero, List.set_cons_succ]
      refine wpAnyH_take (i := 5) (v := .string s) rfl (by kernel_rfl) (by kernel_rfl) (by kernel_rfl) (fun _ _ _ h => h) (Or.inl ⟨by rfl, ?q5⟩) HS.out ?_
      case q5 => intro W hSw; obtain ⟨z1, z2⟩ := FC.out W hSw; first | (go_simp; done) | (go_simp; rfl) | (go_simp; omega) | (go_simp; intro hq; exfalso; omega)
      simp only [Act.put, List.getElem_toArray, List.getElem_cons_zero, List.getElem_cons_succ, List.setIfInBounds_toArray, List.set_cons_zero, List.set_cons_succ]
      refine wpAnyH_take (i := 6) (v := .int .i64 (s.size : Int)) rfl (by kernel_rfl) (by kernel_rfl) (by kernel_rfl) (fun _ _ _ h => h) (Or.inl ⟨by rfl, ?q6⟩) HS.out ?_
      case q6 => intro W hSw; obtain ⟨z1, z2⟩ := FC.out W hSw; first | (go_simp; done) | (go_simp; rfl) | (go_simp; omega) | (go_simp; intro hq; exfalso; omega)
      simp only [Act.put, List.getElem_toArray, List.getElem_cons_zero, List.getElem_cons_succ, List.setIfInBounds_toArray, List.set_cons_zero, List.set_cons_succ]
      refine wpAnyH_take (i := 9) (v := .slice (some ⟨b, off, none⟩) n c) rfl (by kernel_rfl) (by kernel_rfl) (by kernel_rfl) (fun _ _ _ h => h) (Or.inl ⟨by rfl, ?q9⟩) HS.out ?_
      case q9 => intro W hSw; obtain ⟨z1, z2⟩ := FC.out W hSw; first | (go_simp; done) | (go_simp; rfl) | (go_simp; omega) | (go_simp; intro hq; exfalso; omega)
      simp only [Act.put, List.getElem_toArray, List.getElem_cons_zero, List.getElem_cons_succ, List.setIfInBounds_toArray, List.set_cons_zero, List.set_cons_succ]
      refine wpAnyH_take (i := 10) (v := .int .i64 (k : Int)) rfl (by kernel_rfl) (by kernel_rfl) (by kernel_rfl) (fun _ _ _ h => h) (Or.inl ⟨by rfl, ?q10⟩) HS.out ?_
      case q10 => intro W hSw; obtain ⟨z1, z2⟩ := FC.out W hSw; first | (go_simp; done) | (go_simp; rfl) | (go_simp; omega) | (go_simp; intro hq; exfalso; omega)
      simp only [Act.put, List.getElem_toArray, List.getElem_cons_zero, List.getElem_cons_succ, List.setIfInBounds_toArray, List.set_cons_zero, List.set_cons_succ]
      refine wpAnyH_take (i := 11) (v := .pointer (some ⟨b, off + k * 2, none⟩)) rfl (by kernel_rfl) (by kernel_rfl) (by kernel_rfl) (fun _ _ _ h => h) (Or.inl ⟨by rfl, ?q11⟩) HS.out ?_
      case q11 => intro W hSw; obtain ⟨z1, z2⟩ := FC.out W hSw; first | (go_simp; done) | (go_simp; rfl) | (go_simp; omega) | (go_simp; intro hq; exfalso; omega)
      simp only [Act.put, List.getElem_toArray, List.getElem_cons_zero, List.getElem_cons_succ, List.setIfInBounds_toArray, List.set_cons_zero, List.set_cons_succ]
      refine wpAnyH_take (i := 12) (v := .pointer (some ⟨b, off + k * 2, none⟩)) rfl (by kernel_rfl) (by kernel_rfl) (by kernel_rfl) (fun _ _ _ h => h) (Or.inl ⟨by rfl, ?q12⟩) HS.out ?_
      case q12 => intro W hSw; obtain ⟨z1, z2⟩ := FC.out W hSw; first | (go_simp; done) | (go_simp; rfl) | (go_simp; omega) | (go_simp; intro hq; exfalso; omega)
      simp only [Act.put, List.getElem_toArray, List.getElem_cons_zero, List.getElem_cons_succ, List.setIfInBounds_toArray, List.set_cons_zero, List.set_cons_succ]
      refine wpAnyH_take (i := 13) (v := .string s) rfl (by kernel_rfl) (by kernel_rfl) (by kernel_rfl) (fun _ _ _ h => h) (Or.inl ⟨by rfl, ?q13⟩) HS.out ?_
      case q13 => intro W hSw; obtain ⟨z1, z2⟩ := FC.out W hSw; first | (go_simp; done) | (go_simp; rfl) | (go_simp; omega) | (go_simp; intro hq; exfalso; omega)
      simp only [Act.put, List.getElem_toArray, List.getElem_cons_zero, List.getElem_cons_succ, List.setIfInBounds_toArray, List.set_cons_zero, List.set_cons_succ]
      refine wpAnyH_take (i := 16) (v := .slice (some ⟨b, off, none⟩) n c) rfl (by kernel_rfl) (by kernel_rfl) (by kernel_rfl) (fun _ _ _ h => h) (Or.inl ⟨by rfl, ?q16⟩) HS.out ?_
      case q16 => intro W hSw; obtain ⟨z1, z2⟩ := FC.out W hSw; first | (go_simp; done) | (go_simp; rfl) | (go_simp; omega) | (go_simp; intro hq; exfalso; omega)
      simp only [Act.put, List.getElem_toArray, List.getElem_cons_zero, List.getElem_cons_succ, List.setIfInBounds_toArray, List.set_cons_zero, List.set_cons_succ]
      refine wpAnyH_take (i := 17) (v := .int .i64 (k : Int)) rfl (by kernel_rfl) (by kernel_rfl) (by kernel_rfl) (fun _ _ _ h => h) (Or.inl ⟨by rfl, ?q17⟩) HS.out ?_
      case q17 => intro W hSw; obtain ⟨z1, z2⟩ := FC.out W hSw; first | (go_simp; done) | (go_simp; rfl) | (go_simp; omega) | (go_simp; intro hq; exfalso; omega)
      simp only [Act.put, List.getElem_toArray, List.getElem_cons_zero, List.getElem_cons_succ, List.setIfInBounds_toArray, List.set_cons_zero, List.set_cons_succ]
      refine wpAnyH_take (i := 18) (v := .pointer (some ⟨b, off + k * 2, none⟩)) rfl (by kernel_rfl) (by kernel_rfl) (by kernel_rfl) (fun _ _ _ h => h) (Or.inl ⟨by rfl, ?q18⟩) HS.out ?_
      case q18 => intro W hSw; obtain ⟨z1, z2⟩ := FC.out W hSw; first | (go_simp; done) | (go_simp; rfl) | (go_simp; omega) | (go_simp; intro hq; exfalso; omega)
      simp only [Act.put, List.getElem_toArray, List.getElem_cons_zero, List.getElem_cons_succ, List.setIfInBounds_toArray, List.set_cons_zero, List.set_cons_succ]
      refine wpAnyH_take (i := 19) (v := .pointer (some ⟨b, off + k * 2 + 1, none⟩)) rfl (by kernel_rfl) (by kernel_rfl) (by kernel_rfl) (fun _ _ _ h => h) (Or.inl ⟨by rfl, ?q19⟩) HS.out ?_
      case q19 => intro W hSw; obtain ⟨z1, z2⟩ := FC.out W hSw; first | (go_simp; done) | (go_simp; rfl) | (go_simp; omega) | (go_simp; intro hq; exfalso; omega)
      simp only [Act.put, List.getElem_toArray, List.getElem_cons_zero, List.getElem_cons_succ, List.setIfInBounds_toArray, List.set_cons_zero, List.set_cons_succ]
      refine wpAnyH_take (i := 20) (v := .slice pu l.length cu) rfl (by kernel_rfl) (by kernel_rfl) (by kernel_rfl) (fun _ _ _ h => h) (Or.inl ⟨by rfl, ?q20⟩) HS.out ?_
      case q20 => intro W hSw; obtain ⟨z1, z2⟩ := FC.out W hSw; first | (go_simp; done) | (go_simp; rfl) | (go_simp; omega) | (go_simp; intro hq; exfalso; omega)
      simp only [Act.put, List.getElem_toArray, List.getElem_cons_zero, List.getElem_cons_succ, List.setIfInBounds_toArray, List.set_cons_zero, List.set_cons_succ]
      refine wpAnyH_take (i := 21) (v := .int .i64 (l.length : Int)) rfl (by kernel_rfl) (by kernel_rfl) (by kernel_rfl) (fun _ _ _ h => h) (Or.inl ⟨by rfl, ?q21⟩) HS.out ?_
      case q21 => intro W hSw; obtain ⟨z1, z2⟩ := FC.out W hSw; first | (go_simp; done) | (go_simp; rfl) | (go_simp; omega) | (go_simp; intro hq; exfalso; omega)
      simp only [Act.put, List.getElem_toArray, List.getElem_cons_zero, List.getElem_cons_succ, List.setIfInBounds_toArray, List.set_cons_zero, List.set_cons_succ]
      refine wpAnyH_ready (rs := [7]) (by kernel_rfl) (by simp) ?_
      refine AllReadyH.cons rfl (fun K hK => ?_) AllReadyH.nil
      go_simp
      refine (CD1.out _).mono ?_
      rintro e w2 ⟨rfl, hb2⟩
      have HS2 := hid (HS.out.trans (hb2.mono HS.out.size))
      have G2 : Hid (Below wr.heap.size wr w2) := hid ((Below.refl _ wr).drew.trans (hb2.mono (by simp)))
      clear hb2
      refine hK.out _ _ HS2.out (fun _ => ?_)
      clear hK K
      refine wpAnyH_take (i := 8) (v := .string (d1 ++ ⟨#[58]⟩)) rfl (by kernel_rfl) (by kernel_rfl) (by kernel_rfl) (fun _ _ _ h => h) (Or.inl ⟨by rfl, ?q8⟩) HS2.out ?_
      case q8 => intro W hSw; obtain ⟨z1, z2⟩ := FC.out W hSw; first | (go_simp; done) | (go_simp; rfl) | (go_simp; omega) | (go_simp; intro hq; exfalso; omega)
      simp only [Act.put, List.getElem_toArray, List.getElem_cons_zero, List.getElem_cons_succ, List.setIfInBounds_toArray, List.set_cons_zero, List.set_cons_succ]
      refine wpAnyH_take (i := 14) (v := .string (d1 ++ ⟨#[58]⟩ ++ s)) rfl (by kernel_rfl) (by kernel_rfl) (by kernel_rfl) (fun _ _ _ h => h) (Or.inl ⟨by rfl, ?q14⟩) HS2.out ?_
      case q14 => intro W hSw; obtain ⟨z1, z2⟩ := FC.out W hSw; first | (go_simp; done) | (go_simp; rfl) | (go_simp; omega) | (go_simp; intro hq; exfalso; omega)
      simp only [Act.put, List.getElem_toArray, List.getElem_cons_zero, List.getElem_cons_succ, List.setIfInBounds_toArray, List.set_cons_zero, List.set_cons_succ]
      refine wpAnyH_take (i := 15) (v := .string (d1 ++ ⟨#[58]⟩ ++ s ++ ⟨#[44]⟩)) rfl (by kernel_rfl) (by kernel_rfl) (by kernel_rfl) (fun _ _ _ h => h) (Or.inl ⟨by rfl, ?q15⟩) HS2.out ?_
      case q15 => intro W hSw; obtain ⟨z1, z2⟩ := FC.out W hSw; first | (go_simp; done) | (go_simp; rfl) | (go_simp; omega) | (go_simp; intro hq; exfalso; omega)
      simp only [Act.put, List.getElem_toArray, List.getElem_cons_zero, List.getElem_cons_succ, List.setIfInBounds_toArray, List.set_cons_zero, List.set_cons_succ]
      refine wpAnyH_ready (rs := [22]) (by kernel_rfl) (by simp) ?_
      refine AllReadyH.cons rfl (fun K hK => ?_) AllReadyH.nil
      go_simp
      refine (CD2.out _).mono ?_
      rintro e w3 ⟨rfl, hb3⟩
      have HS3 := hid (HS2.out.trans (hb3.mono HS2.out.size))
      have G3 := hid (G2.out.trans (hb3.mono G2.out.size))
      clear hb3
      refine hK.out _ _ HS3.out (fun _ => ?_)
      clear hK K
      refine wpAnyH_take (i := 23) (v := .string (d1 ++ ⟨#[58]⟩ ++ s ++ ⟨#[44]⟩ ++ d2)) rfl (by kernel_rfl) (by kernel_rfl) (by kernel_rfl) (fun _ _ _ h => h) (Or.inl ⟨by rfl, ?q23⟩) HS3.out ?_
      case q23 => intro W hSw; obtain ⟨z1, z2⟩ := FC.out W hSw; first | (go_simp; done) | (go_simp; rfl) | (go_simp; omega) | (go_simp; intro hq; exfalso; omega)
      simp only [Act.put, List.getElem_toArray, List.getElem_cons_zero, List.getElem_cons_succ, List.setIfInBounds_toArray, List.set_cons_zero, List.set_cons_succ]
      refine wpAnyH_take (i := 24) (v := .string (d1 ++ ⟨#[58]⟩ ++ s ++ ⟨#[44]⟩ ++ d2 ++ ⟨#[58]⟩)) rfl (by kernel_rfl) (by kernel_rfl) (by kernel_rfl) (fun _ _ _ h => h) (Or.inl ⟨by rfl, ?q24⟩) HS3.out ?_
      case q24 => intro W hSw; obtain ⟨z1, z2⟩ := FC.out W hSw; first | (go_simp; done) | (go_simp; rfl) | (go_simp; omega) | (go_simp; intro hq; exfalso; omega)
      simp only [Act.put, List.getElem_toArray, List.getElem_cons_zero, List.getElem_cons_succ, List.setIfInBounds_toArray, List.set_cons_zero, List.set_cons_succ]
      rw [TX.out]
      refine wpAnyH_ready (rs := [25]) (by kernel_rfl) (by simp) ?_
      refine AllReadyH.cons rfl (fun K hK => ?_) AllReadyH.nil
      refine wp_append_text _ _ rfl w.heap.size _ L.length _ rfl (own_below HO.out G3.out) tx rfl (by rw [TZ.out]; exact HZ.out.1) (by have := HZ.out.2; rw [TZ.out]; omega) (by have := G3.out.size; omega) (fun v4 w4 ho4 hg4 => ?_)
      have B4 := hid (HS3.out.grown hg4 HS3.out.size (fun q e => ((own_below HO.out G3.out).lt q e).1))
      rw [HC.out, TZ.out, ← List.map_append, ← List.length_append] at ho4
      have O4 := hid ho4
      have V4 := hid (HV.out.below B4.out)
      clear ho4 hg4
      refine hK.out _ _ B4.out (fun _ => ?_)
      clear hK K
      obtain ⟨p4, c4, ev4⟩ := own_slc O4.out
      subst ev4
      refine wpAnyH_take (i := 26) (v := .slice p4 (L ++ Hd).length c4) rfl (by kernel_rfl) (by kernel_rfl) (by kernel_rfl) (fun _ _ _ h => h) (Or.inl ⟨by rfl, ?q26⟩) B4.out ?_
      case q26 => intro W hSw; obtain ⟨z1, z2⟩ := FC.out W hSw; first | (go_simp; done) | (go_simp; rfl) | (go_simp; omega) | (go_simp; intro hq; exfalso; omega)
      simp only [Act.put, List.getElem_toArray, List.getElem_cons_zero, List.getElem_cons_succ, List.setIfInBounds_toArray, List.set_cons_zero, List.set_cons_succ]
      refine wpAnyH_done (by kernel_rfl) ?_ _
      clear HS
      obtain ⟨z1, z2⟩ := FC.out _ B4.out
      go_wp2_with (at_builtin; refine wpList_append_bytes rfl _ _ rfl w.heap.size _ (L ++ Hd).length _ rfl O4.out _ l rfl V4.out (by have := HZ.out.2; rw [List.length_append]; omega) B4.out.size (fun v5 w5 ho5 hg5 _ => Hid.out ?_))
      have B5 := hid (B4.out.grown hg5 B4.out.size (fun q e => (O4.out.lt q e).1))
      rw [← List.map_append, ← List.length_append] at ho5
      have O5 := hid ho5
      obtain ⟨p5, c5, ev5⟩ := own_slc ho5
      subst ev5
      clear ho5 hg5 z1 z2
      refine hid ?_
      go_wp2_with (at_builtin; refine wpList_append_byte rfl _ _ rfl w.heap.size _ (L ++ Hd ++ l).length _ rfl (O5.out.alloc _) ⟨w5.heap.size, 0, none⟩ 1 44 rfl (by simp) (by have := HZ.out.2; simp only [List.length_append]; omega) (by have := B5.out.size; simp; omega) (fun v6 w6 ho6 hg6 _ => Hid.out ?_))
      have B6 := hid ((B5.out.alloc B5.out.size _).grown hg6 (by have := B5.out.size; simp; omega) (fun q e => (O5.out.lt q e).1))
      have O6 : Hid (w6.ownsRow w.heap.size 5 1 v6 (packL (rs.take (k + 1))).length ((packL (rs.take (k + 1))).map (Value.int .u8))) := by
        refine hid ?_
        rw [PS.out, show L ++ (Hd ++ (l ++ [44])) = (L ++ Hd ++ l) ++ [44] by simp, List.map_append, List.length_append]
        exact ho6
      clear ho6 hg6
      refine hid ?_
      go_wp2
      exact ⟨⟨k + 1, by omega, by go_num, O6, B6⟩, by simp [intOf]; omega⟩
    · have hkn : k = n := by omega
      have O9 : Hid (wr.ownsRow w.heap.size 5 1 u4 (packL rs).length ((packL rs).map (Value.int .u8))) := by
        refine hid ?_
        have := HO.out
        rw [List.take_of_length_le (by have := HN.out; omega)] at this
        exact this
      go_wp2
      go_ret2
      exact ⟨_, rfl, O9.out, HB0.out⟩
set_option maxRecDepth 100000 in
set_option maxHeartbeats 4000000 in
theorem rwrite_ok (w : World) (u : Ub) (hu : u.ok) (h : OkS u.k u.n u.g u.z) : Calls Tryd.prog 5 #[.agg (ubA u)] w fun e w' => ∃ v, e = .returned (.tuple #[v, .int .i64 0]) ∧ HB w' v (wrL u) ∧ Below w.heap.size w w' := by
  have CK := hid fun w => rcheck13_any w u hu
  have e0 : chE u = 0 := by unfold chE; rw [if_pos h]
  rw [e0] at CK
  have CR := hid fun w => rrows_any w u hu (by obtain ⟨q1, q2, q3, q4⟩ := h.le; exact ⟨q1, q2, q3, q4⟩)
  have CP := hid fun w v (hr : HRw w v (ubRows u)) => rpack_ok w v (ubRows u) hr (ubRows_may hu h)
  have EW : Hid (wrL u = packL (ubRows u)) := hid (by unfold wrL; rw [if_pos e0])
  have BY : Hid (Byt8 (wrL u)) := by
    refine hid ?_
    rw [EW.out]
    intro x hx
    have key : ∀ (rs : List Rw), (∀ r ∈ rs, Byt8 r.2) → Byt8 (packL rs) := by
      intro rs
      induction rs with
      | nil => intro _ x hx; cases hx
      | cons r t ih =>
        intro hr x hx
        rw [packL, ← hdL_row] at hx
        rcases List.mem_append.1 hx with hx | hx
        · rcases List.mem_append.1 hx with hx | hx
          · exact hdL_byt _ _ x hx
          · rcases List.mem_append.1 hx with hx | hx
            · exact hr r (List.mem_cons_self ..) x hx
            · simp at hx; omega
        · exact ih (fun q hq => hr q (List.mem_cons_of_mem _ hq)) x hx
    refine key (ubRows u) (fun r hr => ?_) x hx
    simp only [ubRows, List.mem_cons, List.not_mem_nil, or_false] at hr
    rcases hr with rfl | rfl | rfl | rfl | rfl | rfl
    · exact dgL_byt _
    · exact dgL_byt _
    · exact dgL_byt _
    · exact hu.2.2
    · exact hu.1.2
    · exact dgL_byt _
  have HS := hid (size_ub hu)
  obtain ⟨m, Hm⟩ : ∃ x, Hid (ubA u = x) := ⟨_, rfl⟩
  rw [Hm.out] at CK CR HS
  rw [Hm.out]
  obtain ⟨w0, HW0⟩ : ∃ x, Hid (w.alloc (.cells m 25) = x) := ⟨_, rfl⟩
  have H0 : Hid (w0.heap[w.heap.size]? = some (.cells m 25 (0, 0))) := by refine hid ?_; rw [← HW0.out]; exact heap_alloc_new w _
  have B0 : Hid (Below w.heap.size w w0) := by refine hid ?_; rw [← HW0.out]; exact (Below.refl w.heap.size w).alloc (Nat.le_refl _) _
  have Z0 : Hid (w.heap.size < w0.heap.size) := by refine hid ?_; rw [← HW0.out]; simp
  clear e0 h hu Hm
  go_enter Tryd.func5, Tryd.ntmps5
  refine wp_seq_k fun K1 h1 => ?_
  have HK1 := hid h1
  clear h1
  go_wp2
  rw [HW0.out]
  refine HK1.out _ _ ?_
  clear HK1 K1
  go_wp2_with (first | (refine wpList_load_row rfl 25 _ rfl w.heap.size rfl 25 m (0, 0) _ H0.out Tryd.underlying25 rfl HS.out ?_) | fail)
  refine (CK.out w0).mono ?_
  rintro e w1 ⟨rfl, hb1⟩
  have B1 := hid (B0.out.trans (hb1.mono B0.out.size))
  have H1 := hid ((hb1.block w.heap.size Z0.out).trans H0.out)
  clear hb1 CK
  go_wp2_with (first | (refine wpList_load_row rfl 25 _ rfl w.heap.size rfl 25 m (0, 0) _ H1.out Tryd.underlying25 rfl HS.out ?_) | fail)
  refine (CR.out w1).mono ?_
  rintro e w2 ⟨v2, rfl, hr2, hb2⟩
  have B2 := hid (B1.out.trans (hb2.mono B1.out.size))
  have CP2 := hid (CP.out w2 v2 hr2)
  obtain ⟨p2, c2, rfl, _⟩ := hr2.open
  clear hb2 hr2 CR CP
  go_wp2_with fail
  refine CP2.out.mono ?_
  rintro e w3 ⟨v3, rfl, ho3, hb3⟩
  have B3 := hid (B2.out.trans (hb3.mono B2.out.size))
  have O3 : Hid (HB w3 v3 (wrL u)) := hid (HB.of_own (by rw [EW.out]; exact ho3) BY.out)
  clear ho3 hb3 CP2
  go_wp2
  go_ret2
  exact ⟨_, rfl, O3.out, B3.out⟩
def t1B (wd l : List Int) : List Int := framed [wd, l]
theorem t1B_inj {wd a b : List Int} (h : t1B wd a = t1B wd b) : a = b := by
  unfold t1B at h
  rw [framed_cons, framed_cons, framed_cons, framed_cons] at h
  have h1 := List.append_cancel_left h
  have h2 := List.append_cancel_left h1
  have h3 := List.append_inj h2 (by rw [bigL_length, bigL_length])
  simpa [framed_nil] using h3.2
def wRoot : List Int := [115, 116, 114, 111, 110, 103, 114, 111, 111, 109, 32, 114, 111, 111, 116]
def wBlock : List Int := [115, 116, 114, 111, 110, 103, 114, 111, 111, 109, 32, 98, 108, 111, 99, 107]
def wUeb : List Int := [115, 116, 114, 111, 110, 103, 114, 111, 111, 109, 32, 117, 101, 98]
def rtL (d : List Int) : List Int := digL (t1B wRoot d)
def bkL1 (l : List Int) : List Int := digL (t1B wBlock l)
def ueL (l : List Int) : List Int := digL (t1B wUeb l)
end Go.Proofs.YtklklldmhoofnaaDoor
namespace Go.Proofs.YtklklldmhoofnaaDoor
open Go.RowKit
theorem info_bytes : (Tryd.prog.info? 26).map (fun i => (i.zero, i.size, i.bytes)) = some (some (.slice none 0 0), 1, 24) := by kernel_rfl
def BytI (l : List Int) : Prop := ∀ x ∈ l, 0 ≤ x ∧ x < 256
def EL (w0 w : World) (u : Value) (l : List Int) : Prop :=
  (w.ownsRow w0.heap.size 5 1 u l.length (l.map (Value.int .u8)) ∧ BytI l) ∨ HB w0 u l
def OWL (w0 w : World) (v : Value) (ls : List (List Int)) : Prop :=
  ∃ xs, w.ownsRow w0.heap.size 26 1 v ls.length xs ∧ ∀ j, j < ls.length → EL w0 w (xs.getD j undef) (ls.getD j [])
theorem EL.hb {w0 w : World} {u : Value} {l : List Int} (h : EL w0 w u l) (hb : Below w0.heap.size w0 w) : HB w u l := by
  rcases h with ⟨h, hx⟩ | h
  · exact HB.of_own h hx
  · exact h.below hb
theorem own_block_ne {w : World} {B e n : Nat} {v : Value} {xs : List Value} (h : w.ownsRow B e 1 v n xs) {g : Nat} {cur : Array Value} {e' : TypeId} {fz : Nat × Nat} (hg : w.heap[g]? = some (.cells cur e' fz)) (hne : e ≠ e') : v.ownBlock ≠ some g := by
  intro hv
  rcases h.2 with ⟨rfl, _⟩ | ⟨g', cap, cur', rfl, _, hh, _⟩
  · simp [Value.ownBlock] at hv
  · simp only [Value.ownBlock, Option.some.injEq] at hv
    subst hv
    rw [hh] at hg
    simp only [Option.some.injEq, Obj.cells.injEq] at hg
    exact hne hg.2.1
theorem EL.grown {w0 w w' : World} {u : Value} {l : List Int} {row : Option Nat} (h : EL w0 w u l) (hg : w.grownBy w' row) (hr : ∀ g, row = some g → ∃ cur e fz, w.heap[g]? = some (.cells cur e fz) ∧ 5 ≠ e) : EL w0 w' u l := by
  rcases h with ⟨h, hx⟩ | h
  · refine .inl ⟨h.kept hg ?_, hx⟩
    cases hrow : row with
    | none =>
      cases hv : u.ownBlock with
      | none => exact .inl rfl
      | some k => exact .inr (by simp)
    | some g =>
      obtain ⟨cur, e, fz, hh, hne⟩ := hr g hrow
      exact .inr (own_block_ne h hh hne)
  · exact .inr h
theorem OWL.grown {w0 w w' : World} {v : Value} {ls : List (List Int)} {row : Option Nat} (h : OWL w0 w v ls) (hg : w.grownBy w' row) (hr : ∀ g, row = some g → ∃ cur e fz, w.heap[g]? = some (.cells cur e fz) ∧ 5 ≠ e ∧ 26 ≠ e) : OWL w0 w' v ls := by
  obtain ⟨xs, h1, h2⟩ := h
  refine ⟨xs, h1.kept hg ?_, fun j hj => (h2 j hj).grown hg fun g e => ?_⟩
  · cases hrow : row with
    | none =>
      cases hv : v.ownBlock with
      | none => exact .inl rfl
      | some k => exact .inr (by simp)
    | some g =>
      obtain ⟨cur, e, fz, hh, _, hne⟩ := hr g hrow
      exact .inr (own_block_ne h1 hh hne)
  · obtain ⟨cur, e', fz, hh, hne, _⟩ := hr g e
    exact ⟨cur, e', fz, hh, hne⟩
theorem OWL.below {w0 w w' : World} {v : Value} {ls : List (List Int)} (h : OWL w0 w v ls) (hb : Below w.heap.size w w') : OWL w0 w' v ls :=
  h.grown (row := none) ⟨hb.os, hb.tape, hb.output, hb.size, fun k hk _ => hb.block k hk⟩ (fun g e => by cases e)
theorem OWL.hl {w0 w : World} {v : Value} {ls : List (List Int)} (h : OWL w0 w v ls) (hb : Below w0.heap.size w0 w) : HL w v ls := by
  obtain ⟨xs, h1, h2⟩ := h
  by_cases h0 : 0 < ls.length
  · obtain ⟨g, cap, rfl, _, hn, hm, hc⟩ := ownsRow_cells h1 h0
    refine ⟨_, cap, rfl, hn, hm, (fun e => by cases e), fun _ => ⟨g, 0, rfl, fun j hj => ⟨xs.getD j undef, ?_, (h2 j hj).hb hb⟩⟩⟩
    have hx : xs.length = ls.length := by have := h1.1; omega
    exact hc j _ (by simp [List.getD, List.getElem?_eq_getElem (show j < xs.length by omega)])
  · have e : ls = [] := List.length_eq_zero_iff.1 (by omega)
    subst e
    rcases h1.2 with ⟨rfl, _⟩ | ⟨g, cap, cur, rfl, _, _, hn, hm, _⟩
    · exact HL.nil _
    · exact ⟨_, cap, rfl, hn, hm, (fun e => by cases e), fun h => absurd rfl h⟩
theorem OWL.nil (w0 w : World) : OWL w0 w (.slice none 0 0) [] := ⟨[], World.ownsRow_nil _ _ _ _, fun j hj => by simp at hj⟩
theorem getD_app {α : Type} (l m : List α) (d : α) (j : Nat) : (l ++ m).getD j d = if j < l.length then l.getD j d else m.getD (j - l.length) d := by
  simp only [List.getD, List.getElem?_append]
  split <;> rfl
theorem wpList_append_OWL {w0 w : World} {ops : Array Oper} {rest : List Oper} {o : Oper} {a : Act} {Q : Exit → Act → World → Prop} (hgd : o.guard = none) (s x : Operand)
    (ho : o.op = .call { callee := .builtin .append, args := #[s, x], argTypes := #[37, 37] })
    (v : Value) (ls : List (List Int)) (hs : a.eval s = v) (hown : OWL w0 w v ls)
    (ad : Addr) (m c : Nat) (us : List Value) (ns : List (List Int)) (hx : a.eval x = .slice (some ad) m c) (hl : us.length = m) (hn : ns.length = m) (hcell : ∀ j u, us[j]? = some u → w.cell? (ad.add j) = some u)
    (hu : ∀ j, j < m → EL w0 w (us.getD j undef) (ns.getD j [])) (h1 : ∀ u ∈ us, u.oneCell' = true)
    (hbytes : (ls.length + m) * 24 ≤ 140737488355328) (hbase : w0.heap.size ≤ w.heap.size)
    (h : ∀ v' w', OWL w0 w' v' (ls ++ ns) → w.grownBy w' v.ownBlock → (∀ g, v.ownBlock = some g → w0.heap.size ≤ g ∧ BT w g 26) → wpList Tryd.prog ops Q rest (a.put o.dst v') w') : wpList Tryd.prog ops Q (o :: rest) a w := by
  obtain ⟨i0, hi, hz0, hz1, hz2⟩ := info_parts info_bytes
  obtain ⟨xs, hrow, hel⟩ := hown
  have hblk : ∀ g, v.ownBlock = some g → w0.heap.size ≤ g ∧ BT w g 26 := by
    intro g hg
    refine ⟨(hrow.lt g hg).1, ?_⟩
    rcases hrow.2 with ⟨rfl, _⟩ | ⟨g', cap, cur, rfl, _, hh, _⟩
    · simp [Value.ownBlock] at hg
    · simp only [Value.ownBlock, Option.some.injEq] at hg
      subst hg
      exact ⟨cur, _, hh⟩
  refine wpList_append_own w hgd s x 37 ho w0.heap.size 26 i0 (.slice none 0 0) 1 24 Tryd.underlying37 hi hz0 hz1 hz2 rfl (by decide) v ls.length xs hs hrow ad m c us hx (by omega) hcell h1 (by unfold maxLen; omega) hbytes hbase (fun v' w' h2 h3 _ => h v' w' ?_ h3 hblk)
  refine ⟨xs ++ us, by rw [List.length_append, hn]; exact h2, fun j hj => ?_⟩
  have key : ∀ u l, EL w0 w u l → EL w0 w' u l := fun u l he => he.grown h3 fun g hg => by
    obtain ⟨_, cur, fz, hh⟩ := hblk g hg
    exact ⟨cur, _, fz, hh, by decide⟩
  have hxl : xs.length = ls.length := by have := hrow.1; omega
  rw [getD_app, getD_app, hxl]
  rw [List.length_append] at hj
  split
  · exact key _ _ (hel j ‹_›)
  · exact key _ _ (hu _ (by omega))
theorem takel_eq_step (la lb : List (List Int)) (k : Nat) (ha : k < la.length) (hb : k < lb.length) (h : la.take k = lb.take k) (e : la.getD k [] = lb.getD k []) : la.take (k + 1) = lb.take (k + 1) := by
  rw [List.take_succ_eq_append_getElem ha, List.take_succ_eq_append_getElem hb, h]
  have e1 : la.getD k [] = la[k] := by simp [List.getD, List.getElem?_eq_getElem ha]
  have e2 : lb.getD k [] = lb[k] := by simp [List.getD, List.getElem?_eq_getElem hb]
  rw [e1, e2] at e
  rw [e]
theorem EL.below {w0 w w' : World} {u : Value} {l : List Int} (h : EL w0 w u l) (hb : Below w.heap.size w w') : EL w0 w' u l :=
  h.grown (row := none) ⟨hb.os, hb.tape, hb.output, hb.size, fun k hk _ => hb.block k hk⟩ (fun g e => by cases e)
set_option maxHeartbeats 1000000 in
theorem framed_any (w : World) (v : Value) (ls : List (List Int)) (h : HL w v ls) (hbig : ls.flatten.length + ls.length ≤ 1100000) :
    Calls Tryd.prog 81 #[v] w fun e w' => ∃ v', e = .returned v' ∧ w'.ownsRow w.heap.size 5 1 v' (framed ls).length ((framed ls).map (Value.int .u8)) ∧ HB w' v' (framed ls) ∧ Below w.heap.size w w' := by
  obtain ⟨i0, hi, hz0, hz1, hz2⟩ := info_parts info_bytes
  obtain ⟨p, c, e, hlc, hm⟩ := h.open
  unfold maxLen at hm
  have A : Hid (0 < ls.length → ∃ b off, p = some ⟨b, off, none⟩ ∧ ∀ j, j < ls.length → ∃ u, w.cell? ⟨b, off + j, none⟩ = some u ∧ HB w u (ls.getD j [])) := by
    intro h0
    obtain ⟨b, off, c', e', _, _, hh⟩ := h.ne h0
    rw [e] at e'
    simp only [Value.slice.injEq, true_and] at e'
    exact ⟨b, off, e'.1, hh⟩
  clear h
  subst e
  obtain ⟨w1, hmk, hown, hgr⟩ := run_make_own (P := Tryd.prog) w w.heap.size 37 26 i0 (.slice none 0 0) 1 Tryd.underlying37 hi hz0 hz1 .i64 .i64 (2 * ls.length) (by rw [hz2]; omega) (by unfold maxLen; omega) (Nat.le_refl _)
  rw [show ((2 * ls.length : Nat) : Int) = 2 * (ls.length : Int) by omega] at hmk
  have HB1 := hid ((Below.refl _ w).grown hgr (Nat.le_refl _) (fun k e => by cases e))
  have HO1 : Hid (OWL w w1 _ []) := ⟨[], hown, fun j hj => by simp at hj⟩
  clear hown hgr
  go_enter Tryd.func81, Tryd.ntmps81
  go_wp2
  go_loopw [3, 12] (fun o i wr => ∃ k : Nat, k ≤ ls.length ∧ i = .int .i64 k ∧ Hid (OWL w wr o (pcsTo ls k)) ∧ Hid (Below w.heap.size w wr)) (fun _ i _ => ls.length - (intOf i).toNat)
  case atStart => exact ⟨0, Nat.zero_le _, rfl, HO1, HB1⟩
  case round =>
    clear HO1 HB1 hmk
    obtain ⟨k, hk, rfl, HO, HBw⟩ := hrel
    by_cases hlt : k < ls.length
    · obtain ⟨b, off, rfl, hh⟩ := A.out (by omega)
      obtain ⟨u, hu0, hb⟩ := hh k hlt
      have hu : wr.cell? ⟨b, off + k, none⟩ = some u := (HBw.out.cell (World.block_lt_of_cell? w _ hu0)).trans hu0
      have HS := hid (pcs_snoc ls k hlt)
      have hlen : (ls.getD k []).length ≤ 1100000 := by
        have h1 := flat_snoc ls k hlt
        have h2 := flat_take_le ls (k + 1)
        rw [h1, List.length_append] at h2
        omega
      obtain ⟨l, HLk⟩ : ∃ l, Hid (l = ls.getD k []) := ⟨_, rfl⟩
      rw [← HLk.out] at hb HS hlen
      have HU := hid hb
      obtain ⟨p2, c2, hu2, _, _⟩ := hb.open
      subst hu2
      clear hh hu0 hb
      go_wp2_with fail
      refine (big_uint64 l.length (by omega) wr).mono ?_
      rintro e w2 ⟨v2, rfl, hown2, hB2⟩
      have hO2 := HO.out.below hB2
      have hel : EL w w2 v2 (bigL 8 l.length) := .inl ⟨by rw [bigL_length]; exact own_mono hown2 HBw.out.size, bigL_byt _ _⟩
      have hBw2 : Below w.heap.size w w2 := HBw.out.trans (hB2.mono HBw.out.size)
      obtain ⟨p3, c3, e3, _, _⟩ := (hel.hb hBw2).open
      rw [bigL_length] at e3
      obtain ⟨W3, hW3⟩ : ∃ W3, W3 = w2.alloc (.cells #[v2, .slice p2 l.length c2] 26) := ⟨_, rfl⟩
      have hal : Below w2.heap.size w2 W3 := by rw [hW3]; exact (Below.refl _ _).alloc (Nat.le_refl _) _
      have HO3 := hid (hO2.below hal)
      have HE3 := hid (hel.below hal)
      have HB3 := hid (hBw2.trans (hal.mono hBw2.size))
      rw [hW3] at HO3 HE3 HB3
      clear hO2 hel hBw2 hown2 hal hW3 W3 hB2
      subst e3
      go_wp2_with (at_builtin; refine wpList_append_OWL (w0 := w) rfl _ _ rfl _ _ rfl HO3.out ⟨w2.heap.size, 0, none⟩ 2 2 [_, _] [bigL 8 l.length, l] rfl rfl rfl (cell_two_new _ _ _ _) ?q1 ?q2 ?q3 ?q4 ?_)
      case q1 =>
        intro j hj
        match j, hj with
        | 0, _ => exact HE3.out
        | 1, _ => exact .inr HU.out
      case q2 =>
        intro u hu
        simp only [List.mem_cons, List.not_mem_nil, or_false] at hu
        rcases hu with rfl | rfl <;> rfl
      case q3 => have := pcsTo_length ls k; omega
      case q4 => exact HB3.out.size
      intro v' w4 hO4 hg4 hbk
      have HO4 : Hid (OWL w w4 v' (pcsTo ls (k + 1))) := by rw [HS.out]; exact hO4
      have HB4 := hid (HB3.out.grown hg4 HB3.out.size (fun k e => (hbk k e).1))
      clear hO4 hg4 hbk
      go_wp2
      exact ⟨⟨k + 1, by omega, by go_num, HO4, HB4⟩, by simp [intOf]; omega⟩
    · have HP : Hid (pcsTo ls k = pcs ls) := by
        show _ = _
        unfold pcsTo
        rw [List.take_of_length_le (by omega)]
      have HO2 : Hid (OWL w wr u3 (pcs ls)) := by rw [← HP.out]; exact HO
      have HFl := hid (framed_length ls)
      obtain ⟨fl, HF⟩ : ∃ fl, Hid (framed ls = fl) := ⟨_, rfl⟩
      rw [HF.out] at HFl
      go_wp2_with fail
      have hHL := HO2.out.hl HBw.out
      refine (join_any wr _ (pcs ls) hHL (by have := HFl.out; rw [← HF.out] at this; unfold framed at this; omega)).mono ?_
      rintro e w2 ⟨v2, rfl, hown2, hB2⟩
      have hbt := hHL.byt
      rw [show (pcs ls).flatten = fl from HF.out] at hown2 hbt
      have H2 := hid hown2
      have Hb := hid hbt
      have HB3 := hid (HBw.out.trans (hB2.mono HBw.out.size))
      have hsz := HBw.out.size
      clear hHL hown2 hB2 hbt
      go_wp2
      go_ret
      refine ⟨_, rfl, ?_, ?_, HB3.out⟩
      · rw [HF.out]; exact own_mono H2.out hsz
      · rw [HF.out]; exact HB.of_own H2.out Hb.out
end Go.Proofs.YtklklldmhoofnaaDoor
namespace Go.Proofs.YtklklldmhoofnaaDoor
open Go Go.RowKit
section
open Ev
def roH (H : List Blk) : List Blk := H.map fun k => ⟨true, k.pl, k.cap, k.cells⟩
theorem roH_get {H : List Blk} {i : Nat} {k : Blk} (h : (roH H)[i]? = some k) : ∃ k0, H[i]? = some k0 ∧ k = ⟨true, k0.pl, k0.cap, k0.cells⟩ := by
  unfold roH at h
  rw [List.getElem?_map, Option.map_eq_some_iff] at h
  obtain ⟨k0, h1, h2⟩ := h
  exact ⟨k0, h1, h2.symm⟩
theorem holds_ro {ρ : Env} {ms : List Nat} {H : List Blk} {B : Nat} {w : World} (h : Holds ρ ms H B w) : Holds ρ ms (roH H) w.heap.size w where
  len := by rw [h.len]; simp [roH]
  gl := h.gl
  inj := fun i j b k k' hi hj hk hk' hn hn' => by
    obtain ⟨k0, e0, rfl⟩ := roH_get hk
    obtain ⟨k1, e1, rfl⟩ := roH_get hk'
    exact h.inj i j b k0 k1 hi hj e0 e1 hn hn'
  low := fun i b k hi hk hr => by
    obtain ⟨k0, e0, rfl⟩ := roH_get hk
    cases hr
  bnd := fun i b k hi hk hn => by
    obtain ⟨k0, e0, rfl⟩ := roH_get hk
    exact h.bnd i b k0 hi e0 hn
  big := Nat.le_refl _
  plain := fun i k hk hp => by
    obtain ⟨k0, e0, rfl⟩ := roH_get hk
    exact h.plain i k0 e0 hp
  cell := fun i b k hi hk j s hs => by
    obtain ⟨k0, e0, rfl⟩ := roH_get hk
    obtain ⟨v, h1, h2, h3⟩ := h.cell i b k0 hi e0 j s hs
    exact ⟨v, h1, h2, fun hr => by cases hr⟩
  room := fun i b c k0 k hi hc hk0 hr hn hk hcap => by
    obtain ⟨k1, e0, rfl⟩ := roH_get hk0
    cases hr
theorem fitU_ev (a : Addr) (N C : Nat) : evCallF Tryd.prog noLore noCon 100 80 [.tv (.sc (.int .u8 (.lit 8))), .tv (.sc (.sl 3 0 1 1))] (roH (H0 ++ [newBlk [.sla a N C]])) = some (.tv (.sc (.bool true)), roH (H0 ++ [newBlk [.sla a N C]])) := by kernel_rfl
theorem fit_ueb (w : World) (g : Nat) (a : Addr) (N C : Nat) (T : TypeId) (h : w.heap[g]? = some (.cells #[.slice (some a) N C] T (0, 0))) : Calls Tryd.prog 80 #[.int .u8 8, .slice (some ⟨g, 0, none⟩) 1 1] w fun e w' => e = .returned (.bool true) ∧ Below w.heap.size w w' := by
  have hlt : g < w.heap.size := (Array.getElem?_eq_some_iff.1 h).1
  have hH : Holds noEnv (ms0 ++ [g]) (H0 ++ [newBlk [.sla a N C]]) g w := by
    refine (holds_any noEnv w (Nat.le_of_lt hlt)).known (l := [.sla a N C]) (vs := [.slice (some a) N C]) rfl (b0 := g) (Nat.le_refl _) hlt (fun i b k _ hk hne => absurd (dead0 hk) hne) (fun j v hv => ?_)
    match j, hv with
    | 0, hv =>
      obtain rfl := Option.some.inj hv
      exact ⟨(cell_of_row w g 0 _ _ _ h).trans rfl, by simp [World.frozen?, h]⟩
    | j + 1, hv => simp at hv
  refine (calls_of_evHF (noLore_ok noEnv) (noCon_ok _ noEnv) mixedOrders 100 (fitU_ev a N C) (args := #[.int .u8 8, .slice (some ⟨g, 0, none⟩) 1 1]) w ?_ (holds_ro hH)).mono ?_
  · have e1 : (ms0 ++ [g])[3]? = some g := by simp [ms0, nGl]
    simp [AV.inst, TV.inst, SV.inst, Ex.den, e1]
  · rintro e w' ⟨ms, u, rfl, _, h1, _, h3⟩
    simp only [AV.inst, TV.inst, SV.inst, Option.some.injEq] at h1
    exact ⟨by rw [← h1], h3⟩
end
def sUeb : ByteArray := ⟨(wUeb.map fun x => UInt8.ofNat x.toNat).toArray⟩
theorem sUeb_strI : strI sUeb = wUeb := by decide
set_option maxRecDepth 20000 in
theorem word_ueb (w : World) : Calls Tryd.prog 79 #[.int .u8 8] w fun e w' => e = .returned (.string sUeb) ∧ w' = w := by
  go_enter Tryd.func79, Tryd.ntmps79
  go_wp2
  go_ret
  exact ⟨rfl, rfl⟩
theorem HL.one {w : World} {g : Nat} {T : TypeId} {u : Value} {l : List Int} (h : w.heap[g]? = some (.cells #[u] T (0, 0))) (hb : HB w u l) : HL w (.slice (some ⟨g, 0, none⟩) 1 1) [l] := by
  refine ⟨_, 1, rfl, Nat.le_refl _, by unfold maxLen; omega, (fun e => by cases e), fun _ => ⟨g, 0, rfl, fun j hj => ?_⟩⟩
  match j, hj with
  | 0, _ => exact ⟨u, (cell_of_row w g 0 _ _ _ h).trans rfl, hb⟩
set_option maxRecDepth 100000 in
set_option maxHeartbeats 4000000 in
theorem tbytes_ueb (w : World) (g : Nat) (a : Addr) (N C : Nat) (T : TypeId) (l : List Int) (h : w.heap[g]? = some (.cells #[.slice (some a) N C] T (0, 0))) (hl : HB w (.slice (some a) N C) l) (hn : l.length ≤ 100000) : Calls Tryd.prog 70 #[.int .u8 8, .slice (some ⟨g, 0, none⟩) 1 1] w fun e w' => ∃ v, e = .returned (.tuple #[v, .int .i64 0]) ∧ HB w' v (t1B wUeb l) ∧ Below w.heap.size w w' := by
  have C1 := hid fun w => word_ueb w
  have hlt : g < w.heap.size := (Array.getElem?_eq_some_iff.1 h).1
  have HLT := hid hlt
  have HG := hid h
  have HLl := hid hl
  have C2 := hid (fit_ueb w g a N C T h)
  have SI := hid sUeb_strI
  have hs1 : sUeb.size ≤ 1000 := by decide
  have hse : sUeb.toList.isEmpty = false := by decide +kernel
  obtain ⟨sb, HSB⟩ : ∃ x, Hid (sUeb = x) := ⟨_, rfl⟩
  rw [HSB.out] at C1 SI hs1 hse
  clear h hl hlt
  go_enter Tryd.func70, Tryd.ntmps70
  go_wp2_with fail
  refine (C1.out w).mono ?_
  rintro e w1 ⟨rfl, rfl⟩
  clear C1
  go_wp2_with fail
  refine C2.out.mono ?_
  rintro e w2 ⟨rfl, hb2⟩
  have B2 := hid hb2
  have L2 := hid (HLl.out.below hb2)
  have G2 := hid ((hb2.block g HLT.out).trans HG.out)
  clear hb2 C2
  go_wp2_with (first | (refine wpList_bytes_str rfl _ rfl sb rfl hs1 (fun v3 w3 hv3 hb3 => Hid.out ?_)) | fail)
  rw [SI.out] at hv3
  have B3 := hid (B2.out.trans (hb3.mono B2.out.size))
  have L3 := hid (L2.out.below hb3)
  have G3 := hid ((hb3.block g (by have := HLT.out; have := B2.out.size; omega)).trans G2.out)
  have V3 := hid hv3
  obtain ⟨p3, c3, rfl, _, _⟩ := hv3.open
  have hw3 : wUeb.length = 14 := rfl
  rw [hw3] at V3
  rw [hw3]
  have HA := hid (heap_alloc_new w3 (.cells #[.slice p3 14 c3] 26))
  have HAB := hid ((Below.refl w3.heap.size w3).alloc (Nat.le_refl _) (.cells #[.slice p3 14 c3] 26))
  have HO : Hid (OWL w3 (w3.alloc (.cells #[.slice p3 14 c3] 26)) (.slice (some ⟨w3.heap.size, 0, none⟩) 1 1) [wUeb]) := by
    refine hid ⟨[.slice p3 14 c3], ⟨rfl, .inr ⟨w3.heap.size, 1, _, rfl, Nat.le_refl _, HA.out, Nat.le_refl _, by unfold maxLen; omega, rfl, rfl⟩⟩, fun j hj => ?_⟩
    match j, hj with
    | 0, _ => exact .inr V3.out
  have GA := hid ((heap_alloc_old w3 (.cells #[.slice p3 14 c3] 26) (show g < w3.heap.size by have := HLT.out; have := B3.out.size; omega)).trans G3.out)
  have B4 := hid (B3.out.alloc B3.out.size (.cells #[.slice p3 14 c3] 26))
  have S4 : Hid ((w3.alloc (.cells #[.slice p3 14 c3] 26)).heap.size = w3.heap.size + 1) := by refine hid ?_; simp
  clear hb3 hv3 hw3
  refine hid ?_
  go_wp2_with (at_builtin; refine wpList_append_OWL (w0 := w3) rfl _ _ rfl _ _ rfl HO.out ⟨g, 0, none⟩ 1 1 [.slice (some a) N C] [l] rfl rfl rfl ?q0 ?q1 ?q2 (by simp) (by rw [S4.out]; omega) ?_)
  case q0 =>
    intro j u hu
    match j, hu with
    | 0, hu =>
      obtain rfl := Option.some.inj hu
      exact (cell_of_row _ g 0 _ _ _ GA.out).trans rfl
    | j + 1, hu => simp at hu
  case q1 =>
    intro j hj
    match j, hj with
    | 0, _ => exact .inr L3.out
  case q2 =>
    intro u hu
    simp only [List.mem_cons, List.not_mem_nil, or_false] at hu
    subst hu
    rfl
  intro v5 w5 ho5 hg5 hbk5
  have B5 := hid (B4.out.grown hg5 B4.out.size (fun q e => by have := (hbk5 q e).1; have := B3.out.size; omega))
  have b35 : Below w3.heap.size w3 w5 := HAB.out.grown hg5 (by rw [S4.out]; omega) (fun q e => (hbk5 q e).1)
  have H5 := hid (ho5.hl b35)
  have CF := hid (framed_any w5 v5 _ H5.out (by simp [wUeb]; omega))
  clear ho5 hg5 hbk5 b35
  go_wp2_with fail
  refine CF.out.mono ?_
  rintro e w6 ⟨v6, rfl, _, hb6, hB6⟩
  have H6 := hid hb6
  have B6 := hid (B5.out.trans (hB6.mono B5.out.size))
  clear hb6 hB6 CF
  go_wp2
  go_ret2
  exact ⟨_, rfl, H6.out, B6.out⟩
set_option maxRecDepth 100000 in
set_option maxHeartbeats 4000000 in
theorem tdigest_ueb (w : World) (g : Nat) (a : Addr) (N C : Nat) (T : TypeId) (l : List Int) (h : w.heap[g]? = some (.cells #[.slice (some a) N C] T (0, 0))) (hl : HB w (.slice (some a) N C) l) (hn : l.length ≤ 100000) (hk : KC w) : Calls Tryd.prog 52 #[.int .u8 8, .slice (some ⟨g, 0, none⟩) 1 1] w fun e w' => e = .returned (.tuple #[.agg (cellsB (ueL l)), .int .i64 0]) ∧ Below w.heap.size w w' := by
  obtain ⟨zd, HZD⟩ : ∃ zd, Hid (cellsB zeros32 = zd) := ⟨_, rfl⟩
  obtain ⟨W0, hW0⟩ : ∃ W0, Hid (w.alloc (.cells zd 23) = W0) := ⟨_, rfl⟩
  have B0 : Hid (Below w.heap.size w W0) := by rw [← hW0.out]; exact (Below.refl _ w).alloc (Nat.le_refl _) _
  have R0 : Hid (W0.heap[w.heap.size]? = some (.cells zd 23 (0, 0))) := by rw [← hW0.out]; exact heap_alloc_new w _
  have Z0 : Hid (W0.heap.size = w.heap.size + 1) := by refine hid ?_; rw [← hW0.out]; simp
  have DL := hid (digL_length (t1B wUeb l))
  unfold ueL
  obtain ⟨y, HY⟩ : ∃ y, Hid (cellsB (digL (t1B wUeb l)) = y) := ⟨_, rfl⟩
  have SY : Hid ((Tryd.prog.info? 23).map (·.size) = some y.size) := by refine hid ?_; rw [← HY.out, cellsB_size, DL.out]; exact size_digest
  have OY : Hid (y.all (·.oneCell') = true) := by refine hid ?_; rw [← HY.out]; exact cellsB_one _
  have ZY : Hid (zd.size = y.size) := by refine hid ?_; rw [← HZD.out, ← HY.out, cellsB_size, cellsB_size, DL.out, zeros32_length]
  have hlt : g < w.heap.size := (Array.getElem?_eq_some_iff.1 h).1
  have C1 := hid (tbytes_ueb W0 g a N C T l ((B0.out.block g hlt).trans h) (hl.below B0.out) hn)
  have HK := hid hk
  have LT : Hid ((t1B wUeb l).length ≤ 200000) := by refine hid ?_; unfold t1B; rw [framed_length]; simp [wUeb]; omega
  rw [HY.out]
  clear h hl hk
  go_enter Tryd.func52, Tryd.ntmps52
  go_wp2_with (first | (refine wpList_alloc_digest rfl rfl ?_; rw [HZD.out, hW0.out]) | fail)
  refine C1.out.mono ?_
  rintro e w1 ⟨v1, rfl, hv1, hb1⟩
  have B1 := hid (B0.out.trans (hb1.mono B0.out.size))
  have R1 := hid ((hb1.block w.heap.size (by rw [Z0.out]; omega)).trans R0.out)
  have V1 := hid hv1
  obtain ⟨p1, c1, rfl, _, _⟩ := hv1.open
  obtain ⟨L, HLn⟩ : ∃ L, Hid ((t1B wUeb l).length = L) := ⟨_, rfl⟩
  rw [HLn.out] at V1
  rw [HLn.out]
  have HA := hid (heap_alloc_new w1 (.cells #[.slice p1 L c1] 26))
  have BA := hid ((Below.refl w1.heap.size w1).alloc (Nat.le_refl _) (.cells #[.slice p1 L c1] 26))
  have CS := sums_any (w1.alloc (.cells #[.slice p1 L c1] 26)) _ [t1B wUeb l] (HL.one HA.out (V1.out.below BA.out)) ((HK.out.below B1.out).below BA.out) (by have := LT.out; simp; omega)
  rw [show [t1B wUeb l].flatten = t1B wUeb l by simp, HY.out] at CS
  have CS := hid CS
  have B2 := hid (B1.out.trans (BA.out.mono B1.out.size))
  have R2 := hid ((BA.out.block w.heap.size (by have := B1.out.size; have := hb1.size; rw [Z0.out] at this; omega)).trans R1.out)
  have S2 : Hid (w.heap.size < (w1.alloc (.cells #[.slice p1 L c1] 26)).heap.size) := hid (by have := hb1.size; rw [Z0.out] at this; simp; omega)
  clear hb1 hv1 C1
  go_wp2_with fail
  refine CS.out.mono ?_
  rintro e w3 ⟨rfl, hb3⟩
  have B3 := hid (B2.out.trans (hb3.mono B2.out.size))
  have R3 := hid ((hb3.block w.heap.size S2.out).trans R2.out)
  clear hb3 CS
  go_wp2_with (first | (refine wpList_store_row rfl 23 _ _ rfl w.heap.size y rfl rfl 23 _ R3.out SY.out ZY.out OY.out ?_) | fail)
  refine bodyPost_ret (v := .tuple #[.agg y, .int .i64 0]) (results_cellT (p := 4) (u := 5) (ty := 23) rfl _ _ w.heap.size 23 y (0, 0) _ rfl (setRow_heap _ _ _ _ _ _ R3.out) Tryd.underlying23 rfl SY.out _ rfl) rfl ?_
  exact ⟨rfl, bel_setRow B3.out (Nat.le_refl _) _⟩
set_option maxRecDepth 100000 in
set_option maxHeartbeats 4000000 in
theorem of_ueb (w : World) (g : Nat) (a : Addr) (N C : Nat) (T : TypeId) (l : List Int) (h : w.heap[g]? = some (.cells #[.slice (some a) N C] T (0, 0))) (hl : HB w (.slice (some a) N C) l) (hn : l.length ≤ 100000) (hk : KC w) : Calls Tryd.prog 37 #[.int .u8 8, .slice (some ⟨g, 0, none⟩) 1 1] w fun e w' => e = .returned (.agg (cellsB (ueL l))) ∧ Below w.heap.size w w' := by
  obtain ⟨zd, HZD⟩ : ∃ zd, Hid (cellsB zeros32 = zd) := ⟨_, rfl⟩
  obtain ⟨W0, hW0⟩ : ∃ W0, Hid (w.alloc (.cells zd 23) = W0) := ⟨_, rfl⟩
  have B0 : Hid (Below w.heap.size w W0) := by rw [← hW0.out]; exact (Below.refl _ w).alloc (Nat.le_refl _) _
  have R0 : Hid (W0.heap[w.heap.size]? = some (.cells zd 23 (0, 0))) := by rw [← hW0.out]; exact heap_alloc_new w _
  have Z0 : Hid (W0.heap.size = w.heap.size + 1) := by refine hid ?_; rw [← hW0.out]; simp
  have DL := hid (digL_length (t1B wUeb l))
  unfold ueL
  obtain ⟨y, HY⟩ : ∃ y, Hid (cellsB (digL (t1B wUeb l)) = y) := ⟨_, rfl⟩
  have SY : Hid ((Tryd.prog.info? 23).map (·.size) = some y.size) := by refine hid ?_; rw [← HY.out, cellsB_size, DL.out]; exact size_digest
  have OY : Hid (y.all (·.oneCell') = true) := by refine hid ?_; rw [← HY.out]; exact cellsB_one _
  have ZY : Hid (zd.size = y.size) := by refine hid ?_; rw [← HZD.out, ← HY.out, cellsB_size, cellsB_size, DL.out, zeros32_length]
  have hlt : g < w.heap.size := (Array.getElem?_eq_some_iff.1 h).1
  have C1 := tdigest_ueb W0 g a N C T l ((B0.out.block g hlt).trans h) (hl.below B0.out) hn (hk.below B0.out)
  unfold ueL at C1
  rw [HY.out] at C1
  have C1 := hid C1
  rw [HY.out]
  clear h hl hk
  go_enter Tryd.func37, Tryd.ntmps37
  go_wp2_with (first | (refine wpList_alloc_digest rfl rfl ?_; rw [HZD.out, hW0.out]) | fail)
  refine C1.out.mono ?_
  rintro e w1 ⟨rfl, hb1⟩
  have B1 := hid (B0.out.trans (hb1.mono B0.out.size))
  have R1 := hid ((hb1.block w.heap.size (by rw [Z0.out]; omega)).trans R0.out)
  have S1 : Hid (w.heap.size < w1.heap.size) := hid (by have := hb1.size; rw [Z0.out] at this; omega)
  have ZA := hid (heap_alloc_new w1 (.cells zd 23))
  obtain ⟨w2, HW2⟩ : ∃ x, Hid ((w1.alloc (.cells zd 23)).setRow w1.heap.size y = x) := ⟨_, rfl⟩
  have Y2 : Hid (w2.heap[w1.heap.size]? = some (.cells y 23 (0, 0))) := by refine hid ?_; rw [← HW2.out]; exact setRow_heap _ _ _ _ _ _ ZA.out
  have B2 : Hid (Below w.heap.size w w2) := by refine hid ?_; rw [← HW2.out]; exact bel_setRow (B1.out.alloc B1.out.size _) B1.out.size _
  have R2 : Hid (w2.heap[w.heap.size]? = some (.cells zd 23 (0, 0))) := by
    refine hid ?_
    rw [← HW2.out]
    have s1 := S1.out
    exact ((by simp [World.setRow, Array.getElem?_modify, show w1.heap.size ≠ w.heap.size by omega] : ((w1.alloc (.cells zd 23)).setRow w1.heap.size y).heap[w.heap.size]? = (w1.alloc (.cells zd 23)).heap[w.heap.size]?).trans (heap_alloc_old w1 _ s1)).trans R1.out
  clear hb1 C1
  go_wp2_with (first | (refine wpList_alloc_digest rfl rfl ?_; rw [HZD.out]) | (refine wpList_store_row rfl 23 _ _ rfl w1.heap.size y rfl rfl 23 _ ZA.out SY.out ZY.out OY.out ?_; rw [HW2.out]) | (refine wpList_load_row rfl 23 _ rfl w1.heap.size rfl 23 y (0, 0) _ Y2.out Tryd.underlying23 rfl SY.out ?_) | (refine wpList_store_row rfl 23 _ _ rfl w.heap.size y rfl rfl 23 _ R2.out SY.out ZY.out OY.out ?_) | fail)
  refine bodyPost_ret (v := .agg y) (results_cell_row (p := 4) (ty := 23) rfl _ _ w.heap.size 23 y (0, 0) _ rfl (setRow_heap _ _ _ _ _ _ R2.out) Tryd.underlying23 rfl SY.out) rfl ?_
  exact ⟨rfl, bel_setRow B2.out (Nat.le_refl _) _⟩
set_option maxRecDepth 100000 in
set_option maxHeartbeats 4000000 in
theorem tueb_any (w : World) (v : Value) (l : List Int) (h : HB w v l) (h0 : 0 < l.length) (hn : l.length ≤ 100000) (hk : KC w) : Calls Tryd.prog 23 #[v] w fun e w' => e = .returned (.agg (cellsB (ueL l))) ∧ Below w.heap.size w w' := by
  obtain ⟨zd, HZD⟩ : ∃ zd, Hid (cellsB zeros32 = zd) := ⟨_, rfl⟩
  obtain ⟨W0, hW0⟩ : ∃ W0, Hid (w.alloc (.cells zd 23) = W0) := ⟨_, rfl⟩
  have B0 : Hid (Below w.heap.size w W0) := by rw [← hW0.out]; exact (Below.refl _ w).alloc (Nat.le_refl _) _
  have R0 : Hid (W0.heap[w.heap.size]? = some (.cells zd 23 (0, 0))) := by rw [← hW0.out]; exact heap_alloc_new w _
  have Z0 : Hid (W0.heap.size = w.heap.size + 1) := by refine hid ?_; rw [← hW0.out]; simp
  have DL := hid (digL_length (t1B wUeb l))
  unfold ueL
  obtain ⟨y, HY⟩ : ∃ y, Hid (cellsB (digL (t1B wUeb l)) = y) := ⟨_, rfl⟩
  have SY : Hid ((Tryd.prog.info? 23).map (·.size) = some y.size) := by refine hid ?_; rw [← HY.out, cellsB_size, DL.out]; exact size_digest
  have OY : Hid (y.all (·.oneCell') = true) := by refine hid ?_; rw [← HY.out]; exact cellsB_one _
  have ZY : Hid (zd.size = y.size) := by refine hid ?_; rw [← HZD.out, ← HY.out, cellsB_size, cellsB_size, DL.out, zeros32_length]
  obtain ⟨b, off, c, rfl⟩ : ∃ b off c, v = .slice (some ⟨b, off, none⟩) l.length c := by
    obtain ⟨⟨p, c, e1, _, _, _, hh⟩, _⟩ := h
    obtain ⟨b, off, rfl, _⟩ := hh (by intro e; rw [e] at h0; simp at h0)
    exact ⟨b, off, c, e1⟩
  have HA := hid (heap_alloc_new W0 (.cells #[.slice (some ⟨b, off, none⟩) l.length c] 26))
  have BA := hid ((Below.refl W0.heap.size W0).alloc (Nat.le_refl _) (.cells #[.slice (some ⟨b, off, none⟩) l.length c] 26))
  have C1 := of_ueb (W0.alloc (.cells #[.slice (some ⟨b, off, none⟩) l.length c] 26)) W0.heap.size ⟨b, off, none⟩ l.length c 26 l HA.out ((h.below B0.out).below BA.out) hn ((hk.below B0.out).below BA.out)
  unfold ueL at C1
  rw [HY.out] at C1
  have C1 := hid C1
  rw [HY.out]
  have B1 := hid (B0.out.trans (BA.out.mono B0.out.size))
  have R1 := hid ((BA.out.block w.heap.size (by rw [Z0.out]; omega)).trans R0.out)
  have S1 : Hid (w.heap.size < (W0.alloc (.cells #[.slice (some ⟨b, off, none⟩) l.length c] 26)).heap.size) := hid (by simp; rw [Z0.out]; omega)
  clear h hk
  go_enter Tryd.func23, Tryd.ntmps23
  go_wp2_with (first | (refine wpList_alloc_digest rfl rfl ?_; rw [HZD.out, hW0.out]) | fail)
  refine C1.out.mono ?_
  rintro e w2 ⟨rfl, hb2⟩
  have B2 := hid (B1.out.trans (hb2.mono B1.out.size))
  have R2 := hid ((hb2.block w.heap.size S1.out).trans R1.out)
  clear hb2 C1
  go_wp2_with (first | (refine wpList_store_row rfl 23 _ _ rfl w.heap.size y rfl rfl 23 _ R2.out SY.out ZY.out OY.out ?_) | fail)
  refine bodyPost_ret (v := .agg y) (results_cell_row (p := 2) (ty := 23) rfl _ _ w.heap.size 23 y (0, 0) _ rfl (setRow_heap _ _ _ _ _ _ R2.out) Tryd.underlying23 rfl SY.out) rfl ?_
  exact ⟨rfl, bel_setRow B2.out (Nat.le_refl _) _⟩
def sueb : ByteArray := ⟨(wUeb.map fun x => UInt8.ofNat x.toNat).toArray⟩
theorem sueb_strI : strI sueb = wUeb := by decide
set_option maxRecDepth 20000 in
theorem rword_ueb (w : World) : Calls Tryd.prog 63 #[.int .u8 8] w fun e w' => e = .returned (.string sueb) ∧ w' = w := by
  go_enter Tryd.func63, Tryd.ntmps63
  go_wp2
  go_ret
  exact ⟨rfl, rfl⟩
set_option maxRecDepth 100000 in
set_option maxHeartbeats 2000000 in
theorem rbytes_ueb (w : World) (v : Value) (ps : List (List Int)) (h : HL w v ps) (hF : ∀ w', Below w.heap.size w w' → Calls Tryd.prog 64 #[.int .u8 8, v] w' fun e w'' => e = .returned (.bool true) ∧ w'' = w') (hbig : ps.flatten.length + 8 * ps.length ≤ 100000000000000) :
    Calls Tryd.prog 49 #[.int .u8 8, v] w fun e w' => ∃ v', e = .returned (.tuple #[v', .int .i64 0]) ∧ w'.ownsRow w.heap.size 5 1 v' (framed (strI sueb :: ps)).length ((framed (strI sueb :: ps)).map (Value.int .u8)) ∧ Below w.heap.size w w' := by
  have hsz : sueb.size ≤ 1000 := by decide
  have hse : sueb.toList.isEmpty = false := by decide +kernel
  have A0 := hid h
  obtain ⟨p, c, e, hlc, hm⟩ := h.open
  unfold maxLen at hm
  have A : Hid (0 < ps.length → ∃ b off, p = some ⟨b, off, none⟩ ∧ ∀ j, j < ps.length → ∃ u, w.cell? ⟨b, off + j, none⟩ = some u ∧ HB w u (ps.getD j [])) := by
    intro h0
    obtain ⟨b, off, c', e', _, _, hh⟩ := h.ne h0
    rw [e] at e'
    simp only [Value.slice.injEq, true_and] at e'
    exact ⟨b, off, e'.1, hh⟩
  have HF := hid hF
  obtain ⟨n, HN⟩ : ∃ n, Hid (ps.length = n) := ⟨_, rfl⟩
  have HBig := hid hbig
  rw [HN.out] at e hlc hbig
  subst e
  clear h hF
  go_enter Tryd.func49, Tryd.ntmps49
  go_wp2_with fail
  refine (rword_ueb _).mono ?_
  rintro e w1 ⟨rfl, rfl⟩
  go_wp2_with fail
  refine (HF.out _ (Below.refl _ _)).mono ?_
  rintro e w2 ⟨rfl, rfl⟩
  go_wp2_with fail
  refine (rword_ueb _).mono ?_
  rintro e w3 ⟨rfl, rfl⟩
  go_wp2_with (refine wpList_bytes_str rfl _ rfl sueb rfl hsz ?_)
  intro v4 w4 hb4 hB4
  have HB4 := hid hb4
  have BL4 := hid hB4
  clear hb4 hB4
  go_wp2_with fail
  refine (rframe_any w4 v4 _ HB4.out (by rw [strI_length]; omega)).mono ?_
  rintro e w5 ⟨v5, rfl, ho5, hB5⟩
  have HO5 : Hid (w5.ownsRow w3.heap.size 5 1 v5 (frK (strI sueb) ps 0).length ((frK (strI sueb) ps 0).map (Value.int .u8))) := by
    rw [frK_zero]
    exact own_mono ho5 BL4.out.size
  have BL5 := hid (BL4.out.trans (hB5.mono BL4.out.size))
  clear ho5 hB5
  go_wp2
  go_loopw [6, 7] (fun o i wr => ∃ k : Nat, k ≤ n ∧ i = .int .i64 k ∧ Hid (wr.ownsRow w3.heap.size 5 1 o (frK (strI sueb) ps k).length ((frK (strI sueb) ps k).map (Value.int .u8))) ∧ Hid (Below w3.heap.size w3 wr)) (fun _ i _ => n - (intOf i).toNat)
  case atStart => exact ⟨0, Nat.zero_le _, rfl, HO5, BL5⟩
  case round =>
    obtain ⟨k, hk, rfl, HO, HBel⟩ := hrel
    by_cases hlt : k < n
    · obtain ⟨b, off, rfl, hh⟩ := A.out (by rw [HN.out]; omega)
      obtain ⟨u, hu0, hb⟩ := hh k (by rw [HN.out]; exact hlt)
      have hu : wr.cell? ⟨b, off + k, none⟩ = some u := (HBel.out.cell (World.block_lt_of_cell? w3 _ hu0)).trans hu0
      have HBu := hid (hb.below HBel.out)
      have hls : (ps.getD k []).length ≤ 100000000000000 := by
        have h1 := flat_take_le ps (k + 1)
        rw [flat_snoc ps k (by rw [HN.out]; exact hlt), List.length_append] at h1
        have := HBig.out
        omega
      have HS := hid (frK_snoc (strI sueb) ps k (by rw [HN.out]; exact hlt))
      have HLe := hid (frK_le (strI sueb) ps (k + 1))
      rw [HS.out, List.length_append, strI_length] at HLe
      clear hh hb hu0
      go_wp2_with fail
      refine (rframe_any wr u _ HBu.out (by omega)).mono ?_
      rintro e w6 ⟨v6, rfl, ho6, hB6⟩
      have HB6 : Hid (HB w6 v6 (fr1 (ps.getD k []))) := HB.of_own ho6 (fr1_byt HBu.out.2)
      have HO6 := hid (own_below HO.out hB6)
      have BL6 := hid (HBel.out.trans (hB6.mono HBel.out.size))
      clear ho6 hB6
      go_wp2_with (at_builtin; refine wpList_append_HB rfl _ _ rfl w3.heap.size _ _ _ rfl HO6.out _ _ rfl HB6.out ?q1 ?q2 ?_)
      case q1 => have := HLe.out; have := HBig.out; omega
      case q2 => exact BL6.out.size
      intro v7 w7 ho7 hg7
      have HO7 : Hid (w7.ownsRow w3.heap.size 5 1 v7 (frK (strI sueb) ps (k + 1)).length ((frK (strI sueb) ps (k + 1)).map (Value.int .u8))) := by
        rw [HS.out, List.length_append, List.map_append]
        exact ho7
      have BL7 : Hid (Below w3.heap.size w3 w7) := BL6.out.grown hg7 BL6.out.size (fun k e => (HO6.out.lt k e).1)
      clear ho7 hg7
      go_wp2
      exact ⟨⟨k + 1, by omega, by go_num, HO7, BL7⟩, by simp [intOf]; omega⟩
    · have hkn : k = ps.length := by rw [HN.out]; omega
      have HO8 := hid HO.out
      rw [hkn, frK_all] at HO8
      go_wp2
      go_ret2
      exact ⟨_, rfl, HO8.out, HBel.out⟩
set_option maxRecDepth 100000 in
set_option maxHeartbeats 2000000 in
theorem rdigest_ueb (w : World) (v : Value) (ps : List (List Int)) (h : HL w v ps) (hF : ∀ w', Below w.heap.size w w' → Calls Tryd.prog 64 #[.int .u8 8, v] w' fun e w'' => e = .returned (.bool true) ∧ w'' = w') (hbig : ps.flatten.length + 8 * ps.length ≤ 2000) (hby : ∀ l ∈ ps, ∀ x ∈ l, 0 ≤ x ∧ x < 256) :
    Calls Tryd.prog 33 #[.int .u8 8, v] w fun e w' => e = .returned (.agg (cellsB (digL (framed (strI sueb :: ps))))) ∧ Below w.heap.size w w' := by
  have hsz : sueb.size ≤ 1000 := by decide
  obtain ⟨zd, HZD⟩ : ∃ zd, Hid (cellsB zeros32 = zd) := ⟨_, rfl⟩
  obtain ⟨W0, hW0⟩ : ∃ W0, Hid (w.alloc (.cells zd 23) = W0) := ⟨_, rfl⟩
  have HB0 : Hid (Below w.heap.size w W0) := by rw [← hW0.out]; exact (Below.refl _ w).alloc (Nat.le_refl _) _
  have HR0 : Hid (W0.heap[w.heap.size]? = some (.cells zd 23 (0, 0))) := by rw [← hW0.out]; exact heap_alloc_new w _
  have hS0 : W0.heap.size = w.heap.size + 1 := by rw [← hW0.out]; simp
  have HF := hid hF
  have HL0 := hid (h.below HB0.out)
  obtain ⟨m, HM⟩ : ∃ m, Hid (framed (strI sueb :: ps) = m) := ⟨_, rfl⟩
  have hmb : ∀ x ∈ m, 0 ≤ x ∧ x < 256 := by
    rw [← HM.out]
    refine framed_byt _ fun l hl => ?_
    rcases List.mem_cons.1 hl with rfl | hl
    · intro x hx
      unfold strI at hx
      obtain ⟨b, _, rfl⟩ := List.mem_map.1 hx
      have := b.toNat_lt
      omega
    · exact hby l hl
  have hml : m.length ≤ 4000 := by
    rw [← HM.out, framed_length]
    simp only [List.flatten_cons, List.length_append, List.length_cons, strI_length]
    omega
  clear h hF
  go_enter Tryd.func33, Tryd.ntmps33
  go_wp2_with (refine wpList_alloc_digest rfl rfl ?_; rw [HZD.out, hW0.out])
  refine (rbytes_ueb W0 v ps HL0.out (fun w' hb => HF.out w' (HB0.out.trans (hb.mono HB0.out.size))) (by omega)).mono ?_
  rintro e w1 ⟨v1, rfl, ho1, hB1⟩
  rw [HM.out] at ho1
  have HB1 := hid (HB.of_own ho1 hmb)
  have BL1 := hid hB1
  clear ho1 hB1
  go_wp2_with fail
  refine (rsum_any w1 v1 m HB1.out (by omega)).mono ?_
  rintro e w2 ⟨rfl, hB2⟩
  obtain ⟨dm, HD⟩ : ∃ dm, Hid (cellsB (digL m) = dm) := ⟨_, rfl⟩
  have hds : dm.size = 32 := by rw [← HD.out]; simp [cellsB, digL_length]
  have SD : Hid ((Tryd.prog.info? 23).map (·.size) = some dm.size) := by rw [hds]; exact size_digest
  have OD : Hid (dm.all (·.oneCell') = true) := by rw [← HD.out]; exact cellsB_one _
  have ZD : Hid (zd.size = dm.size) := by rw [hds, ← HZD.out]; rfl
  have HR2 : Hid (w2.heap[w.heap.size]? = some (.cells zd 23 (0, 0))) := by
    show _ = _
    rw [hB2.block _ (by have := BL1.out.size; omega), BL1.out.block _ (by omega)]
    exact HR0.out
  have HBF := hid (below_setRow ((HB0.out.trans (BL1.out.mono (by omega))).trans (hB2.mono (by have := BL1.out.size; omega))) (g := w.heap.size) (Nat.le_refl _) dm)
  rw [HD.out]
  clear hB2 hds
  go_wp2_with (refine wpList_store_row rfl 23 _ _ rfl w.heap.size dm rfl rfl 23 _ HR2.out SD.out ZD.out OD.out ?_)
  refine bodyPost_ret (v := .agg dm) (results_cell_row (p := 4) (ty := 23) rfl _ _ w.heap.size 23 dm (0, 0) _ rfl (setRow_heap _ _ _ _ _ _ HR2.out) Tryd.underlying23 rfl SD.out) rfl ?_
  exact ⟨by rw [HM.out, HD.out], HBF.out⟩
set_option maxRecDepth 100000 in
set_option maxHeartbeats 1000000 in
theorem rfits_ueb (w : World) (v : Value) (l : List Int) (h : HL w v [l])  : Calls Tryd.prog 64 #[.int .u8 8, v] w fun e w' => e = .returned (.bool true) ∧ w' = w := by
  obtain ⟨b, off, c, rfl, hc1, hc2, hh⟩ := h.ne (by simp)
  obtain ⟨u0, h0, hb0⟩ := hh 0 (by simp)
  obtain ⟨p0, c0, rfl, _, _⟩ := hb0.open
  simp only [List.getD_cons_zero, List.getD_cons_succ, List.length_cons, List.length_nil, Nat.add_zero, Nat.zero_add, Nat.reduceAdd] at h0 ⊢
  clear hh hb0 h
  go_enter Tryd.func64, Tryd.ntmps64
  go_wp2
  go_ret
  exact ⟨rfl, rfl⟩
theorem frame_byt {wd l : List Int} (h1 : ∀ x ∈ wd, 0 ≤ x ∧ x < 256) (h2 : ∀ x ∈ l, 0 ≤ x ∧ x < 256) : ∀ x ∈ framed [wd, l], 0 ≤ x ∧ x < 256 := framed_byt _ fun q hq => by
  simp only [List.mem_cons, List.not_mem_nil, or_false] at hq
  rcases hq with rfl | rfl
  · exact h1
  · exact h2
theorem HL.at0 {w : World} {v : Value} {l : List Int} (h : HL w v [l]) : ∀ x ∈ l, 0 ≤ x ∧ x < 256 := fun x hx => h.byt x (by simpa using hx)
set_option maxRecDepth 100000 in
set_option maxHeartbeats 4000000 in
theorem rueb_any (w : World) (v : Value) (l : List Int) (h : HB w v l) (hn : l.length ≤ 1500) : Calls Tryd.prog 20 #[v] w fun e w' => e = .returned (.agg (cellsB (ueL l))) ∧ Below w.heap.size w w' := by
  obtain ⟨zd, HZD⟩ : ∃ zd, Hid (cellsB zeros32 = zd) := ⟨_, rfl⟩
  obtain ⟨W0, hW0⟩ : ∃ W0, Hid (w.alloc (.cells zd 23) = W0) := ⟨_, rfl⟩
  have B0 : Hid (Below w.heap.size w W0) := by rw [← hW0.out]; exact (Below.refl _ w).alloc (Nat.le_refl _) _
  have R0 : Hid (W0.heap[w.heap.size]? = some (.cells zd 23 (0, 0))) := by rw [← hW0.out]; exact heap_alloc_new w _
  have Z0 : Hid (W0.heap.size = w.heap.size + 1) := by refine hid ?_; rw [← hW0.out]; simp
  have DL := hid (digL_length (t1B wUeb l))
  unfold ueL
  obtain ⟨y, HY⟩ : ∃ y, Hid (cellsB (digL (t1B wUeb l)) = y) := ⟨_, rfl⟩
  have SY : Hid ((Tryd.prog.info? 23).map (·.size) = some y.size) := by refine hid ?_; rw [← HY.out, cellsB_size, DL.out]; exact size_digest
  have OY : Hid (y.all (·.oneCell') = true) := by refine hid ?_; rw [← HY.out]; exact cellsB_one _
  have ZY : Hid (zd.size = y.size) := by refine hid ?_; rw [← HZD.out, ← HY.out, cellsB_size, cellsB_size, DL.out, zeros32_length]
  obtain ⟨p, c, rfl, _, _⟩ := h.open
  have HA := hid (heap_alloc_new W0 (.cells #[.slice p l.length c] 26))
  have BA := hid ((Below.refl W0.heap.size W0).alloc (Nat.le_refl _) (.cells #[.slice p l.length c] 26))
  have hl1 := HL.one HA.out ((h.below B0.out).below BA.out)
  have C1 := rdigest_ueb (W0.alloc (.cells #[.slice p l.length c] 26)) _ [l] hl1 (fun w' hB => rfits_ueb w' _ l (hl1.below hB)) (by simp; omega) (fun q hq => by simp at hq; subst hq; exact h.2)
  rw [sueb_strI, show framed [wUeb, l] = t1B wUeb l from rfl, HY.out] at C1
  have C1 := hid C1
  rw [HY.out]
  have B1 := hid (B0.out.trans (BA.out.mono B0.out.size))
  have R1 := hid ((BA.out.block w.heap.size (by rw [Z0.out]; omega)).trans R0.out)
  have S1 : Hid (w.heap.size < (W0.alloc (.cells #[.slice p l.length c] 26)).heap.size) := hid (by simp; rw [Z0.out]; omega)
  clear h hl1
  go_enter Tryd.func20, Tryd.ntmps20
  go_wp2_with (first | (refine wpList_alloc_digest rfl rfl ?_; rw [HZD.out, hW0.out]) | fail)
  refine C1.out.mono ?_
  rintro e w2 ⟨rfl, hb2⟩
  have B2 := hid (B1.out.trans (hb2.mono B1.out.size))
  have R2 := hid ((hb2.block w.heap.size S1.out).trans R1.out)
  clear hb2 C1
  go_wp2_with (first | (refine wpList_store_row rfl 23 _ _ rfl w.heap.size y rfl rfl 23 _ R2.out SY.out ZY.out OY.out ?_) | fail)
  refine bodyPost_ret (v := .agg y) (results_cell_row (p := 2) (ty := 23) rfl _ _ w.heap.size 23 y (0, 0) _ rfl (setRow_heap _ _ _ _ _ _ R2.out) Tryd.underlying23 rfl SY.out) rfl ?_
  exact ⟨rfl, bel_setRow B2.out (Nat.le_refl _) _⟩
theorem wrL_few {u : Ub} (hu : u.ok) : (wrL u).length ≤ 1000 := by rw [wrL_len hu]; exact uL_le _ _ _ _
theorem pack_byt (rs : List Rw) (h : ∀ r ∈ rs, Byt8 r.2) : Byt8 (packL rs) := by
  induction rs with
  | nil => intro x hx; cases hx
  | cons r t ih =>
    intro x hx
    rw [packL, ← hdL_row] at hx
    rcases List.mem_append.1 hx with hx | hx
    · rcases List.mem_append.1 hx with hx | hx
      · exact hdL_byt _ _ x hx
      · rcases List.mem_append.1 hx with hx | hx
        · exact h r (List.mem_cons_self ..) x hx
        · simp at hx; omega
    · exact ih (fun q hq => h q (List.mem_cons_of_mem _ hq)) x hx
theorem wrL_byt {u : Ub} (hu : u.ok) : Byt8 (wrL u) := by
  unfold wrL
  split
  · refine pack_byt _ fun r hr => ?_
    simp only [ubRows, List.mem_cons, List.not_mem_nil, or_false] at hr
    rcases hr with rfl | rfl | rfl | rfl | rfl | rfl
    · exact dgL_byt _
    · exact dgL_byt _
    · exact dgL_byt _
    · exact hu.2.2
    · exact hu.1.2
    · exact dgL_byt _
  · intro x hx; cases hx
def udL (u : Ub) : List Int := if chE u = 0 then ueL (wrL u) else zeros32
theorem udL_length (u : Ub) : (udL u).length = 32 := by
  unfold udL
  split
  · exact digL_length _
  · exact zeros32_length
theorem build_dig (w : World) : (Instr.build 23 #[]).run Tryd.prog w = .ok (.agg (cellsB zeros32)) w := by kernel_rfl
set_option maxRecDepth 100000 in
set_option maxHeartbeats 4000000 in
theorem rwrite_any (w : World) (u : Ub) (hu : u.ok) : Calls Tryd.prog 5 #[.agg (ubA u)] w fun e w' => ∃ v, e = .returned (.tuple #[v, .int .i64 (chE u)]) ∧ HB w' v (wrL u) ∧ Below w.heap.size w w' := by
  rcases ch_or u with h0 | h1
  · rw [h0]
    exact rwrite_ok w u hu (ch_ok h0)
  · rw [h1]
    have e0 : wrL u = [] := by unfold wrL; rw [if_neg (by omega)]
    rw [e0]
    have CK := hid fun w => rcheck13_any w u hu
    rw [h1] at CK
    have HS := hid (size_ub hu)
    obtain ⟨m, HM⟩ : ∃ x, Hid (ubA u = x) := ⟨_, rfl⟩
    rw [HM.out] at CK HS
    rw [HM.out]
    have B0 := hid ((Below.refl w.heap.size w).alloc (Nat.le_refl _) (.cells m 25))
    clear e0 h1
    go_enter Tryd.func5, Tryd.ntmps5
    go_wp2_with (first | (refine wpList_load_row rfl 25 _ rfl w.heap.size rfl 25 m (0, 0) _ (heap_alloc_new w _) Tryd.underlying25 rfl HS.out ?_) | fail)
    refine (CK.out _).mono ?_
    rintro e w1 ⟨rfl, hb1⟩
    have B1 := hid (B0.out.trans (hb1.mono (by simp)))
    clear hb1 CK
    go_wp2
    go_ret2
    exact ⟨_, rfl, HB.nil _, B1.out⟩
set_option maxRecDepth 100000 in
set_option maxHeartbeats 4000000 in
theorem rdig13_any (w : World) (u : Ub) (hu : u.ok) (hkp : KP w) (hk : KC w) : Calls Tryd.prog 6 #[.agg (ubA u)] w fun e w' => e = .returned (.tuple #[.agg (cellsB (udL u)), .int .i64 (chE u)]) ∧ Below w.heap.size w w' := by
  obtain ⟨zd, HZD⟩ : ∃ zd, Hid (cellsB zeros32 = zd) := ⟨_, rfl⟩
  have HS := hid (size_ub hu)
  have HWF := hid (wrL_few hu)
  have HWP : Hid (chE u = 0 → 0 < (wrL u).length) := hid fun h => by unfold wrL; rw [if_pos h, ubRows, packL_six]; have : 0 < (rowL (nmK, dgL u.k.toNat)).length := (by unfold rowL; rw [List.length_append, fld_len]; omega); omega
  have EU : Hid (chE u = 0 → udL u = ueL (wrL u)) := hid fun h => by unfold udL; rw [if_pos h]
  have EZ : Hid (chE u ≠ 0 → udL u = zeros32) := hid fun h => by unfold udL; rw [if_neg h]
  have HCH := hid (ch_or u)
  obtain ⟨y, HY⟩ : ∃ y, Hid (cellsB (udL u) = y) := ⟨_, rfl⟩
  have SY : Hid ((Tryd.prog.info? 23).map (·.size) = some y.size) := by refine hid ?_; rw [← HY.out, cellsB_size, udL_length]; exact size_digest
  have OY : Hid (y.all (·.oneCell') = true) := by refine hid ?_; rw [← HY.out]; exact cellsB_one _
  have ZY : Hid (zd.size = y.size) := by refine hid ?_; rw [← HZD.out, ← HY.out, cellsB_size, cellsB_size, udL_length, zeros32_length]
  obtain ⟨W0, hW0⟩ : ∃ W0, Hid ((w.alloc (.cells (ubA u) 25)).alloc (.cells zd 23) = W0) := ⟨_, rfl⟩
  have B0 : Hid (Below w.heap.size w W0) := by rw [← hW0.out]; exact ((Below.refl _ w).alloc (Nat.le_refl _) _).alloc (by simp) _
  have U0 : Hid (W0.heap[w.heap.size]? = some (.cells (ubA u) 25 (0, 0))) := by rw [← hW0.out]; exact (heap_alloc_old _ _ (by simp)).trans (heap_alloc_new w _)
  have R0 : Hid (W0.heap[w.heap.size + 1]? = some (.cells zd 23 (0, 0))) := by
    refine hid ?_
    rw [← hW0.out]
    have := heap_alloc_new (w.alloc (.cells (ubA u) 25)) (.cells zd 23)
    simpa using this
  have Z0 : Hid (W0.heap.size = w.heap.size + 2) := by refine hid ?_; rw [← hW0.out]; simp
  have C1 := rwrite_any W0 u hu
  have HK := hid hk
  obtain ⟨m, HM⟩ : ∃ x, Hid (ubA u = x) := ⟨_, rfl⟩
  rw [HM.out] at C1 HS U0 hW0
  have C1 := hid C1
  rw [HM.out, HY.out]
  clear hk
  go_enter Tryd.func6, Tryd.ntmps6
  go_wp2_with (first | (refine wpList_alloc_digest rfl rfl ?_; rw [HZD.out, hW0.out]) | (refine wpList_load_row rfl 25 _ rfl w.heap.size rfl 25 m (0, 0) _ U0.out Tryd.underlying25 rfl HS.out ?_) | fail)
  refine C1.out.mono ?_
  rintro e w1 ⟨v1, rfl, hv1, hb1⟩
  have B1 := hid (B0.out.trans (hb1.mono B0.out.size))
  have R1 := hid ((hb1.block (w.heap.size + 1) (by rw [Z0.out]; omega)).trans R0.out)
  have S1 : Hid (w.heap.size + 1 < w1.heap.size) := hid (by have := hb1.size; rw [Z0.out] at this; omega)
  have V1 : Hid (HB w1 v1 (wrL u)) := hid hv1
  obtain ⟨p1, c1, rfl, _, _⟩ := V1.out.open
  rcases HCH.out with hc | hc
  · have CU := rueb_any w1 _ (wrL u) V1.out (by have := HWF.out; omega)
    rw [← EU.out hc, HY.out] at CU
    have CU := hid CU
    obtain ⟨L, HLn⟩ : ∃ L, Hid ((wrL u).length = L) := ⟨_, rfl⟩
    rw [HLn.out] at CU
    rw [HLn.out, hc]
    have HC := hid hc
    clear hb1 hv1 C1 V1 HWF HWP EU EZ HCH hc
    go_wp2_with fail
    refine CU.out.mono ?_
    rintro e w2 ⟨rfl, hb2⟩
    have B2 := hid (B1.out.trans (hb2.mono B1.out.size))
    have R2 := hid ((hb2.block (w.heap.size + 1) S1.out).trans R1.out)
    clear hb2 CU
    go_wp2_with (refine wpList_store_row rfl 23 _ _ rfl (w.heap.size + 1) y rfl rfl 23 _ R2.out SY.out ZY.out OY.out ?_)
    refine bodyPost_ret (v := .tuple #[.agg y, .int .i64 0]) (results_cellT (p := 2) (u := 3) (ty := 23) rfl _ _ (w.heap.size + 1) 23 y (0, 0) _ rfl (setRow_heap _ _ _ _ _ _ R2.out) Tryd.underlying23 rfl SY.out _ rfl) rfl ?_
    exact ⟨by rw [HC.out], bel_setRow B2.out (by omega) _⟩
  · have EY : Hid (cellsB zeros32 = y) := by refine hid ?_; rw [← HY.out, EZ.out (by omega)]
    have BD := hid build_dig
    rw [EY.out] at BD
    rw [hc]
    have HC := hid hc
    clear hb1 hv1 C1 V1 HWF HWP EU EZ HCH hc
    go_wp2_with (refine wpList_store_row rfl 23 _ _ rfl (w.heap.size + 1) y rfl (by rw [← EY.out]; rfl) 23 _ R1.out SY.out ZY.out OY.out ?_)
    refine bodyPost_ret (v := .tuple #[.agg y, .int .i64 133]) (results_cellT (p := 2) (u := 3) (ty := 23) rfl _ _ (w.heap.size + 1) 23 y (0, 0) _ rfl (setRow_heap _ _ _ _ _ _ R1.out) Tryd.underlying23 rfl SY.out _ rfl) rfl ?_
    exact ⟨by rw [HC.out], bel_setRow B1.out (by omega) _⟩
set_option maxRecDepth 100000 in
set_option maxHeartbeats 4000000 in
theorem udigest_any (w : World) (u : Ub) (hu : u.ok) (hkp : KP w) (hk : KC w) : Calls Tryd.prog 9 #[.agg (ubA u)] w fun e w' => e = .returned (.tuple #[.agg (cellsB (udL u)), .int .i64 (chE u)]) ∧ Below w.heap.size w w' := by
  obtain ⟨zd, HZD⟩ : ∃ zd, Hid (cellsB zeros32 = zd) := ⟨_, rfl⟩
  have HS := hid (size_ub hu)
  have HWF := hid (wrL_few hu)
  have HWP : Hid (chE u = 0 → 0 < (wrL u).length) := hid fun h => by unfold wrL; rw [if_pos h, ubRows, packL_six]; have : 0 < (rowL (nmK, dgL u.k.toNat)).length := (by unfold rowL; rw [List.length_append, fld_len]; omega); omega
  have EU : Hid (chE u = 0 → udL u = ueL (wrL u)) := hid fun h => by unfold udL; rw [if_pos h]
  have EZ : Hid (chE u ≠ 0 → udL u = zeros32) := hid fun h => by unfold udL; rw [if_neg h]
  have HCH := hid (ch_or u)
  obtain ⟨y, HY⟩ : ∃ y, Hid (cellsB (udL u) = y) := ⟨_, rfl⟩
  have SY : Hid ((Tryd.prog.info? 23).map (·.size) = some y.size) := by refine hid ?_; rw [← HY.out, cellsB_size, udL_length]; exact size_digest
  have OY : Hid (y.all (·.oneCell') = true) := by refine hid ?_; rw [← HY.out]; exact cellsB_one _
  have ZY : Hid (zd.size = y.size) := by refine hid ?_; rw [← HZD.out, ← HY.out, cellsB_size, cellsB_size, udL_length, zeros32_length]
  obtain ⟨W0, hW0⟩ : ∃ W0, Hid ((w.alloc (.cells (ubA u) 25)).alloc (.cells zd 23) = W0) := ⟨_, rfl⟩
  have B0 : Hid (Below w.heap.size w W0) := by rw [← hW0.out]; exact ((Below.refl _ w).alloc (Nat.le_refl _) _).alloc (by simp) _
  have U0 : Hid (W0.heap[w.heap.size]? = some (.cells (ubA u) 25 (0, 0))) := by rw [← hW0.out]; exact (heap_alloc_old _ _ (by simp)).trans (heap_alloc_new w _)
  have R0 : Hid (W0.heap[w.heap.size + 1]? = some (.cells zd 23 (0, 0))) := by
    refine hid ?_
    rw [← hW0.out]
    have := heap_alloc_new (w.alloc (.cells (ubA u) 25)) (.cells zd 23)
    simpa using this
  have Z0 : Hid (W0.heap.size = w.heap.size + 2) := by refine hid ?_; rw [← hW0.out]; simp
  have C1 := uwrite_any W0 u hu (hkp.below B0.out)
  have HK := hid hk
  obtain ⟨m, HM⟩ : ∃ x, Hid (ubA u = x) := ⟨_, rfl⟩
  rw [HM.out] at C1 HS U0 hW0
  have C1 := hid C1
  rw [HM.out, HY.out]
  clear hk
  go_enter Tryd.func9, Tryd.ntmps9
  go_wp2_with (first | (refine wpList_alloc_digest rfl rfl ?_; rw [HZD.out, hW0.out]) | (refine wpList_load_row rfl 25 _ rfl w.heap.size rfl 25 m (0, 0) _ U0.out Tryd.underlying25 rfl HS.out ?_) | fail)
  refine C1.out.mono ?_
  rintro e w1 ⟨v1, rfl, hv1, hb1⟩
  have B1 := hid (B0.out.trans (hb1.mono B0.out.size))
  have R1 := hid ((hb1.block (w.heap.size + 1) (by rw [Z0.out]; omega)).trans R0.out)
  have S1 : Hid (w.heap.size + 1 < w1.heap.size) := hid (by have := hb1.size; rw [Z0.out] at this; omega)
  have V1 : Hid (HB w1 v1 (wrL u)) := hid (HB.of_own hv1 (wrL_byt hu))
  obtain ⟨p1, c1, rfl, _, _⟩ := V1.out.open
  rcases HCH.out with hc | hc
  · have CU := tueb_any w1 _ (wrL u) V1.out (HWP.out hc) (by have := HWF.out; omega) (HK.out.below B1.out)
    rw [← EU.out hc, HY.out] at CU
    have CU := hid CU
    obtain ⟨L, HLn⟩ : ∃ L, Hid ((wrL u).length = L) := ⟨_, rfl⟩
    rw [HLn.out] at CU
    rw [HLn.out, hc]
    have HC := hid hc
    clear hb1 hv1 C1 V1 HWF HWP EU EZ HCH hc
    go_wp2_with fail
    refine CU.out.mono ?_
    rintro e w2 ⟨rfl, hb2⟩
    have B2 := hid (B1.out.trans (hb2.mono B1.out.size))
    have R2 := hid ((hb2.block (w.heap.size + 1) S1.out).trans R1.out)
    clear hb2 CU
    go_wp2_with (refine wpList_store_row rfl 23 _ _ rfl (w.heap.size + 1) y rfl rfl 23 _ R2.out SY.out ZY.out OY.out ?_)
    refine bodyPost_ret (v := .tuple #[.agg y, .int .i64 0]) (results_cellT (p := 2) (u := 3) (ty := 23) rfl _ _ (w.heap.size + 1) 23 y (0, 0) _ rfl (setRow_heap _ _ _ _ _ _ R2.out) Tryd.underlying23 rfl SY.out _ rfl) rfl ?_
    exact ⟨by rw [HC.out], bel_setRow B2.out (by omega) _⟩
  · have EY : Hid (cellsB zeros32 = y) := by refine hid ?_; rw [← HY.out, EZ.out (by omega)]
    have BD := hid build_dig
    rw [EY.out] at BD
    rw [hc]
    have HC := hid hc
    clear hb1 hv1 C1 V1 HWF HWP EU EZ HCH hc
    go_wp2_with (refine wpList_store_row rfl 23 _ _ rfl (w.heap.size + 1) y rfl (by rw [← EY.out]; rfl) 23 _ R1.out SY.out ZY.out OY.out ?_)
    refine bodyPost_ret (v := .tuple #[.agg y, .int .i64 133]) (results_cellT (p := 2) (u := 3) (ty := 23) rfl _ _ (w.heap.size + 1) 23 y (0, 0) _ rfl (setRow_heap _ _ _ _ _ _ R1.out) Tryd.underlying23 rfl SY.out _ rfl) rfl ?_
    exact ⟨by rw [HC.out], bel_setRow B1.out (by omega) _⟩
end Go.Proofs.YtklklldmhoofnaaDoor
