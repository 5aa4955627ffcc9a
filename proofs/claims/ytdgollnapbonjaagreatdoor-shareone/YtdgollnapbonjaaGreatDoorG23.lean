/- Of the road to shareOneCard_holds: UbRPack. -/
import Derived.Test.YtdgollnapbonjaaGreatDoorG22
import Derived.Test.YtdgollnapbonjaaGreatDoorG21
set_option linter.unusedVariables false
set_option linter.unusedSimpArgs false
set_option maxRecDepth 100000
set_option maxHeartbeats 16000000
namespace Go.Proofs.YtdgollnapbonjaaGreatDoor
open Go Go.RowKit
theorem bS_app' (a b : List Int) : bS a ++ bS b = bS (a ++ b) := by
 unfold bS
 rw [ByteArray.mk_append_mk, List.map_append]
theorem nS_bS (n : Nat) : nS (n : Int) = bS (dgL n) := by rw [<- sB_nS n, bS_sB]
theorem strCells_bS {l : List Int} (h : Byt8 l) : Lib.strCells (bS l) = l.map (Value.int .u8) := by
 have e := sB_bS h
 have : Lib.strCells (bS l) = (sB (bS l)).map (Value.int .u8) := by unfold Lib.strCells sB; rw [List.map_map]; rfl
 rw [this, e]
theorem wp_append_text {w : World} {o : Oper} {a : Act} {K : Act -> World -> Prop} {Q : Exit -> Act -> World -> Prop} (s x : Operand)
  (ho : o.op = .call { callee := .builtin .append, args := #[s, x], argTypes := #[34, 9] })
  (base : Nat) (v : Value) (n : Nat) (xs : List Value) (hs : a.eval s = v) (hown : w.ownsRow base 5 1 v n xs)
  (t : ByteArray) (hx : a.eval x = .string t) (h0 : 0 < t.size) (hn : n + t.size <= 140737488355328) (hbase : base <= w.heap.size)
  (h : ∀ v' w', w'.ownsRow base 5 1 v' (n + t.size) (xs ++ Lib.strCells t) -> w.grownBy w' v.ownBlock -> K (a.put o.dst v') w') : o.wp Tryz.prog a w K Q := by
 obtain ⟨v', w', hr, h2, h3, h4⟩ := run_append_text w base o.type v n xs hown t h0 hn hbase
 unfold Oper.wp execOp
 simp only [ho, resolve, invoke, builtin, Sem.run_bind, Sem.run_pure, Result.andThen_ok, List.map_toArray, List.map_cons, List.map_nil, hs, hx, hr]
 exact h v' w' h2 h3
def hdL (s : ByteArray) (n : Nat) : List Int := dgL s.size ++ 58 :: (sB s ++ 44 :: (dgL n ++ [58]))
theorem hdL_row (s : ByteArray) (l : List Int) : hdL s l.length ++ (l ++ [44]) = rowL (s, l) := by
 unfold hdL rowL fld
 simp [sB_length]
theorem hdL_byt (s : ByteArray) (n : Nat) : Byt8 (hdL s n) := by
 intro x hx
 unfold hdL at hx
 rcases List.mem_append.1 hx with h | h
 ·exact dgL_byt _ x h
 rcases List.mem_cons.1 h with rfl | h
 ·omega
 rcases List.mem_append.1 h with h | h
 ·exact sB_byt _ x h
 rcases List.mem_cons.1 h with rfl | h
 ·omega
 rcases List.mem_append.1 h with h | h
 ·exact dgL_byt _ x h
 ·simp at h; omega
theorem rpack_ok (w : World) (v : Value) (rs : List Rw) (h : HRw w v rs) (hm : mayT rs) :
  Calls Tryz.prog 23 #[v] w fun e w' => ∃ v', e = .returned (.tuple #[v', .int .i64 0]) /\ w'.ownsRow w.heap.size 5 1 v' (packL rs).length ((packL rs).map (Value.int .u8)) /\ Below w.heap.size w w' := by
 have C0 := hid (rmay_ok w v rs h hm)
 obtain ⟨p, c, rfl, hlc, hcm, hrow⟩ := h.open
 have HR := hid hrow
 have HM := hid hm
 have PLE : Hid (∀ k, (packL (rs.take k)).length <= 4480000) := hid fun k => by
  have a := pack_len_le (rs.take k) noS (okRows_take hm.2 k)
  have b := hm.1
  have c : (rs.take k).length <= rs.length := by rw [List.length_take]; omega
  omega
 clear hrow h
 have hm63 : rs.length <= 9223372036854775807 := by unfold maxLen at hcm; omega
 obtain ⟨n, HN⟩ : ∃ n, Hid (rs.length = n) := ⟨_, rfl⟩
 have h64 : n <= 64 := by rw [<- HN.out]; exact hm.1
 rw [HN.out] at hlc hm63 C0
 rw [HN.out]
 clear hm
 go_enter Tryz.func23, Tryz.ntmps23
 go_wp2_with fail
 refine C0.out.mono ?_
 rintro e w1 ⟨rfl, hb1⟩
 have B1 := hid hb1
 clear hb1 C0
 go_wp2
 go_loopw [4, 5] (fun o i wr => ∃ k : Nat, k <= n /\ i = .int .i64 (k : Int) /\ Hid (wr.ownsRow w.heap.size 5 1 o (packL (rs.take k)).length ((packL (rs.take k)).map (Value.int .u8))) /\ Hid (Below w.heap.size w wr)) (fun _ i _ => n - (intOf i).toNat)
 case atStart => exact ⟨0, Nat.zero_le _, rfl, hid (by simp [packL]; exact World.ownsRow_nil _ _ _ _), B1⟩
 case round =>
  obtain ⟨k, hk, rfl, HO, HB0⟩ := hrel
  have hsz := HB0.out.size
  by_cases hlt : k < n
  ·obtain ⟨b, off, rfl, hbl, hcell⟩ := HR.out (by have := HN.out; omega)
   obtain ⟨u, hu, hv⟩ := hcell k (by have := HN.out; omega)
   have hok := okRows_take HM.out.2 (k + 1)
   have hts := take_snoc (rs := rs) (k := k) (by have := HN.out; omega)
   rw [hts, okRows_snoc] at hok
   obtain ⟨_, hle, hs64, hl64⟩ := hok
   obtain ⟨⟨s, l⟩, Hx⟩ : ∃ x, Hid (rs.getD k rw0 = x) := ⟨_, rfl⟩
   rw [Hx.out] at hu hv hle hs64 hl64 hts
   obtain ⟨pu, cu, rfl, hlu, hcu⟩ := hv.open
   have hs64 : s.size <= 64 := hs64
   have hl64 : l.length <= 65536 := hl64
   have HV := hid hv
   have PS : Hid (packL (rs.take (k + 1)) = packL (rs.take k) ++ (hdL s l.length ++ (l ++ [44]))) := hid (by rw [hts, packL_snoc, hdL_row])
   have r1 := range_below2 hu HB0.out hbl
   have cN : wr.cell? ⟨b, off + k * 2, none⟩ = some (.string s) := by have := r1 0 _ rfl; simpa using this
   have cV : wr.cell? ⟨b, off + k * 2 + 1, none⟩ = some (.slice pu l.length cu) := r1 1 _ rfl
   have FC : Hid (∀ W, Below w.heap.size w W -> W.cell? ⟨b, off + k * 2, none⟩ = some (.string s) /\ W.cell? ⟨b, off + k * 2 + 1, none⟩ = some (.slice pu l.length cu)) := hid fun W hW => by
    have r := range_below2 hu hW hbl
    exact ⟨by have := r 0 _ rfl; simpa using this, r 1 _ rfl⟩
   have CD1 := hid fun W => rdigits13_any W (s.size : Int) (by omega) (by omega)
   have CD2 := hid fun W => rdigits13_any W (l.length : Int) (by omega) (by omega)
   obtain ⟨d1, HD1⟩ : ∃ x, Hid (nS (s.size : Int) = x) := ⟨_, rfl⟩
   obtain ⟨d2, HD2⟩ : ∃ x, Hid (nS (l.length : Int) = x) := ⟨_, rfl⟩
   rw [HD1.out] at CD1
   rw [HD2.out] at CD2
   have y1 : d1.size <= 1000 := by rw [<- HD1.out]; exact nS_size10 _ (by omega) (by omega)
   have y2 : d2.size <= 1000 := by rw [<- HD2.out]; exact nS_size10 _ (by omega) (by omega)
   have TX : Hid (d1 ++ ⟨#[58]⟩ ++ s ++ ⟨#[44]⟩ ++ d2 ++ ⟨#[58]⟩ = bS (hdL s l.length)) := by
    refine hid ?_
    have e : d1 ++ ⟨#[58]⟩ ++ s ++ ⟨#[44]⟩ ++ d2 ++ ⟨#[58]⟩ = bS (dgL s.size) ++ bS [58] ++ bS (sB s) ++ bS [44] ++ bS (dgL l.length) ++ bS [58] := by
     rw [bS_sB, <- nS_bS, <- nS_bS, HD1.out, HD2.out]
     rfl
    rw [e]
    simp only [bS_app']
    unfold hdL
    simp
   have TZ : Hid ((bS (hdL s l.length)).size = (hdL s l.length).length) := hid (bS_size _)
   have HZ : Hid (0 < (hdL s l.length).length /\ (hdL s l.length).length <= 1000) := by
    refine hid ?_
    unfold hdL
    have a := dec_len_small s.size (by omega)
    have b := dec_len_small l.length (by omega)
    have c := sB_length s
    simp only [List.length_append, List.length_cons, List.length_nil]
    omega
   have HC := hid (strCells_bS (hdL_byt s l.length))
   obtain ⟨tx, HTX⟩ : ∃ x, Hid (bS (hdL s l.length) = x) := ⟨_, rfl⟩
   rw [HTX.out] at TX TZ HC
   have ple := PLE.out k
   obtain ⟨L, HLk⟩ : ∃ x, Hid (packL (rs.take k) = x) := ⟨_, rfl⟩
   rw [HLk.out] at HO PS ple
   obtain ⟨Hd, HHd⟩ : ∃ x, Hid (hdL s l.length = x) := ⟨_, rfl⟩
   rw [HHd.out] at HC TZ HZ PS
   clear hu hv hcell r1 cN cV hts hle
   go_wp2
   refine wp_region_held_drew (S := Below w.heap.size w) (by kernel_rfl) HB0.out.drew (fun hHeld => ?_)
   have HS := hid hHeld
   clear hHeld
   change wpAnyH _ _ _ _ _ _ _ _ (World.drew _)
   refine wpAnyH_take (i := 0) (v := ?_) rfl (by kernel_rfl) (by kernel_rfl) (by kernel_rfl) (fun _ _ _ h => h) (Or.inl ⟨by rfl, ?q0⟩) HS.out ?_
   case q0 => intro W hSw; obtain ⟨z1, z2⟩ := FC.out W hSw; first | (go_simp; done) | (go_simp; rfl) | (go_simp; omega) | (go_simp; intro hq; exfalso; omega)
   simp only [Act.put, lay6]
   refine wpAnyH_take (i := 1) (v := .slice (some ⟨b, off, none⟩) n c) rfl (by kernel_rfl) (by kernel_rfl) (by kernel_rfl) (fun _ _ _ h => h) (Or.inl ⟨by rfl, ?q1⟩) HS.out ?_
   case q1 => intro W hSw; obtain ⟨z1, z2⟩ := FC.out W hSw; first | (go_simp; done) | (go_simp; rfl) | (go_simp; omega) | (go_simp; intro hq; exfalso; omega)
   simp only [Act.put, lay6]
   refine wpAnyH_take (i := 2) (v := .int .i64 (k : Int)) rfl (by kernel_rfl) (by kernel_rfl) (by kernel_rfl) (fun _ _ _ h => h) (Or.inl ⟨by rfl, ?q2⟩) HS.out ?_
   case q2 => intro W hSw; obtain ⟨z1, z2⟩ := FC.out W hSw; first | (go_simp; done) | (go_simp; rfl) | (go_simp; omega) | (go_simp; intro hq; exfalso; omega)
   simp only [Act.put, lay6]
   refine wpAnyH_take (i := 3) (v := .pointer (some ⟨b, off + k * 2, none⟩)) rfl (by kernel_rfl) (by kernel_rfl) (by kernel_rfl) (fun _ _ _ h => h) (Or.inl ⟨by rfl, ?q3⟩) HS.out ?_
   case q3 => intro W hSw; obtain ⟨z1, z2⟩ := FC.out W hSw; first | (go_simp; done) | (go_simp; rfl) | (go_simp; omega) | (go_simp; intro hq; exfalso; omega)
   simp only [Act.put, lay6]
   refine wpAnyH_take (i := 4) (v := .pointer (some ⟨b, off + k * 2, none⟩)) rfl (by kernel_rfl) (by kernel_rfl) (by kernel_rfl) (fun _ _ _ h => h) (Or.inl ⟨by rfl, ?q4⟩) HS.out ?_
   case q4 => intro W hSw; obtain ⟨z1, z2⟩ := FC.out W hSw; first | (go_simp; done) | (go_simp; rfl) | (go_simp; omega) | (go_simp; intro hq; exfalso; omega)
   simp only [Act.put, lay6]
   refine wpAnyH_take (i := 5) (v := .string s) rfl (by kernel_rfl) (by kernel_rfl) (by kernel_rfl) (fun _ _ _ h => h) (Or.inl ⟨by rfl, ?q5⟩) HS.out ?_
   case q5 => intro W hSw; obtain ⟨z1, z2⟩ := FC.out W hSw; first | (go_simp; done) | (go_simp; rfl) | (go_simp; omega) | (go_simp; intro hq; exfalso; omega)
   simp only [Act.put, lay6]
   refine wpAnyH_take (i := 6) (v := .int .i64 (s.size : Int)) rfl (by kernel_rfl) (by kernel_rfl) (by kernel_rfl) (fun _ _ _ h => h) (Or.inl ⟨by rfl, ?q6⟩) HS.out ?_
   case q6 => intro W hSw; obtain ⟨z1, z2⟩ := FC.out W hSw; first | (go_simp; done) | (go_simp; rfl) | (go_simp; omega) | (go_simp; intro hq; exfalso; omega)
   simp only [Act.put, lay6]
   refine wpAnyH_take (i := 9) (v := .slice (some ⟨b, off, none⟩) n c) rfl (by kernel_rfl) (by kernel_rfl) (by kernel_rfl) (fun _ _ _ h => h) (Or.inl ⟨by rfl, ?q9⟩) HS.out ?_
   case q9 => intro W hSw; obtain ⟨z1, z2⟩ := FC.out W hSw; first | (go_simp; done) | (go_simp; rfl) | (go_simp; omega) | (go_simp; intro hq; exfalso; omega)
   simp only [Act.put, lay6]
   refine wpAnyH_take (i := 10) (v := .int .i64 (k : Int)) rfl (by kernel_rfl) (by kernel_rfl) (by kernel_rfl) (fun _ _ _ h => h) (Or.inl ⟨by rfl, ?q10⟩) HS.out ?_
   case q10 => intro W hSw; obtain ⟨z1, z2⟩ := FC.out W hSw; first | (go_simp; done) | (go_simp; rfl) | (go_simp; omega) | (go_simp; intro hq; exfalso; omega)
   simp only [Act.put, lay6]
   refine wpAnyH_take (i := 11) (v := .pointer (some ⟨b, off + k * 2, none⟩)) rfl (by kernel_rfl) (by kernel_rfl) (by kernel_rfl) (fun _ _ _ h => h) (Or.inl ⟨by rfl, ?q11⟩) HS.out ?_
   case q11 => intro W hSw; obtain ⟨z1, z2⟩ := FC.out W hSw; first | (go_simp; done) | (go_simp; rfl) | (go_simp; omega) | (go_simp; intro hq; exfalso; omega)
   simp only [Act.put, lay6]
   refine wpAnyH_take (i := 12) (v := .pointer (some ⟨b, off + k * 2, none⟩)) rfl (by kernel_rfl) (by kernel_rfl) (by kernel_rfl) (fun _ _ _ h => h) (Or.inl ⟨by rfl, ?q12⟩) HS.out ?_
   case q12 => intro W hSw; obtain ⟨z1, z2⟩ := FC.out W hSw; first | (go_simp; done) | (go_simp; rfl) | (go_simp; omega) | (go_simp; intro hq; exfalso; omega)
   simp only [Act.put, lay6]
   refine wpAnyH_take (i := 13) (v := .string s) rfl (by kernel_rfl) (by kernel_rfl) (by kernel_rfl) (fun _ _ _ h => h) (Or.inl ⟨by rfl, ?q13⟩) HS.out ?_
   case q13 => intro W hSw; obtain ⟨z1, z2⟩ := FC.out W hSw; first | (go_simp; done) | (go_simp; rfl) | (go_simp; omega) | (go_simp; intro hq; exfalso; omega)
   simp only [Act.put, lay6]
   refine wpAnyH_take (i := 16) (v := .slice (some ⟨b, off, none⟩) n c) rfl (by kernel_rfl) (by kernel_rfl) (by kernel_rfl) (fun _ _ _ h => h) (Or.inl ⟨by rfl, ?q16⟩) HS.out ?_
   case q16 => intro W hSw; obtain ⟨z1, z2⟩ := FC.out W hSw; first | (go_simp; done) | (go_simp; rfl) | (go_simp; omega) | (go_simp; intro hq; exfalso; omega)
   simp only [Act.put, lay6]
   refine wpAnyH_take (i := 17) (v := .int .i64 (k : Int)) rfl (by kernel_rfl) (by kernel_rfl) (by kernel_rfl) (fun _ _ _ h => h) (Or.inl ⟨by rfl, ?q17⟩) HS.out ?_
   case q17 => intro W hSw; obtain ⟨z1, z2⟩ := FC.out W hSw; first | (go_simp; done) | (go_simp; rfl) | (go_simp; omega) | (go_simp; intro hq; exfalso; omega)
   simp only [Act.put, lay6]
   refine wpAnyH_take (i := 18) (v := .pointer (some ⟨b, off + k * 2, none⟩)) rfl (by kernel_rfl) (by kernel_rfl) (by kernel_rfl) (fun _ _ _ h => h) (Or.inl ⟨by rfl, ?q18⟩) HS.out ?_
   case q18 => intro W hSw; obtain ⟨z1, z2⟩ := FC.out W hSw; first | (go_simp; done) | (go_simp; rfl) | (go_simp; omega) | (go_simp; intro hq; exfalso; omega)
   simp only [Act.put, lay6]
   refine wpAnyH_take (i := 19) (v := .pointer (some ⟨b, off + k * 2 + 1, none⟩)) rfl (by kernel_rfl) (by kernel_rfl) (by kernel_rfl) (fun _ _ _ h => h) (Or.inl ⟨by rfl, ?q19⟩) HS.out ?_
   case q19 => intro W hSw; obtain ⟨z1, z2⟩ := FC.out W hSw; first | (go_simp; done) | (go_simp; rfl) | (go_simp; omega) | (go_simp; intro hq; exfalso; omega)
   simp only [Act.put, lay6]
   refine wpAnyH_take (i := 20) (v := .slice pu l.length cu) rfl (by kernel_rfl) (by kernel_rfl) (by kernel_rfl) (fun _ _ _ h => h) (Or.inl ⟨by rfl, ?q20⟩) HS.out ?_
   case q20 => intro W hSw; obtain ⟨z1, z2⟩ := FC.out W hSw; first | (go_simp; done) | (go_simp; rfl) | (go_simp; omega) | (go_simp; intro hq; exfalso; omega)
   simp only [Act.put, lay6]
   refine wpAnyH_take (i := 21) (v := .int .i64 (l.length : Int)) rfl (by kernel_rfl) (by kernel_rfl) (by kernel_rfl) (fun _ _ _ h => h) (Or.inl ⟨by rfl, ?q21⟩) HS.out ?_
   case q21 => intro W hSw; obtain ⟨z1, z2⟩ := FC.out W hSw; first | (go_simp; done) | (go_simp; rfl) | (go_simp; omega) | (go_simp; intro hq; exfalso; omega)
   simp only [Act.put, lay6]
   refine wpAnyH_ready (rs := [7]) (by kernel_rfl) (by simp) ?_
   refine AllReadyH.cons rfl (fun K hK => ?_) AllReadyH.nil
   go_simp
   refine (CD1.out _).mono ?_
   rintro e w2 ⟨rfl, hb2⟩
   have HS2 := hid (HS.out.trans (hb2.mono HS.out.size))
   have G2 : Hid (Below wr.heap.size wr w2) := hid ((Below.refl _ wr).drew.trans (hb2.mono (by simp)))
   clear hb2
   refine hK.out _ _ HS2.out (fun _ => ?_)
   clear hK K
   refine wpAnyH_take (i := 8) (v := .string (d1 ++ ⟨#[58]⟩)) rfl (by kernel_rfl) (by kernel_rfl) (by kernel_rfl) (fun _ _ _ h => h) (Or.inl ⟨by rfl, ?q8⟩) HS2.out ?_
   case q8 => intro W hSw; obtain ⟨z1, z2⟩ := FC.out W hSw; first | (go_simp; done) | (go_simp; rfl) | (go_simp; omega) | (go_simp; intro hq; exfalso; omega)
   simp only [Act.put, lay6]
   refine wpAnyH_take (i := 14) (v := .string (d1 ++ ⟨#[58]⟩ ++ s)) rfl (by kernel_rfl) (by kernel_rfl) (by kernel_rfl) (fun _ _ _ h => h) (Or.inl ⟨by rfl, ?q14⟩) HS2.out ?_
   case q14 => intro W hSw; obtain ⟨z1, z2⟩ := FC.out W hSw; first | (go_simp; done) | (go_simp; rfl) | (go_simp; omega) | (go_simp; intro hq; exfalso; omega)
   simp only [Act.put, lay6]
   refine wpAnyH_take (i := 15) (v := .string (d1 ++ ⟨#[58]⟩ ++ s ++ ⟨#[44]⟩)) rfl (by kernel_rfl) (by kernel_rfl) (by kernel_rfl) (fun _ _ _ h => h) (Or.inl ⟨by rfl, ?q15⟩) HS2.out ?_
   case q15 => intro W hSw; obtain ⟨z1, z2⟩ := FC.out W hSw; first | (go_simp; done) | (go_simp; rfl) | (go_simp; omega) | (go_simp; intro hq; exfalso; omega)
   simp only [Act.put, lay6]
   refine wpAnyH_ready (rs := [22]) (by kernel_rfl) (by simp) ?_
   refine AllReadyH.cons rfl (fun K hK => ?_) AllReadyH.nil
   go_simp
   refine (CD2.out _).mono ?_
   rintro e w3 ⟨rfl, hb3⟩
   have HS3 := hid (HS2.out.trans (hb3.mono HS2.out.size))
   have G3 := hid (G2.out.trans (hb3.mono G2.out.size))
   clear hb3
   refine hK.out _ _ HS3.out (fun _ => ?_)
   clear hK K
   refine wpAnyH_take (i := 23) (v := .string (d1 ++ ⟨#[58]⟩ ++ s ++ ⟨#[44]⟩ ++ d2)) rfl (by kernel_rfl) (by kernel_rfl) (by kernel_rfl) (fun _ _ _ h => h) (Or.inl ⟨by rfl, ?q23⟩) HS3.out ?_
   case q23 => intro W hSw; obtain ⟨z1, z2⟩ := FC.out W hSw; first | (go_simp; done) | (go_simp; rfl) | (go_simp; omega) | (go_simp; intro hq; exfalso; omega)
   simp only [Act.put, lay6]
   refine wpAnyH_take (i := 24) (v := .string (d1 ++ ⟨#[58]⟩ ++ s ++ ⟨#[44]⟩ ++ d2 ++ ⟨#[58]⟩)) rfl (by kernel_rfl) (by kernel_rfl) (by kernel_rfl) (fun _ _ _ h => h) (Or.inl ⟨by rfl, ?q24⟩) HS3.out ?_
   case q24 => intro W hSw; obtain ⟨z1, z2⟩ := FC.out W hSw; first | (go_simp; done) | (go_simp; rfl) | (go_simp; omega) | (go_simp; intro hq; exfalso; omega)
   simp only [Act.put, lay6]
   rw [TX.out]
   refine wpAnyH_ready (rs := [25]) (by kernel_rfl) (by simp) ?_
   refine AllReadyH.cons rfl (fun K hK => ?_) AllReadyH.nil
   refine wp_append_text _ _ rfl w.heap.size _ L.length _ rfl (own_below HO.out G3.out) tx rfl (by rw [TZ.out]; exact HZ.out.1) (by have := HZ.out.2; rw [TZ.out]; omega) (by have := G3.out.size; omega) (fun v4 w4 ho4 hg4 => ?_)
   have B4 := hid (HS3.out.grown hg4 HS3.out.size (fun q e => ((own_below HO.out G3.out).lt q e).1))
   rw [HC.out, TZ.out, <- List.map_append, <- List.length_append] at ho4
   have O4 := hid ho4
   have V4 := hid (HV.out.below B4.out)
   clear ho4 hg4
   refine hK.out _ _ B4.out (fun _ => ?_)
   clear hK K
   obtain ⟨p4, c4, ev4⟩ := own_slc O4.out
   subst ev4
   refine wpAnyH_take (i := 26) (v := .slice p4 (L ++ Hd).length c4) rfl (by kernel_rfl) (by kernel_rfl) (by kernel_rfl) (fun _ _ _ h => h) (Or.inl ⟨by rfl, ?q26⟩) B4.out ?_
   case q26 => intro W hSw; obtain ⟨z1, z2⟩ := FC.out W hSw; first | (go_simp; done) | (go_simp; rfl) | (go_simp; omega) | (go_simp; intro hq; exfalso; omega)
   simp only [Act.put, lay6]
   refine wpAnyH_done (by kernel_rfl) ?_ _
   clear HS
   obtain ⟨z1, z2⟩ := FC.out _ B4.out
   go_wp2_with (at_builtin; refine wpList_append_bytes rfl _ _ rfl w.heap.size _ (L ++ Hd).length _ rfl O4.out _ l rfl V4.out (by have := HZ.out.2; rw [List.length_append]; omega) B4.out.size (fun v5 w5 ho5 hg5 _ => Hid.out ?_))
   have B5 := hid (B4.out.grown hg5 B4.out.size (fun q e => (O4.out.lt q e).1))
   rw [<- List.map_append, <- List.length_append] at ho5
   have O5 := hid ho5
   obtain ⟨p5, c5, ev5⟩ := own_slc ho5
   subst ev5
   clear ho5 hg5 z1 z2
   refine hid ?_
   go_wp2_with (at_builtin; refine wpList_append_byte rfl _ _ rfl w.heap.size _ (L ++ Hd ++ l).length _ rfl (O5.out.alloc _) ⟨w5.heap.size, 0, none⟩ 1 44 rfl (by simp) (by have := HZ.out.2; simp only [List.length_append]; omega) (by have := B5.out.size; simp; omega) (fun v6 w6 ho6 hg6 _ => Hid.out ?_))
   have B6 := hid ((B5.out.alloc B5.out.size _).grown hg6 (by have := B5.out.size; simp; omega) (fun q e => (O5.out.lt q e).1))
   have O6 : Hid (w6.ownsRow w.heap.size 5 1 v6 (packL (rs.take (k + 1))).length ((packL (rs.take (k + 1))).map (Value.int .u8))) := by
    refine hid ?_
    rw [PS.out, show L ++ (Hd ++ (l ++ [44])) = (L ++ Hd ++ l) ++ [44] by simp, List.map_append, List.length_append]
    exact ho6
   clear ho6 hg6
   refine hid ?_
   go_wp2
   exact ⟨⟨k + 1, by omega, by go_num, O6, B6⟩, by simp [intOf]; omega⟩
  ·have hkn : k = n := by omega
   have O9 : Hid (wr.ownsRow w.heap.size 5 1 u4 (packL rs).length ((packL rs).map (Value.int .u8))) := by
    refine hid ?_
    have := HO.out
    rw [List.take_of_length_le (by have := HN.out; omega)] at this
    exact this
   go_wp2
   go_ret2
   exact ⟨_, rfl, O9.out, HB0.out⟩
theorem rwrite_ok (w : World) (u : Ub) (hu : u.ok) (h : OkS u.k u.n u.g u.z) : Calls Tryz.prog 6 #[.agg (ubA u)] w fun e w' => ∃ v, e = .returned (.tuple #[v, .int .i64 0]) /\ HB w' v (wrL u) /\ Below w.heap.size w w' := by
 have CK := hid fun w => rcheck13_any w u hu
 have e0 : chE u = 0 := by unfold chE; rw [if_pos h]
 rw [e0] at CK
 have CR := hid fun w => rrows_any w u hu (by obtain ⟨q1, q2, q3, q4⟩ := h.le; exact ⟨q1, q2, q3, q4⟩)
 have CP := hid fun w v (hr : HRw w v (ubRows u)) => rpack_ok w v (ubRows u) hr (ubRows_may hu h)
 have EW : Hid (wrL u = packL (ubRows u)) := hid (by unfold wrL; rw [if_pos e0])
 have BY : Hid (Byt8 (wrL u)) := by
  refine hid ?_
  rw [EW.out]
  intro x hx
  have key : ∀ (rs : List Rw), (∀ r ∈ rs, Byt8 r.2) -> Byt8 (packL rs) := by
   intro rs
   induction rs with
   | nil => intro _ x hx; cases hx
   | cons r t ih =>
    intro hr x hx
    rw [packL, <- hdL_row] at hx
    rcases List.mem_append.1 hx with hx | hx
    ·rcases List.mem_append.1 hx with hx | hx
     ·exact hdL_byt _ _ x hx
     ·rcases List.mem_append.1 hx with hx | hx
      ·exact hr r (List.mem_cons_self ..) x hx
      ·simp at hx; omega
    ·exact ih (fun q hq => hr q (List.mem_cons_of_mem _ hq)) x hx
  refine key (ubRows u) (fun r hr => ?_) x hx
  simp only [ubRows, List.mem_cons, List.not_mem_nil, or_false] at hr
  rcases hr with rfl | rfl | rfl | rfl | rfl | rfl
  ·exact dgL_byt _
  ·exact dgL_byt _
  ·exact dgL_byt _
  ·exact hu.2.2
  ·exact hu.1.2
  ·exact dgL_byt _
 have HS := hid (size_ub hu)
 obtain ⟨m, Hm⟩ : ∃ x, Hid (ubA u = x) := ⟨_, rfl⟩
 rw [Hm.out] at CK CR HS
 rw [Hm.out]
 obtain ⟨w0, HW0⟩ : ∃ x, Hid (w.alloc (.cells m 25) = x) := ⟨_, rfl⟩
 have H0 : Hid (w0.heap[w.heap.size]? = some (.cells m 25 (0, 0))) := by refine hid ?_; rw [<- HW0.out]; exact heap_alloc_new w _
 have B0 : Hid (Below w.heap.size w w0) := by refine hid ?_; rw [<- HW0.out]; exact (Below.refl w.heap.size w).alloc (Nat.le_refl _) _
 have Z0 : Hid (w.heap.size < w0.heap.size) := by refine hid ?_; rw [<- HW0.out]; simp
 clear e0 h hu Hm
 go_enter Tryz.func6, Tryz.ntmps6
 refine wp_seq_k fun K1 h1 => ?_
 have HK1 := hid h1
 clear h1
 go_wp2
 rw [HW0.out]
 refine HK1.out _ _ ?_
 clear HK1 K1
 go_wp2_with (first | (refine wpList_load_row rfl 25 _ rfl w.heap.size rfl 25 m (0, 0) _ H0.out Tryz.underlying25 rfl HS.out ?_) | fail)
 refine (CK.out w0).mono ?_
 rintro e w1 ⟨rfl, hb1⟩
 have B1 := hid (B0.out.trans (hb1.mono B0.out.size))
 have H1 := hid ((hb1.block w.heap.size Z0.out).trans H0.out)
 clear hb1 CK
 go_wp2_with (first | (refine wpList_load_row rfl 25 _ rfl w.heap.size rfl 25 m (0, 0) _ H1.out Tryz.underlying25 rfl HS.out ?_) | fail)
 refine (CR.out w1).mono ?_
 rintro e w2 ⟨v2, rfl, hr2, hb2⟩
 have B2 := hid (B1.out.trans (hb2.mono B1.out.size))
 have CP2 := hid (CP.out w2 v2 hr2)
 obtain ⟨p2, c2, rfl, _⟩ := hr2.open
 clear hb2 hr2 CR CP
 go_wp2_with fail
 refine CP2.out.mono ?_
 rintro e w3 ⟨v3, rfl, ho3, hb3⟩
 have B3 := hid (B2.out.trans (hb3.mono B2.out.size))
 have O3 : Hid (HB w3 v3 (wrL u)) := hid (HB.of_own (by rw [EW.out]; exact ho3) BY.out)
 clear ho3 hb3 CP2
 go_wp2
 go_ret2
 exact ⟨_, rfl, O3.out, B3.out⟩
end Go.Proofs.YtdgollnapbonjaaGreatDoor
