/- Of the road to shareOneCard_holds: BsIdx, BsNum, AppB, UbApp, UbMay, UbPack, Arrays, BkT, UbChk, OpensUb, OpensAes, ShaTurn, ShaWords. -/
import Derived.Test.YtdgollnapbonjaaGreatDoorG00
import Derived.WalkKit
import Derived.Lib.AppendIntMem
import Derived.Lib.SmallJoins
import Derived.Lib.AtoiBound
import Derived.Lib.AtoiAllMem
import Derived.Laws.AppendOwn
import Derived.Lib.AppendStr
import Derived.Laws.AppendOwnNone
import Derived.Laws.Cover1
import Derived.Laws.BytesString
import Derived.Deep.MidRow
import Derived.ChangeArms
import Derived.Test.YtdgollnapbonjaaGreatDoorRows
import Derived.ProofKit
import Derived.OpenShut
import Derived.ShutString
import Derived.ChangeOld
import Derived.Deep.Slices
import Derived.JoinedCond
import Derived.SizedLaws
import Derived.Laws.BitsAllLaws
import Derived.BigRegion
set_option linter.unusedVariables false
set_option linter.unusedSimpArgs false
set_option maxRecDepth 100000
set_option maxHeartbeats 16000000
namespace Go.Proofs.YtdgollnapbonjaaGreatDoor
open Go Go.RowKit
theorem conv_str {w : World} {v : Value} {l : List Int} (h : HB w v l) : (convert 34 9 v).run Tryz.prog w = .ok (.string (bS l)) w := by
 have hby : Byt8 l := h.2
 by_cases h0 : 0 < l.length
 ·obtain ⟨b, off, c, rfl, _, _, hc⟩ := h.ne h0
  obtain ⟨u, Hu⟩ : ∃ u : List UInt8, l.map (fun x => UInt8.ofNat x.toNat) = u := ⟨_, rfl⟩
  have hul : u.length = l.length := by rw [<- Hu]; simp
  have := run_convert_bytes_back (P := Tryz.prog) w 34 9 5 ⟨b, off, none⟩ c u Tryz.underlying34 Tryz.underlying5 Tryz.underlying9 (by
   intro j hj
   rw [Go.WideShapes.add_plain, hc j (by omega)]
   subst Hu
   simp only [List.getElem_map, UInt8.toNat_ofNat']
   rw [getD_of_lt (by omega)]
   have := hby _ (List.getElem_mem (by omega : j < l.length))
   congr 2
   omega)
  rw [hul] at this
  rw [this]
  unfold bS
  rw [Hu]
 ·have e : l = [] := List.length_eq_zero_iff.1 (by omega)
  subst e
  obtain ⟨p, c, rfl, _, _⟩ := h.open
  cases p with
  | none =>
   rw [List.length_nil, run_convert_bytes_string w 34 9 5 none 0 c Tryz.underlying34 Tryz.underlying5 Tryz.underlying9]
   simp [Conv.bytesToString, loadCells, bS]
   rfl
  | some a =>
   exact run_convert_bytes_back (P := Tryz.prog) w 34 9 5 a c [] Tryz.underlying34 Tryz.underlying5 Tryz.underlying9 (by intro j hj; simp at hj)
end Go.Proofs.YtdgollnapbonjaaGreatDoor
namespace Go.Proofs.YtdgollnapbonjaaGreatDoor
open Go Go.RowKit Go.Sort Go.Lib
def nS (x : Int) : ByteArray := if x < 0 then ⟨#[]⟩ else ⟨(Lib.decDigits x.toNat).toArray⟩
def nE (x : Int) : Int := if x < 0 then 102 else 0
def KP (w : World) : Prop := Lib.TabIs Tryz.prog w "internal/strconv.uint64pow10" .u64 Lib.pow10Tab
theorem KP.below {w w' : World} (h : KP w) (hb : Below w.heap.size w w') : KP w' := Lib.tabBelow_of_tabIs h w' hb
theorem number_tab (w : World) (x : Int) (h0 : -9223372036854775808 <= x) (h1 : x <= 9223372036854775807) (hk : KP w) :
  Calls Tryz.prog 73 #[.int .i64 x] w fun e w' => e = .returned (.tuple #[.string (nS x), .int .i64 (nE x)]) /\ Below w.heap.size w w' := by
 by_cases h : x < 0
 ·have e1 := hid (show nS x = ⟨#[]⟩ by unfold nS; rw [if_pos h])
  have e2 := hid (show nE x = 102 by unfold nE; rw [if_pos h])
  go_enter Tryz.func73, Tryz.ntmps73
  go_wp2
  go_ret2
  exact ⟨by rw [e1.out, e2.out]; rfl, Below.refl _ _⟩
 ·have e1 := hid (show nS x = ⟨(Lib.decDigits x.toNat).toArray⟩ by unfold nS; rw [if_neg h])
  have e2 := hid (show nE x = 0 by unfold nE; rw [if_neg h])
  have C := Tryz.strconv_Itoa x h0 h1 w hk
  have ei : Lib.itoa x = Lib.decDigits x.toNat := by unfold Lib.itoa; rw [if_neg h]
  rw [ei] at C
  obtain ⟨D, HD⟩ : ∃ D : ByteArray, Hid (⟨(Lib.decDigits x.toNat).toArray⟩ = D) := ⟨_, rfl⟩
  rw [HD.out] at C e1
  have C := hid C
  have hk0 := hid hk
  clear hk ei
  go_enter Tryz.func73, Tryz.ntmps73
  go_wp2_with fail
  refine C.out.mono ?_
  rintro e w' ⟨rfl, k, os, rfl⟩
  clear C
  have B := hid (below_grow w.heap.size w (Nat.le_refl _) k os)
  obtain ⟨w1, hw1⟩ : ∃ w1, grow (w.drewN k) os = w1 := ⟨_, rfl⟩
  rw [hw1] at B
  rw [hw1]
  clear hw1
  go_wp2
  go_ret2
  exact ⟨by rw [e1.out, e2.out]; rfl, B.out⟩
end Go.Proofs.YtdgollnapbonjaaGreatDoor
namespace Go.Proofs.YtdgollnapbonjaaGreatDoor
open Go.RowKit
theorem run_append_byte (w : World) (base : Nat) (ty : TypeId) (v : Value) (n : Nat) (xs : List Value) (hown : w.ownsRow base 5 1 v n xs) (a : Addr) (c : Nat) (x : Int) (hx : w.cell? a = some (.int .u8 x)) (hn : n + 1 <= 140737488355328) (hbase : base <= w.heap.size) :
  ∃ v' w', (Builtin.append_ #[34, 34] ty #[v, .slice (some a) 1 c]).run Tryz.prog w = .ok v' w' /\ w'.ownsRow base 5 1 v' (n + 1) (xs ++ [.int .u8 x]) /\ w.grownBy w' v.ownBlock ∧
   (v'.ownBlock = v.ownBlock \/ (v'.ownBlock = some w.heap.size /\ w.grownBy w' none)) := by
 obtain ⟨i0, hi, hz0, hz1, hz2⟩ := info_parts info_u8
 have hnews : ∀ j u, [Value.int .u8 x][j]? = some u -> w.cell? (a.add j) = some u := by
  intro j u hj
  match j, hj with
  | 0, hj => simp at hj; subst hj; simpa [Addr.add] using hx
 have h1 : ∀ u ∈ [Value.int .u8 x], u.oneCell' = true := by intro u hu; simp at hu; subst hu; rfl
 obtain ⟨v', w', hr, h2, h3, _⟩ := run_append_own (P := Tryz.prog) w base 34 ty 5 i0 (.int .u8 0) 1 1 Tryz.underlying34 hi hz0 hz1 hz2 rfl (by decide) v n xs hown a 1 c [.int .u8 x] rfl hnews h1 (by unfold maxLen; omega) (by omega) hbase
 refine ⟨v', w', hr, h2, h3, ?_⟩
 rcases hown.2 with ⟨rfl, rfl⟩ | ⟨g, cap, cur, rfl, hbg, hg, hnc, hcm, hcs, htake⟩
 ·have hr2 := run_append_nil (P := Tryz.prog) w 34 ty 5 i0 (.int .u8 0) Tryz.underlying34 hi hz0 a 1 c [.int .u8 x] (by rw [hz1]; rfl) hnews (by omega) (by omega) (by rw [hz2]; omega)
  rw [hr] at hr2
  simp only [Result.ok.injEq] at hr2
  obtain ⟨rfl, rfl⟩ := hr2
  exact .inr ⟨rfl, ⟨rfl, rfl, rfl, by simp, fun k hk _ => heap_alloc_old w.drew _ hk⟩⟩
 ·by_cases hroom : n + 1 <= cap
  ·obtain ⟨w2, hr2, _⟩ := run_append_fits (P := Tryz.prog) w base 34 ty 5 i0 1 Tryz.underlying34 hi hz1 g n cap xs hown a 1 c [.int .u8 x] rfl hnews h1 hroom
   rw [hr] at hr2
   simp only [Result.ok.injEq] at hr2
   obtain ⟨rfl, rfl⟩ := hr2
   exact .inl rfl
  ·have hr2 := run_append_grow (P := Tryz.prog) w 34 ty 5 i0 (.int .u8 0) Tryz.underlying34 hi hz0 ⟨g, 0, none⟩ n cap xs (by rw [hz1]; exact hown.1) (hown.cells (g := g) rfl) a 1 c [.int .u8 x] (by rw [hz1]; rfl) hnews (by omega) (by omega) (growslice_fits (by omega) (by rw [hz2]; omega))
   rw [hr] at hr2
   simp only [Result.ok.injEq] at hr2
   obtain ⟨rfl, rfl⟩ := hr2
   exact .inr ⟨rfl, ⟨rfl, rfl, rfl, by simp, fun k hk _ => heap_alloc_old w.drew _ hk⟩⟩
theorem wpList_append_byte {w : World} {ops : Array Oper} {rest : List Oper} {o : Oper} {a : Act} {Q : Exit -> Act -> World -> Prop} (hgd : o.guard = none) (s x : Operand)
  (ho : o.op = .call { callee := .builtin .append, args := #[s, x], argTypes := #[34, 34] })
  (base : Nat) (v : Value) (n : Nat) (xs : List Value) (hs : a.eval s = v) (hown : w.ownsRow base 5 1 v n xs)
  (ad : Addr) (c : Nat) (y : Int) (hx : a.eval x = .slice (some ad) 1 c) (hy : w.cell? ad = some (.int .u8 y)) (hn : n + 1 <= 140737488355328) (hbase : base <= w.heap.size)
  (h : ∀ v' w', w'.ownsRow base 5 1 v' (n + 1) (xs ++ [.int .u8 y]) -> w.grownBy w' v.ownBlock -> (v'.ownBlock = v.ownBlock \/ (v'.ownBlock = some w.heap.size /\ w.grownBy w' none)) -> wpList Tryz.prog ops Q rest (a.put o.dst v') w') : wpList Tryz.prog ops Q (o :: rest) a w := by
 refine wpList_plain hgd fun K hK => ?_
 obtain ⟨v', w', hr, h2, h3, h4⟩ := run_append_byte w base o.type v n xs hown ad c y hy hn hbase
 unfold Oper.wp execOp
 simp only [ho, resolve, invoke, builtin, Sem.run_bind, Sem.run_pure, Result.andThen_ok, List.map_toArray, List.map_cons, List.map_nil, hs, hx, hr]
 exact hK _ _ (h v' w' h2 h3 h4)
end Go.Proofs.YtdgollnapbonjaaGreatDoor
namespace Go.Proofs.YtdgollnapbonjaaGreatDoor
open Go Go.RowKit
theorem HB.grownD {w w' : World} {v : Value} {l : List Int} {ob : Option Nat} (h : HB w v l) (hg : w.grownBy w' ob) (hne : ∀ b o n c, v = .slice (some ⟨b, o, none⟩) n c -> 0 < l.length -> ob ≠ some b) : HB w' v l := by
 obtain ⟨⟨p, c, h1, h2, h3, h6, h4⟩, h5⟩ := h
 refine ⟨⟨p, c, h1, h2, h3, h6, fun hl => ?_⟩, h5⟩
 obtain ⟨b, off, e, hh⟩ := h4 hl
 exact ⟨b, off, e, fun j hj => hg.cell (hh j hj) (by intro q; subst e; exact hne _ _ _ _ h1 (List.length_pos_iff.2 hl) q.symm)⟩
theorem HB.lt {w : World} {v : Value} {l : List Int} (h : HB w v l) (h0 : 0 < l.length) {b o n c : Nat} (hv : v = .slice (some ⟨b, o, none⟩) n c) : b < w.heap.size := by
 obtain ⟨b', off, c', e, _, _, hc⟩ := h.ne h0
 rw [e] at hv
 injection hv with e1 e2 e3
 injection e1 with e1
 injection e1 with e1 e4
 subst e1
 exact World.block_lt_of_cell? w _ (hc 0 h0)
theorem strCells_nS (n : Nat) : Lib.strCells (nS (n : Int)) = (dgL n).map (Value.int .u8) := by
 unfold nS Lib.strCells dgL
 rw [if_neg (by omega), List.map_map]
 rfl
theorem nS_size (n : Nat) : (nS (n : Int)).size = (dgL n).length := by
 rw [<- Lib.strCells_length, strCells_nS, List.length_map]
theorem dec_len_small : ∀ (n : Nat), n <= 99999 -> (dgL n).length <= 5 := by
 intro n hn
 have := dec_len_mono 99999 n hn
 rw [dgL_length]
 have h2 : (Lib.decDigits 99999).length = 5 := by decide +kernel
 omega
theorem run_append_text (w : World) (base : Nat) (ty : TypeId) (v : Value) (n : Nat) (xs : List Value) (hown : w.ownsRow base 5 1 v n xs) (s : ByteArray) (h0 : 0 < s.size) (hn : n + s.size <= 140737488355328) (hbase : base <= w.heap.size) :
  ∃ v' w', (Builtin.append_ #[34, 9] ty #[v, .string s]).run Tryz.prog w = .ok v' w' /\ w'.ownsRow base 5 1 v' (n + s.size) (xs ++ Lib.strCells s) /\ w.grownBy w' v.ownBlock ∧
   (v'.ownBlock = v.ownBlock \/ v'.ownBlock = some w.heap.size) := by
 obtain ⟨i0, hi, hz0, hz1, hz2⟩ := info_parts info_u8
 obtain ⟨v', w', hr, h2, h3, _⟩ := Lib.run_append_own_string (P := Tryz.prog) w base 34 9 ty 5 i0 Tryz.underlying34 Tryz.underlying9 hi hz0 hz1 hz2 v n xs hown s (by unfold maxLen; omega) hn hbase
 refine ⟨v', w', hr, h2, h3, ?_⟩
 rcases hown.2 with ⟨rfl, rfl⟩ | ⟨g, cap, cur, rfl, hbg, hg, hnc, hcm, hcs, htake⟩
 ·have hr2 := run_append_nil_string (P := Tryz.prog) w 34 9 ty 5 i0 (.int .u8 0) Tryz.underlying34 Tryz.underlying9 hi hz0 s h0 (by omega) (by rw [hz2]; omega)
  rw [hr] at hr2
  simp only [Result.ok.injEq] at hr2
  obtain ⟨rfl, rfl⟩ := hr2
  exact .inr rfl
 ·by_cases hroom : n + s.size <= cap
  ·have hr2 := Lib.run_append_room_string (P := Tryz.prog) w 34 9 ty 5 i0 Tryz.underlying34 Tryz.underlying9 hi hz1 g n cap cur hg s hroom (by omega)
   rw [hr] at hr2
   simp only [Result.ok.injEq] at hr2
   obtain ⟨rfl, rfl⟩ := hr2
   exact .inl rfl
  ·have hr2 := Lib.run_append_grow_string (P := Tryz.prog) w 34 9 ty 5 i0 (.int .u8 0) Tryz.underlying34 Tryz.underlying9 hi hz0 ⟨g, 0, none⟩ n cap xs (by rw [hz1]; exact hown.1) (hown.cells (g := g) rfl) s (by omega) (by omega) (growslice_fits (by omega) (by rw [hz2]; omega))
   rw [hr] at hr2
   simp only [Result.ok.injEq] at hr2
   obtain ⟨rfl, rfl⟩ := hr2
   exact .inr rfl
theorem wpList_append_text {w : World} {ops : Array Oper} {rest : List Oper} {o : Oper} {a : Act} {Q : Exit -> Act -> World -> Prop} (hgd : o.guard = none) (s x : Operand)
  (ho : o.op = .call { callee := .builtin .append, args := #[s, x], argTypes := #[34, 9] })
  (base : Nat) (v : Value) (n : Nat) (xs : List Value) (hs : a.eval s = v) (hown : w.ownsRow base 5 1 v n xs)
  (t : ByteArray) (hx : a.eval x = .string t) (h0 : 0 < t.size) (hn : n + t.size <= 140737488355328) (hbase : base <= w.heap.size)
  (h : ∀ v' w', w'.ownsRow base 5 1 v' (n + t.size) (xs ++ Lib.strCells t) -> w.grownBy w' v.ownBlock -> (v'.ownBlock = v.ownBlock \/ v'.ownBlock = some w.heap.size) -> wpList Tryz.prog ops Q rest (a.put o.dst v') w') : wpList Tryz.prog ops Q (o :: rest) a w := by
 refine wpList_plain hgd fun K hK => ?_
 obtain ⟨v', w', hr, h2, h3, h4⟩ := run_append_text w base o.type v n xs hown t h0 hn hbase
 unfold Oper.wp execOp
 simp only [ho, resolve, invoke, builtin, Sem.run_bind, Sem.run_pure, Result.andThen_ok, List.map_toArray, List.map_cons, List.map_nil, hs, hx, hr]
 exact hK _ _ (h v' w' h2 h3 h4)
theorem run_append_bytesD (w : World) (base : Nat) (ty : TypeId) (v : Value) (n : Nat) (xs : List Value) (hown : w.ownsRow base 5 1 v n xs) (ad : Addr) (c : Nat) (l : List Int) (hnews : ∀ j u, (l.map (Value.int .u8))[j]? = some u -> w.cell? (ad.add j) = some u) (hn : n + l.length <= 140737488355328) (hbase : base <= w.heap.size) :
  ∃ v' w', (Builtin.append_ #[34, 34] ty #[v, .slice (some ad) l.length c]).run Tryz.prog w = .ok v' w' /\ w'.ownsRow base 5 1 v' (n + l.length) (xs ++ l.map (Value.int .u8)) /\ w.grownBy w' v.ownBlock ∧
   (v'.ownBlock = v.ownBlock \/ v'.ownBlock = some w.heap.size) := by
 obtain ⟨i0, hi, hz0, hz1, hz2⟩ := info_parts info_u8
 have h1 : ∀ u ∈ l.map (Value.int .u8), u.oneCell' = true := by intro u hu; obtain ⟨x, _, rfl⟩ := List.mem_map.1 hu; rfl
 have hl : (l.map (Value.int .u8)).length = l.length * 1 := by simp
 obtain ⟨v', w', hr, h2, h3, h4⟩ := run_append_own (P := Tryz.prog) w base 34 ty 5 i0 (.int .u8 0) 1 1 Tryz.underlying34 hi hz0 hz1 hz2 rfl (by decide) v n xs hown ad l.length c (l.map (Value.int .u8)) hl hnews h1 (by unfold maxLen; omega) (by omega) hbase
 refine ⟨v', w', hr, h2, h3, ?_⟩
 rcases hown.2 with ⟨rfl, rfl⟩ | ⟨g, cap, cur, rfl, hbg, hg, hnc, hcm, hcs, htake⟩
 ·by_cases h0 : 0 < l.length
  ·have hr2 := run_append_nil (P := Tryz.prog) w 34 ty 5 i0 (.int .u8 0) Tryz.underlying34 hi hz0 ad l.length c (l.map (Value.int .u8)) (by rw [hz1]; exact hl) hnews (by omega) (by omega) (by rw [hz2]; omega)
   rw [hr] at hr2
   simp only [Result.ok.injEq] at hr2
   obtain ⟨rfl, rfl⟩ := hr2
   exact .inr rfl
  ·have := h4.2 ⟨rfl, by omega⟩
   rw [this]
   exact .inl rfl
 ·by_cases hroom : n + l.length <= cap
  ·obtain ⟨w2, hr2, _⟩ := run_append_fits (P := Tryz.prog) w base 34 ty 5 i0 1 Tryz.underlying34 hi hz1 g n cap xs hown ad l.length c (l.map (Value.int .u8)) hl hnews h1 hroom
   rw [hr] at hr2
   simp only [Result.ok.injEq] at hr2
   obtain ⟨rfl, rfl⟩ := hr2
   exact .inl rfl
  ·have hr2 := run_append_grow (P := Tryz.prog) w 34 ty 5 i0 (.int .u8 0) Tryz.underlying34 hi hz0 ⟨g, 0, none⟩ n cap xs (by rw [hz1]; exact hown.1) (hown.cells (g := g) rfl) ad l.length c (l.map (Value.int .u8)) (by rw [hz1]; exact hl) hnews (by omega) (by omega) (growslice_fits (by omega) (by rw [hz2]; omega))
   rw [hr] at hr2
   simp only [Result.ok.injEq] at hr2
   obtain ⟨rfl, rfl⟩ := hr2
   exact .inr rfl
theorem wpList_append_bytes {w : World} {ops : Array Oper} {rest : List Oper} {o : Oper} {a : Act} {Q : Exit -> Act -> World -> Prop} (hgd : o.guard = none) (s x : Operand)
  (ho : o.op = .call { callee := .builtin .append, args := #[s, x], argTypes := #[34, 34] })
  (base : Nat) (v : Value) (n : Nat) (xs : List Value) (hs : a.eval s = v) (hown : w.ownsRow base 5 1 v n xs)
  (u : Value) (l : List Int) (hx : a.eval x = u) (hu : HB w u l) (hn : n + l.length <= 140737488355328) (hbase : base <= w.heap.size)
  (h : ∀ v' w', w'.ownsRow base 5 1 v' (n + l.length) (xs ++ l.map (Value.int .u8)) -> w.grownBy w' v.ownBlock -> (v'.ownBlock = v.ownBlock \/ v'.ownBlock = some w.heap.size) -> wpList Tryz.prog ops Q rest (a.put o.dst v') w') : wpList Tryz.prog ops Q (o :: rest) a w := by
 obtain ⟨i0, hi, hz0, hz1, hz2⟩ := info_parts info_u8
 obtain ⟨⟨p, c, rfl, hlc, hm, hpn, hcell⟩, hby⟩ := hu
 cases p with
 | none =>
  have e : l = [] := by
   apply Classical.byContradiction
   intro hne
   obtain ⟨b, off, e, _⟩ := hcell hne
   cases e
  subst e
  have hc0 := hpn rfl
  subst hc0
  exact wpList_append_own_none hgd s x 34 ho base 5 i0 1 Tryz.underlying34 hi v n xs hs hown hx (h v w (by simpa using hown) ⟨rfl, rfl, rfl, Nat.le_refl _, fun _ _ _ => rfl⟩ (.inl rfl))
 | some ad =>
  have hnews : ∀ j u, (l.map (Value.int .u8))[j]? = some u -> w.cell? (ad.add j) = some u := by
   intro j q hj
   have hjn : j < l.length := by
    have := (List.getElem?_eq_some_iff.1 hj).1
    simpa using this
   obtain ⟨b, off, e, hc⟩ := hcell (fun e => by rw [e] at hjn; simp at hjn)
   have e := Option.some.inj e
   have e2 : (l.map (Value.int .u8))[j]? = some (Value.int .u8 (l.getD j 0)) := by simp [List.getD, List.getElem?_eq_getElem hjn]
   rw [e2] at hj
   rw [e, Go.WideShapes.add_plain, hc j hjn]
   exact hj
  refine wpList_plain hgd fun K hK => ?_
  obtain ⟨v', w', hr, h2, h3, h4⟩ := run_append_bytesD w base o.type v n xs hown ad c l hnews hn hbase
  unfold Oper.wp execOp
  simp only [ho, resolve, invoke, builtin, Sem.run_bind, Sem.run_pure, Result.andThen_ok, List.map_toArray, List.map_cons, List.map_nil, hs, hx, hr]
  exact hK _ _ (h v' w' h2 h3 h4)
theorem grown_trU {w w1 w2 : World} {ob ob1 : Option Nat} (h1 : w.grownBy w1 ob) (h2 : w1.grownBy w2 ob1) (ho : ∀ k, ob1 = some k -> k < w.heap.size -> ob = some k) : w.grownBy w2 ob :=
 ⟨h2.os.trans h1.os, h2.tape.trans h1.tape, h2.output.trans h1.output, Nat.le_trans h1.size h2.size, fun k hk hn => (h2.block k (Nat.lt_of_lt_of_le hk h1.size) (fun e => hn (ho k e.symm hk).symm)).trans (h1.block k hk hn)⟩
theorem bel_grown {w w' : World} (h : Below w.heap.size w w') (ob : Option Nat) : w.grownBy w' ob := ⟨h.os, h.tape, h.output, h.size, fun k hk _ => h.block k hk⟩
theorem appendField_any (w : World) (base : Nat) (vo vf : Value) (lo lf : List Int) (hown : w.ownsRow base 5 1 vo lo.length (lo.map (Value.int .u8))) (hf : HB w vf lf) (hap : ∀ b o n c, vf = .slice (some ⟨b, o, none⟩) n c -> 0 < lf.length -> vo.ownBlock ≠ some b) (hlf : lf.length <= 65536) (hlo : lo.length <= 100000000) (hbase : base <= w.heap.size) (hk : KP w) :
  Calls Tryz.prog 72 #[vo, vf] w fun e w' => ∃ v', e = .returned v' /\ w'.ownsRow base 5 1 v' (lo ++ fld lf).length ((lo ++ fld lf).map (Value.int .u8)) /\ Below base w w' /\ w.grownBy w' vo.ownBlock := by
 have C := hid (number_tab w lf.length (by omega) (by omega) hk)
 have e2 : nE (lf.length : Int) = 0 := by unfold nE; rw [if_neg (by omega)]
 have hsz := nS_size lf.length
 have hsc := strCells_nS lf.length
 have hd5 := dec_len_small lf.length (by omega)
 have hdp := dgL_pos lf.length
 obtain ⟨D, HD⟩ : ∃ D, Hid (nS (lf.length : Int) = D) := ⟨_, rfl⟩
 obtain ⟨dl, HDL⟩ : ∃ dl, Hid (dgL lf.length = dl) := ⟨_, rfl⟩
 rw [HD.out, e2] at C
 rw [HD.out, HDL.out] at hsz hsc
 rw [HDL.out] at hd5 hdp
 have HF := hid hf
 have HO := hid hown
 have HAP := hid hap
 have HSC := hid hsc
 have HSZ := hid hsz
 obtain ⟨p, c, rfl, hlc, hcm⟩ := hf.open
 clear hf hown hap e2 hsc hsz
 go_enter Tryz.func72, Tryz.ntmps72
 go_wp2_with fail
 refine C.out.mono ?_
 rintro e w1 ⟨rfl, hb1⟩
 have B1 := hid hb1
 have hs1 := hb1.size
 have HO1 := hid (own_below HO.out hb1)
 have HF1 := hid (HF.out.below hb1)
 clear hb1 C
 go_wp2_with (at_builtin; refine wpList_append_text rfl _ _ rfl base _ lo.length _ rfl HO1.out D rfl ?q1 ?q2 ?q3 ?_)
 case q1 => have := HSZ.out; omega
 case q2 => have := HSZ.out; omega
 case q3 => omega
 intro v2 w2 hown2 hg2 hp2
 obtain ⟨l2, Hl2⟩ : ∃ l2, Hid (lo ++ dl = l2) := ⟨_, rfl⟩
 have hlen2 : l2.length = lo.length + dl.length := by rw [<- Hl2.out]; exact List.length_append
 have HO2 : Hid (w2.ownsRow base 5 1 v2 l2.length (l2.map (Value.int .u8))) := by
  refine hid ?_
  rw [HSC.out, HSZ.out, <- List.map_append, Hl2.out, <- hlen2] at hown2
  exact hown2
 have B2 := hid (((B1.out.mono hbase).grown hg2 (by omega) (fun k e => (HO1.out.lt k e).1)))
 have HAP2 : Hid (∀ b o n c', Value.slice p lf.length c = .slice (some ⟨b, o, none⟩) n c' -> 0 < lf.length -> v2.ownBlock ≠ some b) := by
  refine hid fun b o n c' hv h0 he => ?_
  rcases hp2 with q | q
  ·exact HAP.out b o n c' hv h0 (by rw [<- q]; exact he)
  ·rw [q] at he
   have := HF1.out.lt h0 hv
   injection he with he
   omega
 have HF2 := hid (HF1.out.grownD hg2 HAP.out)
 have hs2 : w1.heap.size <= w2.heap.size := hg2.size
 have H2 := hid hp2
 have HG2 := hid hg2
 have HS2 := hid hlen2
 clear hown2 hp2 hg2 hlen2
 go_wp2_with (at_builtin; refine wpList_append_byte rfl _ _ rfl base _ l2.length _ rfl (HO2.out.alloc _) ⟨w2.heap.size, 0, none⟩ 1 58 rfl (by simp) ?q1 ?q2 ?_)
 case q1 => have := HS2.out; omega
 case q2 => simp; omega
 intro v3 w3 hown3 hg3 hp3
 obtain ⟨l3, Hl3⟩ : ∃ l3 : List Int, Hid (l2 ++ [58] = l3) := ⟨l2 ++ [58], hid rfl⟩
 have hlen3 : l3.length = l2.length + 1 := by rw [<- Hl3.out]; simp
 have HO3 : Hid (w3.ownsRow base 5 1 v3 l3.length (l3.map (Value.int .u8))) := by
  refine hid ?_
  rw [hlen3, <- Hl3.out, List.map_append]
  exact hown3
 have HF3 := hid ((HF2.out.below ((Below.refl _ w2).alloc (Nat.le_refl _) _)).grownD hg3 HAP2.out)
 have B3 := hid ((B2.out.alloc (by omega) _).grown hg3 (by simp; omega) (fun k e => (HO2.out.lt k e).1))
 have G3 : Hid (w.grownBy w3 vo.ownBlock) := by
  refine hid ?_
  have g1 := grown_trU (bel_grown B1.out vo.ownBlock) HG2.out (fun k e _ => e)
  refine grown_trU (grown_trU g1 (bel_grown ((Below.refl w2.heap.size w2).alloc (Nat.le_refl _) _) none) (fun k e _ => by cases e)) hg3 (fun k e hk => ?_)
  rcases H2.out with q | q
  ·rw [<- q]; exact e
  ·rw [q] at e; injection e with e; omega
 have hs3 : w2.heap.size <= w3.heap.size := by have := hg3.size; simp at this; omega
 have HP3 : Hid (∀ k, v3.ownBlock = some k -> k < w.heap.size -> vo.ownBlock = some k) := by
  refine hid fun k e hk => ?_
  rcases hp3 with q | ⟨q, _⟩
  ·rw [q] at e
   rcases H2.out with q2 | q2
   ·rw [<- q2]; exact e
   ·rw [q2] at e; injection e with e; omega
  ·rw [q] at e; injection e with e; omega
 have HS3 := hid hlen3
 clear hown3 hg3 hp3 HF2 HO2 hlen3 HAP2
 go_wp2_with (at_builtin; refine wpList_append_bytes rfl _ _ rfl base _ l3.length _ rfl HO3.out _ lf rfl HF3.out ?q1 ?q2 ?_)
 case q1 => have := HS2.out; have := HS3.out; omega
 case q2 => omega
 intro v4 w4 hown4 hg4 hp4
 obtain ⟨l4, Hl4⟩ : ∃ l4 : List Int, Hid (l3 ++ lf = l4) := ⟨l3 ++ lf, hid rfl⟩
 have hlen4 : l4.length = l3.length + lf.length := by rw [<- Hl4.out]; simp
 have HO4 : Hid (w4.ownsRow base 5 1 v4 l4.length (l4.map (Value.int .u8))) := by
  refine hid ?_
  rw [hlen4, <- Hl4.out, List.map_append]
  exact hown4
 have B4 := hid (B3.out.grown hg4 (by omega) (fun k e => (HO3.out.lt k e).1))
 have hs4 : w3.heap.size <= w4.heap.size := hg4.size
 have G4 := hid (grown_trU G3.out hg4 HP3.out)
 have HP4 : Hid (∀ k, v4.ownBlock = some k -> k < w.heap.size -> vo.ownBlock = some k) := by
  refine hid fun k e hk => ?_
  rcases hp4 with q | q
  ·exact HP3.out k (by rw [<- q]; exact e) hk
  ·rw [q] at e; injection e with e; omega
 have HS4 := hid hlen4
 clear hown4 hg4 hp4 HO3 hlen4 HF3
 go_wp2_with (at_builtin; refine wpList_append_byte rfl _ _ rfl base _ l4.length _ rfl (HO4.out.alloc _) ⟨w4.heap.size, 0, none⟩ 1 44 rfl (by simp) ?q1 ?q2 ?_)
 case q1 => have := HS2.out; have := HS3.out; have := HS4.out; omega
 case q2 => simp; omega
 intro v5 w5 hown5 hg5 hp5
 have B5 := hid ((B4.out.alloc (by omega) _).grown hg5 (by simp; omega) (fun k e => (HO4.out.lt k e).1))
 have G5 := hid (grown_trU (grown_trU G4.out (bel_grown ((Below.refl w4.heap.size w4).alloc (Nat.le_refl _) _) none) (fun k e _ => by cases e)) hg5 HP4.out)
 have HE : Hid (lo ++ fld lf = l4 ++ [44]) := by
  refine hid ?_
  rw [<- Hl4.out, <- Hl3.out, <- Hl2.out, <- HDL.out]
  unfold fld
  simp
 have HO5 : Hid (w5.ownsRow base 5 1 v5 (lo ++ fld lf).length ((lo ++ fld lf).map (Value.int .u8))) := by
  refine hid ?_
  rw [HE.out, List.length_append, List.map_append]
  exact hown5
 clear hown5 hg5 hp5
 go_wp2
 go_ret
 exact ⟨_, rfl, HO5.out, B5.out, G5.out⟩
theorem size_row : (Tryz.prog.info? 73).map (·.size) = some 2 := by kernel_rfl
theorem getD_get {rs : List Rw} {k : Nat} (h : k < rs.length) : rs.getD k rw0 = rs[k] := by simp [List.getD, List.getElem?_eq_getElem h]
theorem take_snoc {rs : List Rw} {k : Nat} (h : k < rs.length) : rs.take (k + 1) = rs.take k ++ [rs.getD k rw0] := by rw [List.take_succ_eq_append_getElem h, getD_get h]
theorem okRows_not {rs : List Rw} {k : Nat} (h : k < rs.length) (hn : ¬ okRow (lastN noS (rs.take k)) (rs.getD k rw0)) : ¬ mayT rs := by
 intro hm
 have := okRows_take hm.2 (k + 1)
 rw [take_snoc h, okRows_snoc] at this
 exact hn this.2
theorem mayBe_any (w : World) (v : Value) (rs : List Rw) (h : HRw w v rs) :
  Calls Tryz.prog 71 #[v] w fun e w' => e = .returned (.bool (decide (mayT rs))) /\ Below w.heap.size w w' := by
 obtain ⟨p, c, rfl, hlc, hcm, hrow⟩ := h.open
 have HR := hid hrow
 clear hrow h
 have hm63 : rs.length <= 9223372036854775807 := by unfold maxLen at hcm; omega
 obtain ⟨n, HN⟩ : ∃ n, Hid (rs.length = n) := ⟨_, rfl⟩
 rw [HN.out] at hlc hm63
 rw [HN.out]
 by_cases h64 : (64 : Int) < (n : Int)
 ·have E := hid (show decide (mayT rs) = false by rw [decide_eq_false]; intro q; have := q.1; have := HN.out; omega)
  go_enter Tryz.func71, Tryz.ntmps71
  go_wp2
  go_ret
  exact ⟨by rw [E.out]; rfl, Below.refl _ _⟩
 ·go_enter Tryz.func71, Tryz.ntmps71
  go_wp2
  go_loopw [3, 11] (fun last i wr => ∃ k : Nat, k <= n /\ i = .int .i64 (k : Int) /\ last = .string (lastN noS (rs.take k)) /\ Hid (okRows noS (rs.take k)) /\ Hid (Below w.heap.size w wr)) (fun _ i _ => n - (intOf i).toNat)
  case atStart => exact ⟨0, Nat.zero_le _, rfl, rfl, hid (by simp [okRows]), Below.refl _ _⟩
  case round =>
   obtain ⟨k, hk, rfl, rfl, HOK, HB0⟩ := hrel
   obtain ⟨last, HL⟩ : ∃ x, Hid (lastN noS (rs.take k) = x) := ⟨_, rfl⟩
   rw [HL.out]
   have hsz := HB0.out.size
   by_cases hlt : k < n
   ·obtain ⟨b, off, rfl, hbl, hcell⟩ := HR.out (by have := HN.out; omega)
    obtain ⟨u, hu, hv⟩ := hcell k (by have := HN.out; omega)
    obtain ⟨⟨s, l⟩, Hx⟩ : ∃ x, Hid (rs.getD k rw0 = x) := ⟨_, rfl⟩
    rw [Hx.out] at hu hv
    have HU := hid (range_below2 hu HB0.out hbl)
    obtain ⟨pu, cu, rfl, hlu, hcu⟩ := hv.open
    have HV := hid hv
    clear hu hv hcell
    have HSZ := hid size_row
    have NO : Hid (¬ okRow last (s, l) -> decide (mayT rs) = false) := by
     refine hid fun q => decide_eq_false (okRows_not (k := k) (by have := HN.out; omega) ?_)
     rw [HL.out, Hx.out]
     exact q
    by_cases hle : (Op.bytesLess s.toList last.toList || s.toList == last.toList) = true
    ·have E := hid (NO.out (by rintro ⟨q, _⟩; unfold leS at q; simp only [hle] at q; cases q))
     go_wp2_with (refine wpList_load_mid rfl 73 _ rfl b (off + k * 2) rfl [.string s, .slice pu l.length cu] _ HU.out Tryz.underlying73 rfl HSZ.out ?_)
     go_ret
     exact ⟨by rw [E.out]; rfl, HB0.out.alloc hsz _⟩
    ·have hle2 : (Op.bytesLess s.toList last.toList || s.toList == last.toList) = false := by simpa using hle
     clear hle
     by_cases hsz2 : (64 : Int) < (s.size : Int)
     ·have E := hid (NO.out (by rintro ⟨_, q, _⟩; have q : s.size <= 64 := q; omega))
      go_wp2_with (refine wpList_load_mid rfl 73 _ rfl b (off + k * 2) rfl [.string s, .slice pu l.length cu] _ HU.out Tryz.underlying73 rfl HSZ.out ?_)
      go_ret
      exact ⟨by rw [E.out]; rfl, HB0.out.alloc hsz _⟩
     ·by_cases hl2 : (65536 : Int) < (l.length : Int)
      ·have E := hid (NO.out (by rintro ⟨_, _, q⟩; have q : l.length <= 65536 := q; omega))
       go_wp2_with (refine wpList_load_mid rfl 73 _ rfl b (off + k * 2) rfl [.string s, .slice pu l.length cu] _ HU.out Tryz.underlying73 rfl HSZ.out ?_)
       go_ret
       exact ⟨by rw [E.out]; rfl, HB0.out.alloc hsz _⟩
      ·have HOK2 : Hid (okRows noS (rs.take (k + 1))) := by
        refine hid ?_
        rw [take_snoc (by have := HN.out; omega), okRows_snoc, Hx.out, HL.out]
        exact ⟨HOK.out, by unfold leS; exact hle2, by show s.size <= 64; omega, by show l.length <= 65536; omega⟩
       have HL2 : Hid (lastN noS (rs.take (k + 1)) = s) := by
        refine hid ?_
        rw [take_snoc (by have := HN.out; omega), lastN_snoc, Hx.out]
       go_wp2_with (refine wpList_load_mid rfl 73 _ rfl b (off + k * 2) rfl [.string s, .slice pu l.length cu] _ HU.out Tryz.underlying73 rfl HSZ.out ?_)
       exact ⟨⟨k + 1, by omega, by go_num, by rw [HL2.out], HOK2, HB0.out.alloc hsz _⟩, by simp [intOf]; omega⟩
   ·have E : Hid (decide (mayT rs) = true) := by
     refine hid (decide_eq_true ⟨by have := HN.out; omega, ?_⟩)
     have := HOK.out
     rw [List.take_of_length_le (by have := HN.out; omega)] at this
     exact this
    go_wp2
    go_ret
    exact ⟨by rw [E.out]; rfl, HB0.out⟩
theorem wpList_bytes_strD {ops : Array Oper} {rest : List Oper} {o : Oper} {a : Act} {w : World} {Q : Exit -> Act -> World -> Prop} (hgd : o.guard = none) (x : Operand) (ho : o.op = .convert 9 34 x) (s : ByteArray) (hx : a.eval x = .string s) (hs : s.size <= 140737488355328)
  (h : ∀ c w', HB w' (.slice (some ⟨w.heap.size, 0, none⟩) s.size c) (sB s) -> Below w.heap.size w w' -> w'.heap.size = w.heap.size + 1 -> wpList Tryz.prog ops Q rest (a.put o.dst (.slice (some ⟨w.heap.size, 0, none⟩) s.size c)) w') : wpList Tryz.prog ops Q (o :: rest) a w :=
 wpList_plain hgd fun _ hK => by
  have hr := run_bytes_of_string (P := Tryz.prog) w 9 34 5 s Tryz.underlying9 Tryz.underlying34 Tryz.underlying5
  unfold Oper.wp
  simp only [execOp, ho, hx, Sem.run_bind, hr, Result.andThen_ok]
  have hge := grownCap_ge w s.size 0 5
  have hle := grownCap_le_maxLen w s.size 0 5 (by unfold maxLen; omega)
  refine hK _ _ (h _ _ ⟨⟨_, _, by rw [sB_length], by rw [sB_length]; exact hge, hle, (fun e => by cases e), fun _ => ⟨w.heap.size, 0, rfl, fun j hj => ?_⟩⟩, sB_byt s⟩ ((Below.refl _ w).drew.alloc (Nat.le_refl _) _) (by simp))
  have hb : (w.drew.alloc (.cells (bytesRow s (grownCap w s.size 0 5)) 5 ((bytesRow s (grownCap w s.size 0 5)).size, (bytesRow s (grownCap w s.size 0 5)).size + 1))).heap[w.heap.size]? = some (.cells (bytesRow s (grownCap w s.size 0 5)) 5 ((bytesRow s (grownCap w s.size 0 5)).size, (bytesRow s (grownCap w s.size 0 5)).size + 1)) := heap_alloc_new w.drew _
  rw [cell_of_row _ _ _ _ _ _ hb]
  have hj2 : j < s.data.size := by rw [sB_length] at hj; exact hj
  have hj3 : j < s.size := hj2
  simp [bytesRow, Array.getElem?_append, hj3, sB, List.getD, Array.getElem?_eq_getElem hj2]
theorem row_len_le {r : Rw} {last : ByteArray} (h : okRow last r) : (rowL r).length <= 70000 := by
 obtain ⟨_, h1, h2⟩ := h
 unfold rowL
 rw [List.length_append, fld_len, fld_len, sB_length]
 have := dec_len_small r.1.size (by omega)
 have := dec_len_small r.2.length (by omega)
 omega
theorem pack_len_le : ∀ (rs : List Rw) (last : ByteArray), okRows last rs -> (packL rs).length <= rs.length * 70000
 | [], _, _ => by simp [packL]
 | r :: t, last, h => by
  rw [packL, List.length_append, List.length_cons]
  have := row_len_le h.1
  have := pack_len_le t r.1 h.2
  omega
def pkL (rs : List Rw) : List Int := if mayT rs then packL rs else []
def pkE (rs : List Rw) : Int := if mayT rs then 0 else 130
theorem okRows_get {rs : List Rw} {k : Nat} (h : k < rs.length) (hm : mayT rs) : okRow (lastN noS (rs.take k)) (rs.getD k rw0) := by
 have := okRows_take hm.2 (k + 1)
 rw [take_snoc h, okRows_snoc] at this
 exact this.2
theorem pack_any (w : World) (v : Value) (rs : List Rw) (h : HRw w v rs) (hk : KP w) :
  Calls Tryz.prog 54 #[v] w fun e w' => ∃ v', e = .returned (.tuple #[v', .int .i64 (pkE rs)]) /\ w'.ownsRow w.heap.size 5 1 v' (pkL rs).length ((pkL rs).map (Value.int .u8)) /\ Below w.heap.size w w' := by
 have C := hid (mayBe_any w v rs h)
 obtain ⟨p, c, rfl, hlc, hcm, hrow⟩ := h.open
 have HR := hid hrow
 have HK := hid hk
 clear hrow h hk
 have hm63 : rs.length <= 9223372036854775807 := by unfold maxLen at hcm; omega
 obtain ⟨n, HN⟩ : ∃ n, Hid (rs.length = n) := ⟨_, rfl⟩
 rw [HN.out] at hlc hm63 C
 rw [HN.out]
 by_cases hm : mayT rs
 ·have e1 : pkE rs = 0 := by unfold pkE; rw [if_pos hm]
  have e2 : pkL rs = packL rs := by unfold pkL; rw [if_pos hm]
  have HM := hid hm
  rw [decide_eq_true hm] at C
  rw [e1, e2]
  have h64 : n <= 64 := by have := hm.1; have := HN.out; omega
  clear e1 e2 hm
  go_enter Tryz.func54, Tryz.ntmps54
  go_wp2_with fail
  refine C.out.mono ?_
  rintro e w1 ⟨rfl, hb1⟩
  have B1 := hid hb1
  clear hb1 C
  go_wp2
  go_loopw [4, 12] (fun o i wr => ∃ k : Nat, k <= n /\ i = .int .i64 (k : Int) /\ Hid (wr.ownsRow w.heap.size 5 1 o (packL (rs.take k)).length ((packL (rs.take k)).map (Value.int .u8))) /\ Hid (Below w.heap.size w wr)) (fun _ i _ => n - (intOf i).toNat)
  case atStart => exact ⟨0, Nat.zero_le _, rfl, by simp [packL]; exact World.ownsRow_nil _ _ _ _, B1.out⟩
  case round =>
   obtain ⟨k, hk, rfl, HO, HB0⟩ := hrel
   have hsz := HB0.out.size
   obtain ⟨lo, HL⟩ : ∃ x, Hid (packL (rs.take k) = x) := ⟨_, rfl⟩
   rw [HL.out] at HO
   have hll : lo.length <= 5000000 := by
    rw [<- HL.out]
    have := pack_len_le _ _ (okRows_take HM.out.2 k)
    have h2 : (rs.take k).length <= 64 := by rw [List.length_take]; omega
    omega
   by_cases hlt : k < n
   ·obtain ⟨b, off, rfl, hbl, hcell⟩ := HR.out (by have := HN.out; omega)
    obtain ⟨u, hu, hv⟩ := hcell k (by have := HN.out; omega)
    have hok := okRows_get (k := k) (by have := HN.out; omega) HM.out
    obtain ⟨⟨s, l⟩, Hx⟩ : ∃ x, Hid (rs.getD k rw0 = x) := ⟨_, rfl⟩
    rw [Hx.out] at hu hv hok
    have HU := hid (range_below2 hu HB0.out hbl)
    have hs64 : s.size <= 64 := hok.2.1
    have hl6 : l.length <= 65536 := hok.2.2
    obtain ⟨pu, cu, rfl, hlu, hcu⟩ := hv.open
    have HV0 := hid hv
    have HV := hid (hv.below HB0.out)
    clear hu hv hcell hok
    have HSZ := hid size_row
    have hs47 : s.size <= 140737488355328 := by omega
    go_wp2_with (first | (refine wpList_load_mid rfl 73 _ rfl b (off + k * 2) rfl [.string s, .slice pu l.length cu] _ HU.out Tryz.underlying73 rfl HSZ.out ?_) | (refine wpList_bytes_strD rfl _ rfl s rfl hs47 ?_))
    intro c2 w2 hf2 hb2 hz2
    have hA := (Below.refl wr.heap.size wr).alloc (Nat.le_refl _) (.cells #[.string s, .slice pu l.length cu] 73)
    have B2 := hid ((HB0.out.alloc hsz (.cells #[.string s, .slice pu l.length cu] 73)).trans (hb2.mono (by omega)))
    have hzz : (wr.alloc (.cells #[.string s, .slice pu l.length cu] 73)).heap.size = wr.heap.size + 1 := by simp
    rw [<- hzz] at hb2
    have HO2 := hid (own_below (own_below HO.out hA) hb2)
    have hs2 : w2.heap.size = wr.heap.size + 2 := by omega
    have hc2 : w2.cell? ⟨wr.heap.size, 1, none⟩ = some (.slice pu l.length cu) := by
     rw [hb2.cell (by simp)]
     simp
    have HL0 : Hid (∀ q, u4.ownBlock = some q -> w.heap.size <= q /\ q < wr.heap.size) := hid fun q e => HO.out.lt q e
    have HV2 := hid ((HV.out.below hA).below hb2)
    have C1 := appendField_any w2 w.heap.size u4 _ lo (sB s) HO2.out hf2 (by
     intro b' o' n' c' hv' _ he
     have := HL0.out _ he
     injection hv' with hv'
     injection hv' with hv'
     injection hv' with hv'
     omega) (by rw [sB_length]; omega) (by omega) (by omega) (HK.out.below B2.out)
    have C1 := hid C1
    clear hf2 hb2 hA hz2 hzz
    go_wp2_with fail
    refine C1.out.mono ?_
    rintro e w3 ⟨v3, rfl, hown3, hb3, hg3⟩
    have B3 := hid (B2.out.trans (hb3.mono (Nat.le_refl _)))
    have hc3 : w3.cell? ⟨wr.heap.size, 1, none⟩ = some (.slice pu l.length cu) := hg3.cell hc2 (by
     intro q
     have := HL0.out wr.heap.size q.symm
     omega)
    obtain ⟨l3, H3⟩ : ∃ x : List Int, Hid (lo ++ fld (sB s) = x) := ⟨_, hid rfl⟩
    rw [H3.out] at hown3
    have HO3 := hid hown3
    have hl3 : l3.length <= 5000100 := by
     rw [<- H3.out, List.length_append, fld_len, sB_length]
     have := dec_len_small s.size (by omega)
     omega
    have hs3 := hb3.size
    have HV3 := hid (HV0.out.below B3.out)
    have C2 := appendField_any w3 w.heap.size v3 (.slice pu l.length cu) l3 l HO3.out HV3.out (by
     intro b' o' n' c' hv' h0 he
     have h1 := HO3.out.lt _ he
     have h2 := HV0.out.lt h0 hv'
     omega) (by omega) (by omega) (by omega) (HK.out.below B3.out)
    have C2 := hid C2
    clear hown3 hb3 hg3 C1 hc2
    go_wp2_with fail
    refine C2.out.mono ?_
    rintro e w4 ⟨v4, rfl, hown4, hb4, hg4⟩
    have B4 := hid (B3.out.trans (hb4.mono (Nat.le_refl _)))
    have HO4 : Hid (w4.ownsRow w.heap.size 5 1 v4 (packL (rs.take (k + 1))).length ((packL (rs.take (k + 1))).map (Value.int .u8))) := by
     refine hid ?_
     have e : packL (rs.take (k + 1)) = l3 ++ fld l := by
      rw [take_snoc (by have := HN.out; omega), packL_snoc, Hx.out, HL.out, <- H3.out]
      unfold rowL
      simp
     rw [e]
     exact hown4
    clear hown4 hb4 hg4 C2 hc3
    go_wp2
    exact ⟨⟨k + 1, by omega, by go_num, HO4, B4⟩, by simp [intOf]; omega⟩
   ·have e : rs.take k = rs := List.take_of_length_le (by have := HN.out; omega)
    have HO' : Hid (wr.ownsRow w.heap.size 5 1 u4 (packL rs).length ((packL rs).map (Value.int .u8))) := by
     refine hid ?_
     have := HL.out
     rw [e] at this
     rw [this]
     exact HO.out
    go_wp2
    go_ret2
    exact ⟨_, rfl, HO'.out, HB0.out⟩
 ·have e1 : pkE rs = 130 := by unfold pkE; rw [if_neg hm]
  have e2 : pkL rs = [] := by unfold pkL; rw [if_neg hm]
  rw [decide_eq_false hm] at C
  rw [e1, e2]
  clear e1 e2 hm
  go_enter Tryz.func54, Tryz.ntmps54
  go_wp2_with fail
  refine C.out.mono ?_
  rintro e w1 ⟨rfl, hb1⟩
  have B1 := hid hb1
  clear hb1 C
  go_wp2
  go_ret2
  exact ⟨_, rfl, World.ownsRow_nil _ _ _ _, B1.out⟩
end Go.Proofs.YtdgollnapbonjaaGreatDoor
namespace Go.Proofs.YtdgollnapbonjaaGreatDoor
open Go.RowKit
def cellsB (l : List Int) : Array Value := (l.map (Value.int .u8)).toArray
theorem cellsB_size (l : List Int) : (cellsB l).size = l.length := by simp [cellsB]
theorem cellsB_one (l : List Int) : (cellsB l).all (·.oneCell') = true := all_oneCell_toArray (fun v hv => by obtain ⟨x, _, rfl⟩ := List.mem_map.1 hv; rfl)
def zeros32 : List Int := List.replicate 32 0
theorem part_u8 (w : World) (l : List Int) (i : Nat) (hi : i < l.length) : (part 5 (cellsB l) i).run Tryz.prog w = .ok (.int .u8 (l.getD i 0)) w := by
 have e : (cellsB l)[i]? = some (.int .u8 (l.getD i 0)) := by simp [cellsB, List.getD, List.getElem?_eq_getElem hi]
 simp [part, e]
def eqRound (d : Nat) (xs ys : List Int) (i : Nat) (_ : Option Bool × Unit) : Sem (ForInStep (Option Bool × Unit)) := do
 let a <- part 5 (cellsB xs) (i * 1)
 let b <- part 5 (cellsB ys) (i * 1)
 let c <- Op.equalIn (d + 1) 5 a b
 if (!c) = true then pure (ForInStep.done (some false, ())) else pure (ForInStep.yield (none, ()))
theorem run_eqRound (w : World) (d : Nat) (xs ys : List Int) (i : Nat) (s : Option Bool × Unit) (hx : i < xs.length) (hy : i < ys.length) :
  (eqRound d xs ys i s).run Tryz.prog w = .ok (if xs.getD i 0 = ys.getD i 0 then .yield (none, ()) else .done (some false, ())) w := by
 unfold eqRound
 simp only [Sem.run_bind, Nat.mul_one, part_u8 w xs i hx, part_u8 w ys i hy, Result.andThen_ok, run_equalIn_int w d 5 .u8 .u8 _ _ Tryz.underlying5]
 by_cases h : xs.getD i 0 = ys.getD i 0
 ·have e : (xs.getD i 0 == ys.getD i 0) = true := by simpa using h
  rw [e, if_pos h]; rfl
 ·have e : (xs.getD i 0 == ys.getD i 0) = false := by simpa using h
  rw [e, if_neg h]; rfl
theorem run_eqRounds (w : World) (d n : Nat) (xs ys : List Int) (hx : xs.length = n) (hy : ys.length = n) : ∀ (m k : Nat), k + m = n -> xs.take k = ys.take k →
  (forIn (List.range' k m 1) ((none : Option Bool), ()) (eqRound d xs ys)).run Tryz.prog w = .ok (if xs = ys then (none, ()) else (some false, ())) w
 | 0, k, hk, ht => by
  have e : xs = ys := by rw [<- List.take_of_length_le (show xs.length <= k by omega), <- List.take_of_length_le (show ys.length <= k by omega), ht]
  simp [e]
 | m + 1, k, hk, ht => by
  rw [List.range'_succ, List.forIn_cons, Sem.run_bind, run_eqRound w d xs ys k _ (by omega) (by omega), Result.andThen_ok]
  by_cases h : xs.getD k 0 = ys.getD k 0
  ·rw [if_pos h]
   have h2 : xs.take (k + 1) = ys.take (k + 1) := by
    rw [List.take_succ_eq_append_getElem (by omega), List.take_succ_eq_append_getElem (by omega), ht]
    rw [getD_of_lt (by omega), getD_of_lt (by omega)] at h
    rw [h]
   exact run_eqRounds w d n xs ys hx hy m (k + 1) (by omega) h2
  ·rw [if_neg h, if_neg (fun e => h (by rw [e]))]
   rfl
theorem run_equalIn_bytes (w : World) (d n : Nat) (t : TypeId) (ht : Tryz.prog.underlying t = some (.array n 5)) (xs ys : List Int) (hx : xs.length = n) (hy : ys.length = n) :
  (Op.equalIn (d + 2) t (.agg (cellsB xs)) (.agg (cellsB ys))).run Tryz.prog w = .ok (decide (xs = ys)) w := by
 rw [Op.equalIn]
 simp only [Sem.run_bind, run_underlying ht, Result.andThen_ok, size_u8]
 have hr := run_eqRounds w d n xs ys hx hy n 0 (by omega) rfl
 have e : (forIn (m := Sem) [:n] ((none : Option Bool), ()) (eqRound d xs ys)) = forIn (List.range' 0 n 1) ((none : Option Bool), ()) (eqRound d xs ys) := by
  rw [Std.Legacy.Range.forIn_eq_forIn_range']
  simp [Std.Legacy.Range.size]
 rw [<- e] at hr
 refine (congrArg (fun r => Result.andThen r _) hr).trans ?_
 by_cases h : xs = ys
 ·simp [h]
 ·simp [h]
theorem run_neq_bytes (w : World) (n : Nat) (t : TypeId) (ht : Tryz.prog.underlying t = some (.array n 5)) (xs ys : List Int) (hx : xs.length = n) (hy : ys.length = n) :
  (binOp .neq t (.agg (cellsB xs)) (.agg (cellsB ys))).run Tryz.prog w = .ok (.bool (!decide (xs = ys))) w := by
 rw [run_neq_struct, run_equalIn_bytes w 9998 n t ht xs ys hx hy]
 rfl
theorem run_eql_bytes (w : World) (n : Nat) (t : TypeId) (ht : Tryz.prog.underlying t = some (.array n 5)) (xs ys : List Int) (hx : xs.length = n) (hy : ys.length = n) :
  (binOp .eql t (.agg (cellsB xs)) (.agg (cellsB ys))).run Tryz.prog w = .ok (.bool (decide (xs = ys))) w := by
 rw [run_eql_struct, run_equalIn_bytes w 9998 n t ht xs ys hx hy]
 rfl
theorem info_digest : (Tryz.prog.info? 23).map (fun i => (i.zero, i.size, i.bytes)) = some (some (.agg (cellsB zeros32)), 32, 32) := by kernel_rfl
theorem size_digest : (Tryz.prog.info? 23).map (·.size) = some 32 := by kernel_rfl
theorem zeros32_length : zeros32.length = 32 := by simp [zeros32]
theorem run_alloc_digest (w : World) : (Instr.alloc 23 true (.tuple #[])).run Tryz.prog w = .ok (.pointer (some ⟨w.heap.size, 0, none⟩)) (w.alloc (.cells (cellsB zeros32) 23)) := by
 obtain ⟨i0, hi, hz0, hz1, hz2⟩ := info_parts info_digest
 simp [Instr.alloc, zeroValue, typeInfo, hi, hz0, newVar, newRow, Value.cells]
theorem wpList_alloc_digest {ops : Array Oper} {rest : List Oper} {o : Oper} {a : Act} {w : World} {Q : Exit -> Act -> World -> Prop} (hgd : o.guard = none) (ho : o.op = .alloc 23)
  (h : wpList Tryz.prog ops Q rest (a.put o.dst (.pointer (some ⟨w.heap.size, 0, none⟩))) (w.alloc (.cells (cellsB zeros32) 23))) : wpList Tryz.prog ops Q (o :: rest) a w :=
 wpList_plain hgd fun _ hK => by
  have hr := run_alloc_digest w
  unfold Oper.wp
  simp only [execOp, ho, Sem.run_bind, hr, Result.andThen_ok]
  exact hK _ _ h
theorem below_setRow {B : Nat} {a w : World} (h : Below B a w) {g : Nat} (hg : B <= g) (cs : Array Value) : Below B a (w.setRow g cs) :=
 h.trans ⟨rfl, rfl, rfl, by simp [World.setRow], fun k hk => setRow_other w g k _ (by omega)⟩
end Go.Proofs.YtdgollnapbonjaaGreatDoor
namespace Go.Proofs.YtdgollnapbonjaaGreatDoor
open Go Go.RowKit
def Bk (w : World) (x : Nat) (cs : Array Value) (T : TypeId) : Prop := w.heap[x]? = some (.cells cs T (0, 0))
theorem Bk.below {w w' : World} {x : Nat} {cs : Array Value} {T : TypeId} (h : Bk w x cs T) (hb : Below w.heap.size w w') : Bk w' x cs T := (hb.block x (Array.getElem?_eq_some_iff.1 h).1).trans h
theorem Bk.cell {w : World} {x : Nat} {cs : Array Value} {T : TypeId} (h : Bk w x cs T) (i : Nat) (v : Value) (hi : cs[i]? = some v) : w.cell? ⟨x, i, none⟩ = some v := by rw [cell_of_row _ _ _ _ _ _ h]; exact hi
theorem Bk.free {w : World} {x : Nat} {cs : Array Value} {T : TypeId} (h : Bk w x cs T) (i : Nat) : w.frozen? ⟨x, i, none⟩ = false := by
 have h' : w.heap[x]? = some (.cells cs T (0, 0)) := h
 simp [World.frozen?, h']
theorem Bk.set {w : World} {x : Nat} {cs : Array Value} {T : TypeId} (h : Bk w x cs T) (i : Nat) (v : Value) : Bk (w.setCell ⟨x, i, none⟩ v) x (cs.setIfInBounds i v) T := by
 have h' : w.heap[x]? = some (.cells cs T (0, 0)) := h
 simp [Bk, World.setCell, Array.getElem?_modify, h']
theorem Bk.setOther {w : World} {x y : Nat} {cs : Array Value} {T : TypeId} (h : Bk w x cs T) (hne : y ≠ x) (i : Nat) (v : Value) : Bk (w.setCell ⟨y, i, none⟩ v) x cs T := by
 have h' : w.heap[x]? = some (.cells cs T (0, 0)) := h
 simp [Bk, World.setCell, Array.getElem?_modify, hne, h']
structure Ub where
 k : Int
 n : Int
 g : Int
 z : Int
 a : List Int
 b : List Int
def Ub.ok (u : Ub) : Prop := (u.a.length = 32 /\ Byt8 u.a) /\ u.b.length = 32 /\ Byt8 u.b
def ubL (u : Ub) : List Value := .int .i64 u.k :: .int .i64 u.n :: .int .i64 u.g :: .int .i64 u.z :: (u.a.map (Value.int .u8) ++ u.b.map (Value.int .u8))
def ubA (u : Ub) : Array Value := (ubL u).toArray
theorem ubL_length {u : Ub} (h : u.ok) : (ubL u).length = 68 := by simp [ubL, h.1.1, h.2.1]
theorem ubA_size {u : Ub} (h : u.ok) : (ubA u).size = 68 := by rw [ubA, List.size_toArray]; exact ubL_length h
theorem ubA_one (u : Ub) : (ubA u).all (·.oneCell') = true := by
 rw [Array.all_eq_true_iff_forall_mem]
 intro v hv
 have hv' : v ∈ ubL u := by simpa [ubA] using hv
 unfold ubL at hv'
 simp only [List.mem_cons, List.mem_append, List.mem_map] at hv'
 rcases hv' with rfl | rfl | rfl | rfl | ⟨x, _, rfl⟩ | ⟨x, _, rfl⟩ <;> rfl
theorem size_ueb : (Tryz.prog.info? 25).map (·.size) = some 68 := by kernel_rfl
theorem size_ub {u : Ub} (h : u.ok) : (Tryz.prog.info? 25).map (·.size) = some (ubA u).size := by rw [ubA_size h]; exact size_ueb
def zeros32' : List Int := List.replicate 32 0
def ub0 : Ub := ⟨0, 0, 0, 0, zeros32', zeros32'⟩
theorem ub0_ok : ub0.ok := ⟨⟨rfl, fun x hx => by have := (List.mem_replicate.1 hx).2; omega⟩, rfl, fun x hx => by have := (List.mem_replicate.1 hx).2; omega⟩
def chE (u : Ub) : Int := if OkS u.k u.n u.g u.z then 0 else 133
theorem ucheck_any (w : World) (u : Ub) (hu : u.ok) : Calls Tryz.prog 53 #[.agg (ubA u)] w fun e w' => e = .returned (.int .i64 (chE u)) /\ Below w.heap.size w w' := by
 have C := hid fun w => again_hand w u.k u.n u.g u.z
 have HS := hid (size_ub hu)
 have H1 := hid (ubA_one u)
 have q0 : (ubA u)[0]? = some (.int .i64 u.k) := rfl
 have q1 : (ubA u)[1]? = some (.int .i64 u.n) := rfl
 have q2 : (ubA u)[2]? = some (.int .i64 u.g) := rfl
 have q3 : (ubA u)[3]? = some (.int .i64 u.z) := rfl
 obtain ⟨m, HM⟩ : ∃ x, Hid (ubA u = x) := ⟨_, rfl⟩
 obtain ⟨k, Hk⟩ : ∃ x, Hid (u.k = x) := ⟨_, rfl⟩
 obtain ⟨n, Hn⟩ : ∃ x, Hid (u.n = x) := ⟨_, rfl⟩
 obtain ⟨g, Hg⟩ : ∃ x, Hid (u.g = x) := ⟨_, rfl⟩
 obtain ⟨z, Hz⟩ : ∃ x, Hid (u.z = x) := ⟨_, rfl⟩
 rw [Hk.out, Hn.out, Hg.out, Hz.out] at C
 rw [Hk.out] at q0
 rw [Hn.out] at q1
 rw [Hg.out] at q2
 rw [Hz.out] at q3
 rw [HM.out] at HS H1 q0 q1 q2 q3 ⊢
 have E : Hid (chE u = if OkS k n g z then 0 else 133) := by unfold chE; rw [Hk.out, Hn.out, Hg.out, Hz.out]; exact rfl
 rw [E.out]
 by_cases hok : OkS k n g z
 ·have e1 : agE k n g z = 0 := by unfold agE; rw [if_pos hok]
  rw [if_pos hok]
  have C : Hid (∀ w, Calls Tryz.prog 64 #[.int .i64 k, .int .i64 n, .int .i64 g, .int .i64 z] w fun e w' => ∃ cs, e = .returned (.tuple #[.agg cs, .int .i64 0]) /\ cs.size = 8 /\ cs.all (·.oneCell') = true /\ Below w.heap.size w w') := by
   rw [<- e1]
   exact C.out
  clear e1 hok
  go_enter Tryz.func53, Tryz.ntmps53
  go_wp2_with fail
  refine (C.out _).mono ?_
  rintro e w1 ⟨cs, rfl, hcs, hone, hb1⟩
  have B1 := hid ((((Below.refl _ w).alloc (Nat.le_refl _) _)).trans (hb1.mono (by simp)))
  have hsz := B1.out.size
  have HC1 : Hid ((Tryz.prog.info? 48).map (·.size) = some cs.size) := by refine hid ?_; rw [hcs]; exact size_shape
  have HC2 : Hid ((shA sh0).size = cs.size) := by refine hid ?_; rw [hcs]; exact rfl
  have HC3 := hid hone
  clear hb1 hcs hone
  go_wp2_with (refine wpList_store_row rfl 48 _ _ rfl w1.heap.size cs rfl rfl 48 (shA sh0) (heap_alloc_new w1 _) HC1.out HC2.out HC3.out ?_)
  go_ret
  exact ⟨rfl, bel_setRow (B1.out.alloc hsz _) (by omega) _⟩
 ·have e1 : agE k n g z = 92 := by unfold agE; rw [if_neg hok]
  rw [if_neg hok]
  have C : Hid (∀ w, Calls Tryz.prog 64 #[.int .i64 k, .int .i64 n, .int .i64 g, .int .i64 z] w fun e w' => ∃ cs, e = .returned (.tuple #[.agg cs, .int .i64 92]) /\ cs.size = 8 /\ cs.all (·.oneCell') = true /\ Below w.heap.size w w') := by
   rw [<- e1]
   exact C.out
  clear e1 hok
  go_enter Tryz.func53, Tryz.ntmps53
  go_wp2_with fail
  refine (C.out _).mono ?_
  rintro e w1 ⟨cs, rfl, hcs, hone, hb1⟩
  have B1 := hid ((((Below.refl _ w).alloc (Nat.le_refl _) _)).trans (hb1.mono (by simp)))
  have hsz := B1.out.size
  have HC1 : Hid ((Tryz.prog.info? 48).map (·.size) = some cs.size) := by refine hid ?_; rw [hcs]; exact size_shape
  have HC2 : Hid ((shA sh0).size = cs.size) := by refine hid ?_; rw [hcs]; exact rfl
  have HC3 := hid hone
  clear hb1 hcs hone
  go_wp2_with (refine wpList_store_row rfl 48 _ _ rfl w1.heap.size cs rfl rfl 48 (shA sh0) (heap_alloc_new w1 _) HC1.out HC2.out HC3.out ?_)
  go_ret
  exact ⟨rfl, bel_setRow (B1.out.alloc hsz _) (by omega) _⟩
theorem sB_nS (n : Nat) : sB (nS (n : Int)) = dgL n := by unfold nS sB dgL; rw [if_neg (by omega)]; simp
theorem ch_ok {u : Ub} (h : chE u = 0) : OkS u.k u.n u.g u.z := by
 unfold chE at h
 by_cases q : OkS u.k u.n u.g u.z
 ·exact q
 ·rw [if_neg q] at h; omega
theorem ch_or (u : Ub) : chE u = 0 \/ chE u = 133 := by unfold chE; by_cases q : OkS u.k u.n u.g u.z <;> simp [q]
theorem udigits_any (w : World) (x : Int) (h0 : 0 <= x) (h1 : x <= 2147483647) (hk : KP w) : Calls Tryz.prog 55 #[.int .i64 x] w fun e w' => ∃ v, e = .returned v /\ HB w' v (dgL x.toNat) /\ Below w.heap.size w w' := by
 have C := number_tab w x (by omega) (by omega) hk
 have e2 : nE x = 0 := by unfold nE; rw [if_neg (by omega)]
 have e3 : nS x = nS ((x.toNat : Nat) : Int) := by rw [Int.toNat_of_nonneg h0]
 have hsz := nS_size x.toNat
 have hsB : sB (nS ((x.toNat : Nat) : Int)) = dgL x.toNat := sB_nS _
 have hd : (dgL x.toNat).length <= 10 := by
  rw [dgL_length]
  have := dec_len_mono 2147483647 x.toNat (by omega)
  have h2 : (Lib.decDigits 2147483647).length = 10 := by decide +kernel
  omega
 rw [e2, e3] at C
 obtain ⟨D, HD⟩ : ∃ D, Hid (nS ((x.toNat : Nat) : Int) = D) := ⟨_, rfl⟩
 rw [HD.out] at C hsB hsz
 have hs47 : D.size <= 140737488355328 := by omega
 have C := hid C
 have HSB := hid hsB
 clear hsB hsz hd e2 e3
 go_enter Tryz.func55, Tryz.ntmps55
 go_wp2_with fail
 refine C.out.mono ?_
 rintro e w1 ⟨rfl, hb1⟩
 have B1 := hid hb1
 clear hb1 C
 go_wp2_with (refine wpList_bytes_strD rfl _ rfl D rfl hs47 ?_)
 intro c2 w2 hf2 hb2 hz2
 rw [HSB.out] at hf2
 have HF := hid hf2
 have B2 := hid (B1.out.trans (hb2.mono B1.out.size))
 clear hf2 hb2 hz2
 go_wp2
 go_ret
 exact ⟨_, rfl, HF.out, B2.out⟩
end Go.Proofs.YtdgollnapbonjaaGreatDoor
namespace Go.Proofs.YtdgollnapbonjaaGreatDoor
open Go.ChangeShapes Go.WideShapes Go.ChangeAt Go.RowKit
variable {H : Type} {enc : TypeId × Value -> H} {W : World}
theorem Opn.cells_digU : Tryz.prog.cellsOf 23 = 32 := by kernel_rfl
theorem Opn.cells_intU : Tryz.prog.cellsOf 3 = 1 := by kernel_rfl
theorem Opn.cells_ueb : Tryz.prog.cellsOf 25 = 68 := by kernel_rfl
theorem open_digU {base fuel : Nat} {cs : List Value} {x : DataW H × List MemPlace} (h : DataW.trod enc Tryz.prog W base (fun _ => true) true fuel 23 cs = some x) : ∃ d : List Int, (d.length = 32 /\ Byt8 d) /\ cs = d.map (Value.int .u8) := by
 obtain ⟨xs, m, rfl, rfl, hl, hxl, hx⟩ := DataW.trod_array Tryz.underlying23 h
 rw [Opn.cells_digU] at hl
 have each : ∀ j, j < 32 -> ∃ k : Int, (0 <= k /\ k < 256) /\ cs[j]? = some (.int .u8 k) := fun j hj => by
  have hj2 := hx j hj
  rw [Opn.cells_u8, List.getElem?_eq_getElem (by omega)] at hj2
  obtain ⟨z, e1, _, w1⟩ := DataW.trod_int Tryz.underlying5 hj2
  refine ⟨z, by have := bounds_u8 w1; omega, ?_⟩
  have e2 : ((cs.drop (j * 1)).take 1)[0]? = some (.int .u8 z) := by rw [e1]; rfl
  rw [List.getElem?_take, if_pos (by decide), List.getElem?_drop] at e2
  simpa using e2
 refine ⟨(List.range 32).map fun j => if hj : j < 32 then Classical.choose (each j hj) else 0, ⟨by simp, fun y hy => ?_⟩, ?_⟩
 ·obtain ⟨j, hj, rfl⟩ := List.mem_map.1 hy
  have hj' := List.mem_range.1 hj
  simp only [hj', dif_pos]
  exact (Classical.choose_spec (each j hj')).1
 ·rw [List.map_map]
  refine List.ext_getElem? fun j => ?_
  by_cases hj : j < 32
  ·rw [(Classical.choose_spec (each j hj)).2]
   simp [hj]
  ·rw [List.getElem?_eq_none (by omega), List.getElem?_eq_none (by simp; omega)]
theorem open_intU {base fuel : Nat} {cs : List Value} {x : DataW H × List MemPlace} (h : DataW.trod enc Tryz.prog W base (fun _ => true) true fuel 3 cs = some x) : ∃ z : Int, cs = [.int .i64 z] := by
 obtain ⟨z, e1, _, w1⟩ := DataW.trod_int Tryz.underlying3 h
 exact ⟨z, e1⟩
theorem part_of {cs : List Value} {o n : Nat} {l : List Value} (h : (cs.drop o).take n = l) (hn : l.length = n) (m : List Value) (hm : cs.drop (o + n) = m) : cs.drop o = l ++ m := by
 rw [<- List.take_append_drop n (cs.drop o), h, List.drop_drop, hm]
end Go.Proofs.YtdgollnapbonjaaGreatDoor
namespace Go.Proofs.YtdgollnapbonjaaGreatDoor
open Go.RowKit
def rot (x n : Nat) : Nat := x * 2 ^ (32 - n) % 4294967296 ||| x / 2 ^ n
theorem rot_lt {x n : Nat} (hx : x < 4294967296) : rot x n < 4294967296 := by
 unfold rot
 have h1 : x * 2 ^ (32 - n) % 4294967296 < 2 ^ 32 := Nat.mod_lt _ (by decide)
 have h2 : x / 2 ^ n < 2 ^ 32 := Nat.lt_of_le_of_lt (Nat.div_le_self _ _) hx
 exact Nat.or_lt_two_pow h1 h2
theorem rot_bits (x n : Nat) (hx : x < 4294967296) : bits .or .u32 (IntKind.u32.wrap ((x : Int) * 2 ^ (32 - n))) ((x : Int) / 2 ^ n) = ((rot x n : Nat) : Int) := by
 have e1 : IntKind.u32.wrap ((x : Int) * 2 ^ (32 - n)) = ((x * 2 ^ (32 - n) % 4294967296 : Nat) : Int) := by
  rw [IntKind.wrap_u32, Int.natCast_emod, Int.natCast_mul, Int.natCast_pow]
  rfl
 have e2 : (x : Int) / 2 ^ n = ((x / 2 ^ n : Nat) : Int) := by rw [Int.natCast_ediv, Int.natCast_pow]; rfl
 rw [e1, e2, u32_or_nat _ _ (Nat.mod_lt _ (by decide)) (Nat.lt_of_le_of_lt (Nat.div_le_self _ _) hx)]
 rfl
theorem turn_6 (w : World) (x : Nat) (hx : x < 4294967296) : Calls Tryz.prog 122 #[.int .u32 (x : Int), .int .i64 6] w fun e w' => e = .returned (.int .u32 ((rot x 6 : Nat) : Int)) /\ w' = w := by
 have h1 : bits .and .u64 (IntKind.u64.wrap (-6)) 31 = 26 := by decide
 have HR := hid (rot_bits x 6 hx)
 go_enter Tryz.func122, Tryz.ntmps122
 go_wp2
 go_ret
 refine ⟨?_, rfl⟩
 rw [<- HR.out]
 rfl
theorem turn_11 (w : World) (x : Nat) (hx : x < 4294967296) : Calls Tryz.prog 122 #[.int .u32 (x : Int), .int .i64 11] w fun e w' => e = .returned (.int .u32 ((rot x 11 : Nat) : Int)) /\ w' = w := by
 have h1 : bits .and .u64 (IntKind.u64.wrap (-11)) 31 = 21 := by decide
 have HR := hid (rot_bits x 11 hx)
 go_enter Tryz.func122, Tryz.ntmps122
 go_wp2
 go_ret
 refine ⟨?_, rfl⟩
 rw [<- HR.out]
 rfl
theorem turn_25 (w : World) (x : Nat) (hx : x < 4294967296) : Calls Tryz.prog 122 #[.int .u32 (x : Int), .int .i64 25] w fun e w' => e = .returned (.int .u32 ((rot x 25 : Nat) : Int)) /\ w' = w := by
 have h1 : bits .and .u64 (IntKind.u64.wrap (-25)) 31 = 7 := by decide
 have HR := hid (rot_bits x 25 hx)
 go_enter Tryz.func122, Tryz.ntmps122
 go_wp2
 go_ret
 refine ⟨?_, rfl⟩
 rw [<- HR.out]
 rfl
theorem turn_2 (w : World) (x : Nat) (hx : x < 4294967296) : Calls Tryz.prog 122 #[.int .u32 (x : Int), .int .i64 2] w fun e w' => e = .returned (.int .u32 ((rot x 2 : Nat) : Int)) /\ w' = w := by
 have h1 : bits .and .u64 (IntKind.u64.wrap (-2)) 31 = 30 := by decide
 have HR := hid (rot_bits x 2 hx)
 go_enter Tryz.func122, Tryz.ntmps122
 go_wp2
 go_ret
 refine ⟨?_, rfl⟩
 rw [<- HR.out]
 rfl
theorem turn_13 (w : World) (x : Nat) (hx : x < 4294967296) : Calls Tryz.prog 122 #[.int .u32 (x : Int), .int .i64 13] w fun e w' => e = .returned (.int .u32 ((rot x 13 : Nat) : Int)) /\ w' = w := by
 have h1 : bits .and .u64 (IntKind.u64.wrap (-13)) 31 = 19 := by decide
 have HR := hid (rot_bits x 13 hx)
 go_enter Tryz.func122, Tryz.ntmps122
 go_wp2
 go_ret
 refine ⟨?_, rfl⟩
 rw [<- HR.out]
 rfl
theorem turn_22 (w : World) (x : Nat) (hx : x < 4294967296) : Calls Tryz.prog 122 #[.int .u32 (x : Int), .int .i64 22] w fun e w' => e = .returned (.int .u32 ((rot x 22 : Nat) : Int)) /\ w' = w := by
 have h1 : bits .and .u64 (IntKind.u64.wrap (-22)) 31 = 10 := by decide
 have HR := hid (rot_bits x 22 hx)
 go_enter Tryz.func122, Tryz.ntmps122
 go_wp2
 go_ret
 refine ⟨?_, rfl⟩
 rw [<- HR.out]
 rfl
theorem turn_7 (w : World) (x : Nat) (hx : x < 4294967296) : Calls Tryz.prog 122 #[.int .u32 (x : Int), .int .i64 7] w fun e w' => e = .returned (.int .u32 ((rot x 7 : Nat) : Int)) /\ w' = w := by
 have h1 : bits .and .u64 (IntKind.u64.wrap (-7)) 31 = 25 := by decide
 have HR := hid (rot_bits x 7 hx)
 go_enter Tryz.func122, Tryz.ntmps122
 go_wp2
 go_ret
 refine ⟨?_, rfl⟩
 rw [<- HR.out]
 rfl
theorem turn_18 (w : World) (x : Nat) (hx : x < 4294967296) : Calls Tryz.prog 122 #[.int .u32 (x : Int), .int .i64 18] w fun e w' => e = .returned (.int .u32 ((rot x 18 : Nat) : Int)) /\ w' = w := by
 have h1 : bits .and .u64 (IntKind.u64.wrap (-18)) 31 = 14 := by decide
 have HR := hid (rot_bits x 18 hx)
 go_enter Tryz.func122, Tryz.ntmps122
 go_wp2
 go_ret
 refine ⟨?_, rfl⟩
 rw [<- HR.out]
 rfl
theorem turn_17 (w : World) (x : Nat) (hx : x < 4294967296) : Calls Tryz.prog 122 #[.int .u32 (x : Int), .int .i64 17] w fun e w' => e = .returned (.int .u32 ((rot x 17 : Nat) : Int)) /\ w' = w := by
 have h1 : bits .and .u64 (IntKind.u64.wrap (-17)) 31 = 15 := by decide
 have HR := hid (rot_bits x 17 hx)
 go_enter Tryz.func122, Tryz.ntmps122
 go_wp2
 go_ret
 refine ⟨?_, rfl⟩
 rw [<- HR.out]
 rfl
theorem turn_19 (w : World) (x : Nat) (hx : x < 4294967296) : Calls Tryz.prog 122 #[.int .u32 (x : Int), .int .i64 19] w fun e w' => e = .returned (.int .u32 ((rot x 19 : Nat) : Int)) /\ w' = w := by
 have h1 : bits .and .u64 (IntKind.u64.wrap (-19)) 31 = 13 := by decide
 have HR := hid (rot_bits x 19 hx)
 go_enter Tryz.func122, Tryz.ntmps122
 go_wp2
 go_ret
 refine ⟨?_, rfl⟩
 rw [<- HR.out]
 rfl
def cellsW (l : List Nat) : Array Value := (l.map (fun x : Nat => Value.int .u32 (x : Int))).toArray
theorem cellsW_size (l : List Nat) : (cellsW l).size = l.length := by simp [cellsW]
theorem cellsW_one (l : List Nat) : (cellsW l).all (·.oneCell') = true := all_oneCell_toArray (fun v hv => by obtain ⟨x, _, rfl⟩ := List.mem_map.1 hv; rfl)
theorem cellsW_get {l : List Nat} {i : Nat} (h : i < l.length) : (cellsW l)[i]? = some (.int .u32 ((l.getD i 0 : Nat) : Int)) := by
 simp [cellsW, List.getD, List.getElem?_eq_getElem h]
theorem cellsW_set (l : List Nat) (i x : Nat) : (cellsW l).setIfInBounds i (.int .u32 (x : Int)) = cellsW (l.set i x) := by
 unfold cellsW
 rw [List.map_set]
 simp
def zerosW (n : Nat) : List Nat := List.replicate n 0
theorem zerosW_length (n : Nat) : (zerosW n).length = n := by simp [zerosW]
theorem wpList_alloc_agg {T : TypeId} {cs : Array Value} (hz : (Tryz.prog.info? T).map (·.zero) = some (some (.agg cs))) {ops : Array Oper} {rest : List Oper} {o : Oper} {a : Act} {w : World} {Q : Exit -> Act -> World -> Prop} (hgd : o.guard = none) (ho : o.op = .alloc T)
  (h : wpList Tryz.prog ops Q rest (a.put o.dst (.pointer (some ⟨w.heap.size, 0, none⟩))) (w.alloc (.cells cs T))) : wpList Tryz.prog ops Q (o :: rest) a w :=
 wpList_plain hgd fun _ hK => by
  have hr : (Instr.alloc T true (.tuple #[])).run Tryz.prog w = .ok (.pointer (some ⟨w.heap.size, 0, none⟩)) (w.alloc (.cells cs T)) := by
   cases hi : Tryz.prog.info? T with
   | none => simp [hi] at hz
   | some i0 =>
    simp [hi] at hz
    simp [Instr.alloc, zeroValue, typeInfo, hi, hz, newVar, newRow, Value.cells]
  unfold Oper.wp
  simp only [execOp, ho, Sem.run_bind, hr, Result.andThen_ok]
  exact hK _ _ h
theorem zero_w64 : (Tryz.prog.info? 106).map (·.zero) = some (some (.agg (cellsW (zerosW 64)))) := by kernel_rfl
theorem zero_w8 : (Tryz.prog.info? 76).map (·.zero) = some (some (.agg (cellsW (zerosW 8)))) := by kernel_rfl
theorem size_w64 : (Tryz.prog.info? 106).map (·.size) = some 64 := by kernel_rfl
theorem size_w8 : (Tryz.prog.info? 76).map (·.size) = some 8 := by kernel_rfl
theorem size_b64 : (Tryz.prog.info? 78).map (·.size) = some 64 := by kernel_rfl
def beW (l : List Int) (t : Nat) : Nat := (l.getD (4 * t) 0).toNat * 16777216 + (l.getD (4 * t + 1) 0).toNat * 65536 + (l.getD (4 * t + 2) 0).toNat * 256 + (l.getD (4 * t + 3) 0).toNat
def add32 (x y : Nat) : Nat := (x + y) % 4294967296
def sig0 (x : Nat) : Nat := rot x 7 ^^^ rot x 18 ^^^ x / 8
def sig1 (x : Nat) : Nat := rot x 17 ^^^ rot x 19 ^^^ x / 1024
def nextW (l : List Int) (ws : List Nat) (t : Nat) : Nat :=
 if t < 16 then beW l t else add32 (add32 (add32 (sig1 (ws.getD (t - 2) 0)) (ws.getD (t - 7) 0)) (sig0 (ws.getD (t - 15) 0))) (ws.getD (t - 16) 0)
def wordsTo (l : List Int) : Nat -> List Nat
 | 0 => []
 | t + 1 => wordsTo l t ++ [nextW l (wordsTo l t) t]
theorem wordsTo_length (l : List Int) : ∀ t, (wordsTo l t).length = t
 | 0 => rfl
 | t + 1 => by simp [wordsTo, wordsTo_length l t]
def curWs (l : List Int) (t : Nat) : List Nat := wordsTo l t ++ List.replicate (64 - t) 0
theorem curWs_length (l : List Int) (t : Nat) (h : t <= 64) : (curWs l t).length = 64 := by simp [curWs, wordsTo_length]; omega
theorem curWs_step (l : List Int) (t : Nat) (h : t < 64) : (curWs l t).set t (nextW l (wordsTo l t) t) = curWs l (t + 1) := by
 unfold curWs
 rw [List.set_append_right _ _ (by rw [wordsTo_length]; exact Nat.le_refl _), wordsTo_length, Nat.sub_self, show 64 - t = (64 - (t + 1)) + 1 by omega, List.replicate_succ, List.set_cons_zero]
 simp [wordsTo]
theorem curWs_get (l : List Int) (t i : Nat) (h : i < t) : (curWs l t).getD i 0 = (wordsTo l t).getD i 0 := by
 unfold curWs
 simp [List.getD, List.getElem?_append, wordsTo_length, h]
theorem byte_nat {l : List Int} (h : ∀ x ∈ l, 0 <= x /\ x < 256) (i : Nat) : (l.getD i 0).toNat < 256 := by
 by_cases hj : i < l.length
 ·rw [getD_of_lt hj]
  have := h _ (List.getElem_mem hj)
  omega
 ·have e : l.getD i 0 = 0 := by simp [List.getD, List.getElem?_eq_none (by omega : l.length <= i)]
  rw [e]; decide
theorem beW_lt {l : List Int} (h : ∀ x ∈ l, 0 <= x /\ x < 256) (t : Nat) : beW l t < 4294967296 := by
 unfold beW
 have h0 := byte_nat h (4 * t)
 have h1 := byte_nat h (4 * t + 1)
 have h2 := byte_nat h (4 * t + 2)
 have h3 := byte_nat h (4 * t + 3)
 omega
theorem nextW_lt {l : List Int} (h : ∀ x ∈ l, 0 <= x /\ x < 256) (ws : List Nat) (t : Nat) : nextW l ws t < 4294967296 := by
 unfold nextW
 split
 ·exact beW_lt h t
 ·exact Nat.mod_lt _ (by decide)
theorem wordsTo_lt {l : List Int} (h : ∀ x ∈ l, 0 <= x /\ x < 256) : ∀ t, ∀ x ∈ wordsTo l t, x < 4294967296
 | 0 => by simp [wordsTo]
 | t + 1 => by
  intro x hx
  rcases List.mem_append.1 hx with h1 | h1
  ·exact wordsTo_lt h t x h1
  ·have : x = nextW l (wordsTo l t) t := by simpa using h1
   rw [this]
   exact nextW_lt h _ _
theorem getW_lt {ws : List Nat} (h : ∀ x ∈ ws, x < 4294967296) (i : Nat) : ws.getD i 0 < 4294967296 := by
 by_cases hj : i < ws.length
 ·rw [show ws.getD i 0 = ws[i] by simp [List.getD, List.getElem?_eq_getElem hj]]
  exact h _ (List.getElem_mem hj)
 ·rw [show ws.getD i 0 = 0 by simp [List.getD, List.getElem?_eq_none (by omega : ws.length <= i)]]
  decide
theorem or_four (a b c d : Nat) (ha : a < 256) (hb : b < 256) (hc : c < 256) (hd : d < 256) :
  bits .or .u32 (bits .or .u32 (bits .or .u32 ((a : Int) * 16777216) ((b : Int) * 65536)) ((c : Int) * 256)) (d : Int) = ((a * 16777216 + b * 65536 + c * 256 + d : Nat) : Int) := by
 have e1 : bits .or .u32 ((a : Int) * 16777216) ((b : Int) * 65536) = ((a * 16777216 + b * 65536 : Nat) : Int) := by
  have := u32_or_nat (a * 16777216) (b * 65536) (by omega) (by omega)
  rw [Int.natCast_mul, Int.natCast_mul] at this
  rw [show ((a : Int) * 16777216) = (a : Int) * ((16777216 : Nat) : Int) from rfl, show ((b : Int) * 65536) = (b : Int) * ((65536 : Nat) : Int) from rfl, this]
  congr 1
  have := Nat.two_pow_add_eq_or_of_lt (i := 24) (b := b * 65536) (by omega) a
  rw [show 2 ^ 24 * a = a * 16777216 by omega] at this
  omega
 have e2 : bits .or .u32 ((a * 16777216 + b * 65536 : Nat) : Int) ((c : Int) * 256) = ((a * 16777216 + b * 65536 + c * 256 : Nat) : Int) := by
  have := u32_or_nat (a * 16777216 + b * 65536) (c * 256) (by omega) (by omega)
  rw [show ((c : Int) * 256) = ((c * 256 : Nat) : Int) by rw [Int.natCast_mul]; rfl, this]
  congr 1
  have := Nat.two_pow_add_eq_or_of_lt (i := 16) (b := c * 256) (by omega) (a * 256 + b)
  rw [show 2 ^ 16 * (a * 256 + b) = a * 16777216 + b * 65536 by omega] at this
  omega
 rw [e1, e2, u32_or_nat _ _ (by omega) (by omega)]
 congr 1
 have := Nat.two_pow_add_eq_or_of_lt (i := 8) (b := d) (by omega) (a * 65536 + b * 256 + c)
 rw [show 2 ^ 8 * (a * 65536 + b * 256 + c) = a * 16777216 + b * 65536 + c * 256 by omega] at this
 omega
theorem grown_setd (w : World) (g o : Nat) (u : Value) : w.grownBy (w.setCell ⟨g, o, none⟩ u).drew (some g) :=
 ⟨rfl, rfl, rfl, by show w.heap.size <= (w.setCell ⟨g, o, none⟩ u).heap.size; simp, fun k _ hk => heap_setCell_other w ⟨g, o, none⟩ k u (fun e => hk (by simp [e]))⟩
theorem grown_sets (w : World) (g o : Nat) (u : Value) : w.grownBy (w.setCell ⟨g, o, none⟩ u) (some g) :=
 ⟨rfl, rfl, rfl, by simp, fun k _ hk => heap_setCell_other w ⟨g, o, none⟩ k u (fun e => hk (by simp [e]))⟩
theorem grown_tr {a b c : World} {r : Option Nat} (h : a.grownBy b r) (k : b.grownBy c r) : a.grownBy c r :=
 ⟨k.os.trans h.os, k.tape.trans h.tape, k.output.trans h.output, Nat.le_trans h.size k.size, fun i hi hr => (k.block i (Nat.lt_of_lt_of_le hi h.size) hr).trans (h.block i hi hr)⟩
theorem sig0_bits (x : Nat) (hx : x < 4294967296) : bits .xor .u32 (bits .xor .u32 ((rot x 7 : Nat) : Int) ((rot x 18 : Nat) : Int)) ((x : Int) / 8) = ((sig0 x : Nat) : Int) := by
 have h1 : rot x 7 ^^^ rot x 18 < 2 ^ 32 := Nat.xor_lt_two_pow (rot_lt hx) (rot_lt hx)
 rw [u32_xor_nat _ _ (rot_lt hx) (rot_lt hx), show (x : Int) / 8 = ((x / 8 : Nat) : Int) by omega, u32_xor_nat _ _ h1 (by omega)]
 rfl
theorem sig1_bits (x : Nat) (hx : x < 4294967296) : bits .xor .u32 (bits .xor .u32 ((rot x 17 : Nat) : Int) ((rot x 19 : Nat) : Int)) ((x : Int) / 1024) = ((sig1 x : Nat) : Int) := by
 have h1 : rot x 17 ^^^ rot x 19 < 2 ^ 32 := Nat.xor_lt_two_pow (rot_lt hx) (rot_lt hx)
 rw [u32_xor_nat _ _ (rot_lt hx) (rot_lt hx), show (x : Int) / 1024 = ((x / 1024 : Nat) : Int) by omega, u32_xor_nat _ _ h1 (by omega)]
 rfl
theorem add32_lt (x y : Nat) : add32 x y < 4294967296 := Nat.mod_lt _ (by decide)
end Go.Proofs.YtdgollnapbonjaaGreatDoor
