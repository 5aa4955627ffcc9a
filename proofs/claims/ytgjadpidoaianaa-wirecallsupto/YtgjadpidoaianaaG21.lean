/- Of the road to wireCallsUpto_holds: WrAskR, WrRRpO. -/
import Derived.Test.YtgjadpidoaianaaG18
import Derived.Test.YtgjadpidoaianaaG14
set_option linter.unusedVariables false
set_option linter.unusedSimpArgs false
namespace Go.Proofs.Ytgjadpidoaianaa
open Go Go.RowKit
set_option maxRecDepth 100000 in
set_option maxHeartbeats 64000000 in
theorem ask_2 (w0 w : World) (g n : Nat) (cl : Int) (r : Rq) (qv : Value) (qb : List Int) (k : Int) (nv : Value) (ns : List Int) (rv : Value) (rb : List Int) (dv : Value) (db : List Int) (h0 : OpH w0 r qv qb k nv ns rv rb dv db) (hbel : Below w0.heap.size w0 w) (hb : BKE w0.heap.size w g n) (hgB : w0.heap.size ≤ g) (hn : n ≤ 4000000) (hcl : cl = 2) :
    Calls Try.prog 9 #[.pointer (some ⟨g, 0, none⟩), .agg (opL cl r qv k nv rv dv).toArray] w fun e w' => e = .returned (.bool true) ∧ BKE w0.heap.size w' g (n + 1) ∧ Below w0.heap.size w0 w' := by
  obtain ⟨vb, vw, vi, vm, xb, xw, xi, xm, bs, is, hk, hl1, hl2, hl3, hl4⟩ := hb
  obtain ⟨qp, qc, rfl, _, _⟩ := h0.q.open
  obtain ⟨np, nc, rfl, _, _⟩ := h0.n.open
  obtain ⟨rp, rc, rfl, _, _⟩ := h0.r'.open
  obtain ⟨dp, dc, rfl, _, _⟩ := h0.d.open
  have hok := h0.ok
  obtain ⟨m, HM⟩ : ∃ m, Hid ((opL cl r (.slice qp qb.length qc) k (.slice np ns.length nc) (.slice rp rb.length rc) (.slice dp db.length dc)).toArray = m) := ⟨_, hid rfl⟩
  have OPW : Hid (∀ W, Below w0.heap.size w0 W → OpH W r (.slice qp qb.length qc) qb k (.slice np ns.length nc) ns (.slice rp rb.length rc) rb (.slice dp db.length dc) db) := hid (fun W hW => h0.below hW)
  have BW : Hid (∀ W, Below w.heap.size w W → Below w0.heap.size w0 W) := hid (fun W hW => hbel.trans (hW.mono hbel.size))
  have H0 := hid h0
  obtain ⟨W1, HW1⟩ : ∃ W : World, Hid (w.alloc (.cells m TO) = W) := ⟨_, hid rfl⟩
  have B1 : Hid (Below w.heap.size w W1) := by rw [← HW1.out]; exact hid ((Below.refl _ w).alloc (Nat.le_refl _) _)
  have Z1 : Hid (W1.heap.size = w.heap.size + 1) := hid (by rw [← HW1.out]; simp)
  have X1 : Hid (W1.heap[w.heap.size]? = some (.cells m TO (0, 0))) := hid (by rw [← HW1.out]; exact heap_alloc_new w _)
  have KX : Hid (∀ W : World, W.heap[w.heap.size]? = some (.cells m TO (0, 0)) → W.cell? ⟨w.heap.size, 0, none⟩ = some (.int .i64 cl) ∧ W.cell? ⟨w.heap.size, 23, none⟩ = some (.slice qp qb.length qc) ∧ W.cell? ⟨w.heap.size, 25, none⟩ = some (.slice np ns.length nc) ∧ W.cell? ⟨w.heap.size, 26, none⟩ = some (.slice rp rb.length rc) ∧ W.cell? ⟨w.heap.size, 27, none⟩ = some (.slice dp db.length dc)) := hid (fun W q => by
    refine ⟨?_, ?_, ?_, ?_, ?_⟩ <;> rw [cell_of_row _ _ _ _ _ _ q, ← HM.out, List.getElem?_toArray]
    · rfl
    · exact opL_rq hok (.slice qp qb.length qc) k (.slice np ns.length nc) (.slice rp rb.length rc) (.slice dp db.length dc) (j := 22) (by have := rqA_22 hok (.slice qp qb.length qc); unfold rqA at this; rwa [List.getElem?_toArray] at this)
    · exact opL_rp hok (.slice qp qb.length qc) k (.slice np ns.length nc) (.slice rp rb.length rc) (.slice dp db.length dc) (j := 1) rfl
    · exact opL_rp hok (.slice qp qb.length qc) k (.slice np ns.length nc) (.slice rp rb.length rc) (.slice dp db.length dc) (j := 2) rfl
    · exact opL_rp hok (.slice qp qb.length qc) k (.slice np ns.length nc) (.slice rp rb.length rc) (.slice dp db.length dc) (j := 3) rfl)
  have RGQ : Hid (∀ W : World, W.heap[w.heap.size]? = some (.cells m TO (0, 0)) → W.rangeAt w.heap.size 1 (rqL r (.slice qp qb.length qc))) := hid (fun W q j u hj => by
    rw [cell_of_row _ _ _ _ _ _ q, ← HM.out, List.getElem?_toArray]
    exact opL_rq hok (.slice qp qb.length qc) k (.slice np ns.length nc) (.slice rp rb.length rc) (.slice dp db.length dc) hj)
  have RGR : Hid (∀ W : World, W.heap[w.heap.size]? = some (.cells m TO (0, 0)) → W.rangeAt w.heap.size 24 [.int .u8 k, (.slice np ns.length nc), (.slice rp rb.length rc)]) := hid (fun W q j u hj => by
    rw [cell_of_row _ _ _ _ _ _ q, ← HM.out, List.getElem?_toArray]
    refine opL_rp hok (.slice qp qb.length qc) k (.slice np ns.length nc) (.slice rp rb.length rc) (.slice dp db.length dc) (j := j) ?_
    match j, hj with
    | 0, hj => exact hj
    | 1, hj => exact hj
    | 2, hj => exact hj)
  have SLQ : Hid ((Try.prog.info? 38).map (·.size) = some (rqL r (.slice qp qb.length qc)).length) := hid (by rw [rqL_len hok]; exact size_q)
  obtain ⟨y0, y23, y25, y26, y27⟩ := KX.out W1 X1.out
  have bq := h0.lq
  have bn := h0.ln
  have br := h0.lr
  have bd := h0.ld
  have LQ := hid (lent_any W1 (.slice qp qb.length qc) qb (OPW.out W1 (BW.out W1 B1.out)).q (by omega))
  rw [HM.out]
  clear h0 hok
  go_enter Try.func9, Try.ntmps9
  go_wp2_with (first | rw [HW1.out] | fail)
  refine LQ.out.mono ?_
  rintro e W2 ⟨lq, rfl, hoq, hbq⟩
  have BW2 : Hid (Below w.heap.size w W2) := hid (B1.out.trans (hbq.mono B1.out.size))
  have XW2 : Hid (W2.heap[w.heap.size]? = some (.cells m TO (0, 0))) := hid ((hbq.block _ (Array.getElem?_eq_some_iff.1 X1.out).1).trans X1.out)
  have blq := hid hbq
  obtain ⟨gq, cq, eq, zlq, zhq, zcq, zmq, -, -⟩ := lent_part hoq H0.out.q.2
  subst eq
  have OLq := hid hoq
  clear hoq hbq LQ y0 y23 y25 y26 y27
  obtain ⟨y0, y23, y25, y26, y27⟩ := KX.out W2 XW2.out
  have LR := hid (lent_any W2 (.slice rp rb.length rc) rb (OPW.out W2 (BW.out W2 BW2.out)).r' (by omega))
  go_wp2_with fail
  refine LR.out.mono ?_
  rintro e W3 ⟨lr, rfl, hor, hbr⟩
  have BW3 : Hid (Below w.heap.size w W3) := hid (BW2.out.trans (hbr.mono BW2.out.size))
  have XW3 : Hid (W3.heap[w.heap.size]? = some (.cells m TO (0, 0))) := hid ((hbr.block _ (Array.getElem?_eq_some_iff.1 XW2.out).1).trans XW2.out)
  have blr := hid hbr
  obtain ⟨gr, cr, er, zlr, zhr, zcr, zmr, -, -⟩ := lent_part hor H0.out.r'.2
  subst er
  have OLr := hid hor
  clear hor hbr LR y0 y23 y25 y26 y27
  obtain ⟨y0, y23, y25, y26, y27⟩ := KX.out W3 XW3.out
  have LN := hid (I.lent_any W3 (.slice np ns.length nc) ns (OPW.out W3 (BW.out W3 BW3.out)).n (by omega))
  go_wp2_with fail
  refine LN.out.mono ?_
  rintro e W4 ⟨ln, rfl, hon, hbn⟩
  have BW4 : Hid (Below w.heap.size w W4) := hid (BW3.out.trans (hbn.mono BW3.out.size))
  have XW4 : Hid (W4.heap[w.heap.size]? = some (.cells m TO (0, 0))) := hid ((hbn.block _ (Array.getElem?_eq_some_iff.1 XW3.out).1).trans XW3.out)
  have bln := hid hbn
  obtain ⟨gn, cn, en, zln, zhn, zcn, zmn, -, -⟩ := I.lent_part hon H0.out.n.2
  subst en
  have OLn := hid hon
  clear hon hbn LN y0 y23 y25 y26 y27
  obtain ⟨y0, y23, y25, y26, y27⟩ := KX.out W4 XW4.out
  have LD := hid (lent_any W4 (.slice dp db.length dc) db (OPW.out W4 (BW.out W4 BW4.out)).d (by omega))
  go_wp2_with fail
  refine LD.out.mono ?_
  rintro e W5 ⟨ld, rfl, hod, hbd⟩
  have BW5 : Hid (Below w.heap.size w W5) := hid (BW4.out.trans (hbd.mono BW4.out.size))
  have XW5 : Hid (W5.heap[w.heap.size]? = some (.cells m TO (0, 0))) := hid ((hbd.block _ (Array.getElem?_eq_some_iff.1 XW4.out).1).trans XW4.out)
  have bld := hid hbd
  obtain ⟨gd, cd, ed, zld, zhd, zcd, zmd, -, -⟩ := lent_part hod H0.out.d.2
  subst ed
  have OLd := hid hod
  clear hod hbd LD y0 y23 y25 y26 y27
  obtain ⟨y0, y23, y25, y26, y27⟩ := KX.out W5 XW5.out
  have Oq3 : Hid (W3.ownsRow W1.heap.size 5 1 _ (lent qb).length ((lent qb).map (Value.int .u8))) := hid (own_of OLq.out fun b hb => blr.out.block b (own_at OLq.out hb).1)
  have Oq4 : Hid (W4.ownsRow W1.heap.size 5 1 _ (lent qb).length ((lent qb).map (Value.int .u8))) := hid (own_of Oq3.out fun b hb => bln.out.block b (own_at Oq3.out hb).1)
  have Oq5 : Hid (W5.ownsRow W1.heap.size 5 1 _ (lent qb).length ((lent qb).map (Value.int .u8))) := hid (own_of Oq4.out fun b hb => bld.out.block b (own_at Oq4.out hb).1)
  have Or4 : Hid (W4.ownsRow W2.heap.size 5 1 _ (lent rb).length ((lent rb).map (Value.int .u8))) := hid (own_of OLr.out fun b hb => bln.out.block b (own_at OLr.out hb).1)
  have Or5 : Hid (W5.ownsRow W2.heap.size 5 1 _ (lent rb).length ((lent rb).map (Value.int .u8))) := hid (own_of Or4.out fun b hb => bld.out.block b (own_at Or4.out hb).1)
  have On5 : Hid (W5.ownsRow W3.heap.size 3 1 _ (I.lent ns).length ((I.lent ns).map (Value.int .i64))) := hid (own_of OLn.out fun b hb => bld.out.block b (own_at OLn.out hb).1)
  have s1 := B1.out.size
  have s2 := BW2.out.size
  have s3 := BW3.out.size
  have ORD : Hid (w.heap.size < gq ∧ gq < gr ∧ gr < gn ∧ gn < gd ∧ gd < W5.heap.size) := hid (by have := Z1.out; omega)
  obtain ⟨mq, HMQ⟩ : ∃ x, Hid (rqA r (.slice qp qb.length qc) = x) := ⟨_, hid rfl⟩
  obtain ⟨W6a, HW6a⟩ : ∃ W : World, Hid (W5.alloc (.cells zreq 38) = W) := ⟨_, hid rfl⟩
  obtain ⟨W6, HW6⟩ : ∃ W : World, Hid (W6a.setRow W5.heap.size mq = W) := ⟨_, hid rfl⟩
  obtain ⟨W7, HW7⟩ : ∃ W : World, Hid (W6.setCell ⟨W5.heap.size, 22, none⟩ (.slice (some ⟨gq, 0, none⟩) qb.length cq) = W) := ⟨_, hid rfl⟩
  obtain ⟨W8a, HW8a⟩ : ∃ W : World, Hid (W7.alloc (.cells zrep 42) = W) := ⟨_, hid rfl⟩
  obtain ⟨W8, HW8⟩ : ∃ W : World, Hid (W8a.setRow (W5.heap.size + 1) #[.int .u8 k, (.slice np ns.length nc), (.slice rp rb.length rc)] = W) := ⟨_, hid rfl⟩
  obtain ⟨W9, HW9⟩ : ∃ W : World, Hid (W8.setCell ⟨W5.heap.size + 1, 2, none⟩ (.slice (some ⟨gr, 0, none⟩) rb.length cr) = W) := ⟨_, hid rfl⟩
  obtain ⟨WZ, HWZ⟩ : ∃ W : World, Hid (W9.setCell ⟨W5.heap.size + 1, 1, none⟩ (.slice (some ⟨gn, 0, none⟩) ns.length cn) = W) := ⟨_, hid rfl⟩
  have x6a : W6a.heap[W5.heap.size]? = some (.cells zrq 38 (0, 0)) := by rw [← HW6a.out]; exact heap_alloc_new W5 _
  have x6 : W6.heap[W5.heap.size]? = some (.cells mq 38 (0, 0)) := by rw [← HW6.out]; exact setRow_heap _ _ _ _ _ _ x6a
  have x7 : W7.heap[W5.heap.size]? = some (.cells (mq.setIfInBounds 22 (.slice (some ⟨gq, 0, none⟩) qb.length cq)) 38 (0, 0)) := by rw [← HW7.out]; exact heap_setA x6 22 _
  have z6 : W6.heap.size = W5.heap.size + 1 := by rw [← HW6.out, ← HW6a.out]; simp [World.setRow]
  have z7 : W7.heap.size = W5.heap.size + 1 := by rw [← HW7.out]; simp [World.setCell, z6]
  have x8a : W8a.heap[W5.heap.size + 1]? = some (.cells zrp 42 (0, 0)) := by rw [← z7, ← HW8a.out]; exact heap_alloc_new W7 _
  have x8 : W8.heap[W5.heap.size + 1]? = some (.cells #[.int .u8 k, (.slice np ns.length nc), (.slice rp rb.length rc)] 42 (0, 0)) := by rw [← HW8.out]; exact setRow_heap _ _ _ _ _ _ x8a
  have x9 : W9.heap[W5.heap.size + 1]? = some (.cells #[.int .u8 k, (.slice np ns.length nc), .slice (some ⟨gr, 0, none⟩) rb.length cr] 42 (0, 0)) := by rw [← HW9.out]; exact heap_setA x8 2 _
  have xZ : WZ.heap[W5.heap.size + 1]? = some (.cells (rpA k (.slice (some ⟨gn, 0, none⟩) ns.length cn) (.slice (some ⟨gr, 0, none⟩) rb.length cr)) 42 (0, 0)) := by rw [← HWZ.out]; exact heap_setA x9 1 _
  have o6 : ∀ b, b < W5.heap.size → W6.heap[b]? = W5.heap[b]? := fun b hb => by
    rw [← HW6.out, ← heap_alloc_old W5 (.cells zreq 38) hb, HW6a.out]
    simp [World.setRow, Array.getElem?_modify, show W5.heap.size ≠ b by omega]
  have o7 : ∀ b, b < W5.heap.size → W7.heap[b]? = W5.heap[b]? := fun b hb => by
    rw [← o6 b hb, ← HW7.out]
    simp [World.setCell, Array.getElem?_modify, show W5.heap.size ≠ b by omega]
  have o8 : ∀ b, b < W5.heap.size + 1 → W8.heap[b]? = W7.heap[b]? := fun b hb => by
    rw [← HW8.out, ← heap_alloc_old W7 (.cells zrep 42) (by omega), HW8a.out]
    simp [World.setRow, Array.getElem?_modify, show W5.heap.size + 1 ≠ b by omega]
  have oZ : ∀ b, b < W5.heap.size + 1 → WZ.heap[b]? = W7.heap[b]? := fun b hb => by
    rw [← o8 b hb, ← HWZ.out, ← HW9.out]
    simp [World.setCell, Array.getElem?_modify, show W5.heap.size + 1 ≠ b by omega]
  have zZ : WZ.heap.size = W5.heap.size + 2 := by
    rw [← HWZ.out, ← HW9.out, ← HW8.out, ← HW8a.out]
    simp [World.setCell, World.setRow, z7]
  have BZ5 : Below W5.heap.size W5 WZ := by
    have q1 : Below W5.heap.size W5 W6a := by rw [← HW6a.out]; exact (Below.refl _ W5).alloc (Nat.le_refl _) _
    have q2 : Below W5.heap.size W5 W6 := q1.trans (by rw [← HW6.out]; exact (ex_setRow (Ex.refl (fun k => k = W5.heap.size) W6a) rfl mq).below q1.size (fun k e => by omega))
    have q3 : Below W5.heap.size W5 W7 := by rw [← HW7.out]; exact q2.setCell (Nat.le_refl _) _
    have q4 : Below W5.heap.size W5 W8a := by rw [← HW8a.out]; exact q3.alloc (by omega) _
    have q5 : Below W5.heap.size W5 W8 := q4.trans (by rw [← HW8.out]; exact (ex_setRow (Ex.refl (fun k => k = W5.heap.size + 1) W8a) rfl _).below q4.size (fun k e => by omega))
    have q6 : Below W5.heap.size W5 W9 := by rw [← HW9.out]; exact q5.setCell (by show W5.heap.size ≤ W5.heap.size + 1; omega) _
    rw [← HWZ.out]; exact q6.setCell (by show W5.heap.size ≤ W5.heap.size + 1; omega) _
  have BZ : Hid (Below w.heap.size w WZ) := hid (BW5.out.trans (BZ5.mono BW5.out.size))
  have X6 : Hid (W6.heap[w.heap.size]? = some (.cells m TO (0, 0))) := hid ((o6 _ (by have := ORD.out; omega)).trans XW5.out)
  have X7 : Hid (W7.heap[w.heap.size]? = some (.cells m TO (0, 0))) := hid ((o7 _ (by have := ORD.out; omega)).trans XW5.out)
  have X8 : Hid (W8.heap[w.heap.size]? = some (.cells m TO (0, 0))) := hid ((o8 _ (by have := ORD.out; omega)).trans X7.out)
  have X9 : Hid (W9.heap[w.heap.size]? = some (.cells m TO (0, 0))) := hid (by
    have q := ORD.out
    rw [← X8.out, ← HW9.out]
    simp [World.setCell, Array.getElem?_modify, show W5.heap.size + 1 ≠ w.heap.size by omega])
  have hms : Hid (mq.size = 23) := hid (by rw [← HMQ.out]; exact rqA_size H0.out.ok _)
  have hmo : Hid (mq.all (·.oneCell') = true) := hid (by rw [← HMQ.out]; exact rqA_one _ _ rfl)
  have hro : Hid ((#[Value.int .u8 k, (.slice np ns.length nc), (.slice rp rb.length rc)]).all (·.oneCell') = true) := hid (by exact rpA_one k _ _ rfl rfl)
  obtain ⟨mz, HMZ⟩ : ∃ x, Hid (rqA r (.slice (some ⟨gq, 0, none⟩) qb.length cq) = x) := ⟨_, hid rfl⟩
  obtain ⟨mr, HMR⟩ : ∃ x, Hid (rpA k (.slice (some ⟨gn, 0, none⟩) ns.length cn) (.slice (some ⟨gr, 0, none⟩) rb.length cr) = x) := ⟨_, hid rfl⟩
  have hmz : Hid (mz.toList.length = 23) := hid (by rw [Array.length_toList, ← HMZ.out]; exact rqA_size H0.out.ok _)
  have hmr : Hid (mr.toList.length = 3) := hid (by rw [Array.length_toList, ← HMR.out]; rfl)
  have AFZ : Hid (AF w0 WZ w.heap.size w.heap.size W5.heap.size (W5.heap.size + 1) m mz mr (.slice (some ⟨gq, 0, none⟩) (qb.length + 70) cq) (.slice (some ⟨gr, 0, none⟩) (rb.length + 70) cr) (.slice (some ⟨gn, 0, none⟩) (ns.length + 70) cn) (.slice (some ⟨gd, 0, none⟩) (db.length + 70) cd) qb rb ns db) := hid (by
    have keep : ∀ {e : TypeId} {v : Value} {n : Nat} {xs : List Value} {B : Nat}, w.heap.size ≤ B → W5.ownsRow B e 1 v n xs → WZ.ownsRow w.heap.size e 1 v n xs := fun {e v n xs B} hB q => own_low (own_of q fun b hb => BZ5.block b (own_at q hb).1) hB
    refine ⟨BW.out WZ BZ.out, (BZ5.block _ (by have := ORD.out; omega)).trans XW5.out, ?_, ?_, keep (by omega) Oq5.out, keep (by omega) Or5.out, keep (by omega) On5.out, keep (by omega) OLd.out⟩
    · rw [oZ _ (by omega), x7, ← HMQ.out, mq_set H0.out.ok, HMZ.out]
    · rw [xZ, HMR.out])
  have KBZ : Hid (BK w0.heap.size w.heap.size WZ.heap.size WZ g vb vw vi vm xb xw xi xm bs bs is is) := hid ((hk.reset WZ.heap.size).below BZ.out)
  have XBE : Hid (∀ k, k < xb.length → ∀ b, (xb.getD k undef).ownBlock = some b → b < w.heap.size) := hid (fun k hk' b hb => (own_at (hk.eb.own k hk') hb).1)
  have XWE : Hid (∀ k, k < xw.length → ∀ b, (xw.getD k undef).ownBlock = some b → b < w.heap.size) := hid (fun k hk' b hb => (own_at (hk.ew.own k hk') hb).1)
  have XME : Hid (∀ k, k < xm.length → ∀ b, (xm.getD k undef).ownBlock = some b → b < w.heap.size) := hid (fun k hk' b hb => (own_at (hk.em.own k hk') hb).1)
  have XIE : Hid (∀ k, k < xi.length → ∀ b, (xi.getD k undef).ownBlock = some b → b < w.heap.size) := hid (fun k hk' b hb => (own_at (hk.ei.own k hk') hb).1)
  have HWZ5 : Hid (WZ.heap.size = W5.heap.size + 2) := hid zZ
  have sw : Hid (w.heap.size ≤ WZ.heap.size) := hid BZ.out.size
  have X6A := hid x6a
  have X8A := hid x8a
  have HZ7 := hid z7
  have c7 : W6.cell? ⟨W5.heap.size, 22, none⟩ = some (.slice qp qb.length qc) := by rw [cell_of_row _ _ _ _ _ _ x6, ← HMQ.out]; exact rqA_22 H0.out.ok _
  have f7 := free_of x6 22
  have c9 : W8.cell? ⟨W5.heap.size + 1, 2, none⟩ = some (.slice rp rb.length rc) := by rw [cell_of_row _ _ _ _ _ _ x8]; rfl
  have f9 := free_of x8 2
  have cZ : W9.cell? ⟨W5.heap.size + 1, 1, none⟩ = some (.slice np ns.length nc) := by rw [cell_of_row _ _ _ _ _ _ x9]; rfl
  have fZ := free_of x9 1
  have hq1 := fun W => slice_hB W gq 0 (qb.length + 70) cq qb.length (by omega) (by omega)
  have hr1 := fun W => slice_hB W gr 0 (rb.length + 70) cr rb.length (by omega) (by omega)
  have hn1 := fun W => slice_hI W gn 0 (ns.length + 70) cn ns.length (by omega) (by omega)
  have hd1 := fun W => slice_hB W gd 0 (db.length + 70) cd db.length (by omega) (by omega)
  clear y0 y23 y25 y26 y27 x6a x6 x7 z6 z7 x8a x8 x9 xZ o6 o7 o8 oZ zZ BZ5 hk s1 s2 s3 zlq zhq zcq zmq zlr zhr zcr zmr zln zhn zcn zmn zld zhd zcd zmd
  subst hcl
  have CP : Hid (Calls Try.prog 18 #[.agg mr] WZ fun e w' => PutQ WZ (mayP k ns rb.length) (layP k ns rb) 201 e w' ∧ Below WZ.heap.size WZ w') := hid (by rw [← HMR.out]; exact putRep_any WZ k H0.out.k' _ _ ns rb (lent_cutI AFZ.out.on H0.out.n.2).1 (lent_cut AFZ.out.or' H0.out.r'.2).1)
  have CR : Hid (∀ W, Below w0.heap.size w0 W → Calls Try.prog 26 #[.agg [.int .u8 k, (.slice np ns.length nc), (.slice rp rb.length rc)].toArray] W fun e w' => PutQ W (mayP k ns rb.length) (layP k ns rb) 201 e w' ∧ Below W.heap.size W w') := hid (fun W hW => rputRep_any W k H0.out.k' _ _ ns rb (OPW.out W hW).n (OPW.out W hW).r')
  obtain ⟨LL, HLL⟩ : ∃ x, Hid ((if mayP k ns rb.length = true then layP k ns rb else []) = x) := ⟨_, hid rfl⟩
  obtain ⟨EE, HEE⟩ : ∃ x : Int, Hid ((if mayP k ns rb.length = true then 0 else 201) = x) := ⟨_, hid rfl⟩
  have HLB : Hid (∀ x ∈ LL, 0 ≤ x ∧ x < 256) := hid (fun x hx => by rw [← HLL.out] at hx; split at hx; (rename_i hm'; exact layP_byt H0.out.k' H0.out.r'.2 hm' x hx); cases hx)
  have HLN : Hid (LL.length ≤ 4000000) := hid (by rw [← HLL.out]; split; have := layP_lenA k ns rb; omega; simp)
  obtain ⟨-, y6, -, -, -⟩ := KX.out W6 X6.out
  obtain ⟨-, -, -, y8, -⟩ := KX.out W8 X8.out
  obtain ⟨-, -, y9, -, -⟩ := KX.out W9 X9.out
  obtain ⟨yz0, -, -, -, yz27⟩ := KX.out WZ AFZ.out.fP
  go_wp2_with (first | (refine wpList_load_mid rfl 42 _ rfl (W5.heap.size + 1) 0 rfl mr.toList _ (rngM AFZ.out.fR) Try.underlying42 rfl (by rw [hmr.out]; exact size_r) ?_; rw [Array.toArray_toList]) | (refine wpList_load_mid rfl 38 _ rfl w.heap.size 1 rfl (rqL r (.slice qp qb.length qc)) _ (RGQ.out _ XW5.out) Try.underlying38 rfl SLQ.out ?_; rw [show (rqL r (.slice qp qb.length qc)).toArray = mq from HMQ.out]) | rw [HW6a.out] | (refine wpList_store_row rfl 38 _ _ rfl W5.heap.size mq rfl rfl 38 zrq X6A.out (by rw [hms.out]; exact size_q) (by rw [hms.out]; rfl) hmo.out ?_) | rw [HW6.out] | rw [HW7.out] | (refine wpList_load_mid rfl 42 _ rfl w.heap.size 24 rfl [.int .u8 k, (.slice np ns.length nc), (.slice rp rb.length rc)] _ (RGR.out _ X7.out) Try.underlying42 rfl size_r ?_) | rw [HW8a.out, HZ7.out] | (refine wpList_store_row rfl 42 _ _ rfl (W5.heap.size + 1) #[.int .u8 k, (.slice np ns.length nc), (.slice rp rb.length rc)] rfl rfl 42 zrp X8A.out size_r rfl hro.out ?_) | rw [HW8.out] | rw [HW9.out] | rw [HWZ.out] | fail)
  refine CP.out.mono ?_
  rintro e U1 ⟨hq1, hu1⟩
  obtain ⟨ua, rfl, hoa⟩ := hq1.any
  rw [HLL.out] at hoa
  rw [HEE.out]
  obtain ⟨pa, ca, ea⟩ := own_slice hoa
  subst ea
  have OA : Hid (U1.ownsRow WZ.heap.size 5 1 (.slice pa LL.length ca) LL.length (LL.map (Value.int .u8))) := hid hoa
  clear hoa hq1 CP
  have AF1 : Hid (AF w0 U1 w.heap.size w.heap.size W5.heap.size (W5.heap.size + 1) m mz mr (.slice (some ⟨gq, 0, none⟩) (qb.length + 70) cq) (.slice (some ⟨gr, 0, none⟩) (rb.length + 70) cr) (.slice (some ⟨gn, 0, none⟩) (ns.length + 70) cn) (.slice (some ⟨gd, 0, none⟩) (db.length + 70) cd) qb rb ns db) := hid (AFZ.out.below hu1)
  have KB1 : Hid (BK w0.heap.size w.heap.size WZ.heap.size U1 g vb vw vi vm xb xw xi xm bs bs is is) := hid (KBZ.out.below hu1)
  go_wp2_with (first | (refine wpList_load_mid rfl 42 _ rfl w.heap.size 24 rfl [.int .u8 k, (.slice np ns.length nc), (.slice rp rb.length rc)] _ (RGR.out _ AF1.out.fP) Try.underlying42 rfl size_r ?_) | fail)
  refine (CR.out _ AF1.out.bel).mono ?_
  rintro e U2 ⟨hq2, hu2⟩
  obtain ⟨ub, rfl, hob⟩ := hq2.any
  rw [HLL.out] at hob
  rw [HEE.out]
  obtain ⟨pb, cb, eb⟩ := own_slice hob
  subst eb
  have OB : Hid (U2.ownsRow WZ.heap.size 5 1 (.slice pb LL.length cb) LL.length (LL.map (Value.int .u8))) := hid (own_low hob hu1.size)
  clear hob hq2 CR
  have AF2 : Hid (AF w0 U2 w.heap.size w.heap.size W5.heap.size (W5.heap.size + 1) m mz mr (.slice (some ⟨gq, 0, none⟩) (qb.length + 70) cq) (.slice (some ⟨gr, 0, none⟩) (rb.length + 70) cr) (.slice (some ⟨gn, 0, none⟩) (ns.length + 70) cn) (.slice (some ⟨gd, 0, none⟩) (db.length + 70) cd) qb rb ns db) := hid (AF1.out.below hu2)
  have KB2 : Hid (BK w0.heap.size w.heap.size WZ.heap.size U2 g vb vw vi vm xb xw xi xm bs bs is is) := hid (KB1.out.below hu2)
  have OA_2 : Hid (U2.ownsRow WZ.heap.size 5 1 (.slice pa LL.length ca) LL.length (LL.map (Value.int .u8))) := hid (own_of OA.out fun b hb' => (hu2).block b (own_at OA.out hb').1)
  obtain ⟨WL3, HWL3⟩ : ∃ W : World, Hid (U2.alloc (.cells #[(.slice pa LL.length ca)] 36) = W) := ⟨_, hid rfl⟩
  have BL3 : Below U2.heap.size U2 WL3 := by rw [← HWL3.out]; exact (Below.refl _ _).alloc (Nat.le_refl _) _
  have KL3 : Hid (BK w0.heap.size w.heap.size WZ.heap.size WL3 g vb vw vi vm xb xw xi xm bs bs is is) := hid (KB2.out.below BL3)
  have CL3 : Hid (WL3.cell? ⟨U2.heap.size, 0, none⟩ = some ((.slice pa LL.length ca))) := hid (by rw [cell_of_row _ _ _ _ _ _ (show WL3.heap[U2.heap.size]? = some (.cells #[(.slice pa LL.length ca)] 36 (0, 0)) by rw [← HWL3.out]; exact heap_alloc_new _ _)]; rfl)
  have cb3 : U2.cell? ⟨g, 0, none⟩ = some vb := by rw [cell_of_row _ _ _ _ _ _ KB2.out.blk]; rfl
  have nl3 : Hid (bs.length + 1 ≤ 4194304) := hid (by omega)
  go_wp2_with (first | rw [HWL3.out] | (at_builtin; refine wpList_appb rfl _ _ rfl w0.heap.size vb bs.length xb rfl KL3.out.rb ⟨U2.heap.size, 0, none⟩ 1 _ rfl rfl CL3.out nl3.out KL3.out.low ?_) | fail)
  intro v13 w13 ho3 hg3 hw3
  have hg3' : (U2.alloc (.cells #[(.slice pa LL.length ca)] 36)).grownBy w13 vb.ownBlock := by rw [HWL3.out]; exact hg3
  have hw3' : v13.ownBlock = vb.ownBlock ∨ (v13.ownBlock = some (U2.alloc (.cells #[(.slice pa LL.length ca)] 36)).heap.size ∧ (U2.alloc (.cells #[(.slice pa LL.length ca)] 36)).grownBy w13 none) := by rw [HWL3.out]; exact hw3
  obtain ⟨PF3, PB3⟩ := push_frame (i := 0) (v' := v13) KB2.out.rb KB2.out.blk hgB KB2.out.low hg3'
  have KN3 := KB2.out.push_b (own_low OA_2.out AFZ.out.bel.size) HLB.out (fun b hb' => own_ge OA_2.out hb') (fun b hb' j hj => fun q => by have q1 := XBE.out j hj b q; have q2 := own_ge OA_2.out hb'; have := sw.out; omega) ho3 hg3' hw3'
  have bk13 : w13.heap[g]? = some (.cells #[vb, vw, vi, vm] TB (0, 0)) := (grow_keeps hg3' (Array.getElem?_eq_some_iff.1 KB2.out.blk).1 (fun q => by
    obtain ⟨_, _, cs', q2⟩ := own_at KB2.out.rb q
    rw [KB2.out.blk] at q2
    simp only [Option.some.injEq, Obj.cells.injEq] at q2
    exact absurd q2.2.1 (by decide))).trans KB2.out.blk
  have cc3 : w13.cell? ⟨g, 0, none⟩ = some vb := by rw [cell_of_row _ _ _ _ _ _ bk13]; rfl
  have ff3 := free_of bk13 0
  obtain ⟨pv3, cv3, ev3⟩ := own_slice ho3
  subst ev3
  obtain ⟨WN3, HWN3⟩ : ∃ W : World, Hid (w13.setCell ⟨g, 0, none⟩ (.slice pv3 (bs.length + 1) cv3) = W) := ⟨_, hid rfl⟩
  rw [HWN3.out] at PF3 PB3 KN3
  have BN3 : Below w0.heap.size w0 WN3 := AF2.out.bel.trans PB3
  have AFN3 : Hid (AF w0 WN3 w.heap.size w.heap.size W5.heap.size (W5.heap.size + 1) m mz mr (.slice (some ⟨gq, 0, none⟩) (qb.length + 70) cq) (.slice (some ⟨gr, 0, none⟩) (rb.length + 70) cr) (.slice (some ⟨gn, 0, none⟩) (ns.length + 70) cn) (.slice (some ⟨gd, 0, none⟩) (db.length + 70) cd) qb rb ns db) := hid (AF2.out.of BN3 fun b cs T q n1 n2 n3 => PF3 b cs T q n1 n2)
  have KBN3 : Hid (BK w0.heap.size w.heap.size WZ.heap.size WN3 g (.slice pv3 (bs.length + 1) cv3) vw vi vm (xb ++ [(.slice pa LL.length ca)]) xw xi xm (bs ++ [LL]) bs is is) := hid KN3
  have OA_3n : Hid (WN3.ownsRow WZ.heap.size 5 1 ((.slice pa LL.length ca)) LL.length (LL.map (Value.int .u8))) := hid (own_of OA_2.out fun b hb' => by obtain ⟨_, _, cs', q2⟩ := own_at OA_2.out hb'; exact PF3 b cs' _ q2 (by decide) (by decide))
  have OB_3n : Hid (WN3.ownsRow WZ.heap.size 5 1 ((.slice pb LL.length cb)) LL.length (LL.map (Value.int .u8))) := hid (own_of OB.out fun b hb' => by obtain ⟨_, _, cs', q2⟩ := own_at OB.out hb'; exact PF3 b cs' _ q2 (by decide) (by decide))
  clear PF3 PB3 KN3 hg3 hw3 ho3 hg3' hw3' cb3 bk13 BL3
  obtain ⟨WL4, HWL4⟩ : ∃ W : World, Hid (WN3.alloc (.cells #[(.slice pb LL.length cb)] 36) = W) := ⟨_, hid rfl⟩
  have BL4 : Below WN3.heap.size WN3 WL4 := by rw [← HWL4.out]; exact (Below.refl _ _).alloc (Nat.le_refl _) _
  have KL4 : Hid (BK w0.heap.size w.heap.size WZ.heap.size WL4 g (.slice pv3 (bs.length + 1) cv3) vw vi vm (xb ++ [(.slice pa LL.length ca)]) xw xi xm (bs ++ [LL]) bs is is) := hid (KBN3.out.below BL4)
  have CL4 : Hid (WL4.cell? ⟨WN3.heap.size, 0, none⟩ = some ((.slice pb LL.length cb))) := hid (by rw [cell_of_row _ _ _ _ _ _ (show WL4.heap[WN3.heap.size]? = some (.cells #[(.slice pb LL.length cb)] 36 (0, 0)) by rw [← HWL4.out]; exact heap_alloc_new _ _)]; rfl)
  have cb4 : WN3.cell? ⟨g, 1, none⟩ = some vw := by rw [cell_of_row _ _ _ _ _ _ KBN3.out.blk]; rfl
  have nl4 : Hid (bs.length + 1 ≤ 4194304) := hid (by omega)
  go_wp2_with (first | rw [HWN3.out] | rw [HWL4.out] | (at_builtin; refine wpList_appb rfl _ _ rfl w0.heap.size vw bs.length xw rfl KL4.out.rw' ⟨WN3.heap.size, 0, none⟩ 1 _ rfl rfl CL4.out nl4.out KL4.out.low ?_) | fail)
  intro v14 w14 ho4 hg4 hw4
  have hg4' : (WN3.alloc (.cells #[(.slice pb LL.length cb)] 36)).grownBy w14 vw.ownBlock := by rw [HWL4.out]; exact hg4
  have hw4' : v14.ownBlock = vw.ownBlock ∨ (v14.ownBlock = some (WN3.alloc (.cells #[(.slice pb LL.length cb)] 36)).heap.size ∧ (WN3.alloc (.cells #[(.slice pb LL.length cb)] 36)).grownBy w14 none) := by rw [HWL4.out]; exact hw4
  obtain ⟨PF4, PB4⟩ := push_frame (i := 1) (v' := v14) KBN3.out.rw' KBN3.out.blk hgB KBN3.out.low hg4'
  have KN4 := KBN3.out.push_w (own_low OB_3n.out AFZ.out.bel.size) HLB.out (fun b hb' => own_ge OB_3n.out hb') (fun b hb' j hj => fun q => by have q1 := XWE.out j hj b q; have q2 := own_ge OB_3n.out hb'; have := sw.out; omega) ho4 hg4' hw4'
  have bk14 : w14.heap[g]? = some (.cells #[(.slice pv3 (bs.length + 1) cv3), vw, vi, vm] TB (0, 0)) := (grow_keeps hg4' (Array.getElem?_eq_some_iff.1 KBN3.out.blk).1 (fun q => by
    obtain ⟨_, _, cs', q2⟩ := own_at KBN3.out.rw' q
    rw [KBN3.out.blk] at q2
    simp only [Option.some.injEq, Obj.cells.injEq] at q2
    exact absurd q2.2.1 (by decide))).trans KBN3.out.blk
  have cc4 : w14.cell? ⟨g, 1, none⟩ = some vw := by rw [cell_of_row _ _ _ _ _ _ bk14]; rfl
  have ff4 := free_of bk14 1
  obtain ⟨pv4, cv4, ev4⟩ := own_slice ho4
  subst ev4
  obtain ⟨WN4, HWN4⟩ : ∃ W : World, Hid (w14.setCell ⟨g, 1, none⟩ (.slice pv4 (bs.length + 1) cv4) = W) := ⟨_, hid rfl⟩
  rw [HWN4.out] at PF4 PB4 KN4
  have BN4 : Below w0.heap.size w0 WN4 := AFN3.out.bel.trans PB4
  have AFN4 : Hid (AF w0 WN4 w.heap.size w.heap.size W5.heap.size (W5.heap.size + 1) m mz mr (.slice (some ⟨gq, 0, none⟩) (qb.length + 70) cq) (.slice (some ⟨gr, 0, none⟩) (rb.length + 70) cr) (.slice (some ⟨gn, 0, none⟩) (ns.length + 70) cn) (.slice (some ⟨gd, 0, none⟩) (db.length + 70) cd) qb rb ns db) := hid (AFN3.out.of BN4 fun b cs T q n1 n2 n3 => PF4 b cs T q n1 n2)
  have KBN4 : Hid (BK w0.heap.size w.heap.size WZ.heap.size WN4 g (.slice pv3 (bs.length + 1) cv3) (.slice pv4 (bs.length + 1) cv4) vi vm (xb ++ [(.slice pa LL.length ca)]) (xw ++ [(.slice pb LL.length cb)]) xi xm (bs ++ [LL]) (bs ++ [LL]) is is) := hid KN4
  have OA_4n : Hid (WN4.ownsRow WZ.heap.size 5 1 ((.slice pa LL.length ca)) LL.length (LL.map (Value.int .u8))) := hid (own_of OA_3n.out fun b hb' => by obtain ⟨_, _, cs', q2⟩ := own_at OA_3n.out hb'; exact PF4 b cs' _ q2 (by decide) (by decide))
  have OB_4n : Hid (WN4.ownsRow WZ.heap.size 5 1 ((.slice pb LL.length cb)) LL.length (LL.map (Value.int .u8))) := hid (own_of OB_3n.out fun b hb' => by obtain ⟨_, _, cs', q2⟩ := own_at OB_3n.out hb'; exact PF4 b cs' _ q2 (by decide) (by decide))
  clear PF4 PB4 KN4 hg4 hw4 ho4 hg4' hw4' cb4 bk14 BL4
  have KQ : Hid (∀ W, AF w0 W w.heap.size w.heap.size W5.heap.size (W5.heap.size + 1) m mz mr (.slice (some ⟨gq, 0, none⟩) (qb.length + 70) cq) (.slice (some ⟨gr, 0, none⟩) (rb.length + 70) cr) (.slice (some ⟨gn, 0, none⟩) (ns.length + 70) cn) (.slice (some ⟨gd, 0, none⟩) (db.length + 70) cd) qb rb ns db → Calls Try.prog 30 #[.slice (some ⟨gq, 0, none⟩) (qb.length + 70) cq, (.slice qp qb.length qc)] W fun e w' => e = .returned (.bool true) ∧ Below W.heap.size W w') := hid (fun W hW => by
    have := kept_any W _ _ (lent qb) qb (lent_cut hW.oq H0.out.q.2).2 (OPW.out W hW.bel).q (by omega)
    rw [decide_eq_true rfl] at this
    exact this)
  have KR : Hid (∀ W, AF w0 W w.heap.size w.heap.size W5.heap.size (W5.heap.size + 1) m mz mr (.slice (some ⟨gq, 0, none⟩) (qb.length + 70) cq) (.slice (some ⟨gr, 0, none⟩) (rb.length + 70) cr) (.slice (some ⟨gn, 0, none⟩) (ns.length + 70) cn) (.slice (some ⟨gd, 0, none⟩) (db.length + 70) cd) qb rb ns db → Calls Try.prog 30 #[.slice (some ⟨gr, 0, none⟩) (rb.length + 70) cr, (.slice rp rb.length rc)] W fun e w' => e = .returned (.bool true) ∧ Below W.heap.size W w') := hid (fun W hW => by
    have := kept_any W _ _ (lent rb) rb (lent_cut hW.or' H0.out.r'.2).2 (OPW.out W hW.bel).r' (by omega)
    rw [decide_eq_true rfl] at this
    exact this)
  have KN : Hid (∀ W, AF w0 W w.heap.size w.heap.size W5.heap.size (W5.heap.size + 1) m mz mr (.slice (some ⟨gq, 0, none⟩) (qb.length + 70) cq) (.slice (some ⟨gr, 0, none⟩) (rb.length + 70) cr) (.slice (some ⟨gn, 0, none⟩) (ns.length + 70) cn) (.slice (some ⟨gd, 0, none⟩) (db.length + 70) cd) qb rb ns db → Calls Try.prog 31 #[.slice (some ⟨gn, 0, none⟩) (ns.length + 70) cn, (.slice np ns.length nc)] W fun e w' => e = .returned (.bool true) ∧ Below W.heap.size W w') := hid (fun W hW => by
    have := I.kept_any W _ _ (I.lent ns) ns (lent_cutI hW.on H0.out.n.2).2 (OPW.out W hW.bel).n (by omega)
    rw [decide_eq_true rfl] at this
    exact this)
  have KD : Hid (∀ W, AF w0 W w.heap.size w.heap.size W5.heap.size (W5.heap.size + 1) m mz mr (.slice (some ⟨gq, 0, none⟩) (qb.length + 70) cq) (.slice (some ⟨gr, 0, none⟩) (rb.length + 70) cr) (.slice (some ⟨gn, 0, none⟩) (ns.length + 70) cn) (.slice (some ⟨gd, 0, none⟩) (db.length + 70) cd) qb rb ns db → Calls Try.prog 30 #[.slice (some ⟨gd, 0, none⟩) (db.length + 70) cd, (.slice dp db.length dc)] W fun e w' => e = .returned (.bool true) ∧ Below W.heap.size W w') := hid (fun W hW => by
    have := kept_any W _ _ (lent db) db (lent_cut hW.od H0.out.d.2).2 (OPW.out W hW.bel).d (by omega)
    rw [decide_eq_true rfl] at this
    exact this)
  obtain ⟨-, yk23, yk25, yk26, yk27⟩ := KX.out WN4 AFN4.out.fP
  go_wp2_with (first | rw [HWN4.out] | fail)
  refine (KQ.out _ AFN4.out).mono ?_
  rintro e K0 ⟨rfl, hbk0⟩
  clear yk23 yk25 yk26 yk27
  have AF5 : Hid (AF w0 K0 w.heap.size w.heap.size W5.heap.size (W5.heap.size + 1) m mz mr (.slice (some ⟨gq, 0, none⟩) (qb.length + 70) cq) (.slice (some ⟨gr, 0, none⟩) (rb.length + 70) cr) (.slice (some ⟨gn, 0, none⟩) (ns.length + 70) cn) (.slice (some ⟨gd, 0, none⟩) (db.length + 70) cd) qb rb ns db) := hid (AFN4.out.below hbk0)
  have KB5 : Hid (BK w0.heap.size w.heap.size WZ.heap.size K0 g (.slice pv3 (bs.length + 1) cv3) (.slice pv4 (bs.length + 1) cv4) vi vm (xb ++ [(.slice pa LL.length ca)]) (xw ++ [(.slice pb LL.length cb)]) xi xm (bs ++ [LL]) (bs ++ [LL]) is is) := hid (KBN4.out.below hbk0)
  obtain ⟨-, yk23, yk25, yk26, yk27⟩ := KX.out K0 AF5.out.fP
  go_wp2_with (first | fail)
  refine (KR.out _ AF5.out).mono ?_
  rintro e K1 ⟨rfl, hbk1⟩
  clear yk23 yk25 yk26 yk27
  have AF6 : Hid (AF w0 K1 w.heap.size w.heap.size W5.heap.size (W5.heap.size + 1) m mz mr (.slice (some ⟨gq, 0, none⟩) (qb.length + 70) cq) (.slice (some ⟨gr, 0, none⟩) (rb.length + 70) cr) (.slice (some ⟨gn, 0, none⟩) (ns.length + 70) cn) (.slice (some ⟨gd, 0, none⟩) (db.length + 70) cd) qb rb ns db) := hid (AF5.out.below hbk1)
  have KB6 : Hid (BK w0.heap.size w.heap.size WZ.heap.size K1 g (.slice pv3 (bs.length + 1) cv3) (.slice pv4 (bs.length + 1) cv4) vi vm (xb ++ [(.slice pa LL.length ca)]) (xw ++ [(.slice pb LL.length cb)]) xi xm (bs ++ [LL]) (bs ++ [LL]) is is) := hid (KB5.out.below hbk1)
  obtain ⟨-, yk23, yk25, yk26, yk27⟩ := KX.out K1 AF6.out.fP
  go_wp2_with (first | fail)
  refine (KN.out _ AF6.out).mono ?_
  rintro e K2 ⟨rfl, hbk2⟩
  clear yk23 yk25 yk26 yk27
  have AF7 : Hid (AF w0 K2 w.heap.size w.heap.size W5.heap.size (W5.heap.size + 1) m mz mr (.slice (some ⟨gq, 0, none⟩) (qb.length + 70) cq) (.slice (some ⟨gr, 0, none⟩) (rb.length + 70) cr) (.slice (some ⟨gn, 0, none⟩) (ns.length + 70) cn) (.slice (some ⟨gd, 0, none⟩) (db.length + 70) cd) qb rb ns db) := hid (AF6.out.below hbk2)
  have KB7 : Hid (BK w0.heap.size w.heap.size WZ.heap.size K2 g (.slice pv3 (bs.length + 1) cv3) (.slice pv4 (bs.length + 1) cv4) vi vm (xb ++ [(.slice pa LL.length ca)]) (xw ++ [(.slice pb LL.length cb)]) xi xm (bs ++ [LL]) (bs ++ [LL]) is is) := hid (KB6.out.below hbk2)
  obtain ⟨-, yk23, yk25, yk26, yk27⟩ := KX.out K2 AF7.out.fP
  go_wp2_with (first | fail)
  refine (KD.out _ AF7.out).mono ?_
  rintro e K3 ⟨rfl, hbk3⟩
  clear yk23 yk25 yk26 yk27
  have AF8 : Hid (AF w0 K3 w.heap.size w.heap.size W5.heap.size (W5.heap.size + 1) m mz mr (.slice (some ⟨gq, 0, none⟩) (qb.length + 70) cq) (.slice (some ⟨gr, 0, none⟩) (rb.length + 70) cr) (.slice (some ⟨gn, 0, none⟩) (ns.length + 70) cn) (.slice (some ⟨gd, 0, none⟩) (db.length + 70) cd) qb rb ns db) := hid (AF7.out.below hbk3)
  have KB8 : Hid (BK w0.heap.size w.heap.size WZ.heap.size K3 g (.slice pv3 (bs.length + 1) cv3) (.slice pv4 (bs.length + 1) cv4) vi vm (xb ++ [(.slice pa LL.length ca)]) (xw ++ [(.slice pb LL.length cb)]) xi xm (bs ++ [LL]) (bs ++ [LL]) is is) := hid (KB7.out.below hbk3)
  have lq := lent_length qb
  have lr := lent_length rb
  have ln := I.lent_length ns
  have ld := lent_length db
  have OVq := hid (over_any K3 w.heap.size _ _ _ AF8.out.oq (by omega))
  go_wp2_with fail
  refine OVq.out.mono ?_
  rintro e V0 ⟨rfl, -, hgv0⟩
  have KV0 : Hid (BK w0.heap.size w.heap.size WZ.heap.size V0 g (.slice pv3 (bs.length + 1) cv3) (.slice pv4 (bs.length + 1) cv4) vi vm (xb ++ [(.slice pa LL.length ca)]) (xw ++ [(.slice pb LL.length cb)]) xi xm (bs ++ [LL]) (bs ++ [LL]) is is) := hid (KB8.out.over hgv0 (fun b e => by
    have e' : gq = b := Option.some.inj e
    subst e'
    obtain ⟨_, _, cs', q2⟩ := own_at AF8.out.oq rfl
    exact ⟨by have := ORD.out; have := HWZ5.out; omega, cs', _, q2, .inl rfl⟩))
  have BV0 : Below w0.heap.size w0 V0 := (AF8.out.bel).grown hgv0 (AF8.out.bel).size (fun b e => by have e' : gq = b := Option.some.inj e; subst e'; have := ORD.out; have := (BW.out w (Below.refl _ _)).size; omega)
  have owr0 := own_of AF8.out.or' (w' := V0) fun b hb' => hgv0.block b (own_at AF8.out.or' hb').1 (fun e => by have e1 : gr = b := Option.some.inj hb'; have e2 : b = gq := Option.some.inj e; have := ORD.out; omega)
  have own0 := own_of AF8.out.on (w' := V0) fun b hb' => hgv0.block b (own_at AF8.out.on hb').1 (fun e => by have e1 : gn = b := Option.some.inj hb'; have e2 : b = gq := Option.some.inj e; have := ORD.out; omega)
  have owd0 := own_of AF8.out.od (w' := V0) fun b hb' => hgv0.block b (own_at AF8.out.od hb').1 (fun e => by have e1 : gd = b := Option.some.inj hb'; have e2 : b = gq := Option.some.inj e; have := ORD.out; omega)
  have OVr := hid (over_any V0 w.heap.size _ _ _ owr0 (by omega))
  go_wp2_with fail
  refine OVr.out.mono ?_
  rintro e V1 ⟨rfl, -, hgv1⟩
  have KV1 : Hid (BK w0.heap.size w.heap.size WZ.heap.size V1 g (.slice pv3 (bs.length + 1) cv3) (.slice pv4 (bs.length + 1) cv4) vi vm (xb ++ [(.slice pa LL.length ca)]) (xw ++ [(.slice pb LL.length cb)]) xi xm (bs ++ [LL]) (bs ++ [LL]) is is) := hid (KV0.out.over hgv1 (fun b e => by
    have e' : gr = b := Option.some.inj e
    subst e'
    obtain ⟨_, _, cs', q2⟩ := own_at owr0 rfl
    exact ⟨by have := ORD.out; have := HWZ5.out; omega, cs', _, q2, .inl rfl⟩))
  have BV1 : Below w0.heap.size w0 V1 := (BV0).grown hgv1 (BV0).size (fun b e => by have e' : gr = b := Option.some.inj e; subst e'; have := ORD.out; have := (BW.out w (Below.refl _ _)).size; omega)
  have own1 := own_of own0 (w' := V1) fun b hb' => hgv1.block b (own_at own0 hb').1 (fun e => by have e1 : gn = b := Option.some.inj hb'; have e2 : b = gr := Option.some.inj e; have := ORD.out; omega)
  have owd1 := own_of owd0 (w' := V1) fun b hb' => hgv1.block b (own_at owd0 hb').1 (fun e => by have e1 : gd = b := Option.some.inj hb'; have e2 : b = gr := Option.some.inj e; have := ORD.out; omega)
  have OVn := hid (I.over_any V1 w.heap.size _ _ _ own1 (by omega))
  go_wp2_with fail
  refine OVn.out.mono ?_
  rintro e V2 ⟨rfl, -, hgv2⟩
  have KV2 : Hid (BK w0.heap.size w.heap.size WZ.heap.size V2 g (.slice pv3 (bs.length + 1) cv3) (.slice pv4 (bs.length + 1) cv4) vi vm (xb ++ [(.slice pa LL.length ca)]) (xw ++ [(.slice pb LL.length cb)]) xi xm (bs ++ [LL]) (bs ++ [LL]) is is) := hid (KV1.out.over hgv2 (fun b e => by
    have e' : gn = b := Option.some.inj e
    subst e'
    obtain ⟨_, _, cs', q2⟩ := own_at own1 rfl
    exact ⟨by have := ORD.out; have := HWZ5.out; omega, cs', _, q2, .inr rfl⟩))
  have BV2 : Below w0.heap.size w0 V2 := (BV1).grown hgv2 (BV1).size (fun b e => by have e' : gn = b := Option.some.inj e; subst e'; have := ORD.out; have := (BW.out w (Below.refl _ _)).size; omega)
  have owd2 := own_of owd1 (w' := V2) fun b hb' => hgv2.block b (own_at owd1 hb').1 (fun e => by have e1 : gd = b := Option.some.inj hb'; have e2 : b = gn := Option.some.inj e; have := ORD.out; omega)
  have OVd := hid (over_any V2 w.heap.size _ _ _ owd2 (by omega))
  go_wp2_with fail
  refine OVd.out.mono ?_
  rintro e V3 ⟨rfl, -, hgv3⟩
  have KV3 : Hid (BK w0.heap.size w.heap.size WZ.heap.size V3 g (.slice pv3 (bs.length + 1) cv3) (.slice pv4 (bs.length + 1) cv4) vi vm (xb ++ [(.slice pa LL.length ca)]) (xw ++ [(.slice pb LL.length cb)]) xi xm (bs ++ [LL]) (bs ++ [LL]) is is) := hid (KV2.out.over hgv3 (fun b e => by
    have e' : gd = b := Option.some.inj e
    subst e'
    obtain ⟨_, _, cs', q2⟩ := own_at owd2 rfl
    exact ⟨by have := ORD.out; have := HWZ5.out; omega, cs', _, q2, .inl rfl⟩))
  have BV3 : Below w0.heap.size w0 V3 := (BV2).grown hgv3 (BV2).size (fun b e => by have e' : gd = b := Option.some.inj e; subst e'; have := ORD.out; have := (BW.out w (Below.refl _ _)).size; omega)
  go_wp2_with fail
  go_ret
  refine ⟨rfl, ⟨_, _, _, _, _, _, _, _, _, _, KV3.out.reset _, ?_, ?_, ?_, ?_⟩, BV3⟩
  · rw [List.length_append, List.length_singleton]; omega
  · omega
  · exact fun l hl => (List.mem_append.1 hl).elim (hl3 l) fun q => by rw [List.mem_singleton.1 q]; exact HLN.out
  · exact hl4
set_option maxRecDepth 100000 in
set_option maxHeartbeats 32000000 in
theorem rrep_2 (w : World) (v : Value) (l : List Int) (h : HB w v l) (hl : 0 < l.length) (hbig : l.length ≤ 140737488355328) (hk : l.getD 0 0 = 2) :
    Calls Try.prog 27 #[v] w fun e w' => DocP w l e w' ∧ Below w.heap.size w w' := by
  obtain ⟨q, c, e, hlc, hm⟩ := h.open
  have hby := h.byte
  have A : Hid (∀ W, Below w.heap.size w W → ∀ j, j < l.length → ∃ b off, q = some ⟨b, off, none⟩ ∧ W.cell? ⟨b, off + j, none⟩ = some (.int .u8 (l.getD j 0))) := hid (fun W hW j hj => by
    obtain ⟨b, off, c', e', _, _, hh⟩ := (h.below hW).ne (by omega)
    rw [e] at e'
    simp only [Value.slice.injEq, true_and] at e'
    exact ⟨b, off, e'.1, hh j hj⟩)
  subst e
  obtain ⟨b, off, rfl, -⟩ := A.out w (Below.refl _ _) 0 (by omega)
  have A' : Hid (∀ W, Below w.heap.size w W → ∀ j, j < l.length → W.cell? ⟨b, off + j, none⟩ = some (.int .u8 (l.getD j 0))) := hid (fun W hW j hj => by
    obtain ⟨b', off', e', hh⟩ := A.out W hW j hj
    cases e'
    exact hh)
  have VB : Hid (∀ W, Below w.heap.size w W → HB W (.slice (some ⟨b, off, none⟩) l.length c) l) := hid (fun W hW => h.below hW)
  have HBY := hid hby
  have HBY2 := hid h.2
  obtain ⟨W1, HW1⟩ : ∃ W : World, Hid (w.alloc (.cells zrep 42) = W) := ⟨_, hid rfl⟩
  have Z1 : W1.heap.size = w.heap.size + 1 := by rw [← HW1.out]; simp
  obtain ⟨W2, HW2⟩ : ∃ W : World, Hid (W1.alloc (.cells zrep 42) = W) := ⟨_, hid rfl⟩
  have Z2 : W2.heap.size = w.heap.size + 2 := by rw [← HW2.out]; simp [Z1]
  have B1 : Below w.heap.size w W1 := by rw [← HW1.out]; exact (Below.refl _ w).alloc (Nat.le_refl _) _
  have B2' : Below W1.heap.size W1 W2 := by rw [← HW2.out]; exact (Below.refl _ W1).alloc (Nat.le_refl _) _
  have B2 : Hid (Below w.heap.size w W2) := hid (B1.trans (B2'.mono B1.size))
  have x0 : W1.heap[w.heap.size]? = some (.cells zrp 42 (0, 0)) := by rw [← HW1.out]; exact heap_alloc_new w _
  have x0b : W2.heap[w.heap.size]? = some (.cells zrp 42 (0, 0)) := (B2'.block _ (by omega)).trans x0
  have X0 := hid x0b
  have x1 : W2.heap[w.heap.size + 1]? = some (.cells zrp 42 (0, 0)) := by rw [← Z1, ← HW2.out]; exact heap_alloc_new W1 _
  have RG1 : Hid (W2.rangeAt (w.heap.size + 1) 0 zrp.toList) := hid (fun j v hj => by rw [cell_of_row _ _ _ _ _ _ x1, Nat.zero_add, ← Array.getElem?_toList]; exact hj)
  have ANS : Hid ((W2.setRow w.heap.size zrp).heap[w.heap.size]? = some (.cells zrp 42 (0, 0)) ∧ Below w.heap.size w (W2.setRow w.heap.size zrp)) := hid ⟨setRow_heap _ _ _ _ _ _ X0.out, B2.out.trans ((ex_setRow (Ex.refl (fun k => k = w.heap.size) W2) rfl zrp).below B2.out.size (fun k e => by omega))⟩
  have SR : Hid ((Try.prog.info? 42).map (·.size) = some 3) := hid (by kernel_rfl)
  have HZ1 := hid Z1
  have HZ2 := hid Z2
  obtain ⟨WA, HWA⟩ : ∃ W : World, Hid (W2.alloc (.cells zrep 42) = W) := ⟨_, hid rfl⟩
  obtain ⟨m0, HM0⟩ : ∃ m, Hid (rpA 2 nlS nlS = m) := ⟨_, hid rfl⟩
  obtain ⟨W3, HW3⟩ : ∃ W : World, Hid (WA.setRow (w.heap.size + 2) m0 = W) := ⟨_, hid rfl⟩
  have B3' : Below W2.heap.size W2 WA := by rw [← HWA.out]; exact (Below.refl _ W2).alloc (Nat.le_refl _) _
  have xA : WA.heap[w.heap.size + 2]? = some (.cells zrp 42 (0, 0)) := by rw [← Z2, ← HWA.out]; exact heap_alloc_new W2 _
  have HXA := hid xA
  have xk : ∀ i, i ≠ w.heap.size + 2 → W3.heap[i]? = WA.heap[i]? := fun i hi => by rw [← HW3.out]; simp [World.setRow, Array.getElem?_modify, show w.heap.size + 2 ≠ i from fun e => hi e.symm]
  have x3 : W3.heap[w.heap.size + 2]? = some (.cells m0 42 (0, 0)) := by rw [← HW3.out]; exact setRow_heap _ _ _ _ _ _ xA
  have HS : Hid (RP w W3 2 nlS nlS) := hid ⟨(xk _ (by omega)).trans ((B3'.block _ (by omega)).trans x0b), (xk _ (by omega)).trans ((B3'.block _ (by omega)).trans x1), by rw [HM0.out]; exact x3, by
    have q1 := B2.out.trans (B3'.mono B2.out.size)
    refine q1.trans ?_
    rw [← HW3.out]
    exact (ex_setRow (Ex.refl (fun k => k = w.heap.size + 2) WA) rfl m0).below q1.size (fun k e => by omega)⟩
  have hb0 : Hid (∀ W, (Instr.build 42 #[(0, .int .u8 2)]).run Try.prog W = .ok (.agg m0) W) := hid (fun W => by
    rw [← HM0.out]
    kernel_rfl)
  have hm0 : Hid (m0.size = 3) := hid (by rw [← HM0.out]; rfl)
  have hm1 : Hid (m0.all (·.oneCell') = true) := hid (by rw [← HM0.out]; exact rpA_one _ _ _ rfl rfl)
  have a0 := A'.out W2 B2.out 0 (by omega)
  have a0' : W2.cell? ⟨b, off, none⟩ = some (.int .u8 2) := by rw [← hk]; exact a0
  have hk0 : W3.cell? ⟨w.heap.size + 2, 0, none⟩ = some (.int .u8 2) := HS.out.cell rfl
  have hwl : IntKind.u64.wrap (l.length : Int) = (l.length : Int) := by rw [IntKind.wrap_u64]; omega
  have hl1 : (0 : Int) < (l.length : Int) := by omega
  have hl0 : ¬ ((l.length : Int) = 0) := by omega
  have hl0' : ¬ (l.length = 0) := by omega
  have hl0'' : ¬ (l = []) := fun e => by rw [e] at hl; simp at hl
  have DP : Hid (dpP l = if l.length < 1 then some (l.length : Int) else if 1 < l.length then some ((1 : Nat) : Int) else none) := hid (by
    unfold dpP dpF dpE dpN
    rw [hk, if_neg (by omega)]
    simp only [show ((2 : Int) = 1) = False by simp, show ((2 : Int) = 5) = False by simp, if_false, Nat.add_zero]
    rw [if_neg (by omega)])
  have g0 : ¬ ((l.length : Int) < 1) := by omega
  clear A x0 x0b x1 B2' B3' B1 Z1 Z2 h xA xk x3 a0 hby
  go_enter Try.func27, Try.ntmps27
  refine wp_seq_k fun K0 h0 => ?_
  have H0 := hid h0
  clear h0
  go_wp2
  rw [HW1.out]
  refine H0.out _ _ ?_
  refine wp_seq_k fun K0 h0 => ?_
  have H0 := hid h0
  clear h0
  go_wp2
  rw [HW2.out, HZ1.out]
  refine H0.out _ _ ?_
  by_cases g1 : 1 < l.length
  · have g1' : (1 : Int) < (l.length : Int) := by omega
    go_wp2_with (first | (refine wpList_buildQ rfl 42 _ rfl #[(0, .int .u8 2)] (by go_simp) _ (hb0.out _) ?_) | rw [HWA.out, HZ2.out] | (refine wpList_store_row rfl 42 _ _ rfl (w.heap.size + 2) m0 rfl rfl 42 zrp HXA.out (by rw [hm0.out]; exact SR.out) (by rw [zrp_size, hm0.out]) hm1.out ?_) | rw [HW3.out] | (refine wpList_load_mid rfl 42 _ rfl (w.heap.size + 1) 0 rfl zrp.toList _ HS.out.rng1 Try.underlying42 rfl SR.out ?_; rw [Array.toArray_toList]) | (refine wpList_store_row rfl 42 _ _ rfl w.heap.size zrp rfl rfl 42 zrp HS.out.x0 SR.out rfl zrp_one ?_) | fail)
    refine bodyPost_ret (v := .tuple #[.agg zrp, .int .i64 1, .int .i64 201]) (results_cellTT (p := 2) (q := 3) (q' := 4) (ty := 42) rfl _ _ w.heap.size 42 _ (0, 0) _ _ _ rfl rfl rfl (HS.out.ans _).1 Try.underlying42 rfl SR.out) rfl ?_
    exact ⟨.inl ⟨1, by rw [DP.out, if_neg (by omega), if_pos g1]; rfl, rfl⟩, (HS.out.ans _).2⟩
  have g1' : ¬ ((1 : Int) < (l.length : Int)) := by omega
  have RGE : Hid (_) := hid HS.out.rng
  have hon : Hid ((rpA 2 nlS nlS).all (·.oneCell') = true) := hid (rpA_one _ _ _ rfl rfl)
  have hs3 : Hid ((rpA 2 nlS nlS).size = 3) := hid rfl
  obtain ⟨mm, HMM⟩ : ∃ x, Hid (rpA 2 nlS nlS = x) := ⟨_, hid rfl⟩
  rw [HMM.out] at RGE hon hs3
  have hsl : Hid ((Try.prog.info? 42).map (·.size) = some mm.toList.length) := hid (by rw [Array.length_toList, hs3.out]; exact SR.out)
  go_wp2_with (first | (refine wpList_buildQ rfl 42 _ rfl #[(0, .int .u8 2)] (by go_simp) _ (hb0.out _) ?_) | rw [HWA.out, HZ2.out] | (refine wpList_store_row rfl 42 _ _ rfl (w.heap.size + 2) m0 rfl rfl 42 zrp HXA.out (by rw [hm0.out]; exact SR.out) (by rw [zrp_size, hm0.out]) hm1.out ?_) | rw [HW3.out] | (refine wpList_load_mid rfl 42 _ rfl (w.heap.size + 2) 0 rfl mm.toList _ RGE.out Try.underlying42 rfl hsl.out ?_; rw [Array.toArray_toList]) | (refine wpList_store_row rfl 42 _ _ rfl w.heap.size mm rfl rfl 42 zrp HS.out.x0 (by rw [hs3.out]; exact SR.out) (by rw [hs3.out]; rfl) hon.out ?_) | fail)
  all_goals
    refine bodyPost_ret (v := .tuple #[.agg mm, .int .i64 0, .int .i64 0]) (results_cellTT (p := 2) (q := 3) (q' := 4) (ty := 42) rfl _ _ w.heap.size 42 _ (0, 0) _ _ _ rfl rfl rfl (HS.out.ans _).1 Try.underlying42 rfl (by rw [hs3.out]; exact SR.out)) rfl ?_
    refine ⟨.inr ⟨by rw [DP.out, if_neg (by omega), if_neg (by omega)], nlS, nlS, by rw [hk, HMM.out], ?_, ?_⟩, (HS.out.ans _).2⟩
    · rw [hk]; exact World.ownsRow_nil _ _ _ _
    · rw [hk]; exact World.ownsRow_nil _ _ _ _
set_option maxRecDepth 100000 in
set_option maxHeartbeats 32000000 in
theorem rrep_3 (w : World) (v : Value) (l : List Int) (h : HB w v l) (hl : 0 < l.length) (hbig : l.length ≤ 140737488355328) (hk : l.getD 0 0 = 3) :
    Calls Try.prog 27 #[v] w fun e w' => DocP w l e w' ∧ Below w.heap.size w w' := by
  obtain ⟨q, c, e, hlc, hm⟩ := h.open
  have hby := h.byte
  have A : Hid (∀ W, Below w.heap.size w W → ∀ j, j < l.length → ∃ b off, q = some ⟨b, off, none⟩ ∧ W.cell? ⟨b, off + j, none⟩ = some (.int .u8 (l.getD j 0))) := hid (fun W hW j hj => by
    obtain ⟨b, off, c', e', _, _, hh⟩ := (h.below hW).ne (by omega)
    rw [e] at e'
    simp only [Value.slice.injEq, true_and] at e'
    exact ⟨b, off, e'.1, hh j hj⟩)
  subst e
  obtain ⟨b, off, rfl, -⟩ := A.out w (Below.refl _ _) 0 (by omega)
  have A' : Hid (∀ W, Below w.heap.size w W → ∀ j, j < l.length → W.cell? ⟨b, off + j, none⟩ = some (.int .u8 (l.getD j 0))) := hid (fun W hW j hj => by
    obtain ⟨b', off', e', hh⟩ := A.out W hW j hj
    cases e'
    exact hh)
  have VB : Hid (∀ W, Below w.heap.size w W → HB W (.slice (some ⟨b, off, none⟩) l.length c) l) := hid (fun W hW => h.below hW)
  have HBY := hid hby
  have HBY2 := hid h.2
  obtain ⟨W1, HW1⟩ : ∃ W : World, Hid (w.alloc (.cells zrep 42) = W) := ⟨_, hid rfl⟩
  have Z1 : W1.heap.size = w.heap.size + 1 := by rw [← HW1.out]; simp
  obtain ⟨W2, HW2⟩ : ∃ W : World, Hid (W1.alloc (.cells zrep 42) = W) := ⟨_, hid rfl⟩
  have Z2 : W2.heap.size = w.heap.size + 2 := by rw [← HW2.out]; simp [Z1]
  have B1 : Below w.heap.size w W1 := by rw [← HW1.out]; exact (Below.refl _ w).alloc (Nat.le_refl _) _
  have B2' : Below W1.heap.size W1 W2 := by rw [← HW2.out]; exact (Below.refl _ W1).alloc (Nat.le_refl _) _
  have B2 : Hid (Below w.heap.size w W2) := hid (B1.trans (B2'.mono B1.size))
  have x0 : W1.heap[w.heap.size]? = some (.cells zrp 42 (0, 0)) := by rw [← HW1.out]; exact heap_alloc_new w _
  have x0b : W2.heap[w.heap.size]? = some (.cells zrp 42 (0, 0)) := (B2'.block _ (by omega)).trans x0
  have X0 := hid x0b
  have x1 : W2.heap[w.heap.size + 1]? = some (.cells zrp 42 (0, 0)) := by rw [← Z1, ← HW2.out]; exact heap_alloc_new W1 _
  have RG1 : Hid (W2.rangeAt (w.heap.size + 1) 0 zrp.toList) := hid (fun j v hj => by rw [cell_of_row _ _ _ _ _ _ x1, Nat.zero_add, ← Array.getElem?_toList]; exact hj)
  have ANS : Hid ((W2.setRow w.heap.size zrp).heap[w.heap.size]? = some (.cells zrp 42 (0, 0)) ∧ Below w.heap.size w (W2.setRow w.heap.size zrp)) := hid ⟨setRow_heap _ _ _ _ _ _ X0.out, B2.out.trans ((ex_setRow (Ex.refl (fun k => k = w.heap.size) W2) rfl zrp).below B2.out.size (fun k e => by omega))⟩
  have SR : Hid ((Try.prog.info? 42).map (·.size) = some 3) := hid (by kernel_rfl)
  have HZ1 := hid Z1
  have HZ2 := hid Z2
  obtain ⟨WA, HWA⟩ : ∃ W : World, Hid (W2.alloc (.cells zrep 42) = W) := ⟨_, hid rfl⟩
  obtain ⟨m0, HM0⟩ : ∃ m, Hid (rpA 3 nlS nlS = m) := ⟨_, hid rfl⟩
  obtain ⟨W3, HW3⟩ : ∃ W : World, Hid (WA.setRow (w.heap.size + 2) m0 = W) := ⟨_, hid rfl⟩
  have B3' : Below W2.heap.size W2 WA := by rw [← HWA.out]; exact (Below.refl _ W2).alloc (Nat.le_refl _) _
  have xA : WA.heap[w.heap.size + 2]? = some (.cells zrp 42 (0, 0)) := by rw [← Z2, ← HWA.out]; exact heap_alloc_new W2 _
  have HXA := hid xA
  have xk : ∀ i, i ≠ w.heap.size + 2 → W3.heap[i]? = WA.heap[i]? := fun i hi => by rw [← HW3.out]; simp [World.setRow, Array.getElem?_modify, show w.heap.size + 2 ≠ i from fun e => hi e.symm]
  have x3 : W3.heap[w.heap.size + 2]? = some (.cells m0 42 (0, 0)) := by rw [← HW3.out]; exact setRow_heap _ _ _ _ _ _ xA
  have HS : Hid (RP w W3 3 nlS nlS) := hid ⟨(xk _ (by omega)).trans ((B3'.block _ (by omega)).trans x0b), (xk _ (by omega)).trans ((B3'.block _ (by omega)).trans x1), by rw [HM0.out]; exact x3, by
    have q1 := B2.out.trans (B3'.mono B2.out.size)
    refine q1.trans ?_
    rw [← HW3.out]
    exact (ex_setRow (Ex.refl (fun k => k = w.heap.size + 2) WA) rfl m0).below q1.size (fun k e => by omega)⟩
  have hb0 : Hid (∀ W, (Instr.build 42 #[(0, .int .u8 3)]).run Try.prog W = .ok (.agg m0) W) := hid (fun W => by
    rw [← HM0.out]
    kernel_rfl)
  have hm0 : Hid (m0.size = 3) := hid (by rw [← HM0.out]; rfl)
  have hm1 : Hid (m0.all (·.oneCell') = true) := hid (by rw [← HM0.out]; exact rpA_one _ _ _ rfl rfl)
  have a0 := A'.out W2 B2.out 0 (by omega)
  have a0' : W2.cell? ⟨b, off, none⟩ = some (.int .u8 3) := by rw [← hk]; exact a0
  have hk0 : W3.cell? ⟨w.heap.size + 2, 0, none⟩ = some (.int .u8 3) := HS.out.cell rfl
  have hwl : IntKind.u64.wrap (l.length : Int) = (l.length : Int) := by rw [IntKind.wrap_u64]; omega
  have hl1 : (0 : Int) < (l.length : Int) := by omega
  have hl0 : ¬ ((l.length : Int) = 0) := by omega
  have hl0' : ¬ (l.length = 0) := by omega
  have hl0'' : ¬ (l = []) := fun e => by rw [e] at hl; simp at hl
  have DP : Hid (dpP l = if l.length < 1 then some (l.length : Int) else if 1 < l.length then some ((1 : Nat) : Int) else none) := hid (by
    unfold dpP dpF dpE dpN
    rw [hk, if_neg (by omega)]
    simp only [show ((3 : Int) = 1) = False by simp, show ((3 : Int) = 5) = False by simp, if_false, Nat.add_zero]
    rw [if_neg (by omega)])
  have g0 : ¬ ((l.length : Int) < 1) := by omega
  clear A x0 x0b x1 B2' B3' B1 Z1 Z2 h xA xk x3 a0 hby
  go_enter Try.func27, Try.ntmps27
  refine wp_seq_k fun K0 h0 => ?_
  have H0 := hid h0
  clear h0
  go_wp2
  rw [HW1.out]
  refine H0.out _ _ ?_
  refine wp_seq_k fun K0 h0 => ?_
  have H0 := hid h0
  clear h0
  go_wp2
  rw [HW2.out, HZ1.out]
  refine H0.out _ _ ?_
  by_cases g1 : 1 < l.length
  · have g1' : (1 : Int) < (l.length : Int) := by omega
    go_wp2_with (first | (refine wpList_buildQ rfl 42 _ rfl #[(0, .int .u8 3)] (by go_simp) _ (hb0.out _) ?_) | rw [HWA.out, HZ2.out] | (refine wpList_store_row rfl 42 _ _ rfl (w.heap.size + 2) m0 rfl rfl 42 zrp HXA.out (by rw [hm0.out]; exact SR.out) (by rw [zrp_size, hm0.out]) hm1.out ?_) | rw [HW3.out] | (refine wpList_load_mid rfl 42 _ rfl (w.heap.size + 1) 0 rfl zrp.toList _ HS.out.rng1 Try.underlying42 rfl SR.out ?_; rw [Array.toArray_toList]) | (refine wpList_store_row rfl 42 _ _ rfl w.heap.size zrp rfl rfl 42 zrp HS.out.x0 SR.out rfl zrp_one ?_) | fail)
    refine bodyPost_ret (v := .tuple #[.agg zrp, .int .i64 1, .int .i64 201]) (results_cellTT (p := 2) (q := 3) (q' := 4) (ty := 42) rfl _ _ w.heap.size 42 _ (0, 0) _ _ _ rfl rfl rfl (HS.out.ans _).1 Try.underlying42 rfl SR.out) rfl ?_
    exact ⟨.inl ⟨1, by rw [DP.out, if_neg (by omega), if_pos g1]; rfl, rfl⟩, (HS.out.ans _).2⟩
  have g1' : ¬ ((1 : Int) < (l.length : Int)) := by omega
  have RGE : Hid (_) := hid HS.out.rng
  have hon : Hid ((rpA 3 nlS nlS).all (·.oneCell') = true) := hid (rpA_one _ _ _ rfl rfl)
  have hs3 : Hid ((rpA 3 nlS nlS).size = 3) := hid rfl
  obtain ⟨mm, HMM⟩ : ∃ x, Hid (rpA 3 nlS nlS = x) := ⟨_, hid rfl⟩
  rw [HMM.out] at RGE hon hs3
  have hsl : Hid ((Try.prog.info? 42).map (·.size) = some mm.toList.length) := hid (by rw [Array.length_toList, hs3.out]; exact SR.out)
  go_wp2_with (first | (refine wpList_buildQ rfl 42 _ rfl #[(0, .int .u8 3)] (by go_simp) _ (hb0.out _) ?_) | rw [HWA.out, HZ2.out] | (refine wpList_store_row rfl 42 _ _ rfl (w.heap.size + 2) m0 rfl rfl 42 zrp HXA.out (by rw [hm0.out]; exact SR.out) (by rw [zrp_size, hm0.out]) hm1.out ?_) | rw [HW3.out] | (refine wpList_load_mid rfl 42 _ rfl (w.heap.size + 2) 0 rfl mm.toList _ RGE.out Try.underlying42 rfl hsl.out ?_; rw [Array.toArray_toList]) | (refine wpList_store_row rfl 42 _ _ rfl w.heap.size mm rfl rfl 42 zrp HS.out.x0 (by rw [hs3.out]; exact SR.out) (by rw [hs3.out]; rfl) hon.out ?_) | fail)
  all_goals
    refine bodyPost_ret (v := .tuple #[.agg mm, .int .i64 0, .int .i64 0]) (results_cellTT (p := 2) (q := 3) (q' := 4) (ty := 42) rfl _ _ w.heap.size 42 _ (0, 0) _ _ _ rfl rfl rfl (HS.out.ans _).1 Try.underlying42 rfl (by rw [hs3.out]; exact SR.out)) rfl ?_
    refine ⟨.inr ⟨by rw [DP.out, if_neg (by omega), if_neg (by omega)], nlS, nlS, by rw [hk, HMM.out], ?_, ?_⟩, (HS.out.ans _).2⟩
    · rw [hk]; exact World.ownsRow_nil _ _ _ _
    · rw [hk]; exact World.ownsRow_nil _ _ _ _
set_option maxRecDepth 100000 in
set_option maxHeartbeats 32000000 in
theorem rrep_4 (w : World) (v : Value) (l : List Int) (h : HB w v l) (hl : 0 < l.length) (hbig : l.length ≤ 140737488355328) (hk : l.getD 0 0 = 4) :
    Calls Try.prog 27 #[v] w fun e w' => DocP w l e w' ∧ Below w.heap.size w w' := by
  obtain ⟨q, c, e, hlc, hm⟩ := h.open
  have hby := h.byte
  have A : Hid (∀ W, Below w.heap.size w W → ∀ j, j < l.length → ∃ b off, q = some ⟨b, off, none⟩ ∧ W.cell? ⟨b, off + j, none⟩ = some (.int .u8 (l.getD j 0))) := hid (fun W hW j hj => by
    obtain ⟨b, off, c', e', _, _, hh⟩ := (h.below hW).ne (by omega)
    rw [e] at e'
    simp only [Value.slice.injEq, true_and] at e'
    exact ⟨b, off, e'.1, hh j hj⟩)
  subst e
  obtain ⟨b, off, rfl, -⟩ := A.out w (Below.refl _ _) 0 (by omega)
  have A' : Hid (∀ W, Below w.heap.size w W → ∀ j, j < l.length → W.cell? ⟨b, off + j, none⟩ = some (.int .u8 (l.getD j 0))) := hid (fun W hW j hj => by
    obtain ⟨b', off', e', hh⟩ := A.out W hW j hj
    cases e'
    exact hh)
  have VB : Hid (∀ W, Below w.heap.size w W → HB W (.slice (some ⟨b, off, none⟩) l.length c) l) := hid (fun W hW => h.below hW)
  have HBY := hid hby
  have HBY2 := hid h.2
  obtain ⟨W1, HW1⟩ : ∃ W : World, Hid (w.alloc (.cells zrep 42) = W) := ⟨_, hid rfl⟩
  have Z1 : W1.heap.size = w.heap.size + 1 := by rw [← HW1.out]; simp
  obtain ⟨W2, HW2⟩ : ∃ W : World, Hid (W1.alloc (.cells zrep 42) = W) := ⟨_, hid rfl⟩
  have Z2 : W2.heap.size = w.heap.size + 2 := by rw [← HW2.out]; simp [Z1]
  have B1 : Below w.heap.size w W1 := by rw [← HW1.out]; exact (Below.refl _ w).alloc (Nat.le_refl _) _
  have B2' : Below W1.heap.size W1 W2 := by rw [← HW2.out]; exact (Below.refl _ W1).alloc (Nat.le_refl _) _
  have B2 : Hid (Below w.heap.size w W2) := hid (B1.trans (B2'.mono B1.size))
  have x0 : W1.heap[w.heap.size]? = some (.cells zrp 42 (0, 0)) := by rw [← HW1.out]; exact heap_alloc_new w _
  have x0b : W2.heap[w.heap.size]? = some (.cells zrp 42 (0, 0)) := (B2'.block _ (by omega)).trans x0
  have X0 := hid x0b
  have x1 : W2.heap[w.heap.size + 1]? = some (.cells zrp 42 (0, 0)) := by rw [← Z1, ← HW2.out]; exact heap_alloc_new W1 _
  have RG1 : Hid (W2.rangeAt (w.heap.size + 1) 0 zrp.toList) := hid (fun j v hj => by rw [cell_of_row _ _ _ _ _ _ x1, Nat.zero_add, ← Array.getElem?_toList]; exact hj)
  have ANS : Hid ((W2.setRow w.heap.size zrp).heap[w.heap.size]? = some (.cells zrp 42 (0, 0)) ∧ Below w.heap.size w (W2.setRow w.heap.size zrp)) := hid ⟨setRow_heap _ _ _ _ _ _ X0.out, B2.out.trans ((ex_setRow (Ex.refl (fun k => k = w.heap.size) W2) rfl zrp).below B2.out.size (fun k e => by omega))⟩
  have SR : Hid ((Try.prog.info? 42).map (·.size) = some 3) := hid (by kernel_rfl)
  have HZ1 := hid Z1
  have HZ2 := hid Z2
  obtain ⟨WA, HWA⟩ : ∃ W : World, Hid (W2.alloc (.cells zrep 42) = W) := ⟨_, hid rfl⟩
  obtain ⟨m0, HM0⟩ : ∃ m, Hid (rpA 4 nlS nlS = m) := ⟨_, hid rfl⟩
  obtain ⟨W3, HW3⟩ : ∃ W : World, Hid (WA.setRow (w.heap.size + 2) m0 = W) := ⟨_, hid rfl⟩
  have B3' : Below W2.heap.size W2 WA := by rw [← HWA.out]; exact (Below.refl _ W2).alloc (Nat.le_refl _) _
  have xA : WA.heap[w.heap.size + 2]? = some (.cells zrp 42 (0, 0)) := by rw [← Z2, ← HWA.out]; exact heap_alloc_new W2 _
  have HXA := hid xA
  have xk : ∀ i, i ≠ w.heap.size + 2 → W3.heap[i]? = WA.heap[i]? := fun i hi => by rw [← HW3.out]; simp [World.setRow, Array.getElem?_modify, show w.heap.size + 2 ≠ i from fun e => hi e.symm]
  have x3 : W3.heap[w.heap.size + 2]? = some (.cells m0 42 (0, 0)) := by rw [← HW3.out]; exact setRow_heap _ _ _ _ _ _ xA
  have HS : Hid (RP w W3 4 nlS nlS) := hid ⟨(xk _ (by omega)).trans ((B3'.block _ (by omega)).trans x0b), (xk _ (by omega)).trans ((B3'.block _ (by omega)).trans x1), by rw [HM0.out]; exact x3, by
    have q1 := B2.out.trans (B3'.mono B2.out.size)
    refine q1.trans ?_
    rw [← HW3.out]
    exact (ex_setRow (Ex.refl (fun k => k = w.heap.size + 2) WA) rfl m0).below q1.size (fun k e => by omega)⟩
  have hb0 : Hid (∀ W, (Instr.build 42 #[(0, .int .u8 4)]).run Try.prog W = .ok (.agg m0) W) := hid (fun W => by
    rw [← HM0.out]
    kernel_rfl)
  have hm0 : Hid (m0.size = 3) := hid (by rw [← HM0.out]; rfl)
  have hm1 : Hid (m0.all (·.oneCell') = true) := hid (by rw [← HM0.out]; exact rpA_one _ _ _ rfl rfl)
  have a0 := A'.out W2 B2.out 0 (by omega)
  have a0' : W2.cell? ⟨b, off, none⟩ = some (.int .u8 4) := by rw [← hk]; exact a0
  have hk0 : W3.cell? ⟨w.heap.size + 2, 0, none⟩ = some (.int .u8 4) := HS.out.cell rfl
  have hwl : IntKind.u64.wrap (l.length : Int) = (l.length : Int) := by rw [IntKind.wrap_u64]; omega
  have hl1 : (0 : Int) < (l.length : Int) := by omega
  have hl0 : ¬ ((l.length : Int) = 0) := by omega
  have hl0' : ¬ (l.length = 0) := by omega
  have hl0'' : ¬ (l = []) := fun e => by rw [e] at hl; simp at hl
  have DP : Hid (dpP l = if l.length < 1 then some (l.length : Int) else if 1 < l.length then some ((1 : Nat) : Int) else none) := hid (by
    unfold dpP dpF dpE dpN
    rw [hk, if_neg (by omega)]
    simp only [show ((4 : Int) = 1) = False by simp, show ((4 : Int) = 5) = False by simp, if_false, Nat.add_zero]
    rw [if_neg (by omega)])
  have g0 : ¬ ((l.length : Int) < 1) := by omega
  clear A x0 x0b x1 B2' B3' B1 Z1 Z2 h xA xk x3 a0 hby
  go_enter Try.func27, Try.ntmps27
  refine wp_seq_k fun K0 h0 => ?_
  have H0 := hid h0
  clear h0
  go_wp2
  rw [HW1.out]
  refine H0.out _ _ ?_
  refine wp_seq_k fun K0 h0 => ?_
  have H0 := hid h0
  clear h0
  go_wp2
  rw [HW2.out, HZ1.out]
  refine H0.out _ _ ?_
  by_cases g1 : 1 < l.length
  · have g1' : (1 : Int) < (l.length : Int) := by omega
    go_wp2_with (first | (refine wpList_buildQ rfl 42 _ rfl #[(0, .int .u8 4)] (by go_simp) _ (hb0.out _) ?_) | rw [HWA.out, HZ2.out] | (refine wpList_store_row rfl 42 _ _ rfl (w.heap.size + 2) m0 rfl rfl 42 zrp HXA.out (by rw [hm0.out]; exact SR.out) (by rw [zrp_size, hm0.out]) hm1.out ?_) | rw [HW3.out] | (refine wpList_load_mid rfl 42 _ rfl (w.heap.size + 1) 0 rfl zrp.toList _ HS.out.rng1 Try.underlying42 rfl SR.out ?_; rw [Array.toArray_toList]) | (refine wpList_store_row rfl 42 _ _ rfl w.heap.size zrp rfl rfl 42 zrp HS.out.x0 SR.out rfl zrp_one ?_) | fail)
    refine bodyPost_ret (v := .tuple #[.agg zrp, .int .i64 1, .int .i64 201]) (results_cellTT (p := 2) (q := 3) (q' := 4) (ty := 42) rfl _ _ w.heap.size 42 _ (0, 0) _ _ _ rfl rfl rfl (HS.out.ans _).1 Try.underlying42 rfl SR.out) rfl ?_
    exact ⟨.inl ⟨1, by rw [DP.out, if_neg (by omega), if_pos g1]; rfl, rfl⟩, (HS.out.ans _).2⟩
  have g1' : ¬ ((1 : Int) < (l.length : Int)) := by omega
  have RGE : Hid (_) := hid HS.out.rng
  have hon : Hid ((rpA 4 nlS nlS).all (·.oneCell') = true) := hid (rpA_one _ _ _ rfl rfl)
  have hs3 : Hid ((rpA 4 nlS nlS).size = 3) := hid rfl
  obtain ⟨mm, HMM⟩ : ∃ x, Hid (rpA 4 nlS nlS = x) := ⟨_, hid rfl⟩
  rw [HMM.out] at RGE hon hs3
  have hsl : Hid ((Try.prog.info? 42).map (·.size) = some mm.toList.length) := hid (by rw [Array.length_toList, hs3.out]; exact SR.out)
  go_wp2_with (first | (refine wpList_buildQ rfl 42 _ rfl #[(0, .int .u8 4)] (by go_simp) _ (hb0.out _) ?_) | rw [HWA.out, HZ2.out] | (refine wpList_store_row rfl 42 _ _ rfl (w.heap.size + 2) m0 rfl rfl 42 zrp HXA.out (by rw [hm0.out]; exact SR.out) (by rw [zrp_size, hm0.out]) hm1.out ?_) | rw [HW3.out] | (refine wpList_load_mid rfl 42 _ rfl (w.heap.size + 2) 0 rfl mm.toList _ RGE.out Try.underlying42 rfl hsl.out ?_; rw [Array.toArray_toList]) | (refine wpList_store_row rfl 42 _ _ rfl w.heap.size mm rfl rfl 42 zrp HS.out.x0 (by rw [hs3.out]; exact SR.out) (by rw [hs3.out]; rfl) hon.out ?_) | fail)
  all_goals
    refine bodyPost_ret (v := .tuple #[.agg mm, .int .i64 0, .int .i64 0]) (results_cellTT (p := 2) (q := 3) (q' := 4) (ty := 42) rfl _ _ w.heap.size 42 _ (0, 0) _ _ _ rfl rfl rfl (HS.out.ans _).1 Try.underlying42 rfl (by rw [hs3.out]; exact SR.out)) rfl ?_
    refine ⟨.inr ⟨by rw [DP.out, if_neg (by omega), if_neg (by omega)], nlS, nlS, by rw [hk, HMM.out], ?_, ?_⟩, (HS.out.ans _).2⟩
    · rw [hk]; exact World.ownsRow_nil _ _ _ _
    · rw [hk]; exact World.ownsRow_nil _ _ _ _
set_option maxRecDepth 100000 in
set_option maxHeartbeats 32000000 in
theorem rrep_6 (w : World) (v : Value) (l : List Int) (h : HB w v l) (hl : 0 < l.length) (hbig : l.length ≤ 140737488355328) (hk : l.getD 0 0 = 6) :
    Calls Try.prog 27 #[v] w fun e w' => DocP w l e w' ∧ Below w.heap.size w w' := by
  obtain ⟨q, c, e, hlc, hm⟩ := h.open
  have hby := h.byte
  have A : Hid (∀ W, Below w.heap.size w W → ∀ j, j < l.length → ∃ b off, q = some ⟨b, off, none⟩ ∧ W.cell? ⟨b, off + j, none⟩ = some (.int .u8 (l.getD j 0))) := hid (fun W hW j hj => by
    obtain ⟨b, off, c', e', _, _, hh⟩ := (h.below hW).ne (by omega)
    rw [e] at e'
    simp only [Value.slice.injEq, true_and] at e'
    exact ⟨b, off, e'.1, hh j hj⟩)
  subst e
  obtain ⟨b, off, rfl, -⟩ := A.out w (Below.refl _ _) 0 (by omega)
  have A' : Hid (∀ W, Below w.heap.size w W → ∀ j, j < l.length → W.cell? ⟨b, off + j, none⟩ = some (.int .u8 (l.getD j 0))) := hid (fun W hW j hj => by
    obtain ⟨b', off', e', hh⟩ := A.out W hW j hj
    cases e'
    exact hh)
  have VB : Hid (∀ W, Below w.heap.size w W → HB W (.slice (some ⟨b, off, none⟩) l.length c) l) := hid (fun W hW => h.below hW)
  have HBY := hid hby
  have HBY2 := hid h.2
  obtain ⟨W1, HW1⟩ : ∃ W : World, Hid (w.alloc (.cells zrep 42) = W) := ⟨_, hid rfl⟩
  have Z1 : W1.heap.size = w.heap.size + 1 := by rw [← HW1.out]; simp
  obtain ⟨W2, HW2⟩ : ∃ W : World, Hid (W1.alloc (.cells zrep 42) = W) := ⟨_, hid rfl⟩
  have Z2 : W2.heap.size = w.heap.size + 2 := by rw [← HW2.out]; simp [Z1]
  have B1 : Below w.heap.size w W1 := by rw [← HW1.out]; exact (Below.refl _ w).alloc (Nat.le_refl _) _
  have B2' : Below W1.heap.size W1 W2 := by rw [← HW2.out]; exact (Below.refl _ W1).alloc (Nat.le_refl _) _
  have B2 : Hid (Below w.heap.size w W2) := hid (B1.trans (B2'.mono B1.size))
  have x0 : W1.heap[w.heap.size]? = some (.cells zrp 42 (0, 0)) := by rw [← HW1.out]; exact heap_alloc_new w _
  have x0b : W2.heap[w.heap.size]? = some (.cells zrp 42 (0, 0)) := (B2'.block _ (by omega)).trans x0
  have X0 := hid x0b
  have x1 : W2.heap[w.heap.size + 1]? = some (.cells zrp 42 (0, 0)) := by rw [← Z1, ← HW2.out]; exact heap_alloc_new W1 _
  have RG1 : Hid (W2.rangeAt (w.heap.size + 1) 0 zrp.toList) := hid (fun j v hj => by rw [cell_of_row _ _ _ _ _ _ x1, Nat.zero_add, ← Array.getElem?_toList]; exact hj)
  have ANS : Hid ((W2.setRow w.heap.size zrp).heap[w.heap.size]? = some (.cells zrp 42 (0, 0)) ∧ Below w.heap.size w (W2.setRow w.heap.size zrp)) := hid ⟨setRow_heap _ _ _ _ _ _ X0.out, B2.out.trans ((ex_setRow (Ex.refl (fun k => k = w.heap.size) W2) rfl zrp).below B2.out.size (fun k e => by omega))⟩
  have SR : Hid ((Try.prog.info? 42).map (·.size) = some 3) := hid (by kernel_rfl)
  have HZ1 := hid Z1
  have HZ2 := hid Z2
  obtain ⟨WA, HWA⟩ : ∃ W : World, Hid (W2.alloc (.cells zrep 42) = W) := ⟨_, hid rfl⟩
  obtain ⟨m0, HM0⟩ : ∃ m, Hid (rpA 6 nlS nlS = m) := ⟨_, hid rfl⟩
  obtain ⟨W3, HW3⟩ : ∃ W : World, Hid (WA.setRow (w.heap.size + 2) m0 = W) := ⟨_, hid rfl⟩
  have B3' : Below W2.heap.size W2 WA := by rw [← HWA.out]; exact (Below.refl _ W2).alloc (Nat.le_refl _) _
  have xA : WA.heap[w.heap.size + 2]? = some (.cells zrp 42 (0, 0)) := by rw [← Z2, ← HWA.out]; exact heap_alloc_new W2 _
  have HXA := hid xA
  have xk : ∀ i, i ≠ w.heap.size + 2 → W3.heap[i]? = WA.heap[i]? := fun i hi => by rw [← HW3.out]; simp [World.setRow, Array.getElem?_modify, show w.heap.size + 2 ≠ i from fun e => hi e.symm]
  have x3 : W3.heap[w.heap.size + 2]? = some (.cells m0 42 (0, 0)) := by rw [← HW3.out]; exact setRow_heap _ _ _ _ _ _ xA
  have HS : Hid (RP w W3 6 nlS nlS) := hid ⟨(xk _ (by omega)).trans ((B3'.block _ (by omega)).trans x0b), (xk _ (by omega)).trans ((B3'.block _ (by omega)).trans x1), by rw [HM0.out]; exact x3, by
    have q1 := B2.out.trans (B3'.mono B2.out.size)
    refine q1.trans ?_
    rw [← HW3.out]
    exact (ex_setRow (Ex.refl (fun k => k = w.heap.size + 2) WA) rfl m0).below q1.size (fun k e => by omega)⟩
  have hb0 : Hid (∀ W, (Instr.build 42 #[(0, .int .u8 6)]).run Try.prog W = .ok (.agg m0) W) := hid (fun W => by
    rw [← HM0.out]
    kernel_rfl)
  have hm0 : Hid (m0.size = 3) := hid (by rw [← HM0.out]; rfl)
  have hm1 : Hid (m0.all (·.oneCell') = true) := hid (by rw [← HM0.out]; exact rpA_one _ _ _ rfl rfl)
  have a0 := A'.out W2 B2.out 0 (by omega)
  have a0' : W2.cell? ⟨b, off, none⟩ = some (.int .u8 6) := by rw [← hk]; exact a0
  have hk0 : W3.cell? ⟨w.heap.size + 2, 0, none⟩ = some (.int .u8 6) := HS.out.cell rfl
  have hwl : IntKind.u64.wrap (l.length : Int) = (l.length : Int) := by rw [IntKind.wrap_u64]; omega
  have hl1 : (0 : Int) < (l.length : Int) := by omega
  have hl0 : ¬ ((l.length : Int) = 0) := by omega
  have hl0' : ¬ (l.length = 0) := by omega
  have hl0'' : ¬ (l = []) := fun e => by rw [e] at hl; simp at hl
  have DP : Hid (dpP l = if l.length < 1 then some (l.length : Int) else if 1 < l.length then some ((1 : Nat) : Int) else none) := hid (by
    unfold dpP dpF dpE dpN
    rw [hk, if_neg (by omega)]
    simp only [show ((6 : Int) = 1) = False by simp, show ((6 : Int) = 5) = False by simp, if_false, Nat.add_zero]
    rw [if_neg (by omega)])
  have g0 : ¬ ((l.length : Int) < 1) := by omega
  clear A x0 x0b x1 B2' B3' B1 Z1 Z2 h xA xk x3 a0 hby
  go_enter Try.func27, Try.ntmps27
  refine wp_seq_k fun K0 h0 => ?_
  have H0 := hid h0
  clear h0
  go_wp2
  rw [HW1.out]
  refine H0.out _ _ ?_
  refine wp_seq_k fun K0 h0 => ?_
  have H0 := hid h0
  clear h0
  go_wp2
  rw [HW2.out, HZ1.out]
  refine H0.out _ _ ?_
  by_cases g1 : 1 < l.length
  · have g1' : (1 : Int) < (l.length : Int) := by omega
    go_wp2_with (first | (refine wpList_buildQ rfl 42 _ rfl #[(0, .int .u8 6)] (by go_simp) _ (hb0.out _) ?_) | rw [HWA.out, HZ2.out] | (refine wpList_store_row rfl 42 _ _ rfl (w.heap.size + 2) m0 rfl rfl 42 zrp HXA.out (by rw [hm0.out]; exact SR.out) (by rw [zrp_size, hm0.out]) hm1.out ?_) | rw [HW3.out] | (refine wpList_load_mid rfl 42 _ rfl (w.heap.size + 1) 0 rfl zrp.toList _ HS.out.rng1 Try.underlying42 rfl SR.out ?_; rw [Array.toArray_toList]) | (refine wpList_store_row rfl 42 _ _ rfl w.heap.size zrp rfl rfl 42 zrp HS.out.x0 SR.out rfl zrp_one ?_) | fail)
    refine bodyPost_ret (v := .tuple #[.agg zrp, .int .i64 1, .int .i64 201]) (results_cellTT (p := 2) (q := 3) (q' := 4) (ty := 42) rfl _ _ w.heap.size 42 _ (0, 0) _ _ _ rfl rfl rfl (HS.out.ans _).1 Try.underlying42 rfl SR.out) rfl ?_
    exact ⟨.inl ⟨1, by rw [DP.out, if_neg (by omega), if_pos g1]; rfl, rfl⟩, (HS.out.ans _).2⟩
  have g1' : ¬ ((1 : Int) < (l.length : Int)) := by omega
  have RGE : Hid (_) := hid HS.out.rng
  have hon : Hid ((rpA 6 nlS nlS).all (·.oneCell') = true) := hid (rpA_one _ _ _ rfl rfl)
  have hs3 : Hid ((rpA 6 nlS nlS).size = 3) := hid rfl
  obtain ⟨mm, HMM⟩ : ∃ x, Hid (rpA 6 nlS nlS = x) := ⟨_, hid rfl⟩
  rw [HMM.out] at RGE hon hs3
  have hsl : Hid ((Try.prog.info? 42).map (·.size) = some mm.toList.length) := hid (by rw [Array.length_toList, hs3.out]; exact SR.out)
  go_wp2_with (first | (refine wpList_buildQ rfl 42 _ rfl #[(0, .int .u8 6)] (by go_simp) _ (hb0.out _) ?_) | rw [HWA.out, HZ2.out] | (refine wpList_store_row rfl 42 _ _ rfl (w.heap.size + 2) m0 rfl rfl 42 zrp HXA.out (by rw [hm0.out]; exact SR.out) (by rw [zrp_size, hm0.out]) hm1.out ?_) | rw [HW3.out] | (refine wpList_load_mid rfl 42 _ rfl (w.heap.size + 2) 0 rfl mm.toList _ RGE.out Try.underlying42 rfl hsl.out ?_; rw [Array.toArray_toList]) | (refine wpList_store_row rfl 42 _ _ rfl w.heap.size mm rfl rfl 42 zrp HS.out.x0 (by rw [hs3.out]; exact SR.out) (by rw [hs3.out]; rfl) hon.out ?_) | fail)
  all_goals
    refine bodyPost_ret (v := .tuple #[.agg mm, .int .i64 0, .int .i64 0]) (results_cellTT (p := 2) (q := 3) (q' := 4) (ty := 42) rfl _ _ w.heap.size 42 _ (0, 0) _ _ _ rfl rfl rfl (HS.out.ans _).1 Try.underlying42 rfl (by rw [hs3.out]; exact SR.out)) rfl ?_
    refine ⟨.inr ⟨by rw [DP.out, if_neg (by omega), if_neg (by omega)], nlS, nlS, by rw [hk, HMM.out], ?_, ?_⟩, (HS.out.ans _).2⟩
    · rw [hk]; exact World.ownsRow_nil _ _ _ _
    · rw [hk]; exact World.ownsRow_nil _ _ _ _
set_option maxRecDepth 100000 in
set_option maxHeartbeats 32000000 in
theorem rrep_7 (w : World) (v : Value) (l : List Int) (h : HB w v l) (hl : 0 < l.length) (hbig : l.length ≤ 140737488355328) (hk : l.getD 0 0 = 7) :
    Calls Try.prog 27 #[v] w fun e w' => DocP w l e w' ∧ Below w.heap.size w w' := by
  obtain ⟨q, c, e, hlc, hm⟩ := h.open
  have hby := h.byte
  have A : Hid (∀ W, Below w.heap.size w W → ∀ j, j < l.length → ∃ b off, q = some ⟨b, off, none⟩ ∧ W.cell? ⟨b, off + j, none⟩ = some (.int .u8 (l.getD j 0))) := hid (fun W hW j hj => by
    obtain ⟨b, off, c', e', _, _, hh⟩ := (h.below hW).ne (by omega)
    rw [e] at e'
    simp only [Value.slice.injEq, true_and] at e'
    exact ⟨b, off, e'.1, hh j hj⟩)
  subst e
  obtain ⟨b, off, rfl, -⟩ := A.out w (Below.refl _ _) 0 (by omega)
  have A' : Hid (∀ W, Below w.heap.size w W → ∀ j, j < l.length → W.cell? ⟨b, off + j, none⟩ = some (.int .u8 (l.getD j 0))) := hid (fun W hW j hj => by
    obtain ⟨b', off', e', hh⟩ := A.out W hW j hj
    cases e'
    exact hh)
  have VB : Hid (∀ W, Below w.heap.size w W → HB W (.slice (some ⟨b, off, none⟩) l.length c) l) := hid (fun W hW => h.below hW)
  have HBY := hid hby
  have HBY2 := hid h.2
  obtain ⟨W1, HW1⟩ : ∃ W : World, Hid (w.alloc (.cells zrep 42) = W) := ⟨_, hid rfl⟩
  have Z1 : W1.heap.size = w.heap.size + 1 := by rw [← HW1.out]; simp
  obtain ⟨W2, HW2⟩ : ∃ W : World, Hid (W1.alloc (.cells zrep 42) = W) := ⟨_, hid rfl⟩
  have Z2 : W2.heap.size = w.heap.size + 2 := by rw [← HW2.out]; simp [Z1]
  have B1 : Below w.heap.size w W1 := by rw [← HW1.out]; exact (Below.refl _ w).alloc (Nat.le_refl _) _
  have B2' : Below W1.heap.size W1 W2 := by rw [← HW2.out]; exact (Below.refl _ W1).alloc (Nat.le_refl _) _
  have B2 : Hid (Below w.heap.size w W2) := hid (B1.trans (B2'.mono B1.size))
  have x0 : W1.heap[w.heap.size]? = some (.cells zrp 42 (0, 0)) := by rw [← HW1.out]; exact heap_alloc_new w _
  have x0b : W2.heap[w.heap.size]? = some (.cells zrp 42 (0, 0)) := (B2'.block _ (by omega)).trans x0
  have X0 := hid x0b
  have x1 : W2.heap[w.heap.size + 1]? = some (.cells zrp 42 (0, 0)) := by rw [← Z1, ← HW2.out]; exact heap_alloc_new W1 _
  have RG1 : Hid (W2.rangeAt (w.heap.size + 1) 0 zrp.toList) := hid (fun j v hj => by rw [cell_of_row _ _ _ _ _ _ x1, Nat.zero_add, ← Array.getElem?_toList]; exact hj)
  have ANS : Hid ((W2.setRow w.heap.size zrp).heap[w.heap.size]? = some (.cells zrp 42 (0, 0)) ∧ Below w.heap.size w (W2.setRow w.heap.size zrp)) := hid ⟨setRow_heap _ _ _ _ _ _ X0.out, B2.out.trans ((ex_setRow (Ex.refl (fun k => k = w.heap.size) W2) rfl zrp).below B2.out.size (fun k e => by omega))⟩
  have SR : Hid ((Try.prog.info? 42).map (·.size) = some 3) := hid (by kernel_rfl)
  have HZ1 := hid Z1
  have HZ2 := hid Z2
  obtain ⟨WA, HWA⟩ : ∃ W : World, Hid (W2.alloc (.cells zrep 42) = W) := ⟨_, hid rfl⟩
  obtain ⟨m0, HM0⟩ : ∃ m, Hid (rpA 7 nlS nlS = m) := ⟨_, hid rfl⟩
  obtain ⟨W3, HW3⟩ : ∃ W : World, Hid (WA.setRow (w.heap.size + 2) m0 = W) := ⟨_, hid rfl⟩
  have B3' : Below W2.heap.size W2 WA := by rw [← HWA.out]; exact (Below.refl _ W2).alloc (Nat.le_refl _) _
  have xA : WA.heap[w.heap.size + 2]? = some (.cells zrp 42 (0, 0)) := by rw [← Z2, ← HWA.out]; exact heap_alloc_new W2 _
  have HXA := hid xA
  have xk : ∀ i, i ≠ w.heap.size + 2 → W3.heap[i]? = WA.heap[i]? := fun i hi => by rw [← HW3.out]; simp [World.setRow, Array.getElem?_modify, show w.heap.size + 2 ≠ i from fun e => hi e.symm]
  have x3 : W3.heap[w.heap.size + 2]? = some (.cells m0 42 (0, 0)) := by rw [← HW3.out]; exact setRow_heap _ _ _ _ _ _ xA
  have HS : Hid (RP w W3 7 nlS nlS) := hid ⟨(xk _ (by omega)).trans ((B3'.block _ (by omega)).trans x0b), (xk _ (by omega)).trans ((B3'.block _ (by omega)).trans x1), by rw [HM0.out]; exact x3, by
    have q1 := B2.out.trans (B3'.mono B2.out.size)
    refine q1.trans ?_
    rw [← HW3.out]
    exact (ex_setRow (Ex.refl (fun k => k = w.heap.size + 2) WA) rfl m0).below q1.size (fun k e => by omega)⟩
  have hb0 : Hid (∀ W, (Instr.build 42 #[(0, .int .u8 7)]).run Try.prog W = .ok (.agg m0) W) := hid (fun W => by
    rw [← HM0.out]
    kernel_rfl)
  have hm0 : Hid (m0.size = 3) := hid (by rw [← HM0.out]; rfl)
  have hm1 : Hid (m0.all (·.oneCell') = true) := hid (by rw [← HM0.out]; exact rpA_one _ _ _ rfl rfl)
  have a0 := A'.out W2 B2.out 0 (by omega)
  have a0' : W2.cell? ⟨b, off, none⟩ = some (.int .u8 7) := by rw [← hk]; exact a0
  have hk0 : W3.cell? ⟨w.heap.size + 2, 0, none⟩ = some (.int .u8 7) := HS.out.cell rfl
  have hwl : IntKind.u64.wrap (l.length : Int) = (l.length : Int) := by rw [IntKind.wrap_u64]; omega
  have hl1 : (0 : Int) < (l.length : Int) := by omega
  have hl0 : ¬ ((l.length : Int) = 0) := by omega
  have hl0' : ¬ (l.length = 0) := by omega
  have hl0'' : ¬ (l = []) := fun e => by rw [e] at hl; simp at hl
  have DP : Hid (dpP l = if l.length < 1 then some (l.length : Int) else if 1 < l.length then some ((1 : Nat) : Int) else none) := hid (by
    unfold dpP dpF dpE dpN
    rw [hk, if_neg (by omega)]
    simp only [show ((7 : Int) = 1) = False by simp, show ((7 : Int) = 5) = False by simp, if_false, Nat.add_zero]
    rw [if_neg (by omega)])
  have g0 : ¬ ((l.length : Int) < 1) := by omega
  clear A x0 x0b x1 B2' B3' B1 Z1 Z2 h xA xk x3 a0 hby
  go_enter Try.func27, Try.ntmps27
  refine wp_seq_k fun K0 h0 => ?_
  have H0 := hid h0
  clear h0
  go_wp2
  rw [HW1.out]
  refine H0.out _ _ ?_
  refine wp_seq_k fun K0 h0 => ?_
  have H0 := hid h0
  clear h0
  go_wp2
  rw [HW2.out, HZ1.out]
  refine H0.out _ _ ?_
  by_cases g1 : 1 < l.length
  · have g1' : (1 : Int) < (l.length : Int) := by omega
    go_wp2_with (first | (refine wpList_buildQ rfl 42 _ rfl #[(0, .int .u8 7)] (by go_simp) _ (hb0.out _) ?_) | rw [HWA.out, HZ2.out] | (refine wpList_store_row rfl 42 _ _ rfl (w.heap.size + 2) m0 rfl rfl 42 zrp HXA.out (by rw [hm0.out]; exact SR.out) (by rw [zrp_size, hm0.out]) hm1.out ?_) | rw [HW3.out] | (refine wpList_load_mid rfl 42 _ rfl (w.heap.size + 1) 0 rfl zrp.toList _ HS.out.rng1 Try.underlying42 rfl SR.out ?_; rw [Array.toArray_toList]) | (refine wpList_store_row rfl 42 _ _ rfl w.heap.size zrp rfl rfl 42 zrp HS.out.x0 SR.out rfl zrp_one ?_) | fail)
    refine bodyPost_ret (v := .tuple #[.agg zrp, .int .i64 1, .int .i64 201]) (results_cellTT (p := 2) (q := 3) (q' := 4) (ty := 42) rfl _ _ w.heap.size 42 _ (0, 0) _ _ _ rfl rfl rfl (HS.out.ans _).1 Try.underlying42 rfl SR.out) rfl ?_
    exact ⟨.inl ⟨1, by rw [DP.out, if_neg (by omega), if_pos g1]; rfl, rfl⟩, (HS.out.ans _).2⟩
  have g1' : ¬ ((1 : Int) < (l.length : Int)) := by omega
  have RGE : Hid (_) := hid HS.out.rng
  have hon : Hid ((rpA 7 nlS nlS).all (·.oneCell') = true) := hid (rpA_one _ _ _ rfl rfl)
  have hs3 : Hid ((rpA 7 nlS nlS).size = 3) := hid rfl
  obtain ⟨mm, HMM⟩ : ∃ x, Hid (rpA 7 nlS nlS = x) := ⟨_, hid rfl⟩
  rw [HMM.out] at RGE hon hs3
  have hsl : Hid ((Try.prog.info? 42).map (·.size) = some mm.toList.length) := hid (by rw [Array.length_toList, hs3.out]; exact SR.out)
  go_wp2_with (first | (refine wpList_buildQ rfl 42 _ rfl #[(0, .int .u8 7)] (by go_simp) _ (hb0.out _) ?_) | rw [HWA.out, HZ2.out] | (refine wpList_store_row rfl 42 _ _ rfl (w.heap.size + 2) m0 rfl rfl 42 zrp HXA.out (by rw [hm0.out]; exact SR.out) (by rw [zrp_size, hm0.out]) hm1.out ?_) | rw [HW3.out] | (refine wpList_load_mid rfl 42 _ rfl (w.heap.size + 2) 0 rfl mm.toList _ RGE.out Try.underlying42 rfl hsl.out ?_; rw [Array.toArray_toList]) | (refine wpList_store_row rfl 42 _ _ rfl w.heap.size mm rfl rfl 42 zrp HS.out.x0 (by rw [hs3.out]; exact SR.out) (by rw [hs3.out]; rfl) hon.out ?_) | fail)
  all_goals
    refine bodyPost_ret (v := .tuple #[.agg mm, .int .i64 0, .int .i64 0]) (results_cellTT (p := 2) (q := 3) (q' := 4) (ty := 42) rfl _ _ w.heap.size 42 _ (0, 0) _ _ _ rfl rfl rfl (HS.out.ans _).1 Try.underlying42 rfl (by rw [hs3.out]; exact SR.out)) rfl ?_
    refine ⟨.inr ⟨by rw [DP.out, if_neg (by omega), if_neg (by omega)], nlS, nlS, by rw [hk, HMM.out], ?_, ?_⟩, (HS.out.ans _).2⟩
    · rw [hk]; exact World.ownsRow_nil _ _ _ _
    · rw [hk]; exact World.ownsRow_nil _ _ _ _
end Go.Proofs.Ytgjadpidoaianaa
