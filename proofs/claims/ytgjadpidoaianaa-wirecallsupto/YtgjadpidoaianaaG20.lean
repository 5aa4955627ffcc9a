/- Of the road to wireCallsUpto_holds: WrAskQ. -/
import Derived.Test.YtgjadpidoaianaaG18
set_option linter.unusedVariables false
set_option linter.unusedSimpArgs false
namespace Go.Proofs.Ytgjadpidoaianaa
open Go Go.RowKit
set_option maxRecDepth 100000 in
set_option maxHeartbeats 64000000 in
theorem ask_1 (w0 w : World) (g n : Nat) (cl : Int) (r : Rq) (qv : Value) (qb : List Int) (k : Int) (nv : Value) (ns : List Int) (rv : Value) (rb : List Int) (dv : Value) (db : List Int) (h0 : OpH w0 r qv qb k nv ns rv rb dv db) (hbel : Below w0.heap.size w0 w) (hb : BKE w0.heap.size w g n) (hgB : w0.heap.size ≤ g) (hn : n ≤ 4000000) (hcl : cl = 1) :
    Calls Try.prog 9 #[.pointer (some ⟨g, 0, none⟩), .agg (opL cl r qv k nv rv dv).toArray] w fun e w' => e = .returned (.bool true) ∧ BKE w0.heap.size w' g (n + 1) ∧ Below w0.heap.size w0 w' := by
  obtain ⟨vb, vw, vi, vm, xb, xw, xi, xm, bs, is, hk, hl1, hl2, hl3, hl4⟩ := hb
  obtain ⟨qp, qc, rfl, _, _⟩ := h0.q.open
  obtain ⟨np, nc, rfl, _, _⟩ := h0.n.open
  obtain ⟨rp, rc, rfl, _, _⟩ := h0.r'.open
  obtain ⟨dp, dc, rfl, _, _⟩ := h0.d.open
  have hok := h0.ok
  obtain ⟨m, HM⟩ : ∃ m, Hid ((opL cl r (.slice qp qb.length qc) k (.slice np ns.length nc) (.slice rp rb.length rc) (.slice dp db.length dc)).toArray = m) := ⟨_, hid rfl⟩
  have OPW : Hid (∀ W, Below w0.heap.size w0 W → OpH W r (.slice qp qb.length qc) qb k (.slice np ns.length nc) ns (.slice rp rb.length rc) rb (.slice dp db.length dc) db) := hid (fun W hW => h0.below hW)
  have BW : Hid (∀ W, Below w.heap.size w W → Below w0.heap.size w0 W) := hid (fun W hW => hbel.trans (hW.mono hbel.size))
  have H0 := hid h0
  obtain ⟨W1, HW1⟩ : ∃ W : World, Hid (w.alloc (.cells m TO) = W) := ⟨_, hid rfl⟩
  have B1 : Hid (Below w.heap.size w W1) := by rw [← HW1.out]; exact hid ((Below.refl _ w).alloc (Nat.le_refl _) _)
  have Z1 : Hid (W1.heap.size = w.heap.size + 1) := hid (by rw [← HW1.out]; simp)
  have X1 : Hid (W1.heap[w.heap.size]? = some (.cells m TO (0, 0))) := hid (by rw [← HW1.out]; exact heap_alloc_new w _)
  have KX : Hid (∀ W : World, W.heap[w.heap.size]? = some (.cells m TO (0, 0)) → W.cell? ⟨w.heap.size, 0, none⟩ = some (.int .i64 cl) ∧ W.cell? ⟨w.heap.size, 23, none⟩ = some (.slice qp qb.length qc) ∧ W.cell? ⟨w.heap.size, 25, none⟩ = some (.slice np ns.length nc) ∧ W.cell? ⟨w.heap.size, 26, none⟩ = some (.slice rp rb.length rc) ∧ W.cell? ⟨w.heap.size, 27, none⟩ = some (.slice dp db.length dc)) := hid (fun W q => by
    refine ⟨?_, ?_, ?_, ?_, ?_⟩ <;> rw [cell_of_row _ _ _ _ _ _ q, ← HM.out, List.getElem?_toArray]
    · rfl
    · exact opL_rq hok (.slice qp qb.length qc) k (.slice np ns.length nc) (.slice rp rb.length rc) (.slice dp db.length dc) (j := 22) (by have := rqA_22 hok (.slice qp qb.length qc); unfold rqA at this; rwa [List.getElem?_toArray] at this)
    · exact opL_rp hok (.slice qp qb.length qc) k (.slice np ns.length nc) (.slice rp rb.length rc) (.slice dp db.length dc) (j := 1) rfl
    · exact opL_rp hok (.slice qp qb.length qc) k (.slice np ns.length nc) (.slice rp rb.length rc) (.slice dp db.length dc) (j := 2) rfl
    · exact opL_rp hok (.slice qp qb.length qc) k (.slice np ns.length nc) (.slice rp rb.length rc) (.slice dp db.length dc) (j := 3) rfl)
  have RGQ : Hid (∀ W : World, W.heap[w.heap.size]? = some (.cells m TO (0, 0)) → W.rangeAt w.heap.size 1 (rqL r (.slice qp qb.length qc))) := hid (fun W q j u hj => by
    rw [cell_of_row _ _ _ _ _ _ q, ← HM.out, List.getElem?_toArray]
    exact opL_rq hok (.slice qp qb.length qc) k (.slice np ns.length nc) (.slice rp rb.length rc) (.slice dp db.length dc) hj)
  have RGR : Hid (∀ W : World, W.heap[w.heap.size]? = some (.cells m TO (0, 0)) → W.rangeAt w.heap.size 24 [.int .u8 k, (.slice np ns.length nc), (.slice rp rb.length rc)]) := hid (fun W q j u hj => by
    rw [cell_of_row _ _ _ _ _ _ q, ← HM.out, List.getElem?_toArray]
    refine opL_rp hok (.slice qp qb.length qc) k (.slice np ns.length nc) (.slice rp rb.length rc) (.slice dp db.length dc) (j := j) ?_
    match j, hj with
    | 0, hj => exact hj
    | 1, hj => exact hj
    | 2, hj => exact hj)
  have SLQ : Hid ((Try.prog.info? 38).map (·.size) = some (rqL r (.slice qp qb.length qc)).length) := hid (by rw [rqL_len hok]; exact size_q)
  obtain ⟨y0, y23, y25, y26, y27⟩ := KX.out W1 X1.out
  have bq := h0.lq
  have bn := h0.ln
  have br := h0.lr
  have bd := h0.ld
  have LQ := hid (lent_any W1 (.slice qp qb.length qc) qb (OPW.out W1 (BW.out W1 B1.out)).q (by omega))
  rw [HM.out]
  clear h0 hok
  go_enter Try.func9, Try.ntmps9
  go_wp2_with (first | rw [HW1.out] | fail)
  refine LQ.out.mono ?_
  rintro e W2 ⟨lq, rfl, hoq, hbq⟩
  have BW2 : Hid (Below w.heap.size w W2) := hid (B1.out.trans (hbq.mono B1.out.size))
  have XW2 : Hid (W2.heap[w.heap.size]? = some (.cells m TO (0, 0))) := hid ((hbq.block _ (Array.getElem?_eq_some_iff.1 X1.out).1).trans X1.out)
  have blq := hid hbq
  obtain ⟨gq, cq, eq, zlq, zhq, zcq, zmq, -, -⟩ := lent_part hoq H0.out.q.2
  subst eq
  have OLq := hid hoq
  clear hoq hbq LQ y0 y23 y25 y26 y27
  obtain ⟨y0, y23, y25, y26, y27⟩ := KX.out W2 XW2.out
  have LR := hid (lent_any W2 (.slice rp rb.length rc) rb (OPW.out W2 (BW.out W2 BW2.out)).r' (by omega))
  go_wp2_with fail
  refine LR.out.mono ?_
  rintro e W3 ⟨lr, rfl, hor, hbr⟩
  have BW3 : Hid (Below w.heap.size w W3) := hid (BW2.out.trans (hbr.mono BW2.out.size))
  have XW3 : Hid (W3.heap[w.heap.size]? = some (.cells m TO (0, 0))) := hid ((hbr.block _ (Array.getElem?_eq_some_iff.1 XW2.out).1).trans XW2.out)
  have blr := hid hbr
  obtain ⟨gr, cr, er, zlr, zhr, zcr, zmr, -, -⟩ := lent_part hor H0.out.r'.2
  subst er
  have OLr := hid hor
  clear hor hbr LR y0 y23 y25 y26 y27
  obtain ⟨y0, y23, y25, y26, y27⟩ := KX.out W3 XW3.out
  have LN := hid (I.lent_any W3 (.slice np ns.length nc) ns (OPW.out W3 (BW.out W3 BW3.out)).n (by omega))
  go_wp2_with fail
  refine LN.out.mono ?_
  rintro e W4 ⟨ln, rfl, hon, hbn⟩
  have BW4 : Hid (Below w.heap.size w W4) := hid (BW3.out.trans (hbn.mono BW3.out.size))
  have XW4 : Hid (W4.heap[w.heap.size]? = some (.cells m TO (0, 0))) := hid ((hbn.block _ (Array.getElem?_eq_some_iff.1 XW3.out).1).trans XW3.out)
  have bln := hid hbn
  obtain ⟨gn, cn, en, zln, zhn, zcn, zmn, -, -⟩ := I.lent_part hon H0.out.n.2
  subst en
  have OLn := hid hon
  clear hon hbn LN y0 y23 y25 y26 y27
  obtain ⟨y0, y23, y25, y26, y27⟩ := KX.out W4 XW4.out
  have LD := hid (lent_any W4 (.slice dp db.length dc) db (OPW.out W4 (BW.out W4 BW4.out)).d (by omega))
  go_wp2_with fail
  refine LD.out.mono ?_
  rintro e W5 ⟨ld, rfl, hod, hbd⟩
  have BW5 : Hid (Below w.heap.size w W5) := hid (BW4.out.trans (hbd.mono BW4.out.size))
  have XW5 : Hid (W5.heap[w.heap.size]? = some (.cells m TO (0, 0))) := hid ((hbd.block _ (Array.getElem?_eq_some_iff.1 XW4.out).1).trans XW4.out)
  have bld := hid hbd
  obtain ⟨gd, cd, ed, zld, zhd, zcd, zmd, -, -⟩ := lent_part hod H0.out.d.2
  subst ed
  have OLd := hid hod
  clear hod hbd LD y0 y23 y25 y26 y27
  obtain ⟨y0, y23, y25, y26, y27⟩ := KX.out W5 XW5.out
  have Oq3 : Hid (W3.ownsRow W1.heap.size 5 1 _ (lent qb).length ((lent qb).map (Value.int .u8))) := hid (own_of OLq.out fun b hb => blr.out.block b (own_at OLq.out hb).1)
  have Oq4 : Hid (W4.ownsRow W1.heap.size 5 1 _ (lent qb).length ((lent qb).map (Value.int .u8))) := hid (own_of Oq3.out fun b hb => bln.out.block b (own_at Oq3.out hb).1)
  have Oq5 : Hid (W5.ownsRow W1.heap.size 5 1 _ (lent qb).length ((lent qb).map (Value.int .u8))) := hid (own_of Oq4.out fun b hb => bld.out.block b (own_at Oq4.out hb).1)
  have Or4 : Hid (W4.ownsRow W2.heap.size 5 1 _ (lent rb).length ((lent rb).map (Value.int .u8))) := hid (own_of OLr.out fun b hb => bln.out.block b (own_at OLr.out hb).1)
  have Or5 : Hid (W5.ownsRow W2.heap.size 5 1 _ (lent rb).length ((lent rb).map (Value.int .u8))) := hid (own_of Or4.out fun b hb => bld.out.block b (own_at Or4.out hb).1)
  have On5 : Hid (W5.ownsRow W3.heap.size 3 1 _ (I.lent ns).length ((I.lent ns).map (Value.int .i64))) := hid (own_of OLn.out fun b hb => bld.out.block b (own_at OLn.out hb).1)
  have s1 := B1.out.size
  have s2 := BW2.out.size
  have s3 := BW3.out.size
  have ORD : Hid (w.heap.size < gq ∧ gq < gr ∧ gr < gn ∧ gn < gd ∧ gd < W5.heap.size) := hid (by have := Z1.out; omega)
  obtain ⟨mq, HMQ⟩ : ∃ x, Hid (rqA r (.slice qp qb.length qc) = x) := ⟨_, hid rfl⟩
  obtain ⟨W6a, HW6a⟩ : ∃ W : World, Hid (W5.alloc (.cells zreq 38) = W) := ⟨_, hid rfl⟩
  obtain ⟨W6, HW6⟩ : ∃ W : World, Hid (W6a.setRow W5.heap.size mq = W) := ⟨_, hid rfl⟩
  obtain ⟨W7, HW7⟩ : ∃ W : World, Hid (W6.setCell ⟨W5.heap.size, 22, none⟩ (.slice (some ⟨gq, 0, none⟩) qb.length cq) = W) := ⟨_, hid rfl⟩
  obtain ⟨W8a, HW8a⟩ : ∃ W : World, Hid (W7.alloc (.cells zrep 42) = W) := ⟨_, hid rfl⟩
  obtain ⟨W8, HW8⟩ : ∃ W : World, Hid (W8a.setRow (W5.heap.size + 1) #[.int .u8 k, (.slice np ns.length nc), (.slice rp rb.length rc)] = W) := ⟨_, hid rfl⟩
  obtain ⟨W9, HW9⟩ : ∃ W : World, Hid (W8.setCell ⟨W5.heap.size + 1, 2, none⟩ (.slice (some ⟨gr, 0, none⟩) rb.length cr) = W) := ⟨_, hid rfl⟩
  obtain ⟨WZ, HWZ⟩ : ∃ W : World, Hid (W9.setCell ⟨W5.heap.size + 1, 1, none⟩ (.slice (some ⟨gn, 0, none⟩) ns.length cn) = W) := ⟨_, hid rfl⟩
  have x6a : W6a.heap[W5.heap.size]? = some (.cells zrq 38 (0, 0)) := by rw [← HW6a.out]; exact heap_alloc_new W5 _
  have x6 : W6.heap[W5.heap.size]? = some (.cells mq 38 (0, 0)) := by rw [← HW6.out]; exact setRow_heap _ _ _ _ _ _ x6a
  have x7 : W7.heap[W5.heap.size]? = some (.cells (mq.setIfInBounds 22 (.slice (some ⟨gq, 0, none⟩) qb.length cq)) 38 (0, 0)) := by rw [← HW7.out]; exact heap_setA x6 22 _
  have z6 : W6.heap.size = W5.heap.size + 1 := by rw [← HW6.out, ← HW6a.out]; simp [World.setRow]
  have z7 : W7.heap.size = W5.heap.size + 1 := by rw [← HW7.out]; simp [World.setCell, z6]
  have x8a : W8a.heap[W5.heap.size + 1]? = some (.cells zrp 42 (0, 0)) := by rw [← z7, ← HW8a.out]; exact heap_alloc_new W7 _
  have x8 : W8.heap[W5.heap.size + 1]? = some (.cells #[.int .u8 k, (.slice np ns.length nc), (.slice rp rb.length rc)] 42 (0, 0)) := by rw [← HW8.out]; exact setRow_heap _ _ _ _ _ _ x8a
  have x9 : W9.heap[W5.heap.size + 1]? = some (.cells #[.int .u8 k, (.slice np ns.length nc), .slice (some ⟨gr, 0, none⟩) rb.length cr] 42 (0, 0)) := by rw [← HW9.out]; exact heap_setA x8 2 _
  have xZ : WZ.heap[W5.heap.size + 1]? = some (.cells (rpA k (.slice (some ⟨gn, 0, none⟩) ns.length cn) (.slice (some ⟨gr, 0, none⟩) rb.length cr)) 42 (0, 0)) := by rw [← HWZ.out]; exact heap_setA x9 1 _
  have o6 : ∀ b, b < W5.heap.size → W6.heap[b]? = W5.heap[b]? := fun b hb => by
    rw [← HW6.out, ← heap_alloc_old W5 (.cells zreq 38) hb, HW6a.out]
    simp [World.setRow, Array.getElem?_modify, show W5.heap.size ≠ b by omega]
  have o7 : ∀ b, b < W5.heap.size → W7.heap[b]? = W5.heap[b]? := fun b hb => by
    rw [← o6 b hb, ← HW7.out]
    simp [World.setCell, Array.getElem?_modify, show W5.heap.size ≠ b by omega]
  have o8 : ∀ b, b < W5.heap.size + 1 → W8.heap[b]? = W7.heap[b]? := fun b hb => by
    rw [← HW8.out, ← heap_alloc_old W7 (.cells zrep 42) (by omega), HW8a.out]
    simp [World.setRow, Array.getElem?_modify, show W5.heap.size + 1 ≠ b by omega]
  have oZ : ∀ b, b < W5.heap.size + 1 → WZ.heap[b]? = W7.heap[b]? := fun b hb => by
    rw [← o8 b hb, ← HWZ.out, ← HW9.out]
    simp [World.setCell, Array.getElem?_modify, show W5.heap.size + 1 ≠ b by omega]
  have zZ : WZ.heap.size = W5.heap.size + 2 := by
    rw [← HWZ.out, ← HW9.out, ← HW8.out, ← HW8a.out]
    simp [World.setCell, World.setRow, z7]
  have BZ5 : Below W5.heap.size W5 WZ := by
    have q1 : Below W5.heap.size W5 W6a := by rw [← HW6a.out]; exact (Below.refl _ W5).alloc (Nat.le_refl _) _
    have q2 : Below W5.heap.size W5 W6 := q1.trans (by rw [← HW6.out]; exact (ex_setRow (Ex.refl (fun k => k = W5.heap.size) W6a) rfl mq).below q1.size (fun k e => by omega))
    have q3 : Below W5.heap.size W5 W7 := by rw [← HW7.out]; exact q2.setCell (Nat.le_refl _) _
    have q4 : Below W5.heap.size W5 W8a := by rw [← HW8a.out]; exact q3.alloc (by omega) _
    have q5 : Below W5.heap.size W5 W8 := q4.trans (by rw [← HW8.out]; exact (ex_setRow (Ex.refl (fun k => k = W5.heap.size + 1) W8a) rfl _).below q4.size (fun k e => by omega))
    have q6 : Below W5.heap.size W5 W9 := by rw [← HW9.out]; exact q5.setCell (by show W5.heap.size ≤ W5.heap.size + 1; omega) _
    rw [← HWZ.out]; exact q6.setCell (by show W5.heap.size ≤ W5.heap.size + 1; omega) _
  have BZ : Hid (Below w.heap.size w WZ) := hid (BW5.out.trans (BZ5.mono BW5.out.size))
  have X6 : Hid (W6.heap[w.heap.size]? = some (.cells m TO (0, 0))) := hid ((o6 _ (by have := ORD.out; omega)).trans XW5.out)
  have X7 : Hid (W7.heap[w.heap.size]? = some (.cells m TO (0, 0))) := hid ((o7 _ (by have := ORD.out; omega)).trans XW5.out)
  have X8 : Hid (W8.heap[w.heap.size]? = some (.cells m TO (0, 0))) := hid ((o8 _ (by have := ORD.out; omega)).trans X7.out)
  have X9 : Hid (W9.heap[w.heap.size]? = some (.cells m TO (0, 0))) := hid (by
    have q := ORD.out
    rw [← X8.out, ← HW9.out]
    simp [World.setCell, Array.getElem?_modify, show W5.heap.size + 1 ≠ w.heap.size by omega])
  have hms : Hid (mq.size = 23) := hid (by rw [← HMQ.out]; exact rqA_size H0.out.ok _)
  have hmo : Hid (mq.all (·.oneCell') = true) := hid (by rw [← HMQ.out]; exact rqA_one _ _ rfl)
  have hro : Hid ((#[Value.int .u8 k, (.slice np ns.length nc), (.slice rp rb.length rc)]).all (·.oneCell') = true) := hid (by exact rpA_one k _ _ rfl rfl)
  obtain ⟨mz, HMZ⟩ : ∃ x, Hid (rqA r (.slice (some ⟨gq, 0, none⟩) qb.length cq) = x) := ⟨_, hid rfl⟩
  obtain ⟨mr, HMR⟩ : ∃ x, Hid (rpA k (.slice (some ⟨gn, 0, none⟩) ns.length cn) (.slice (some ⟨gr, 0, none⟩) rb.length cr) = x) := ⟨_, hid rfl⟩
  have hmz : Hid (mz.toList.length = 23) := hid (by rw [Array.length_toList, ← HMZ.out]; exact rqA_size H0.out.ok _)
  have hmr : Hid (mr.toList.length = 3) := hid (by rw [Array.length_toList, ← HMR.out]; rfl)
  have AFZ : Hid (AF w0 WZ w.heap.size w.heap.size W5.heap.size (W5.heap.size + 1) m mz mr (.slice (some ⟨gq, 0, none⟩) (qb.length + 70) cq) (.slice (some ⟨gr, 0, none⟩) (rb.length + 70) cr) (.slice (some ⟨gn, 0, none⟩) (ns.length + 70) cn) (.slice (some ⟨gd, 0, none⟩) (db.length + 70) cd) qb rb ns db) := hid (by
    have keep : ∀ {e : TypeId} {v : Value} {n : Nat} {xs : List Value} {B : Nat}, w.heap.size ≤ B → W5.ownsRow B e 1 v n xs → WZ.ownsRow w.heap.size e 1 v n xs := fun {e v n xs B} hB q => own_low (own_of q fun b hb => BZ5.block b (own_at q hb).1) hB
    refine ⟨BW.out WZ BZ.out, (BZ5.block _ (by have := ORD.out; omega)).trans XW5.out, ?_, ?_, keep (by omega) Oq5.out, keep (by omega) Or5.out, keep (by omega) On5.out, keep (by omega) OLd.out⟩
    · rw [oZ _ (by omega), x7, ← HMQ.out, mq_set H0.out.ok, HMZ.out]
    · rw [xZ, HMR.out])
  have KBZ : Hid (BK w0.heap.size w.heap.size WZ.heap.size WZ g vb vw vi vm xb xw xi xm bs bs is is) := hid ((hk.reset WZ.heap.size).below BZ.out)
  have XBE : Hid (∀ k, k < xb.length → ∀ b, (xb.getD k undef).ownBlock = some b → b < w.heap.size) := hid (fun k hk' b hb => (own_at (hk.eb.own k hk') hb).1)
  have XWE : Hid (∀ k, k < xw.length → ∀ b, (xw.getD k undef).ownBlock = some b → b < w.heap.size) := hid (fun k hk' b hb => (own_at (hk.ew.own k hk') hb).1)
  have XME : Hid (∀ k, k < xm.length → ∀ b, (xm.getD k undef).ownBlock = some b → b < w.heap.size) := hid (fun k hk' b hb => (own_at (hk.em.own k hk') hb).1)
  have XIE : Hid (∀ k, k < xi.length → ∀ b, (xi.getD k undef).ownBlock = some b → b < w.heap.size) := hid (fun k hk' b hb => (own_at (hk.ei.own k hk') hb).1)
  have HWZ5 : Hid (WZ.heap.size = W5.heap.size + 2) := hid zZ
  have sw : Hid (w.heap.size ≤ WZ.heap.size) := hid BZ.out.size
  have X6A := hid x6a
  have X8A := hid x8a
  have HZ7 := hid z7
  have c7 : W6.cell? ⟨W5.heap.size, 22, none⟩ = some (.slice qp qb.length qc) := by rw [cell_of_row _ _ _ _ _ _ x6, ← HMQ.out]; exact rqA_22 H0.out.ok _
  have f7 := free_of x6 22
  have c9 : W8.cell? ⟨W5.heap.size + 1, 2, none⟩ = some (.slice rp rb.length rc) := by rw [cell_of_row _ _ _ _ _ _ x8]; rfl
  have f9 := free_of x8 2
  have cZ : W9.cell? ⟨W5.heap.size + 1, 1, none⟩ = some (.slice np ns.length nc) := by rw [cell_of_row _ _ _ _ _ _ x9]; rfl
  have fZ := free_of x9 1
  have hq1 := fun W => slice_hB W gq 0 (qb.length + 70) cq qb.length (by omega) (by omega)
  have hr1 := fun W => slice_hB W gr 0 (rb.length + 70) cr rb.length (by omega) (by omega)
  have hn1 := fun W => slice_hI W gn 0 (ns.length + 70) cn ns.length (by omega) (by omega)
  have hd1 := fun W => slice_hB W gd 0 (db.length + 70) cd db.length (by omega) (by omega)
  clear y0 y23 y25 y26 y27 x6a x6 x7 z6 z7 x8a x8 x9 xZ o6 o7 o8 oZ zZ BZ5 hk s1 s2 s3 zlq zhq zcq zmq zlr zhr zcr zmr zln zhn zcn zmn zld zhd zcd zmd
  subst hcl
  have CP : Hid (∀ W, Below WZ.heap.size WZ W → Calls Try.prog 15 #[.slice (some ⟨gd, 0, none⟩) db.length cd] W fun e w' => (∃ v, e = .returned (.tuple #[.agg (rqA (aR db) v), .int .i64 (aP db), .int .i64 (aE db)]) ∧ w'.ownsRow W.heap.size 5 1 v (aB db).length ((aB db).map (Value.int .u8))) ∧ Below W.heap.size W w') := hid (fun W hW => (request_any W _ db (lent_cut (AFZ.out.below hW).od H0.out.d.2).1 (by omega)).mono fun e w' q => ⟨ReqQ.any H0.out.d.2 q.1, q.2⟩)
  have CR : Hid (∀ W, Below w0.heap.size w0 W → Calls Try.prog 25 #[(.slice dp db.length dc)] W fun e w' => (∃ v, e = .returned (.tuple #[.agg (rqA (aR db) v), .int .i64 (aP db), .int .i64 (aE db)]) ∧ w'.ownsRow W.heap.size 5 1 v (aB db).length ((aB db).map (Value.int .u8))) ∧ Below W.heap.size W w') := hid (fun W hW => (rreq_any W _ db (OPW.out W hW).d (by omega)).mono fun e w' q => ⟨DocQ.any q.1, q.2⟩)
  have HOK : Hid ((aR db).ok) := hid (aR_ok H0.out.d.2)
  have HLB : Hid (∀ x ∈ aB db, 0 ≤ x ∧ x < 256) := hid (aB_byt H0.out.d.2)
  have HLN : Hid ((aB db).length ≤ 4000000) := hid (by have := aB_len db; omega)
  generalize aR db = rr at CP CR HOK
  generalize aP db = PP at CP CR
  generalize aE db = EE at CP CR
  generalize aB db = LL at CP CR HLB HLN
  obtain ⟨-, y6, -, -, -⟩ := KX.out W6 X6.out
  obtain ⟨-, -, -, y8, -⟩ := KX.out W8 X8.out
  obtain ⟨-, -, y9, -, -⟩ := KX.out W9 X9.out
  obtain ⟨yz0, -, -, -, yz27⟩ := KX.out WZ AFZ.out.fP
  go_wp2_with (first | (refine wpList_load_mid rfl 38 _ rfl w.heap.size 1 rfl (rqL r (.slice qp qb.length qc)) _ (RGQ.out _ XW5.out) Try.underlying38 rfl SLQ.out ?_; rw [show (rqL r (.slice qp qb.length qc)).toArray = mq from HMQ.out]) | rw [HW6a.out] | (refine wpList_store_row rfl 38 _ _ rfl W5.heap.size mq rfl rfl 38 zrq X6A.out (by rw [hms.out]; exact size_q) (by rw [hms.out]; rfl) hmo.out ?_) | rw [HW6.out] | rw [HW7.out] | (refine wpList_load_mid rfl 42 _ rfl w.heap.size 24 rfl [.int .u8 k, (.slice np ns.length nc), (.slice rp rb.length rc)] _ (RGR.out _ X7.out) Try.underlying42 rfl size_r ?_) | rw [HW8a.out, HZ7.out] | (refine wpList_store_row rfl 42 _ _ rfl (W5.heap.size + 1) #[.int .u8 k, (.slice np ns.length nc), (.slice rp rb.length rc)] rfl rfl 42 zrp X8A.out size_r rfl hro.out ?_) | rw [HW8.out] | rw [HW9.out] | rw [HWZ.out] | fail)
  refine (CP.out _ (Below.refl _ _)).mono ?_
  rintro e U1 ⟨⟨ua, rfl, hoa⟩, hu1⟩
  obtain ⟨pa, ca, ea⟩ := own_slice hoa
  subst ea
  have OA : Hid (U1.ownsRow WZ.heap.size 5 1 (.slice pa LL.length ca) LL.length (LL.map (Value.int .u8))) := hid (hoa)
  obtain ⟨MA1, HMA1⟩ : ∃ x, Hid (rqA rr (.slice pa LL.length ca) = x) := ⟨_, hid rfl⟩
  rw [HMA1.out]
  have sz1 : Hid (MA1.size = 23) := hid (by rw [← HMA1.out]; exact rqA_size HOK.out _)
  have on1 : Hid (MA1.all (·.oneCell') = true) := hid (by rw [← HMA1.out]; exact rqA_one _ _ rfl)
  have CEBXa : Hid (MA1[22]? = some (.slice pa LL.length ca)) := hid (by rw [← HMA1.out]; exact rqA_22 HOK.out _)
  clear hoa
  have AF1 : Hid (AF w0 U1 w.heap.size w.heap.size W5.heap.size (W5.heap.size + 1) m mz mr (.slice (some ⟨gq, 0, none⟩) (qb.length + 70) cq) (.slice (some ⟨gr, 0, none⟩) (rb.length + 70) cr) (.slice (some ⟨gn, 0, none⟩) (ns.length + 70) cn) (.slice (some ⟨gd, 0, none⟩) (db.length + 70) cd) qb rb ns db) := hid (AFZ.out.below hu1)
  have KB1 : Hid (BK w0.heap.size w.heap.size WZ.heap.size U1 g vb vw vi vm xb xw xi xm bs bs is is) := hid (KBZ.out.below hu1)
  obtain ⟨Y1a, HY1a⟩ : ∃ W : World, Hid (U1.alloc (.cells zreq 38) = W) := ⟨_, hid rfl⟩
  obtain ⟨Y1, HY1⟩ : ∃ W : World, Hid (Y1a.setRow U1.heap.size MA1 = W) := ⟨_, hid rfl⟩
  have ya1 : Y1a.heap[U1.heap.size]? = some (.cells zrq 38 (0, 0)) := by rw [← HY1a.out]; exact heap_alloc_new _ _
  have YA1 := hid ya1
  have BXa : Hid (Y1.heap[U1.heap.size]? = some (.cells MA1 38 (0, 0))) := hid (by rw [← HY1.out]; exact setRow_heap _ _ _ _ _ _ ya1)
  have hy1 : Below U1.heap.size U1 Y1 := by
    have q1 : Below U1.heap.size U1 Y1a := by rw [← HY1a.out]; exact (Below.refl _ _).alloc (Nat.le_refl _) _
    exact q1.trans (by rw [← HY1.out]; exact (ex_setRow (Ex.refl (fun k => k = U1.heap.size) Y1a) rfl MA1).below q1.size (fun k e => by omega))
  clear ya1
  have AF2 : Hid (AF w0 Y1 w.heap.size w.heap.size W5.heap.size (W5.heap.size + 1) m mz mr (.slice (some ⟨gq, 0, none⟩) (qb.length + 70) cq) (.slice (some ⟨gr, 0, none⟩) (rb.length + 70) cr) (.slice (some ⟨gn, 0, none⟩) (ns.length + 70) cn) (.slice (some ⟨gd, 0, none⟩) (db.length + 70) cd) qb rb ns db) := hid (AF1.out.below hy1)
  have KB2 : Hid (BK w0.heap.size w.heap.size WZ.heap.size Y1 g vb vw vi vm xb xw xi xm bs bs is is) := hid (KB1.out.below hy1)
  have OA_2 : Hid (Y1.ownsRow WZ.heap.size 5 1 (.slice pa LL.length ca) LL.length (LL.map (Value.int .u8))) := hid (own_of OA.out fun b hb' => (hy1).block b (own_at OA.out hb').1)
  have LOW : Hid (WZ.heap.size ≤ Y1.heap.size) := hid (Nat.le_trans hu1.size hy1.size)
  obtain ⟨-, -, -, -, yd27⟩ := KX.out Y1 AF2.out.fP
  go_wp2_with (first | rw [HY1a.out] | (refine wpList_store_row rfl 38 _ _ rfl U1.heap.size MA1 rfl rfl 38 zrq YA1.out (by rw [sz1.out]; exact size_q) (by rw [sz1.out]; rfl) on1.out ?_) | rw [HY1.out] | fail)
  refine (CR.out _ AF2.out.bel).mono ?_
  rintro e U2 ⟨⟨ub, rfl, hob⟩, hu2⟩
  obtain ⟨pb, cb, eb⟩ := own_slice hob
  subst eb
  have OB : Hid (U2.ownsRow WZ.heap.size 5 1 (.slice pb LL.length cb) LL.length (LL.map (Value.int .u8))) := hid (own_low hob LOW.out)
  obtain ⟨MA2, HMA2⟩ : ∃ x, Hid (rqA rr (.slice pb LL.length cb) = x) := ⟨_, hid rfl⟩
  rw [HMA2.out]
  have sz2 : Hid (MA2.size = 23) := hid (by rw [← HMA2.out]; exact rqA_size HOK.out _)
  have on2 : Hid (MA2.all (·.oneCell') = true) := hid (by rw [← HMA2.out]; exact rqA_one _ _ rfl)
  have CEBXb : Hid (MA2[22]? = some (.slice pb LL.length cb)) := hid (by rw [← HMA2.out]; exact rqA_22 HOK.out _)
  clear hob
  have AF3 : Hid (AF w0 U2 w.heap.size w.heap.size W5.heap.size (W5.heap.size + 1) m mz mr (.slice (some ⟨gq, 0, none⟩) (qb.length + 70) cq) (.slice (some ⟨gr, 0, none⟩) (rb.length + 70) cr) (.slice (some ⟨gn, 0, none⟩) (ns.length + 70) cn) (.slice (some ⟨gd, 0, none⟩) (db.length + 70) cd) qb rb ns db) := hid (AF2.out.below hu2)
  have KB3 : Hid (BK w0.heap.size w.heap.size WZ.heap.size U2 g vb vw vi vm xb xw xi xm bs bs is is) := hid (KB2.out.below hu2)
  have OA_3 : Hid (U2.ownsRow WZ.heap.size 5 1 (.slice pa LL.length ca) LL.length (LL.map (Value.int .u8))) := hid (own_of OA_2.out fun b hb' => (hu2).block b (own_at OA_2.out hb').1)
  have BXa_3 : Hid (U2.heap[U1.heap.size]? = some (.cells MA1 38 (0, 0))) := hid (((hu2).block _ (Array.getElem?_eq_some_iff.1 BXa.out).1).trans BXa.out)
  obtain ⟨Y2a, HY2a⟩ : ∃ W : World, Hid (U2.alloc (.cells zreq 38) = W) := ⟨_, hid rfl⟩
  obtain ⟨Y2, HY2⟩ : ∃ W : World, Hid (Y2a.setRow U2.heap.size MA2 = W) := ⟨_, hid rfl⟩
  have ya2 : Y2a.heap[U2.heap.size]? = some (.cells zrq 38 (0, 0)) := by rw [← HY2a.out]; exact heap_alloc_new _ _
  have YA2 := hid ya2
  have BXb : Hid (Y2.heap[U2.heap.size]? = some (.cells MA2 38 (0, 0))) := hid (by rw [← HY2.out]; exact setRow_heap _ _ _ _ _ _ ya2)
  have hy2 : Below U2.heap.size U2 Y2 := by
    have q1 : Below U2.heap.size U2 Y2a := by rw [← HY2a.out]; exact (Below.refl _ _).alloc (Nat.le_refl _) _
    exact q1.trans (by rw [← HY2.out]; exact (ex_setRow (Ex.refl (fun k => k = U2.heap.size) Y2a) rfl MA2).below q1.size (fun k e => by omega))
  clear ya2
  have AF4 : Hid (AF w0 Y2 w.heap.size w.heap.size W5.heap.size (W5.heap.size + 1) m mz mr (.slice (some ⟨gq, 0, none⟩) (qb.length + 70) cq) (.slice (some ⟨gr, 0, none⟩) (rb.length + 70) cr) (.slice (some ⟨gn, 0, none⟩) (ns.length + 70) cn) (.slice (some ⟨gd, 0, none⟩) (db.length + 70) cd) qb rb ns db) := hid (AF3.out.below hy2)
  have KB4 : Hid (BK w0.heap.size w.heap.size WZ.heap.size Y2 g vb vw vi vm xb xw xi xm bs bs is is) := hid (KB3.out.below hy2)
  have OA_4 : Hid (Y2.ownsRow WZ.heap.size 5 1 (.slice pa LL.length ca) LL.length (LL.map (Value.int .u8))) := hid (own_of OA_3.out fun b hb' => (hy2).block b (own_at OA_3.out hb').1)
  have OB_4 : Hid (Y2.ownsRow WZ.heap.size 5 1 (.slice pb LL.length cb) LL.length (LL.map (Value.int .u8))) := hid (own_of OB.out fun b hb' => (hy2).block b (own_at OB.out hb').1)
  have BXa_4 : Hid (Y2.heap[U1.heap.size]? = some (.cells MA1 38 (0, 0))) := hid (((hy2).block _ (Array.getElem?_eq_some_iff.1 BXa_3.out).1).trans BXa_3.out)
  clear yd27
  go_wp2_with (first | rw [HY2a.out] | (refine wpList_store_row rfl 38 _ _ rfl U2.heap.size MA2 rfl rfl 38 zrq YA2.out (by rw [sz2.out]; exact size_q) (by rw [sz2.out]; rfl) on2.out ?_) | rw [HY2.out] | fail)
  have DB5 : Below Y2.heap.size Y2 Y2.drew := (Below.refl _ _).drew
  have AF6 : Hid (AF w0 Y2.drew w.heap.size w.heap.size W5.heap.size (W5.heap.size + 1) m mz mr (.slice (some ⟨gq, 0, none⟩) (qb.length + 70) cq) (.slice (some ⟨gr, 0, none⟩) (rb.length + 70) cr) (.slice (some ⟨gn, 0, none⟩) (ns.length + 70) cn) (.slice (some ⟨gd, 0, none⟩) (db.length + 70) cd) qb rb ns db) := hid (AF4.out.below DB5)
  have KB6 : Hid (BK w0.heap.size w.heap.size WZ.heap.size Y2.drew g vb vw vi vm xb xw xi xm bs bs is is) := hid (KB4.out.below DB5)
  have OA_6 : Hid (Y2.drew.ownsRow WZ.heap.size 5 1 (.slice pa LL.length ca) LL.length (LL.map (Value.int .u8))) := hid (own_of OA_4.out fun b hb' => (DB5).block b (own_at OA_4.out hb').1)
  have OB_6 : Hid (Y2.drew.ownsRow WZ.heap.size 5 1 (.slice pb LL.length cb) LL.length (LL.map (Value.int .u8))) := hid (own_of OB_4.out fun b hb' => (DB5).block b (own_at OB_4.out hb').1)
  have BXa_6 : Hid (Y2.drew.heap[U1.heap.size]? = some (.cells MA1 38 (0, 0))) := hid (((DB5).block _ (Array.getElem?_eq_some_iff.1 BXa_4.out).1).trans BXa_4.out)
  have BXb_6 : Hid (Y2.drew.heap[U2.heap.size]? = some (.cells MA2 38 (0, 0))) := hid (((DB5).block _ (Array.getElem?_eq_some_iff.1 BXb.out).1).trans BXb.out)
  obtain ⟨WL7, HWL7⟩ : ∃ W : World, Hid (Y2.drew.alloc (.cells #[(.slice pa LL.length ca)] 36) = W) := ⟨_, hid rfl⟩
  have BL7 : Below Y2.drew.heap.size Y2.drew WL7 := by rw [← HWL7.out]; exact (Below.refl _ _).alloc (Nat.le_refl _) _
  have KL7 : Hid (BK w0.heap.size w.heap.size WZ.heap.size WL7 g vb vw vi vm xb xw xi xm bs bs is is) := hid (KB6.out.below BL7)
  have CL7 : Hid (WL7.cell? ⟨Y2.drew.heap.size, 0, none⟩ = some ((.slice pa LL.length ca))) := hid (by rw [cell_of_row _ _ _ _ _ _ (show WL7.heap[Y2.drew.heap.size]? = some (.cells #[(.slice pa LL.length ca)] 36 (0, 0)) by rw [← HWL7.out]; exact heap_alloc_new _ _)]; rfl)
  have cb7 : Y2.drew.cell? ⟨g, 0, none⟩ = some vb := by rw [cell_of_row _ _ _ _ _ _ KB6.out.blk]; rfl
  have nl7 : Hid (bs.length + 1 ≤ 4194304) := hid (by omega)
  go_wp2_with fail
  refine wp_region_last (S := (fun W : World => W.heap[g]? = some (.cells #[vb, vw, vi, vm] TB (0, 0)) ∧ W.heap[U1.heap.size]? = some (.cells MA1 38 (0, 0)))) 11 (by kernel_rfl) ⟨KB6.out.blk, BXa_6.out⟩ (fun hHeld => ?_)
  have HS := hid hHeld
  clear hHeld
  change wpAnyL _ _ _ _ _ _ _ _ _ (World.drew _)
  refine wpAnyL_take (i := 0) (v := ?_) rfl (by kernel_rfl) (by kernel_rfl) (by kernel_rfl) (by kernel_rfl) (by kernel_rfl) (fun _ _ _ h => h) (Or.inl ⟨by rfl, ?q0⟩) HS.out ?_
  case q0 => intro w hSw; have q1 : World.cell? _ ⟨_, 0, none⟩ = some vb := (cell_of_row _ _ _ _ _ _ hSw.1).trans rfl; have q2 : World.cell? _ ⟨_, 22, none⟩ = some ((.slice pa LL.length ca)) := (cell_of_row _ _ _ _ _ _ hSw.2).trans CEBXa.out; go_simp; rfl
  simp only [Act.put, List.getElem_toArray, List.getElem_cons_zero, List.getElem_cons_succ, List.setIfInBounds_toArray, List.set_cons_zero, List.set_cons_succ]
  refine wpAnyL_take (i := 1) (v := ?_) rfl (by kernel_rfl) (by kernel_rfl) (by kernel_rfl) (by kernel_rfl) (by kernel_rfl) (fun _ _ _ h => h) (Or.inl ⟨by rfl, ?q1⟩) HS.out ?_
  case q1 => intro w hSw; have q1 : World.cell? _ ⟨_, 0, none⟩ = some vb := (cell_of_row _ _ _ _ _ _ hSw.1).trans rfl; have q2 : World.cell? _ ⟨_, 22, none⟩ = some ((.slice pa LL.length ca)) := (cell_of_row _ _ _ _ _ _ hSw.2).trans CEBXa.out; go_simp; rfl
  simp only [Act.put, List.getElem_toArray, List.getElem_cons_zero, List.getElem_cons_succ, List.setIfInBounds_toArray, List.set_cons_zero, List.set_cons_succ]
  refine wpAnyL_take (i := 2) (v := ?_) rfl (by kernel_rfl) (by kernel_rfl) (by kernel_rfl) (by kernel_rfl) (by kernel_rfl) (fun _ _ _ h => h) (Or.inl ⟨by rfl, ?q2⟩) HS.out ?_
  case q2 => intro w hSw; have q1 : World.cell? _ ⟨_, 0, none⟩ = some vb := (cell_of_row _ _ _ _ _ _ hSw.1).trans rfl; have q2 : World.cell? _ ⟨_, 22, none⟩ = some ((.slice pa LL.length ca)) := (cell_of_row _ _ _ _ _ _ hSw.2).trans CEBXa.out; go_simp; rfl
  simp only [Act.put, List.getElem_toArray, List.getElem_cons_zero, List.getElem_cons_succ, List.setIfInBounds_toArray, List.set_cons_zero, List.set_cons_succ]
  refine wpAnyL_take (i := 3) (v := ?_) rfl (by kernel_rfl) (by kernel_rfl) (by kernel_rfl) (by kernel_rfl) (by kernel_rfl) (fun _ _ _ h => h) (Or.inl ⟨by rfl, ?q3⟩) HS.out ?_
  case q3 => intro w hSw; have q1 : World.cell? _ ⟨_, 0, none⟩ = some vb := (cell_of_row _ _ _ _ _ _ hSw.1).trans rfl; have q2 : World.cell? _ ⟨_, 22, none⟩ = some ((.slice pa LL.length ca)) := (cell_of_row _ _ _ _ _ _ hSw.2).trans CEBXa.out; go_simp; rfl
  simp only [Act.put, List.getElem_toArray, List.getElem_cons_zero, List.getElem_cons_succ, List.setIfInBounds_toArray, List.set_cons_zero, List.set_cons_succ]
  refine wpAnyL_take (i := 4) (v := ?_) rfl (by kernel_rfl) (by kernel_rfl) (by kernel_rfl) (by kernel_rfl) (by kernel_rfl) (fun _ _ _ h => h) (Or.inl ⟨by rfl, ?q4⟩) HS.out ?_
  case q4 => intro w hSw; have q1 : World.cell? _ ⟨_, 0, none⟩ = some vb := (cell_of_row _ _ _ _ _ _ hSw.1).trans rfl; have q2 : World.cell? _ ⟨_, 22, none⟩ = some ((.slice pa LL.length ca)) := (cell_of_row _ _ _ _ _ _ hSw.2).trans CEBXa.out; go_simp; rfl
  simp only [Act.put, List.getElem_toArray, List.getElem_cons_zero, List.getElem_cons_succ, List.setIfInBounds_toArray, List.set_cons_zero, List.set_cons_succ]
  refine wpAnyL_take (i := 5) (v := ?_) rfl (by kernel_rfl) (by kernel_rfl) (by kernel_rfl) (by kernel_rfl) (by kernel_rfl) (fun _ _ _ h => h) (Or.inl ⟨by rfl, ?q5⟩) HS.out ?_
  case q5 => intro w hSw; have q1 : World.cell? _ ⟨_, 0, none⟩ = some vb := (cell_of_row _ _ _ _ _ _ hSw.1).trans rfl; have q2 : World.cell? _ ⟨_, 22, none⟩ = some ((.slice pa LL.length ca)) := (cell_of_row _ _ _ _ _ _ hSw.2).trans CEBXa.out; go_simp; rfl
  simp only [Act.put, List.getElem_toArray, List.getElem_cons_zero, List.getElem_cons_succ, List.setIfInBounds_toArray, List.set_cons_zero, List.set_cons_succ]
  refine wpAnyL_take (i := 6) (v := ?_) rfl (by kernel_rfl) (by kernel_rfl) (by kernel_rfl) (by kernel_rfl) (by kernel_rfl) (fun _ _ _ h => h) (Or.inl ⟨by rfl, ?q6⟩) HS.out ?_
  case q6 => intro w hSw; have q1 : World.cell? _ ⟨_, 0, none⟩ = some vb := (cell_of_row _ _ _ _ _ _ hSw.1).trans rfl; have q2 : World.cell? _ ⟨_, 22, none⟩ = some ((.slice pa LL.length ca)) := (cell_of_row _ _ _ _ _ _ hSw.2).trans CEBXa.out; go_simp; rfl
  simp only [Act.put, List.getElem_toArray, List.getElem_cons_zero, List.getElem_cons_succ, List.setIfInBounds_toArray, List.set_cons_zero, List.set_cons_succ]
  clear HS
  refine wpAnyL_one (i := 7) (by kernel_rfl) rfl (fun K hK => ?_)
  refine wanted_litP (by rfl) 24 1 _ rfl #[(0, (.slice pa LL.length ca))] (by go_simp) _ (run_litBs _ _ _ _) ?_
  rw [HWL7.out]
  try simp only [Act.put, List.getElem_toArray, List.getElem_cons_zero, List.getElem_cons_succ, List.setIfInBounds_toArray, List.set_cons_zero, List.set_cons_succ]
  refine hK.out _ _ (fun _ => ⟨KL7.out.blk, (BL7.block _ (Array.getElem?_eq_some_iff.1 BXa_6.out).1).trans BXa_6.out⟩) ?_
  clear hK K
  refine wpAnyL_one (i := 8) (by kernel_rfl) rfl (fun K hK => ?_)
  rw [if_pos (by rfl)]
  refine wp_appb _ _ rfl w0.heap.size vb bs.length xb rfl KL7.out.rb ⟨Y2.drew.heap.size, 0, none⟩ 1 _ rfl rfl CL7.out nl7.out KL7.out.low (fun v17 w17 ho7 hg7 hw7 => ?_)
  have hg7' : (Y2.drew.alloc (.cells #[(.slice pa LL.length ca)] 36)).grownBy w17 vb.ownBlock := by rw [HWL7.out]; exact hg7
  have hw7' : v17.ownBlock = vb.ownBlock ∨ (v17.ownBlock = some (Y2.drew.alloc (.cells #[(.slice pa LL.length ca)] 36)).heap.size ∧ (Y2.drew.alloc (.cells #[(.slice pa LL.length ca)] 36)).grownBy w17 none) := by rw [HWL7.out]; exact hw7
  obtain ⟨PF7, PB7⟩ := push_frame (i := 0) (v' := v17) KB6.out.rb KB6.out.blk hgB KB6.out.low hg7'
  have KN7 := KB6.out.push_b (own_low OA_6.out AFZ.out.bel.size) HLB.out (fun b hb' => own_ge OA_6.out hb') (fun b hb' j hj => fun q => by have q1 := XBE.out j hj b q; have q2 := own_ge OA_6.out hb'; have := sw.out; omega) ho7 hg7' hw7'
  have bk17 : w17.heap[g]? = some (.cells #[vb, vw, vi, vm] TB (0, 0)) := (grow_keeps hg7' (Array.getElem?_eq_some_iff.1 KB6.out.blk).1 (fun q => by
    obtain ⟨_, _, cs', q2⟩ := own_at KB6.out.rb q
    rw [KB6.out.blk] at q2
    simp only [Option.some.injEq, Obj.cells.injEq] at q2
    exact absurd q2.2.1 (by decide))).trans KB6.out.blk
  have cc7 : w17.cell? ⟨g, 0, none⟩ = some vb := by rw [cell_of_row _ _ _ _ _ _ bk17]; rfl
  have ff7 := free_of bk17 0
  obtain ⟨pv7, cv7, ev7⟩ := own_slice ho7
  subst ev7
  obtain ⟨WN7, HWN7⟩ : ∃ W : World, Hid (w17.setCell ⟨g, 0, none⟩ (.slice pv7 (bs.length + 1) cv7) = W) := ⟨_, hid rfl⟩
  rw [HWN7.out] at PF7 PB7 KN7
  try simp only [Act.put, List.getElem_toArray, List.getElem_cons_zero, List.getElem_cons_succ, List.setIfInBounds_toArray, List.set_cons_zero, List.set_cons_succ]
  have HS : Hid (w17.heap[g]? = some (.cells #[vb, vw, vi, vm] TB (0, 0)) ∧ w17.heap[U1.heap.size]? = some (.cells MA1 38 (0, 0))) := hid ⟨bk17, (grow_keeps hg7' (Array.getElem?_eq_some_iff.1 BXa_6.out).1 (fun q => by
    obtain ⟨_, _, cs', q2⟩ := own_at KB6.out.rb q
    rw [BXa_6.out] at q2
    simp only [Option.some.injEq, Obj.cells.injEq] at q2
    exact absurd q2.2.1 (by decide))).trans BXa_6.out⟩
  refine hK.out _ _ (fun _ => HS.out) ?_
  clear hK K
  refine wpAnyL_one (i := 9) (by kernel_rfl) rfl (fun K hK => ?_)
  go_simp
  refine hK.out _ _ (fun _ => HS.out) ?_
  clear hK K
  try simp only [Act.put, List.getElem_toArray, List.getElem_cons_zero, List.getElem_cons_succ, List.setIfInBounds_toArray, List.set_cons_zero, List.set_cons_succ]
  refine wpAnyL_take (i := 10) (v := ?_) rfl (by kernel_rfl) (by kernel_rfl) (by kernel_rfl) (by kernel_rfl) (by kernel_rfl) (fun _ _ _ h => h) (Or.inl ⟨by rfl, ?q10⟩) HS.out ?_
  case q10 => intro w hSw; have q1 : World.cell? _ ⟨_, 0, none⟩ = some vb := (cell_of_row _ _ _ _ _ _ hSw.1).trans rfl; have q2 : World.cell? _ ⟨_, 22, none⟩ = some ((.slice pa LL.length ca)) := (cell_of_row _ _ _ _ _ _ hSw.2).trans CEBXa.out; go_simp; rfl
  simp only [Act.put, List.getElem_toArray, List.getElem_cons_zero, List.getElem_cons_succ, List.setIfInBounds_toArray, List.set_cons_zero, List.set_cons_succ]
  refine wpAnyL_one (i := 11) (by kernel_rfl) rfl (fun K hK => ?_)
  clear HS
  go_simp
  rw [HWN7.out]
  refine hK.out _ _ (fun e => absurd rfl e) ?_
  clear hK K
  try simp only [Act.put, List.getElem_toArray, List.getElem_cons_zero, List.getElem_cons_succ, List.setIfInBounds_toArray, List.set_cons_zero, List.set_cons_succ]
  refine wpAnyL_done (by kernel_rfl) ?_ _
  have BN7 : Below w0.heap.size w0 WN7 := AF6.out.bel.trans PB7
  have AFN7 : Hid (AF w0 WN7 w.heap.size w.heap.size W5.heap.size (W5.heap.size + 1) m mz mr (.slice (some ⟨gq, 0, none⟩) (qb.length + 70) cq) (.slice (some ⟨gr, 0, none⟩) (rb.length + 70) cr) (.slice (some ⟨gn, 0, none⟩) (ns.length + 70) cn) (.slice (some ⟨gd, 0, none⟩) (db.length + 70) cd) qb rb ns db) := hid (AF6.out.of BN7 fun b cs T q n1 n2 n3 => PF7 b cs T q n1 n2)
  have KBN7 : Hid (BK w0.heap.size w.heap.size WZ.heap.size WN7 g (.slice pv7 (bs.length + 1) cv7) vw vi vm (xb ++ [(.slice pa LL.length ca)]) xw xi xm (bs ++ [LL]) bs is is) := hid KN7
  have OA_7n : Hid (WN7.ownsRow WZ.heap.size 5 1 ((.slice pa LL.length ca)) LL.length (LL.map (Value.int .u8))) := hid (own_of OA_6.out fun b hb' => by obtain ⟨_, _, cs', q2⟩ := own_at OA_6.out hb'; exact PF7 b cs' _ q2 (by decide) (by decide))
  have OB_7n : Hid (WN7.ownsRow WZ.heap.size 5 1 ((.slice pb LL.length cb)) LL.length (LL.map (Value.int .u8))) := hid (own_of OB_6.out fun b hb' => by obtain ⟨_, _, cs', q2⟩ := own_at OB_6.out hb'; exact PF7 b cs' _ q2 (by decide) (by decide))
  have BXa_7n : Hid (WN7.heap[U1.heap.size]? = some (.cells MA1 38 (0, 0))) := hid ((PF7 _ _ _ BXa_6.out (by decide) (by decide)).trans BXa_6.out)
  have BXb_7n : Hid (WN7.heap[U2.heap.size]? = some (.cells MA2 38 (0, 0))) := hid ((PF7 _ _ _ BXb_6.out (by decide) (by decide)).trans BXb_6.out)
  clear PF7 PB7 KN7 hg7 hw7 ho7 hg7' hw7' cb7 bk17 BL7 cc7 ff7
  have DB8 : Below WN7.heap.size WN7 WN7.drew := (Below.refl _ _).drew
  have AF9 : Hid (AF w0 WN7.drew w.heap.size w.heap.size W5.heap.size (W5.heap.size + 1) m mz mr (.slice (some ⟨gq, 0, none⟩) (qb.length + 70) cq) (.slice (some ⟨gr, 0, none⟩) (rb.length + 70) cr) (.slice (some ⟨gn, 0, none⟩) (ns.length + 70) cn) (.slice (some ⟨gd, 0, none⟩) (db.length + 70) cd) qb rb ns db) := hid (AFN7.out.below DB8)
  have KB9 : Hid (BK w0.heap.size w.heap.size WZ.heap.size WN7.drew g (.slice pv7 (bs.length + 1) cv7) vw vi vm (xb ++ [(.slice pa LL.length ca)]) xw xi xm (bs ++ [LL]) bs is is) := hid (KBN7.out.below DB8)
  have OA_9 : Hid (WN7.drew.ownsRow WZ.heap.size 5 1 (.slice pa LL.length ca) LL.length (LL.map (Value.int .u8))) := hid (own_of OA_7n.out fun b hb' => (DB8).block b (own_at OA_7n.out hb').1)
  have OB_9 : Hid (WN7.drew.ownsRow WZ.heap.size 5 1 (.slice pb LL.length cb) LL.length (LL.map (Value.int .u8))) := hid (own_of OB_7n.out fun b hb' => (DB8).block b (own_at OB_7n.out hb').1)
  have BXa_9 : Hid (WN7.drew.heap[U1.heap.size]? = some (.cells MA1 38 (0, 0))) := hid (((DB8).block _ (Array.getElem?_eq_some_iff.1 BXa_7n.out).1).trans BXa_7n.out)
  have BXb_9 : Hid (WN7.drew.heap[U2.heap.size]? = some (.cells MA2 38 (0, 0))) := hid (((DB8).block _ (Array.getElem?_eq_some_iff.1 BXb_7n.out).1).trans BXb_7n.out)
  obtain ⟨WL10, HWL10⟩ : ∃ W : World, Hid (WN7.drew.alloc (.cells #[(.slice pb LL.length cb)] 36) = W) := ⟨_, hid rfl⟩
  have BL10 : Below WN7.drew.heap.size WN7.drew WL10 := by rw [← HWL10.out]; exact (Below.refl _ _).alloc (Nat.le_refl _) _
  have KL10 : Hid (BK w0.heap.size w.heap.size WZ.heap.size WL10 g (.slice pv7 (bs.length + 1) cv7) vw vi vm (xb ++ [(.slice pa LL.length ca)]) xw xi xm (bs ++ [LL]) bs is is) := hid (KB9.out.below BL10)
  have CL10 : Hid (WL10.cell? ⟨WN7.drew.heap.size, 0, none⟩ = some ((.slice pb LL.length cb))) := hid (by rw [cell_of_row _ _ _ _ _ _ (show WL10.heap[WN7.drew.heap.size]? = some (.cells #[(.slice pb LL.length cb)] 36 (0, 0)) by rw [← HWL10.out]; exact heap_alloc_new _ _)]; rfl)
  have cb10 : WN7.drew.cell? ⟨g, 1, none⟩ = some vw := by rw [cell_of_row _ _ _ _ _ _ KB9.out.blk]; rfl
  have nl10 : Hid (bs.length + 1 ≤ 4194304) := hid (by omega)
  go_wp2_with fail
  refine wp_region_last (S := (fun W : World => W.heap[g]? = some (.cells #[(.slice pv7 (bs.length + 1) cv7), vw, vi, vm] TB (0, 0)) ∧ W.heap[U2.heap.size]? = some (.cells MA2 38 (0, 0)))) 11 (by kernel_rfl) ⟨KB9.out.blk, BXb_9.out⟩ (fun hHeld => ?_)
  have HS := hid hHeld
  clear hHeld
  change wpAnyL _ _ _ _ _ _ _ _ _ (World.drew _)
  refine wpAnyL_take (i := 0) (v := ?_) rfl (by kernel_rfl) (by kernel_rfl) (by kernel_rfl) (by kernel_rfl) (by kernel_rfl) (fun _ _ _ h => h) (Or.inl ⟨by rfl, ?q0⟩) HS.out ?_
  case q0 => intro w hSw; have q1 : World.cell? _ ⟨_, 1, none⟩ = some vw := (cell_of_row _ _ _ _ _ _ hSw.1).trans rfl; have q2 : World.cell? _ ⟨_, 22, none⟩ = some ((.slice pb LL.length cb)) := (cell_of_row _ _ _ _ _ _ hSw.2).trans CEBXb.out; go_simp; rfl
  simp only [Act.put, List.getElem_toArray, List.getElem_cons_zero, List.getElem_cons_succ, List.setIfInBounds_toArray, List.set_cons_zero, List.set_cons_succ]
  refine wpAnyL_take (i := 1) (v := ?_) rfl (by kernel_rfl) (by kernel_rfl) (by kernel_rfl) (by kernel_rfl) (by kernel_rfl) (fun _ _ _ h => h) (Or.inl ⟨by rfl, ?q1⟩) HS.out ?_
  case q1 => intro w hSw; have q1 : World.cell? _ ⟨_, 1, none⟩ = some vw := (cell_of_row _ _ _ _ _ _ hSw.1).trans rfl; have q2 : World.cell? _ ⟨_, 22, none⟩ = some ((.slice pb LL.length cb)) := (cell_of_row _ _ _ _ _ _ hSw.2).trans CEBXb.out; go_simp; rfl
  simp only [Act.put, List.getElem_toArray, List.getElem_cons_zero, List.getElem_cons_succ, List.setIfInBounds_toArray, List.set_cons_zero, List.set_cons_succ]
  refine wpAnyL_take (i := 2) (v := ?_) rfl (by kernel_rfl) (by kernel_rfl) (by kernel_rfl) (by kernel_rfl) (by kernel_rfl) (fun _ _ _ h => h) (Or.inl ⟨by rfl, ?q2⟩) HS.out ?_
  case q2 => intro w hSw; have q1 : World.cell? _ ⟨_, 1, none⟩ = some vw := (cell_of_row _ _ _ _ _ _ hSw.1).trans rfl; have q2 : World.cell? _ ⟨_, 22, none⟩ = some ((.slice pb LL.length cb)) := (cell_of_row _ _ _ _ _ _ hSw.2).trans CEBXb.out; go_simp; rfl
  simp only [Act.put, List.getElem_toArray, List.getElem_cons_zero, List.getElem_cons_succ, List.setIfInBounds_toArray, List.set_cons_zero, List.set_cons_succ]
  refine wpAnyL_take (i := 3) (v := ?_) rfl (by kernel_rfl) (by kernel_rfl) (by kernel_rfl) (by kernel_rfl) (by kernel_rfl) (fun _ _ _ h => h) (Or.inl ⟨by rfl, ?q3⟩) HS.out ?_
  case q3 => intro w hSw; have q1 : World.cell? _ ⟨_, 1, none⟩ = some vw := (cell_of_row _ _ _ _ _ _ hSw.1).trans rfl; have q2 : World.cell? _ ⟨_, 22, none⟩ = some ((.slice pb LL.length cb)) := (cell_of_row _ _ _ _ _ _ hSw.2).trans CEBXb.out; go_simp; rfl
  simp only [Act.put, List.getElem_toArray, List.getElem_cons_zero, List.getElem_cons_succ, List.setIfInBounds_toArray, List.set_cons_zero, List.set_cons_succ]
  refine wpAnyL_take (i := 4) (v := ?_) rfl (by kernel_rfl) (by kernel_rfl) (by kernel_rfl) (by kernel_rfl) (by kernel_rfl) (fun _ _ _ h => h) (Or.inl ⟨by rfl, ?q4⟩) HS.out ?_
  case q4 => intro w hSw; have q1 : World.cell? _ ⟨_, 1, none⟩ = some vw := (cell_of_row _ _ _ _ _ _ hSw.1).trans rfl; have q2 : World.cell? _ ⟨_, 22, none⟩ = some ((.slice pb LL.length cb)) := (cell_of_row _ _ _ _ _ _ hSw.2).trans CEBXb.out; go_simp; rfl
  simp only [Act.put, List.getElem_toArray, List.getElem_cons_zero, List.getElem_cons_succ, List.setIfInBounds_toArray, List.set_cons_zero, List.set_cons_succ]
  refine wpAnyL_take (i := 5) (v := ?_) rfl (by kernel_rfl) (by kernel_rfl) (by kernel_rfl) (by kernel_rfl) (by kernel_rfl) (fun _ _ _ h => h) (Or.inl ⟨by rfl, ?q5⟩) HS.out ?_
  case q5 => intro w hSw; have q1 : World.cell? _ ⟨_, 1, none⟩ = some vw := (cell_of_row _ _ _ _ _ _ hSw.1).trans rfl; have q2 : World.cell? _ ⟨_, 22, none⟩ = some ((.slice pb LL.length cb)) := (cell_of_row _ _ _ _ _ _ hSw.2).trans CEBXb.out; go_simp; rfl
  simp only [Act.put, List.getElem_toArray, List.getElem_cons_zero, List.getElem_cons_succ, List.setIfInBounds_toArray, List.set_cons_zero, List.set_cons_succ]
  refine wpAnyL_take (i := 6) (v := ?_) rfl (by kernel_rfl) (by kernel_rfl) (by kernel_rfl) (by kernel_rfl) (by kernel_rfl) (fun _ _ _ h => h) (Or.inl ⟨by rfl, ?q6⟩) HS.out ?_
  case q6 => intro w hSw; have q1 : World.cell? _ ⟨_, 1, none⟩ = some vw := (cell_of_row _ _ _ _ _ _ hSw.1).trans rfl; have q2 : World.cell? _ ⟨_, 22, none⟩ = some ((.slice pb LL.length cb)) := (cell_of_row _ _ _ _ _ _ hSw.2).trans CEBXb.out; go_simp; rfl
  simp only [Act.put, List.getElem_toArray, List.getElem_cons_zero, List.getElem_cons_succ, List.setIfInBounds_toArray, List.set_cons_zero, List.set_cons_succ]
  clear HS
  refine wpAnyL_one (i := 7) (by kernel_rfl) rfl (fun K hK => ?_)
  refine wanted_litP (by rfl) 24 1 _ rfl #[(0, (.slice pb LL.length cb))] (by go_simp) _ (run_litBs _ _ _ _) ?_
  rw [HWL10.out]
  try simp only [Act.put, List.getElem_toArray, List.getElem_cons_zero, List.getElem_cons_succ, List.setIfInBounds_toArray, List.set_cons_zero, List.set_cons_succ]
  refine hK.out _ _ (fun _ => ⟨KL10.out.blk, (BL10.block _ (Array.getElem?_eq_some_iff.1 BXb_9.out).1).trans BXb_9.out⟩) ?_
  clear hK K
  refine wpAnyL_one (i := 8) (by kernel_rfl) rfl (fun K hK => ?_)
  rw [if_pos (by rfl)]
  refine wp_appb _ _ rfl w0.heap.size vw bs.length xw rfl KL10.out.rw' ⟨WN7.drew.heap.size, 0, none⟩ 1 _ rfl rfl CL10.out nl10.out KL10.out.low (fun v110 w110 ho10 hg10 hw10 => ?_)
  have hg10' : (WN7.drew.alloc (.cells #[(.slice pb LL.length cb)] 36)).grownBy w110 vw.ownBlock := by rw [HWL10.out]; exact hg10
  have hw10' : v110.ownBlock = vw.ownBlock ∨ (v110.ownBlock = some (WN7.drew.alloc (.cells #[(.slice pb LL.length cb)] 36)).heap.size ∧ (WN7.drew.alloc (.cells #[(.slice pb LL.length cb)] 36)).grownBy w110 none) := by rw [HWL10.out]; exact hw10
  obtain ⟨PF10, PB10⟩ := push_frame (i := 1) (v' := v110) KB9.out.rw' KB9.out.blk hgB KB9.out.low hg10'
  have KN10 := KB9.out.push_w (own_low OB_9.out AFZ.out.bel.size) HLB.out (fun b hb' => own_ge OB_9.out hb') (fun b hb' j hj => fun q => by have q1 := XWE.out j hj b q; have q2 := own_ge OB_9.out hb'; have := sw.out; omega) ho10 hg10' hw10'
  have bk110 : w110.heap[g]? = some (.cells #[(.slice pv7 (bs.length + 1) cv7), vw, vi, vm] TB (0, 0)) := (grow_keeps hg10' (Array.getElem?_eq_some_iff.1 KB9.out.blk).1 (fun q => by
    obtain ⟨_, _, cs', q2⟩ := own_at KB9.out.rw' q
    rw [KB9.out.blk] at q2
    simp only [Option.some.injEq, Obj.cells.injEq] at q2
    exact absurd q2.2.1 (by decide))).trans KB9.out.blk
  have cc10 : w110.cell? ⟨g, 1, none⟩ = some vw := by rw [cell_of_row _ _ _ _ _ _ bk110]; rfl
  have ff10 := free_of bk110 1
  obtain ⟨pv10, cv10, ev10⟩ := own_slice ho10
  subst ev10
  obtain ⟨WN10, HWN10⟩ : ∃ W : World, Hid (w110.setCell ⟨g, 1, none⟩ (.slice pv10 (bs.length + 1) cv10) = W) := ⟨_, hid rfl⟩
  rw [HWN10.out] at PF10 PB10 KN10
  try simp only [Act.put, List.getElem_toArray, List.getElem_cons_zero, List.getElem_cons_succ, List.setIfInBounds_toArray, List.set_cons_zero, List.set_cons_succ]
  have HS : Hid (w110.heap[g]? = some (.cells #[(.slice pv7 (bs.length + 1) cv7), vw, vi, vm] TB (0, 0)) ∧ w110.heap[U2.heap.size]? = some (.cells MA2 38 (0, 0))) := hid ⟨bk110, (grow_keeps hg10' (Array.getElem?_eq_some_iff.1 BXb_9.out).1 (fun q => by
    obtain ⟨_, _, cs', q2⟩ := own_at KB9.out.rw' q
    rw [BXb_9.out] at q2
    simp only [Option.some.injEq, Obj.cells.injEq] at q2
    exact absurd q2.2.1 (by decide))).trans BXb_9.out⟩
  refine hK.out _ _ (fun _ => HS.out) ?_
  clear hK K
  refine wpAnyL_one (i := 9) (by kernel_rfl) rfl (fun K hK => ?_)
  go_simp
  refine hK.out _ _ (fun _ => HS.out) ?_
  clear hK K
  try simp only [Act.put, List.getElem_toArray, List.getElem_cons_zero, List.getElem_cons_succ, List.setIfInBounds_toArray, List.set_cons_zero, List.set_cons_succ]
  refine wpAnyL_take (i := 10) (v := ?_) rfl (by kernel_rfl) (by kernel_rfl) (by kernel_rfl) (by kernel_rfl) (by kernel_rfl) (fun _ _ _ h => h) (Or.inl ⟨by rfl, ?q10⟩) HS.out ?_
  case q10 => intro w hSw; have q1 : World.cell? _ ⟨_, 1, none⟩ = some vw := (cell_of_row _ _ _ _ _ _ hSw.1).trans rfl; have q2 : World.cell? _ ⟨_, 22, none⟩ = some ((.slice pb LL.length cb)) := (cell_of_row _ _ _ _ _ _ hSw.2).trans CEBXb.out; go_simp; rfl
  simp only [Act.put, List.getElem_toArray, List.getElem_cons_zero, List.getElem_cons_succ, List.setIfInBounds_toArray, List.set_cons_zero, List.set_cons_succ]
  refine wpAnyL_one (i := 11) (by kernel_rfl) rfl (fun K hK => ?_)
  clear HS
  go_simp
  rw [HWN10.out]
  refine hK.out _ _ (fun e => absurd rfl e) ?_
  clear hK K
  try simp only [Act.put, List.getElem_toArray, List.getElem_cons_zero, List.getElem_cons_succ, List.setIfInBounds_toArray, List.set_cons_zero, List.set_cons_succ]
  refine wpAnyL_done (by kernel_rfl) ?_ _
  have BN10 : Below w0.heap.size w0 WN10 := AF9.out.bel.trans PB10
  have AFN10 : Hid (AF w0 WN10 w.heap.size w.heap.size W5.heap.size (W5.heap.size + 1) m mz mr (.slice (some ⟨gq, 0, none⟩) (qb.length + 70) cq) (.slice (some ⟨gr, 0, none⟩) (rb.length + 70) cr) (.slice (some ⟨gn, 0, none⟩) (ns.length + 70) cn) (.slice (some ⟨gd, 0, none⟩) (db.length + 70) cd) qb rb ns db) := hid (AF9.out.of BN10 fun b cs T q n1 n2 n3 => PF10 b cs T q n1 n2)
  have KBN10 : Hid (BK w0.heap.size w.heap.size WZ.heap.size WN10 g (.slice pv7 (bs.length + 1) cv7) (.slice pv10 (bs.length + 1) cv10) vi vm (xb ++ [(.slice pa LL.length ca)]) (xw ++ [(.slice pb LL.length cb)]) xi xm (bs ++ [LL]) (bs ++ [LL]) is is) := hid KN10
  have OA_10n : Hid (WN10.ownsRow WZ.heap.size 5 1 ((.slice pa LL.length ca)) LL.length (LL.map (Value.int .u8))) := hid (own_of OA_9.out fun b hb' => by obtain ⟨_, _, cs', q2⟩ := own_at OA_9.out hb'; exact PF10 b cs' _ q2 (by decide) (by decide))
  have OB_10n : Hid (WN10.ownsRow WZ.heap.size 5 1 ((.slice pb LL.length cb)) LL.length (LL.map (Value.int .u8))) := hid (own_of OB_9.out fun b hb' => by obtain ⟨_, _, cs', q2⟩ := own_at OB_9.out hb'; exact PF10 b cs' _ q2 (by decide) (by decide))
  have BXa_10n : Hid (WN10.heap[U1.heap.size]? = some (.cells MA1 38 (0, 0))) := hid ((PF10 _ _ _ BXa_9.out (by decide) (by decide)).trans BXa_9.out)
  have BXb_10n : Hid (WN10.heap[U2.heap.size]? = some (.cells MA2 38 (0, 0))) := hid ((PF10 _ _ _ BXb_9.out (by decide) (by decide)).trans BXb_9.out)
  clear PF10 PB10 KN10 hg10 hw10 ho10 hg10' hw10' cb10 bk110 BL10 cc10 ff10
  have CS : Hid (Calls Try.prog 16 #[.agg MA1, .agg MA2] WN10 fun e w' => e = .returned (.bool true) ∧ Below WN10.heap.size WN10 w') := hid (by rw [← HMA1.out, ← HMA2.out]; exact sameReq_ok WN10 rr HOK.out _ _ LL (HB.of_own OA_10n.out HLB.out) (HB.of_own OB_10n.out HLB.out))
  have t1 : Hid (MA1.toList.length = 23) := hid (by rw [Array.length_toList]; exact sz1.out)
  have t2 : Hid (MA2.toList.length = 23) := hid (by rw [Array.length_toList]; exact sz2.out)
  go_wp2_with (first | (refine wpList_load_midW (by rfl) 38 _ rfl U1.heap.size 0 rfl MA1.toList _ (rngM BXa_10n.out) Try.underlying38 rfl (by rw [t1.out]; exact size_q) ?_; rw [Array.toArray_toList]) | (refine wpList_load_midW (by rfl) 38 _ rfl U2.heap.size 0 rfl MA2.toList _ (rngM BXb_10n.out) Try.underlying38 rfl (by rw [t2.out]; exact size_q) ?_; rw [Array.toArray_toList]) | fail)
  refine CS.out.mono ?_
  rintro e U3 ⟨rfl, hu3⟩
  have AF11 : Hid (AF w0 U3 w.heap.size w.heap.size W5.heap.size (W5.heap.size + 1) m mz mr (.slice (some ⟨gq, 0, none⟩) (qb.length + 70) cq) (.slice (some ⟨gr, 0, none⟩) (rb.length + 70) cr) (.slice (some ⟨gn, 0, none⟩) (ns.length + 70) cn) (.slice (some ⟨gd, 0, none⟩) (db.length + 70) cd) qb rb ns db) := hid (AFN10.out.below hu3)
  have KB11 : Hid (BK w0.heap.size w.heap.size WZ.heap.size U3 g (.slice pv7 (bs.length + 1) cv7) (.slice pv10 (bs.length + 1) cv10) vi vm (xb ++ [(.slice pa LL.length ca)]) (xw ++ [(.slice pb LL.length cb)]) xi xm (bs ++ [LL]) (bs ++ [LL]) is is) := hid (KBN10.out.below hu3)
  have KQ : Hid (∀ W, AF w0 W w.heap.size w.heap.size W5.heap.size (W5.heap.size + 1) m mz mr (.slice (some ⟨gq, 0, none⟩) (qb.length + 70) cq) (.slice (some ⟨gr, 0, none⟩) (rb.length + 70) cr) (.slice (some ⟨gn, 0, none⟩) (ns.length + 70) cn) (.slice (some ⟨gd, 0, none⟩) (db.length + 70) cd) qb rb ns db → Calls Try.prog 30 #[.slice (some ⟨gq, 0, none⟩) (qb.length + 70) cq, (.slice qp qb.length qc)] W fun e w' => e = .returned (.bool true) ∧ Below W.heap.size W w') := hid (fun W hW => by
    have := kept_any W _ _ (lent qb) qb (lent_cut hW.oq H0.out.q.2).2 (OPW.out W hW.bel).q (by omega)
    rw [decide_eq_true rfl] at this
    exact this)
  have KR : Hid (∀ W, AF w0 W w.heap.size w.heap.size W5.heap.size (W5.heap.size + 1) m mz mr (.slice (some ⟨gq, 0, none⟩) (qb.length + 70) cq) (.slice (some ⟨gr, 0, none⟩) (rb.length + 70) cr) (.slice (some ⟨gn, 0, none⟩) (ns.length + 70) cn) (.slice (some ⟨gd, 0, none⟩) (db.length + 70) cd) qb rb ns db → Calls Try.prog 30 #[.slice (some ⟨gr, 0, none⟩) (rb.length + 70) cr, (.slice rp rb.length rc)] W fun e w' => e = .returned (.bool true) ∧ Below W.heap.size W w') := hid (fun W hW => by
    have := kept_any W _ _ (lent rb) rb (lent_cut hW.or' H0.out.r'.2).2 (OPW.out W hW.bel).r' (by omega)
    rw [decide_eq_true rfl] at this
    exact this)
  have KN : Hid (∀ W, AF w0 W w.heap.size w.heap.size W5.heap.size (W5.heap.size + 1) m mz mr (.slice (some ⟨gq, 0, none⟩) (qb.length + 70) cq) (.slice (some ⟨gr, 0, none⟩) (rb.length + 70) cr) (.slice (some ⟨gn, 0, none⟩) (ns.length + 70) cn) (.slice (some ⟨gd, 0, none⟩) (db.length + 70) cd) qb rb ns db → Calls Try.prog 31 #[.slice (some ⟨gn, 0, none⟩) (ns.length + 70) cn, (.slice np ns.length nc)] W fun e w' => e = .returned (.bool true) ∧ Below W.heap.size W w') := hid (fun W hW => by
    have := I.kept_any W _ _ (I.lent ns) ns (lent_cutI hW.on H0.out.n.2).2 (OPW.out W hW.bel).n (by omega)
    rw [decide_eq_true rfl] at this
    exact this)
  have KD : Hid (∀ W, AF w0 W w.heap.size w.heap.size W5.heap.size (W5.heap.size + 1) m mz mr (.slice (some ⟨gq, 0, none⟩) (qb.length + 70) cq) (.slice (some ⟨gr, 0, none⟩) (rb.length + 70) cr) (.slice (some ⟨gn, 0, none⟩) (ns.length + 70) cn) (.slice (some ⟨gd, 0, none⟩) (db.length + 70) cd) qb rb ns db → Calls Try.prog 30 #[.slice (some ⟨gd, 0, none⟩) (db.length + 70) cd, (.slice dp db.length dc)] W fun e w' => e = .returned (.bool true) ∧ Below W.heap.size W w') := hid (fun W hW => by
    have := kept_any W _ _ (lent db) db (lent_cut hW.od H0.out.d.2).2 (OPW.out W hW.bel).d (by omega)
    rw [decide_eq_true rfl] at this
    exact this)
  obtain ⟨-, yk23, yk25, yk26, yk27⟩ := KX.out U3 AF11.out.fP
  go_wp2_with (first | fail)
  refine (KQ.out _ AF11.out).mono ?_
  rintro e K0 ⟨rfl, hbk0⟩
  clear yk23 yk25 yk26 yk27
  have AF12 : Hid (AF w0 K0 w.heap.size w.heap.size W5.heap.size (W5.heap.size + 1) m mz mr (.slice (some ⟨gq, 0, none⟩) (qb.length + 70) cq) (.slice (some ⟨gr, 0, none⟩) (rb.length + 70) cr) (.slice (some ⟨gn, 0, none⟩) (ns.length + 70) cn) (.slice (some ⟨gd, 0, none⟩) (db.length + 70) cd) qb rb ns db) := hid (AF11.out.below hbk0)
  have KB12 : Hid (BK w0.heap.size w.heap.size WZ.heap.size K0 g (.slice pv7 (bs.length + 1) cv7) (.slice pv10 (bs.length + 1) cv10) vi vm (xb ++ [(.slice pa LL.length ca)]) (xw ++ [(.slice pb LL.length cb)]) xi xm (bs ++ [LL]) (bs ++ [LL]) is is) := hid (KB11.out.below hbk0)
  obtain ⟨-, yk23, yk25, yk26, yk27⟩ := KX.out K0 AF12.out.fP
  go_wp2_with (first | fail)
  refine (KR.out _ AF12.out).mono ?_
  rintro e K1 ⟨rfl, hbk1⟩
  clear yk23 yk25 yk26 yk27
  have AF13 : Hid (AF w0 K1 w.heap.size w.heap.size W5.heap.size (W5.heap.size + 1) m mz mr (.slice (some ⟨gq, 0, none⟩) (qb.length + 70) cq) (.slice (some ⟨gr, 0, none⟩) (rb.length + 70) cr) (.slice (some ⟨gn, 0, none⟩) (ns.length + 70) cn) (.slice (some ⟨gd, 0, none⟩) (db.length + 70) cd) qb rb ns db) := hid (AF12.out.below hbk1)
  have KB13 : Hid (BK w0.heap.size w.heap.size WZ.heap.size K1 g (.slice pv7 (bs.length + 1) cv7) (.slice pv10 (bs.length + 1) cv10) vi vm (xb ++ [(.slice pa LL.length ca)]) (xw ++ [(.slice pb LL.length cb)]) xi xm (bs ++ [LL]) (bs ++ [LL]) is is) := hid (KB12.out.below hbk1)
  obtain ⟨-, yk23, yk25, yk26, yk27⟩ := KX.out K1 AF13.out.fP
  go_wp2_with (first | fail)
  refine (KN.out _ AF13.out).mono ?_
  rintro e K2 ⟨rfl, hbk2⟩
  clear yk23 yk25 yk26 yk27
  have AF14 : Hid (AF w0 K2 w.heap.size w.heap.size W5.heap.size (W5.heap.size + 1) m mz mr (.slice (some ⟨gq, 0, none⟩) (qb.length + 70) cq) (.slice (some ⟨gr, 0, none⟩) (rb.length + 70) cr) (.slice (some ⟨gn, 0, none⟩) (ns.length + 70) cn) (.slice (some ⟨gd, 0, none⟩) (db.length + 70) cd) qb rb ns db) := hid (AF13.out.below hbk2)
  have KB14 : Hid (BK w0.heap.size w.heap.size WZ.heap.size K2 g (.slice pv7 (bs.length + 1) cv7) (.slice pv10 (bs.length + 1) cv10) vi vm (xb ++ [(.slice pa LL.length ca)]) (xw ++ [(.slice pb LL.length cb)]) xi xm (bs ++ [LL]) (bs ++ [LL]) is is) := hid (KB13.out.below hbk2)
  obtain ⟨-, yk23, yk25, yk26, yk27⟩ := KX.out K2 AF14.out.fP
  go_wp2_with (first | fail)
  refine (KD.out _ AF14.out).mono ?_
  rintro e K3 ⟨rfl, hbk3⟩
  clear yk23 yk25 yk26 yk27
  have AF15 : Hid (AF w0 K3 w.heap.size w.heap.size W5.heap.size (W5.heap.size + 1) m mz mr (.slice (some ⟨gq, 0, none⟩) (qb.length + 70) cq) (.slice (some ⟨gr, 0, none⟩) (rb.length + 70) cr) (.slice (some ⟨gn, 0, none⟩) (ns.length + 70) cn) (.slice (some ⟨gd, 0, none⟩) (db.length + 70) cd) qb rb ns db) := hid (AF14.out.below hbk3)
  have KB15 : Hid (BK w0.heap.size w.heap.size WZ.heap.size K3 g (.slice pv7 (bs.length + 1) cv7) (.slice pv10 (bs.length + 1) cv10) vi vm (xb ++ [(.slice pa LL.length ca)]) (xw ++ [(.slice pb LL.length cb)]) xi xm (bs ++ [LL]) (bs ++ [LL]) is is) := hid (KB14.out.below hbk3)
  have lq := lent_length qb
  have lr := lent_length rb
  have ln := I.lent_length ns
  have ld := lent_length db
  have OVq := hid (over_any K3 w.heap.size _ _ _ AF15.out.oq (by omega))
  go_wp2_with fail
  refine OVq.out.mono ?_
  rintro e V0 ⟨rfl, -, hgv0⟩
  have KV0 : Hid (BK w0.heap.size w.heap.size WZ.heap.size V0 g (.slice pv7 (bs.length + 1) cv7) (.slice pv10 (bs.length + 1) cv10) vi vm (xb ++ [(.slice pa LL.length ca)]) (xw ++ [(.slice pb LL.length cb)]) xi xm (bs ++ [LL]) (bs ++ [LL]) is is) := hid (KB15.out.over hgv0 (fun b e => by
    have e' : gq = b := Option.some.inj e
    subst e'
    obtain ⟨_, _, cs', q2⟩ := own_at AF15.out.oq rfl
    exact ⟨by have := ORD.out; have := HWZ5.out; omega, cs', _, q2, .inl rfl⟩))
  have BV0 : Below w0.heap.size w0 V0 := (AF15.out.bel).grown hgv0 (AF15.out.bel).size (fun b e => by have e' : gq = b := Option.some.inj e; subst e'; have := ORD.out; have := (BW.out w (Below.refl _ _)).size; omega)
  have owr0 := own_of AF15.out.or' (w' := V0) fun b hb' => hgv0.block b (own_at AF15.out.or' hb').1 (fun e => by have e1 : gr = b := Option.some.inj hb'; have e2 : b = gq := Option.some.inj e; have := ORD.out; omega)
  have own0 := own_of AF15.out.on (w' := V0) fun b hb' => hgv0.block b (own_at AF15.out.on hb').1 (fun e => by have e1 : gn = b := Option.some.inj hb'; have e2 : b = gq := Option.some.inj e; have := ORD.out; omega)
  have owd0 := own_of AF15.out.od (w' := V0) fun b hb' => hgv0.block b (own_at AF15.out.od hb').1 (fun e => by have e1 : gd = b := Option.some.inj hb'; have e2 : b = gq := Option.some.inj e; have := ORD.out; omega)
  have OVr := hid (over_any V0 w.heap.size _ _ _ owr0 (by omega))
  go_wp2_with fail
  refine OVr.out.mono ?_
  rintro e V1 ⟨rfl, -, hgv1⟩
  have KV1 : Hid (BK w0.heap.size w.heap.size WZ.heap.size V1 g (.slice pv7 (bs.length + 1) cv7) (.slice pv10 (bs.length + 1) cv10) vi vm (xb ++ [(.slice pa LL.length ca)]) (xw ++ [(.slice pb LL.length cb)]) xi xm (bs ++ [LL]) (bs ++ [LL]) is is) := hid (KV0.out.over hgv1 (fun b e => by
    have e' : gr = b := Option.some.inj e
    subst e'
    obtain ⟨_, _, cs', q2⟩ := own_at owr0 rfl
    exact ⟨by have := ORD.out; have := HWZ5.out; omega, cs', _, q2, .inl rfl⟩))
  have BV1 : Below w0.heap.size w0 V1 := (BV0).grown hgv1 (BV0).size (fun b e => by have e' : gr = b := Option.some.inj e; subst e'; have := ORD.out; have := (BW.out w (Below.refl _ _)).size; omega)
  have own1 := own_of own0 (w' := V1) fun b hb' => hgv1.block b (own_at own0 hb').1 (fun e => by have e1 : gn = b := Option.some.inj hb'; have e2 : b = gr := Option.some.inj e; have := ORD.out; omega)
  have owd1 := own_of owd0 (w' := V1) fun b hb' => hgv1.block b (own_at owd0 hb').1 (fun e => by have e1 : gd = b := Option.some.inj hb'; have e2 : b = gr := Option.some.inj e; have := ORD.out; omega)
  have OVn := hid (I.over_any V1 w.heap.size _ _ _ own1 (by omega))
  go_wp2_with fail
  refine OVn.out.mono ?_
  rintro e V2 ⟨rfl, -, hgv2⟩
  have KV2 : Hid (BK w0.heap.size w.heap.size WZ.heap.size V2 g (.slice pv7 (bs.length + 1) cv7) (.slice pv10 (bs.length + 1) cv10) vi vm (xb ++ [(.slice pa LL.length ca)]) (xw ++ [(.slice pb LL.length cb)]) xi xm (bs ++ [LL]) (bs ++ [LL]) is is) := hid (KV1.out.over hgv2 (fun b e => by
    have e' : gn = b := Option.some.inj e
    subst e'
    obtain ⟨_, _, cs', q2⟩ := own_at own1 rfl
    exact ⟨by have := ORD.out; have := HWZ5.out; omega, cs', _, q2, .inr rfl⟩))
  have BV2 : Below w0.heap.size w0 V2 := (BV1).grown hgv2 (BV1).size (fun b e => by have e' : gn = b := Option.some.inj e; subst e'; have := ORD.out; have := (BW.out w (Below.refl _ _)).size; omega)
  have owd2 := own_of owd1 (w' := V2) fun b hb' => hgv2.block b (own_at owd1 hb').1 (fun e => by have e1 : gd = b := Option.some.inj hb'; have e2 : b = gn := Option.some.inj e; have := ORD.out; omega)
  have OVd := hid (over_any V2 w.heap.size _ _ _ owd2 (by omega))
  go_wp2_with fail
  refine OVd.out.mono ?_
  rintro e V3 ⟨rfl, -, hgv3⟩
  have KV3 : Hid (BK w0.heap.size w.heap.size WZ.heap.size V3 g (.slice pv7 (bs.length + 1) cv7) (.slice pv10 (bs.length + 1) cv10) vi vm (xb ++ [(.slice pa LL.length ca)]) (xw ++ [(.slice pb LL.length cb)]) xi xm (bs ++ [LL]) (bs ++ [LL]) is is) := hid (KV2.out.over hgv3 (fun b e => by
    have e' : gd = b := Option.some.inj e
    subst e'
    obtain ⟨_, _, cs', q2⟩ := own_at owd2 rfl
    exact ⟨by have := ORD.out; have := HWZ5.out; omega, cs', _, q2, .inl rfl⟩))
  have BV3 : Below w0.heap.size w0 V3 := (BV2).grown hgv3 (BV2).size (fun b e => by have e' : gd = b := Option.some.inj e; subst e'; have := ORD.out; have := (BW.out w (Below.refl _ _)).size; omega)
  go_wp2_with fail
  go_ret
  refine ⟨rfl, ⟨_, _, _, _, _, _, _, _, _, _, KV3.out.reset _, ?_, ?_, ?_, ?_⟩, BV3⟩
  · rw [List.length_append, List.length_singleton]; omega
  · omega
  · exact fun l hl => (List.mem_append.1 hl).elim (hl3 l) fun q => by rw [List.mem_singleton.1 q]; exact HLN.out
  · exact hl4
end Go.Proofs.Ytgjadpidoaianaa
