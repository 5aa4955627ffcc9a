/- A message's blocks, the words behind k of them; the cells of a hash, and what of it stays. -/
import Derived.Test.YtdipjhcjmjajfaaDoorShaInit
import Derived.Deep.MidRow
namespace Go.Proofs.YtdipjhcjmjajfaaDoor
open Go.RowKit

/-- The k-th block; the words behind k blocks. -/
def blkOf (m : List Int) (k : Nat) : List Int := (m.drop (64 * k)).take 64
def wAt (m : List Int) : Nat → List Nat
  | 0 => iv
  | k + 1 => mixL (wAt m k) (blkOf m k)
theorem wAt_W8 (m : List Int) : ∀ k, W8 (wAt m k)
  | 0 => iv_W8
  | k + 1 => (wAt_W8 m k).mix
theorem blkOf_app {m b : List Int} {k : Nat} (h : 64 * (k + 1) ≤ m.length) : blkOf (m ++ b) k = blkOf m k := by
  unfold blkOf
  rw [List.drop_append_of_le_length (by omega), List.take_append_of_le_length (by simp; omega)]
theorem wAt_app {m b : List Int} : ∀ {k : Nat}, 64 * k ≤ m.length → wAt (m ++ b) k = wAt m k
  | 0, _ => rfl
  | k + 1, h => by
    show mixL _ _ = mixL _ _
    rw [wAt_app (k := k) (by omega), blkOf_app h]
theorem blkOf_length {m : List Int} {k : Nat} (h : 64 * (k + 1) ≤ m.length) : (blkOf m k).length = 64 := by
  unfold blkOf
  simp
  omega
theorem blkOf_byt {m : List Int} (h : ∀ x ∈ m, 0 ≤ x ∧ x < 256) (k : Nat) : ∀ x ∈ blkOf m k, 0 ≤ x ∧ x < 256 := fun x hx => h x (List.mem_of_mem_drop (List.mem_of_mem_take hx))

def wcells (l : List Nat) : List Value := l.map (fun x : Nat => Value.int .u32 (x : Int))
theorem wcells_arr (l : List Nat) : (wcells l).toArray = cellsW l := rfl
theorem wcells_length (l : List Nat) : (wcells l).length = l.length := by simp [wcells]
def bcells (l : List Int) : List Value := l.map (Value.int .u8)
theorem bcells_arr (l : List Int) : (bcells l).toArray = cellsB l := rfl
theorem bcells_length (l : List Int) : (bcells l).length = l.length := by simp [bcells]

/-- At block g lies a hash: its words ww, the rest, the number of bytes. -/
structure HSt (w : World) (g : Nat) (ww : List Nat) (rest : List Int) (n : Nat) : Prop where
  bw : w.rangeAt g 0 (wcells iv)
  wv : w.rangeAt g 8 (wcells ww)
  rv : w.rangeAt g 16 (bcells rest)
  sz : w.cell? ⟨g, 80, none⟩ = some (.int .i64 (n : Int))
  th : w.there g 0 81
  w8 : W8 ww
  rl : rest.length = 64
  rb : ∀ x ∈ rest, 0 ≤ x ∧ x < 256

theorem range_block {A C : World} {g o : Nat} {cs : List Value} (h : A.rangeAt g o cs) (hb : C.heap[g]? = A.heap[g]?) : C.rangeAt g o cs := fun j v hv => by
  have := h j v hv
  rw [← this]
  simp [World.cell?, hb]
theorem there_block {A C : World} {g o n : Nat} (h : A.there g o n) (hb : C.heap[g]? = A.heap[g]?) : C.there g o n := fun j hj => by
  have := h j hj
  constructor
  · rw [← this.1]; simp [World.cell?, hb]
  · rw [← this.2]; simp [World.frozen?, hb]
theorem HSt.block {A C : World} {g n : Nat} {ww : List Nat} {rest : List Int} (h : HSt A g ww rest n) (hb : C.heap[g]? = A.heap[g]?) : HSt C g ww rest n :=
  ⟨range_block h.bw hb, range_block h.wv hb, range_block h.rv hb, by rw [← h.sz]; simp [World.cell?, hb], there_block h.th hb, h.w8, h.rl, h.rb⟩
theorem HSt.lt {w : World} {g n : Nat} {ww : List Nat} {rest : List Int} (h : HSt w g ww rest n) : g < w.heap.size := World.block_lt_of_cell? w _ h.sz
theorem HSt.below {A C : World} {g n : Nat} {ww : List Nat} {rest : List Int} (h : HSt A g ww rest n) (hb : Below A.heap.size A C) : HSt C g ww rest n := h.block (hb.block g h.lt)
theorem there_sub {w : World} {g : Nat} (h : w.there g 0 81) (o n : Nat) (hn : o + n ≤ 81) : w.there g o n := fun j hj => by
  have := h (o + j) (by omega)
  rwa [Nat.zero_add] at this
theorem cell_range {w : World} {g o : Nat} {v : Value} (h : w.rangeAt g o [v]) : w.cell? ⟨g, o, none⟩ = some v := h 0 v rfl
theorem range_cell {w : World} {g o : Nat} {v : Value} (h : w.cell? ⟨g, o, none⟩ = some v) : w.rangeAt g o [v] := fun j u hu => by
  match j with
  | 0 => simp at hu; subst hu; exact h
  | j + 1 => simp at hu

/-- The number of bytes is stored. -/
theorem HSt.size {w : World} {g n : Nat} {ww : List Nat} {rest : List Int} (h : HSt w g ww rest n) (m : Nat) : HSt (w.setCell ⟨g, 80, none⟩ (.int .i64 (m : Int))) g ww rest m := by
  have e : w.setCell ⟨g, 80, none⟩ (.int .i64 (m : Int)) = w.setCells g 80 [.int .i64 (m : Int)] := rfl
  rw [e]
  refine ⟨World.rangeAt_setCells_apart h.bw _ _ _ (.inr (.inl (by rw [wcells_length]; decide))), World.rangeAt_setCells_apart h.wv _ _ _ (.inr (.inl (by rw [wcells_length, h.w8.1]; decide))), World.rangeAt_setCells_apart h.rv _ _ _ (.inr (.inl (by rw [bcells_length, h.rl]; decide))),
    cell_range (World.rangeAt_setCells_same _ _ _ _ (there_sub h.th 80 1 (by decide))), World.there_setCells h.th _ _ _, h.w8, h.rl, h.rb⟩
/-- The words are stored. -/
theorem HSt.words {w : World} {g n : Nat} {ww : List Nat} {rest : List Int} (h : HSt w g ww rest n) (vv : List Nat) (hv : W8 vv) : HSt (w.setCells g 8 (wcells vv)) g vv rest n := by
  have hl : (wcells vv).length = 8 := by rw [wcells_length, hv.1]
  refine ⟨World.rangeAt_setCells_apart h.bw _ _ _ (.inr (.inl (by rw [wcells_length]; decide))), World.rangeAt_setCells_same _ _ _ _ (there_sub h.th 8 _ (by omega)), World.rangeAt_setCells_apart h.rv _ _ _ (.inr (.inr (by omega))),
    cell_range (World.rangeAt_setCells_apart (range_cell h.sz) _ _ _ (.inr (.inr (by omega)))), World.there_setCells h.th _ _ _, hv, h.rl, h.rb⟩
/-- Bytes are copied into the rest. -/
def putAt (rest : List Int) (o : Nat) (b : List Int) : List Int := rest.take o ++ (b ++ rest.drop (o + b.length))
theorem putAt_length {rest : List Int} {o : Nat} {b : List Int} (h : o + b.length ≤ rest.length) : (putAt rest o b).length = rest.length := by simp [putAt]; omega
theorem range_app {w : World} {g o : Nat} {xs ys : List Value} (hx : w.rangeAt g o xs) (hy : w.rangeAt g (o + xs.length) ys) : w.rangeAt g o (xs ++ ys) := fun j v hv => by
  rw [List.getElem?_append] at hv
  split at hv
  · exact hx j v hv
  · have := hy (j - xs.length) v hv
    rwa [show o + xs.length + (j - xs.length) = o + j by omega] at this
theorem range_take {w : World} {g o : Nat} {xs : List Value} (h : w.rangeAt g o xs) (n : Nat) : w.rangeAt g o (xs.take n) := fun j v hv => h j v (by
  rw [List.getElem?_take] at hv
  split at hv
  · exact hv
  · cases hv)
theorem range_drop {w : World} {g o : Nat} {xs : List Value} (h : w.rangeAt g o xs) (n : Nat) : w.rangeAt g (o + n) (xs.drop n) := fun j v hv => by
  rw [List.getElem?_drop] at hv
  have := h (n + j) v hv
  rwa [show o + (n + j) = o + n + j by omega] at this
theorem HSt.put {w : World} {g n : Nat} {ww : List Nat} {rest : List Int} (h : HSt w g ww rest n) (o : Nat) (b : List Int) (ho : o + b.length ≤ 64) (hb : ∀ x ∈ b, 0 ≤ x ∧ x < 256) : HSt (w.setCells g (16 + o) (bcells b)) g ww (putAt rest o b) n := by
  have hl : (bcells b).length = b.length := bcells_length b
  have hrl := h.rl
  refine ⟨World.rangeAt_setCells_apart h.bw _ _ _ (.inr (.inl (by rw [wcells_length, iv_W8.1]; omega))), World.rangeAt_setCells_apart h.wv _ _ _ (.inr (.inl (by rw [wcells_length, h.w8.1]; omega))), ?_,
    cell_range (World.rangeAt_setCells_apart (range_cell h.sz) _ _ _ (.inr (.inr (by omega)))), World.there_setCells h.th _ _ _, h.w8, by rw [putAt_length (by omega)]; exact h.rl, ?_⟩
  · have e : bcells (putAt rest o b) = (bcells rest).take o ++ (bcells b ++ (bcells rest).drop (o + b.length)) := by
      unfold putAt bcells
      rw [List.map_append, List.map_append, List.map_take, List.map_drop]
    have hto : ((bcells rest).take o).length = o := by rw [List.length_take, bcells_length]; omega
    rw [e]
    refine range_app (World.rangeAt_setCells_apart (range_take h.rv o) _ _ _ (.inr (.inl (by omega)))) ?_
    rw [hto]
    refine range_app (World.rangeAt_setCells_same _ _ _ _ (there_sub h.th _ _ (by omega))) ?_
    have := World.rangeAt_setCells_apart (range_drop h.rv (o + b.length)) g (16 + o) (bcells b) (.inr (.inr (by omega)))
    rw [hl]
    rwa [show 16 + (o + b.length) = 16 + o + b.length by omega] at this
  · intro x hx
    unfold putAt at hx
    rcases List.mem_append.1 hx with h1 | h1
    · exact h.rb x (List.mem_of_mem_take h1)
    · rcases List.mem_append.1 h1 with h2 | h2
      · exact hb x h2
      · exact h.rb x (List.mem_of_mem_drop h2)

/-- The hash at g has taken the message m. -/
def HM (w : World) (g : Nat) (m : List Int) : Prop :=
  ∃ rest, HSt w g (wAt m (m.length / 64)) rest m.length ∧ rest.take (m.length % 64) = m.drop (64 * (m.length / 64)) ∧ ∀ x ∈ m, 0 ≤ x ∧ x < 256
end Go.Proofs.YtdipjhcjmjajfaaDoor
