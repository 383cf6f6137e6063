/-
  Variables of four cells.
-/
import Derived.Test.YtkeckecdhcknhaaDoorMgForm
namespace Go.Proofs.YtkeckecdhcknhaaDoor.Ps
open Go Go.RowKit Go.Shelf Go.Proofs.YtkeckecdhcknhaaDoor.Fm Go.Proofs.YtkeckecdhcknhaaDoor.Lx
set_option linter.unusedVariables false
set_option linter.unusedSimpArgs false
structure Bx4 (w : World) (L : Nat) (x0 x1 x2 x3 : Value) : Prop where
  c0 : w.cell? ⟨L, 0, none⟩ = some x0
  c1 : w.cell? ⟨L, 1, none⟩ = some x1
  c2 : w.cell? ⟨L, 2, none⟩ = some x2
  c3 : w.cell? ⟨L, 3, none⟩ = some x3
  f0 : w.frozen? ⟨L, 0, none⟩ = false
  f1 : w.frozen? ⟨L, 1, none⟩ = false
  f2 : w.frozen? ⟨L, 2, none⟩ = false
  f3 : w.frozen? ⟨L, 3, none⟩ = false
  lt : L < w.heap.size
variable {w w' : World} {L : Nat} {x0 x1 x2 x3 : Value}
theorem Bx4.new (w : World) (x0 x1 x2 x3 : Value) (t : TypeId) : Bx4 (w.alloc (.cells #[x0, x1, x2, x3] t)) w.heap.size x0 x1 x2 x3 := by
  have hc : ∀ j, (w.alloc (.cells #[x0, x1, x2, x3] t)).cell? ⟨w.heap.size, j, none⟩ = #[x0, x1, x2, x3][j]? := fun j => World.cell?_alloc_at _ _ _ _ rfl
  have hf : ∀ j, (w.alloc (.cells #[x0, x1, x2, x3] t)).frozen? ⟨w.heap.size, j, none⟩ = false := fun j => World.frozen?_alloc_at _ _ _ _ rfl
  exact ⟨hc 0, hc 1, hc 2, hc 3, hf 0, hf 1, hf 2, hf 3, by simp⟩
theorem Bx4.heap (h : Bx4 w L x0 x1 x2 x3) (hb : w'.heap[L]? = w.heap[L]?) (hz : L < w'.heap.size) : Bx4 w' L x0 x1 x2 x3 :=
  ⟨(World.cell?_of_block (a := ⟨L, 0, none⟩) hb).trans h.c0, (World.cell?_of_block (a := ⟨L, 1, none⟩) hb).trans h.c1, (World.cell?_of_block (a := ⟨L, 2, none⟩) hb).trans h.c2, (World.cell?_of_block (a := ⟨L, 3, none⟩) hb).trans h.c3,
   (World.frozen?_of_block (a := ⟨L, 0, none⟩) hb).trans h.f0, (World.frozen?_of_block (a := ⟨L, 1, none⟩) hb).trans h.f1, (World.frozen?_of_block (a := ⟨L, 2, none⟩) hb).trans h.f2, (World.frozen?_of_block (a := ⟨L, 3, none⟩) hb).trans h.f3, hz⟩
theorem Bx4.go {P : Nat} (h : Bx4 w L x0 x1 x2 x3) (hg : GP P w w') (hL : L ≠ P) : Bx4 w' L x0 x1 x2 x3 := h.heap (hg.block L h.lt hL) (Nat.lt_of_lt_of_le h.lt hg.size)
theorem Bx4.alloc (h : Bx4 w L x0 x1 x2 x3) (o : Obj) : Bx4 (w.alloc o) L x0 x1 x2 x3 := h.heap (((Below.refl w.heap.size w).alloc (Nat.le_refl _) o).block L h.lt) (Nat.lt_of_lt_of_le h.lt (by simp))
theorem Bx4.other (h : Bx4 w L x0 x1 x2 x3) (a : Addr) (v : Value) (ha : L ≠ a.block) : Bx4 (w.setCell a v) L x0 x1 x2 x3 := h.heap (Below.heap_setCell _ _ _ _ ha) (by simpa using h.lt)
theorem Bx4.set1 (h : Bx4 w L x0 x1 x2 x3) (v : Value) : Bx4 (w.setCell ⟨L, 1, none⟩ v) L x0 v x2 x3 :=
  ⟨by rw [cell_set_other _ _ _ _ _ (by omega)]; exact h.c0, World.cell?_setCell_same _ _ _ h.c1, by rw [cell_set_other _ _ _ _ _ (by omega)]; exact h.c2, by rw [cell_set_other _ _ _ _ _ (by omega)]; exact h.c3,
   by rw [World.frozen?_setCell]; exact h.f0, by rw [World.frozen?_setCell]; exact h.f1, by rw [World.frozen?_setCell]; exact h.f2, by rw [World.frozen?_setCell]; exact h.f3, by simpa using h.lt⟩
theorem Bx4.set3 (h : Bx4 w L x0 x1 x2 x3) (v : Value) : Bx4 (w.setCell ⟨L, 3, none⟩ v) L x0 x1 x2 v :=
  ⟨by rw [cell_set_other _ _ _ _ _ (by omega)]; exact h.c0, by rw [cell_set_other _ _ _ _ _ (by omega)]; exact h.c1, by rw [cell_set_other _ _ _ _ _ (by omega)]; exact h.c2, World.cell?_setCell_same _ _ _ h.c3,
   by rw [World.frozen?_setCell]; exact h.f0, by rw [World.frozen?_setCell]; exact h.f1, by rw [World.frozen?_setCell]; exact h.f2, by rw [World.frozen?_setCell]; exact h.f3, by simpa using h.lt⟩
theorem Bx4.put (h : Bx4 w L x0 x1 x2 x3) (y0 y1 y2 y3 : Value) : Bx4 (put4 w L y0 y1 y2 y3) L y0 y1 y2 y3 := by
  unfold put4
  refine ⟨?_, ?_, ?_, ?_, ?_, ?_, ?_, ?_, by simpa using h.lt⟩
  · rw [cell_set_other _ _ _ _ _ (by omega), cell_set_other _ _ _ _ _ (by omega), cell_set_other _ _ _ _ _ (by omega)]; exact World.cell?_setCell_same _ _ _ h.c0
  · rw [cell_set_other _ _ _ _ _ (by omega), cell_set_other _ _ _ _ _ (by omega)]; exact World.cell?_setCell_same _ _ _ (by rw [cell_set_other _ _ _ _ _ (by omega)]; exact h.c1)
  · rw [cell_set_other _ _ _ _ _ (by omega)]; exact World.cell?_setCell_same _ _ _ (by rw [cell_set_other _ _ _ _ _ (by omega), cell_set_other _ _ _ _ _ (by omega)]; exact h.c2)
  · exact World.cell?_setCell_same _ _ _ (by rw [cell_set_other _ _ _ _ _ (by omega), cell_set_other _ _ _ _ _ (by omega), cell_set_other _ _ _ _ _ (by omega)]; exact h.c3)
  all_goals (rw [World.frozen?_setCell, World.frozen?_setCell, World.frozen?_setCell, World.frozen?_setCell])
  · exact h.f0
  · exact h.f1
  · exact h.f2
  · exact h.f3
/-- A block that is new since W is written, or made: the parser and all that is older stay. -/
theorem GP.new {P : Nat} {W w X : World} (h : GP P W w) (hb : Below W.heap.size w X) : GP P W X :=
  ⟨hb.os.trans h.os, hb.tape.trans h.tape, hb.output.trans h.output, Nat.le_trans h.size hb.size, fun k hk hn => (hb.block k hk).trans (h.block k hk hn)⟩
theorem PSt.new {P n B : Nat} {m : Bool} {ts : List Tg} {w X : World} (h : PSt w P m n ts) (hb : Below B w X) (hP : P < B) : PSt X P m n ts :=
  h.keep (fun b hb' => hb.block b (by omega)) (Nat.lt_of_lt_of_le h.lt hb.size)
end Go.Proofs.YtkeckecdhcknhaaDoor.Ps
