/-
  Rows that are appended to.
-/
import Derived.Test.YtkeckecdhcknhaaDoorLxIter
import Derived.Maps.AppendAt
import Derived.Maps.OwnIn
import Derived.Deep.AppendLies
namespace Go.Proofs.YtkeckecdhcknhaaDoor.Lx
open Go Go.RowKit Go.Shelf Go.Proofs.YtkeckecdhcknhaaDoor.Fm
set_option linter.unusedVariables false
set_option linter.unusedSimpArgs false
theorem own_cells {w : World} {base n size : Nat} {e : TypeId} {v : Value} {xs : List Value} (h : w.ownsRow base e size v n xs) :
    (v = .slice none 0 0 ∧ n = 0 ∧ xs = []) ∨ ∃ g cap, v = .slice (some ⟨g, 0, none⟩) n cap ∧ v.ownBlock = some g ∧ base ≤ g ∧ g < w.heap.size ∧ ∀ j u, xs[j]? = some u → w.cell? ⟨g, j, none⟩ = some u := by
  rcases h.2 with ⟨rfl, rfl⟩ | ⟨g, cap, cur, rfl, hb, hg, _⟩
  · exact .inl ⟨rfl, rfl, by have := h.1; rw [Nat.zero_mul] at this; exact List.eq_nil_of_length_eq_zero this⟩
  · refine .inr ⟨g, cap, rfl, rfl, hb, ?_, fun j u hj => ?_⟩
    · exact (h.lt g rfl).2
    · have hl : j < n * size := by rw [← h.1]; exact (List.getElem?_eq_some_iff.1 hj).1
      rw [h.cellAt j hl]; exact hj
theorem own_below {w w' : World} {base n size : Nat} {e : TypeId} {v : Value} {xs : List Value} (h : w.ownsRow base e size v n xs) (hb : Below w.heap.size w w') : w'.ownsRow base e size v n xs := by
  refine ⟨h.1, ?_⟩
  have hlt := h.lt
  rcases h.2 with h0 | ⟨g, cap, cur, rfl, hb0, hg, h3⟩
  · exact .inl h0
  · exact .inr ⟨g, cap, cur, rfl, hb0, by rw [hb.block g (hlt g rfl).2]; exact hg, h3⟩
theorem new_three (w : World) (x y z : Value) (t : TypeId) : ∀ j u, [x, y, z][j]? = some u → (w.alloc (.cells #[x, y, z] t)).cell? ((⟨w.heap.size, 0, none⟩ : Addr).add j) = some u := by
  intro j u h
  have e : (⟨w.heap.size, 0, none⟩ : Addr).add j = ⟨w.heap.size, j, none⟩ := by
    unfold Addr.add
    by_cases h0 : j = 0
    · rw [if_pos h0, h0]
    · rw [if_neg h0, Nat.zero_add]
  rw [e, World.cell?_alloc_at _ _ _ _ rfl, ← h]
  simp
theorem own_heap {w w' : World} {base n size : Nat} {e : TypeId} {v : Value} {xs : List Value} (h : w.ownsRow base e size v n xs) (hh : ∀ g, v.ownBlock = some g → w'.heap[g]? = w.heap[g]?) : w'.ownsRow base e size v n xs := by
  refine ⟨h.1, ?_⟩
  rcases h.2 with h0 | ⟨g, cap, cur, rfl, hb0, hg, h3⟩
  · exact .inl h0
  · exact .inr ⟨g, cap, cur, rfl, hb0, (hh g rfl).trans hg, h3⟩
theorem grow_of_grown {O : Nat → Prop} {W w' : World} {o : Obj} {row : Option Nat} (h : (W.alloc o).grownBy w' row) (hr : ∀ g, row = some g → O g) : Grow O W w' := by
  have hb : Below W.heap.size W (W.alloc o) := (Below.refl _ _).alloc (Nat.le_refl _) _
  refine ⟨h.os.trans hb.os, h.tape.trans hb.tape, h.output.trans hb.output, Nat.le_trans hb.size h.size, fun i hi hn => (h.block i (Nat.lt_of_lt_of_le hi hb.size) fun e => hn (hr i e.symm)).trans (hb.block i hi)⟩
theorem infoK : (Tryd.prog.info? 89).map (fun i => (i.zero, i.size, i.bytes)) = some (some (.agg #[.int .u8 0, .string ByteArray.empty, .int .i64 0]), 3, 32) := by kernel_rfl
def encTk (t : Tk) : List Value := [.int .u8 (t.k : Int), .string (bs t.t), .int .i64 (t.a : Int)]
def flat (ts : List Tk) : List Value := ts.flatMap encTk
theorem flat_len (ts : List Tk) : (flat ts).length = ts.length * 3 := by
  unfold flat; induction ts with
  | nil => rfl
  | cons t r ih => rw [List.flatMap_cons, List.length_append, ih]; simp [encTk]; omega
theorem flat_get : ∀ (ts : List Tk) (i : Nat) (t : Tk), ts[i]? = some t → (flat ts)[i * 3]? = some (.int .u8 (t.k : Int)) ∧ (flat ts)[i * 3 + 1]? = some (.string (bs t.t)) ∧ (flat ts)[i * 3 + 2]? = some (.int .i64 (t.a : Int))
  | [], i, t, h => by simp at h
  | u :: r, 0, t, h => by
    obtain rfl : u = t := by simpa using h
    exact ⟨rfl, rfl, rfl⟩
  | u :: r, i + 1, t, h => by
    obtain ⟨h1, h2, h3⟩ := flat_get r i t (by simpa using h)
    have e : (i + 1) * 3 = i * 3 + 3 := by omega
    rw [e]
    exact ⟨h1, h2, h3⟩
/-- The state of the range in Lex. -/
structure LJ (s : ByteArray) (n : Nat) (k : Nat) (O : Nat → Prop) (W : World) : Prop where
  v : ∃ v, (∀ b, O b ↔ (n ≤ b ∧ b ≤ n + 3) ∨ v.ownBlock = some b) ∧ W.cell? ⟨n + 3, 0, none⟩ = some v ∧ W.ownsRow (n + 4) 89 3 v k (flat (((ysL s).take k).map (·.1)))
  e : errs ((ysL s).take k) = false
  r0 : W.cell? ⟨n, 0, none⟩ = some (.slice none 0 0)
  r1 : W.cell? ⟨n + 1, 0, none⟩ = some (.int .i64 0)
  r2 : W.cell? ⟨n + 2, 0, none⟩ = some (.int .i64 0)
  f : ∀ b, n ≤ b → b ≤ n + 3 → W.frozen? ⟨b, 0, none⟩ = false
  lt : n + 3 < W.heap.size
theorem LJ.fram {s : ByteArray} {n m : Nat} : Fr m (LJ s n) where
  lt h b hb := by
    obtain ⟨v, ho, _, hr⟩ := h.v
    rcases (ho b).1 hb with hb | hb
    · have := h.lt; omega
    · exact (hr.lt b hb).2
  keep h hb ho := by
    obtain ⟨v, hO, hc, hr⟩ := h.v
    have e : ∀ b, n ≤ b → b ≤ n + 3 → _ := fun b h1 h2 => ho b ((hO b).2 (.inl ⟨h1, h2⟩))
    refine ⟨⟨v, hO, (World.cell?_of_block (e (n + 3) (by omega) (by omega))).trans hc, own_heap hr fun g hg => ho g ((hO g).2 (.inr hg))⟩, h.e, (World.cell?_of_block (e n (by omega) (by omega))).trans h.r0, (World.cell?_of_block (e (n + 1) (by omega) (by omega))).trans h.r1,
      (World.cell?_of_block (e (n + 2) (by omega) (by omega))).trans h.r2, fun b h1 h2 => (World.frozen?_of_block (e b h1 h2)).trans (h.f b h1 h2), Nat.lt_of_lt_of_le h.lt hb.size⟩
/-- The state when it has stopped at an error. -/
structure LX (s : ByteArray) (n : Nat) (c : Code) (O : Nat → Prop) (W : World) : Prop where
  c : c = .ret
  o : ∀ b, n ≤ b → b ≤ n + 2 → O b
  l : ∀ b, O b → b < W.heap.size
  y : ∃ y, y ∈ ysL s ∧ y.2 ≠ 0 ∧ W.cell? ⟨n, 0, none⟩ = some (.slice none 0 0) ∧ W.cell? ⟨n + 1, 0, none⟩ = some (.int .i64 (y.1.a : Int)) ∧ W.cell? ⟨n + 2, 0, none⟩ = some (.int .i64 (y.2 : Int))
theorem LX.fram {s : ByteArray} {n m : Nat} (c : Code) : Fr m (fun _ => LX s n c) where
  lt h b hb := h.l b hb
  keep h hb ho := by
    obtain ⟨y, h1, h2, h3, h4, h5⟩ := h.y
    exact ⟨h.c, h.o, fun b hb' => Nat.lt_of_lt_of_le (h.l b hb') hb.size, y, h1, h2, (World.cell?_of_block (ho n (h.o n (by omega) (by omega)))).trans h3, (World.cell?_of_block (ho (n + 1) (h.o _ (by omega) (by omega)))).trans h4,
      (World.cell?_of_block (ho (n + 2) (h.o _ (by omega) (by omega)))).trans h5⟩
end Go.Proofs.YtkeckecdhcknhaaDoor.Lx
