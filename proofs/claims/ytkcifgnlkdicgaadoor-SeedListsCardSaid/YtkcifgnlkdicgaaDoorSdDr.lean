/-
  The closure that draws, as a state: its two boxes and the cell of the index.
-/
import Derived.Test.YtkcifgnlkdicgaaDoorSdW4
import Derived.Test.YtkcifgnlkdicgaaDoorSdRow
namespace Go.Proofs.YtkcifgnlkdicgaaDoor.Sd
open Go Go.RowKit
set_option linter.unusedVariables false
set_option linter.unusedSimpArgs false

def Dr (k j : Int) (bi d : Nat) (w : World) : Prop :=
  w.cell? ⟨bi, 0, none⟩ = some (.int .i64 j) ∧ w.frozen? ⟨bi, 0, none⟩ = false ∧ w.cell? ⟨d, 0, none⟩ = some (.func (Fn.func 26) #[.agg #[.int .u64 k]] #[]) ∧
  w.cell? ⟨d + 1, 0, none⟩ = some (.pointer (some ⟨bi, 0, none⟩)) ∧ bi < d ∧ d + 1 < w.heap.size ∧ 0 < bi ∧ 0 ≤ j ∧ j ≤ 1099511627776
theorem Drawn.size {bi : Nat} {j : Int} {w w' : World} (h : Drawn w.heap.size bi j w w') : w.heap.size ≤ w'.heap.size := by
  obtain ⟨w1, hb, rfl⟩ := h; rw [size_setCell]; exact hb.size
theorem Drawn.below {B bi : Nat} {j : Int} {w0 w w' : World} (h : Drawn w.heap.size bi j w w') (hb : Below B w0 w) (h1 : B ≤ bi) (h2 : B ≤ w.heap.size) : Below B w0 w' := by
  obtain ⟨w1, hb1, rfl⟩ := h
  exact (hb.trans (hb1.mono h2)).setCell h1 _
theorem Drawn.row {b bi : Nat} {j : Int} {w w' : World} {xs : List Int} (h : Drawn w.heap.size bi j w w') (hr : Row w b xs) (hn : bi ≠ b) : Row w' b xs := by
  obtain ⟨w1, hb1, rfl⟩ := h
  exact (hr.below hb1 hr.lt).other hn _
theorem Drawn.cell {b o bi : Nat} {j : Int} {w w' : World} (h : Drawn w.heap.size bi j w w') (hn : bi ≠ b) (hb : b < w.heap.size) : w'.cell? ⟨b, o, none⟩ = w.cell? ⟨b, o, none⟩ := by
  obtain ⟨w1, hb1, rfl⟩ := h
  rw [World.cell?_setCell_other (h := fun hh => hn (congrArg Addr.block hh)), hb1.cell (p := ⟨b, o, none⟩) hb]
theorem Drawn.frozen {b o bi : Nat} {j : Int} {w w' : World} (h : Drawn w.heap.size bi j w w') (hb : b < w.heap.size) : w'.frozen? ⟨b, o, none⟩ = w.frozen? ⟨b, o, none⟩ := by
  obtain ⟨w1, hb1, rfl⟩ := h
  rw [frozen_setCell, hb1.frozen (p := ⟨b, o, none⟩) hb]
theorem Drawn.tab {bi : Nat} {j : Int} {w w' : World} (h : Drawn w.heap.size bi j w w') (hT : Tab w) (hn : 0 < bi) : Tab w' := by
  obtain ⟨w1, hb1, rfl⟩ := h
  exact hT.below ((hb1.mono (show 1 ≤ w.heap.size from hT.pos)).setCell (B := 1) (by exact hn) _) (by decide)
theorem Drawn.dr {k i j : Int} {bi d : Nat} {w w' : World} (h : Drawn w.heap.size bi j w w') (hD : Dr k i bi d w) (h0 : 0 ≤ j) (h1 : j ≤ 1099511627776) : Dr k j bi d w' := by
  obtain ⟨c0, f0, c1, c2, l1, l2, l3, _, _⟩ := hD
  have hs := h.size
  refine ⟨?_, by rw [h.frozen (by omega)]; exact f0, by rw [h.cell (by omega) (by omega)]; exact c1, by rw [h.cell (by omega) (by omega)]; exact c2, l1, by omega, l3, h0, h1⟩
  obtain ⟨w1, hb1, rfl⟩ := h
  have hc : w1.cell? ⟨bi, 0, none⟩ = some (.int .i64 i) := by rw [hb1.cell (p := ⟨bi, 0, none⟩) (show bi < w.heap.size by omega)]; exact c0
  exact World.cell?_setCell_same _ _ _ hc
theorem Dr.below {k j : Int} {bi d B : Nat} {w w' : World} (h : Dr k j bi d w) (hb : Below B w w') (hB : d + 1 < B) : Dr k j bi d w' := by
  obtain ⟨c0, f0, c1, c2, l1, l2, l3, l4, l5⟩ := h
  have := hb.size
  exact ⟨by rw [hb.cell (p := ⟨bi, 0, none⟩) (show bi < B by omega)]; exact c0, by rw [hb.frozen (p := ⟨bi, 0, none⟩) (show bi < B by omega)]; exact f0, by rw [hb.cell (p := ⟨d, 0, none⟩) (show d < B by omega)]; exact c1, by rw [hb.cell (p := ⟨d + 1, 0, none⟩) hB]; exact c2, l1, by omega, l3, l4, l5⟩
theorem Dr.other {k j : Int} {bi d b o : Nat} {w : World} (h : Dr k j bi d w) (h1 : b ≠ bi) (h2 : b ≠ d) (h3 : b ≠ d + 1) (v : Value) : Dr k j bi d (w.setCell ⟨b, o, none⟩ v) := by
  obtain ⟨c0, f0, c1, c2, l1, l2, l3, l4, l5⟩ := h
  exact ⟨by rw [World.cell?_setCell_other (h := fun hh => h1 (congrArg Addr.block hh))]; exact c0, by rw [frozen_setCell]; exact f0, by rw [World.cell?_setCell_other (h := fun hh => h2 (congrArg Addr.block hh))]; exact c1, by rw [World.cell?_setCell_other (h := fun hh => h3 (congrArg Addr.block hh))]; exact c2, l1, by rw [size_setCell]; exact l2, l3, l4, l5⟩
theorem Dr.start (k j : Int) (bi n : Nat) (w : World) (hc : w.cell? ⟨bi, 0, none⟩ = some (.int .i64 j)) (hf : w.frozen? ⟨bi, 0, none⟩ = false) (hb : bi < w.heap.size) (h0 : 0 < bi) (hn : w.heap.size = n) (h1 : 0 ≤ j) (h2 : j ≤ 1099511627776) :
    Dr k j bi n ((w.alloc (.cells #[.func (Fn.func 26) #[.agg #[.int .u64 k]] #[]] 45)).alloc (.cells #[.pointer (some ⟨bi, 0, none⟩)] 73)) := by
  subst hn
  refine ⟨?_, ?_, ?_, ?_, hb, by simp, h0, h1, h2⟩
  · rw [World.cell?_alloc_past _ _ _ (by simp; omega), World.cell?_alloc_past _ _ _ hb]; exact hc
  · rw [World.frozen?_alloc_past _ _ _ (by simp; omega), World.frozen?_alloc_past _ _ _ hb]; exact hf
  · rw [World.cell?_alloc_past _ _ _ (by simp), World.cell?_alloc_at _ _ _ _ rfl]; rfl
  · rw [World.cell?_alloc_at _ _ _ _ (by simp)]; rfl
theorem Dr.le {k j : Int} {bi d : Nat} {w : World} (h : Dr k j bi d w) : j ≤ 1099511627776 := h.2.2.2.2.2.2.2.2
theorem Dr.lo {k j : Int} {bi d : Nat} {w : World} (h : Dr k j bi d w) : 0 ≤ j := h.2.2.2.2.2.2.2.1
theorem Dr.at {k j : Int} {bi d : Nat} {w : World} (h : Dr k j bi d w) : w.cell? ⟨bi, 0, none⟩ = some (.int .i64 j) := h.1
theorem dr_some_c (k i n v j : Int) (bi d : Nat) (w : World) (hx0 : 0 ≤ k) (hx1 : k < 18446744073709551616) (hT : Tab w) (hD : Dr k i bi d w) (hn : 1 ≤ n) (hn2 : n ≤ 9223372036854775807) (h : below k i n = some (v, j)) :
    Calls Tryd.prog 51 #[.int .i64 n, .pointer (some ⟨d, 0, none⟩), .pointer (some ⟨d + 1, 0, none⟩)] w fun e w' => e = .returned (.tuple #[.int .i64 v, .int .i64 0]) ∧ Drawn w.heap.size bi j w w' := by
  obtain ⟨c0, f0, c1, c2, l1, l2, l3, l4, l5⟩ := hD
  exact draw_some_c k i n v j d (d + 1) bi w hx0 hx1 hT l4 l5 hn hn2 c1 c2 c0 f0 (by omega) l2 (by omega) h
theorem dr_none_c (k i n : Int) (bi d : Nat) (w : World) (hx0 : 0 ≤ k) (hx1 : k < 18446744073709551616) (hT : Tab w) (hD : Dr k i bi d w) (hn : 1 ≤ n) (hn2 : n ≤ 9223372036854775807) (h : below k i n = none) :
    Calls Tryd.prog 51 #[.int .i64 n, .pointer (some ⟨d, 0, none⟩), .pointer (some ⟨d + 1, 0, none⟩)] w fun e w' => e = .returned (.tuple #[.int .i64 0, .int .i64 4]) ∧ Drawn w.heap.size bi 0 w w' := by
  obtain ⟨c0, f0, c1, c2, l1, l2, l3, l4, l5⟩ := hD
  exact draw_none_c k i n d (d + 1) bi w hx0 hx1 hT l4 l5 hn hn2 c1 c2 c0 f0 (by omega) l2 (by omega) h
end Go.Proofs.YtkcifgnlkdicgaaDoor.Sd
