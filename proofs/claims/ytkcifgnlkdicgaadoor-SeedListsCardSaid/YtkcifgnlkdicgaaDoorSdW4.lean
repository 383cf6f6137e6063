/-
  The contracts of drawer and of the closure that draws.
-/
import Derived.Test.YtkcifgnlkdicgaaDoorSdW3
import Derived.Deep.RegionWith
namespace Go.Proofs.YtkcifgnlkdicgaaDoor.Sd
open Go Go.RowKit
set_option linter.unusedVariables false
set_option linter.unusedSimpArgs false
theorem below_some_c (k i n v j : Int) (w : World) (hx0 : 0 ≤ k) (hx1 : k < 18446744073709551616) (hT : Tab w) (h0 : 0 ≤ i) (h1 : i ≤ 1099511627776) (hn : 1 ≤ n) (hn2 : n ≤ 9223372036854775807) (hb : below k i n = some (v, j)) :
    Calls Tryd.prog 26 #[.agg #[.int .u64 k], .int .i64 i, .int .i64 n] w fun e w' => e = .returned (.tuple #[.int .i64 v, .int .i64 j, .int .i64 0]) ∧ Below w.heap.size w w' := by
  have := below_c k i n w hx0 hx1 hT h0 h1 hn hn2
  rw [hb] at this; exact this
theorem below_none_c (k i n : Int) (w : World) (hx0 : 0 ≤ k) (hx1 : k < 18446744073709551616) (hT : Tab w) (h0 : 0 ≤ i) (h1 : i ≤ 1099511627776) (hn : 1 ≤ n) (hn2 : n ≤ 9223372036854775807) (hb : below k i n = none) :
    Calls Tryd.prog 26 #[.agg #[.int .u64 k], .int .i64 i, .int .i64 n] w fun e w' => e = .returned (.tuple #[.int .i64 0, .int .i64 0, .int .i64 4]) ∧ Below w.heap.size w w' := by
  have := below_c k i n w hx0 hx1 hT h0 h1 hn hn2
  rw [hb] at this; exact this
theorem drawer_c (ks : Array Value) (p : Addr) (w : World) : Calls Tryd.prog 46 #[.func (Fn.func 26) ks #[], .pointer (some p)] w fun e w' =>
    e = .returned (.func (Fn.func 51) #[] #[.pointer (some ⟨w.heap.size, 0, none⟩), .pointer (some ⟨w.heap.size + 1, 0, none⟩)]) ∧
    (w.alloc (.cells #[.func (Fn.func 26) ks #[]] 45)).alloc (.cells #[.pointer (some p)] 73) = w' := by
  go_enter Tryd.func46, Tryd.ntmps46
  go_wp2
  go_ret
  exact ⟨rfl, rfl⟩
/-- What the closure leaves: the next index in its cell; all else from before is as it was. -/
def Drawn (W bi : Nat) (j : Int) (w w' : World) : Prop := ∃ w1, Below W w w1 ∧ w' = w1.setCell ⟨bi, 0, none⟩ (.int .i64 j)
set_option maxHeartbeats 400000 in
theorem draw_some_c (k i n v j : Int) (b1 b2 bi : Nat) (w : World) (hx0 : 0 ≤ k) (hx1 : k < 18446744073709551616) (hT : Tab w) (h0 : 0 ≤ i) (h1 : i ≤ 1099511627776) (hn : 1 ≤ n) (hn2 : n ≤ 9223372036854775807)
    (c1 : w.cell? ⟨b1, 0, none⟩ = some (.func (Fn.func 26) #[.agg #[.int .u64 k]] #[]))
    (c2 : w.cell? ⟨b2, 0, none⟩ = some (.pointer (some ⟨bi, 0, none⟩))) (c3 : w.cell? ⟨bi, 0, none⟩ = some (.int .i64 i)) (c4 : w.frozen? ⟨bi, 0, none⟩ = false)
    (l1 : b1 < w.heap.size) (l2 : b2 < w.heap.size) (l3 : bi < w.heap.size) (h : below k i n = some (v, j)) :
    Calls Tryd.prog 51 #[.int .i64 n, .pointer (some ⟨b1, 0, none⟩), .pointer (some ⟨b2, 0, none⟩)] w fun e w' => e = .returned (.tuple #[.int .i64 v, .int .i64 0]) ∧ Drawn w.heap.size bi j w w' := by
  have H : Hid (below k i n = some (v, j)) := h
  clear h
  go_enter Tryd.func51, Tryd.ntmps51
  go_wp2
  go_region_with (go_at_call 26; refine (below_some_c k i n v j _ hx0 hx1 (hT.below (by repeat' (first | with_reducible exact Below.refl _ _ | with_reducible assumption | with_reducible refine below_drewN ?_ _ | with_reducible refine Below.drew ?_ | with_reducible refine Below.alloc ?_ ?_ _ | with_reducible refine Below.setCell ?_ ?_ _ | omega | (simp; done) | (simp; omega))) hT.pos) h0 h1 hn hn2 H.out).mono ?_; rintro e w1 ⟨rfl, hb⟩)
  all_goals
    have l4 : bi < w1.heap.size := by have := hb.size; simp at this; omega
    have k2 : w1.cell? ⟨b2, 0, none⟩ = some (.pointer (some ⟨bi, 0, none⟩)) := by rw [hb.cell (p := ⟨b2, 0, none⟩) (by simpa using l2)]; simpa using c2
    have k3 : w1.cell? ⟨bi, 0, none⟩ = some (.int .i64 i) := by rw [hb.cell (p := ⟨bi, 0, none⟩) (by simpa using l3)]; simpa using c3
    have k4 : w1.frozen? ⟨bi, 0, none⟩ = false := by rw [hb.frozen (p := ⟨bi, 0, none⟩) (by simpa using l3)]; simpa using c4
    have hq := (show Below w.heap.size w _ by repeat' (first | with_reducible exact Below.refl _ _ | with_reducible assumption | with_reducible refine below_drewN ?_ _ | with_reducible refine Below.drew ?_ | with_reducible refine Below.alloc ?_ ?_ _ | with_reducible refine Below.setCell ?_ ?_ _ | omega | (simp; done) | (simp; omega))).trans (hb.mono (by simp))
    go_wp2
    go_ret2
    exact ⟨rfl, w1, hq, rfl⟩
set_option maxHeartbeats 400000 in
theorem draw_none_c (k i n : Int) (b1 b2 bi : Nat) (w : World) (hx0 : 0 ≤ k) (hx1 : k < 18446744073709551616) (hT : Tab w) (h0 : 0 ≤ i) (h1 : i ≤ 1099511627776) (hn : 1 ≤ n) (hn2 : n ≤ 9223372036854775807)
    (c1 : w.cell? ⟨b1, 0, none⟩ = some (.func (Fn.func 26) #[.agg #[.int .u64 k]] #[]))
    (c2 : w.cell? ⟨b2, 0, none⟩ = some (.pointer (some ⟨bi, 0, none⟩))) (c3 : w.cell? ⟨bi, 0, none⟩ = some (.int .i64 i)) (c4 : w.frozen? ⟨bi, 0, none⟩ = false)
    (l1 : b1 < w.heap.size) (l2 : b2 < w.heap.size) (l3 : bi < w.heap.size) (h : below k i n = none) :
    Calls Tryd.prog 51 #[.int .i64 n, .pointer (some ⟨b1, 0, none⟩), .pointer (some ⟨b2, 0, none⟩)] w fun e w' => e = .returned (.tuple #[.int .i64 0, .int .i64 4]) ∧ Drawn w.heap.size bi 0 w w' := by
  have H : Hid (below k i n = none) := h
  clear h
  go_enter Tryd.func51, Tryd.ntmps51
  go_wp2
  go_region_with (go_at_call 26; refine (below_none_c k i n _ hx0 hx1 (hT.below (by repeat' (first | with_reducible exact Below.refl _ _ | with_reducible assumption | with_reducible refine below_drewN ?_ _ | with_reducible refine Below.drew ?_ | with_reducible refine Below.alloc ?_ ?_ _ | with_reducible refine Below.setCell ?_ ?_ _ | omega | (simp; done) | (simp; omega))) hT.pos) h0 h1 hn hn2 H.out).mono ?_; rintro e w1 ⟨rfl, hb⟩)
  all_goals
    have l4 : bi < w1.heap.size := by have := hb.size; simp at this; omega
    have k2 : w1.cell? ⟨b2, 0, none⟩ = some (.pointer (some ⟨bi, 0, none⟩)) := by rw [hb.cell (p := ⟨b2, 0, none⟩) (by simpa using l2)]; simpa using c2
    have k3 : w1.cell? ⟨bi, 0, none⟩ = some (.int .i64 i) := by rw [hb.cell (p := ⟨bi, 0, none⟩) (by simpa using l3)]; simpa using c3
    have k4 : w1.frozen? ⟨bi, 0, none⟩ = false := by rw [hb.frozen (p := ⟨bi, 0, none⟩) (by simpa using l3)]; simpa using c4
    have hq := (show Below w.heap.size w _ by repeat' (first | with_reducible exact Below.refl _ _ | with_reducible assumption | with_reducible refine below_drewN ?_ _ | with_reducible refine Below.drew ?_ | with_reducible refine Below.alloc ?_ ?_ _ | with_reducible refine Below.setCell ?_ ?_ _ | omega | (simp; done) | (simp; omega))).trans (hb.mono (by simp))
    go_wp2
    go_ret2
    exact ⟨rfl, w1, hq, rfl⟩
end Go.Proofs.YtkcifgnlkdicgaaDoor.Sd
