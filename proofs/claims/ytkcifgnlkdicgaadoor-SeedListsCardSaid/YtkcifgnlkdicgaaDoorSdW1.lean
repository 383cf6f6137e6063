/-
  The contracts of the words: Mix, Unmix, Rest, New, At, Word.
-/
import Derived.Test.YtkcifgnlkdicgaaDoorProg
import Derived.Test.YtkcifgnlkdicgaaDoorSdPure
import Derived.WalkKit
import Derived.Handy
import Derived.WalkSmall
import Derived.Deep.QuietTactic
import Derived.BigQuiet
import Derived.Lib.Hide
namespace Go.Proofs.YtkcifgnlkdicgaaDoor.Sd
open Go Go.RowKit

/-- The table of the steps, cell by cell, in block 0. -/
def Tab (w : World) : Prop := 0 < w.heap.size
  ∧ w.cell? ⟨0, 0, none⟩ = some (.int .i64 30) ∧ w.cell? ⟨0, 1, none⟩ = some (.int .u64 13787848793156543929) ∧ w.cell? ⟨0, 2, none⟩ = some (.int .u64 10871156337175269513)
  ∧ w.cell? ⟨0, 3, none⟩ = some (.int .i64 27) ∧ w.cell? ⟨0, 4, none⟩ = some (.int .u64 10723151780598845931) ∧ w.cell? ⟨0, 5, none⟩ = some (.int .u64 3573116690164977347)
  ∧ w.cell? ⟨0, 6, none⟩ = some (.int .i64 31) ∧ w.cell? ⟨0, 7, none⟩ = some (.int .u64 1) ∧ w.cell? ⟨0, 8, none⟩ = some (.int .u64 1)
theorem Tab.pos {w : World} (h : Tab w) : 0 < w.heap.size := h.1
theorem Tab.below {w w' : World} {B : Nat} (h : Tab w) (hb : Below B w w') (hB : 0 < B) : Tab w' := by
  obtain ⟨h, c0, c1, c2, c3, c4, c5, c6, c7, c8⟩ := h
  have k : ∀ o, w'.cell? ⟨0, o, none⟩ = w.cell? ⟨0, o, none⟩ := fun o => hb.cell (p := ⟨0, o, none⟩) hB
  exact ⟨Nat.lt_of_lt_of_le h hb.size, by rw [k, c0], by rw [k, c1], by rw [k, c2], by rw [k, c3], by rw [k, c4], by rw [k, c5], by rw [k, c6], by rw [k, c7], by rw [k, c8]⟩

theorem idx0 (w : World) : (Instr.index 69 (.agg #[.int .i64 30, .int .u64 13787848793156543929, .int .u64 10871156337175269513, .int .i64 27, .int .u64 10723151780598845931, .int .u64 3573116690164977347, .int .i64 31, .int .u64 1, .int .u64 1]) (.int .i64 0)).run Tryd.prog w = .ok (.agg #[.int .i64 30, .int .u64 13787848793156543929, .int .u64 10871156337175269513]) w := by kernel_rfl
theorem idx1 (w : World) : (Instr.index 69 (.agg #[.int .i64 30, .int .u64 13787848793156543929, .int .u64 10871156337175269513, .int .i64 27, .int .u64 10723151780598845931, .int .u64 3573116690164977347, .int .i64 31, .int .u64 1, .int .u64 1]) (.int .i64 1)).run Tryd.prog w = .ok (.agg #[.int .i64 27, .int .u64 10723151780598845931, .int .u64 3573116690164977347]) w := by kernel_rfl
theorem idx2 (w : World) : (Instr.index 69 (.agg #[.int .i64 30, .int .u64 13787848793156543929, .int .u64 10871156337175269513, .int .i64 27, .int .u64 10723151780598845931, .int .u64 3573116690164977347, .int .i64 31, .int .u64 1, .int .u64 1]) (.int .i64 2)).run Tryd.prog w = .ok (.agg #[.int .i64 31, .int .u64 1, .int .u64 1]) w := by kernel_rfl
/-- A quiet callee in a region behind other draws. -/
theorem quiet_more {P : Program} {f : FuncId} {args : Array Value} {w : World} {v : Value} {g : Nat → Nat} {n : Nat}
    (h : Calls P f args (w.drewN (g n)) fun e w' => e = .returned v ∧ w' = w.drewN (g n)) : Calls P f args (w.drewN (g n)) fun e w'' => e = .returned v ∧ ∃ k, w'' = w.drewN (g k) :=
  h.mono fun _ _ ⟨he, hm⟩ => ⟨he, n, hm⟩
/-- Mix. -/
def MixC : Prop := ∀ (x : Int) (w : World), 0 ≤ x → x < 18446744073709551616 → Tab w →
    Calls Tryd.prog 20 #[.int .u64 x] w fun e w' => e = .returned (.int .u64 (mixI x)) ∧ Below w.heap.size w w'
set_option maxHeartbeats 400000 in
theorem mix_c : MixC := by
  intro x w hx0 hx1 hT
  obtain ⟨hs, c0, c1, c2, c3, c4, c5, c6, c7, c8⟩ := hT
  have i0 := idx0
  have i1 := idx1
  have i2 := idx2
  go_enter Tryd.func20, Tryd.ntmps20
  go_wp2
  refine wp_loop_rounds 4 ?_
  rw [rounds_succ]
  go_wp2
  go_quiet (fail)
  go_wp2
  rw [rounds_succ]
  go_wp2
  go_quiet (fail)
  go_wp2
  rw [rounds_succ]
  go_wp2
  go_quiet (fail)
  go_wp2
  rw [rounds_succ]
  go_wp2
  go_ret
  exact ⟨rfl, by repeat' (first | with_reducible exact Below.refl _ _ | with_reducible assumption | with_reducible refine below_drewN ?_ _ | with_reducible refine Below.drew ?_ | with_reducible refine Below.alloc ?_ ?_ _ | with_reducible refine Below.setCell ?_ ?_ _ | omega | (simp; done) | (simp; omega))⟩
set_option maxHeartbeats 400000 in
theorem un30_c (x : Int) (w : World) : Calls Tryd.prog 44 #[.int .u64 x, .int .i64 30] w fun e w' => e = .returned (.int .u64 (unI x 1073741824)) ∧ w' = w := by
  go_enter Tryd.func44, Tryd.ntmps44
  go_wp2
  refine wp_loop_rounds 3 ?_
  rw [rounds_succ]
  go_wp2
  rw [rounds_succ]
  go_wp2
  rw [rounds_succ]
  go_wp2
  go_ret
  exact ⟨rfl, rfl⟩
set_option maxHeartbeats 400000 in
theorem un27_c (x : Int) (w : World) : Calls Tryd.prog 44 #[.int .u64 x, .int .i64 27] w fun e w' => e = .returned (.int .u64 (unI x 134217728)) ∧ w' = w := by
  go_enter Tryd.func44, Tryd.ntmps44
  go_wp2
  refine wp_loop_rounds 3 ?_
  rw [rounds_succ]
  go_wp2
  rw [rounds_succ]
  go_wp2
  rw [rounds_succ]
  go_wp2
  go_ret
  exact ⟨rfl, rfl⟩
set_option maxHeartbeats 400000 in
theorem un31_c (x : Int) (w : World) : Calls Tryd.prog 44 #[.int .u64 x, .int .i64 31] w fun e w' => e = .returned (.int .u64 (unI x 2147483648)) ∧ w' = w := by
  go_enter Tryd.func44, Tryd.ntmps44
  go_wp2
  refine wp_loop_rounds 3 ?_
  rw [rounds_succ]
  go_wp2
  rw [rounds_succ]
  go_wp2
  rw [rounds_succ]
  go_wp2
  go_ret
  exact ⟨rfl, rfl⟩
set_option maxHeartbeats 400000 in
theorem unmix_c (x : Int) (w : World) (hx0 : 0 ≤ x) (hx1 : x < 18446744073709551616) (hT : Tab w) :
    Calls Tryd.prog 19 #[.int .u64 x] w fun e w' => e = .returned (.int .u64 (unmixI x)) ∧ Below w.heap.size w w' := by
  obtain ⟨hs, c0, c1, c2, c3, c4, c5, c6, c7, c8⟩ := hT
  have uw : IntKind.u64.wrap x = x := by rw [IntKind.wrap_u64]; exact Int.emod_eq_of_lt hx0 hx1
  go_enter Tryd.func19, Tryd.ntmps19
  go_wp2
  refine wp_loop_rounds 4 ?_
  rw [rounds_succ]
  go_wp2
  go_quiet ((go_at_call 44; exact Calls.quiet_of_same (un31_c _ _)))
  go_wp2
  rw [rounds_succ]
  go_wp2
  go_quiet ((go_at_call 44; exact quiet_more (un27_c _ _)))
  go_wp2
  rw [rounds_succ]
  go_wp2
  go_quiet ((go_at_call 44; exact quiet_more (un30_c _ _)))
  go_wp2
  rw [rounds_succ]
  go_wp2
  go_ret
  exact ⟨rfl, by repeat' (first | with_reducible exact Below.refl _ _ | with_reducible assumption | with_reducible refine below_drewN ?_ _ | with_reducible refine Below.drew ?_ | with_reducible refine Below.alloc ?_ ?_ _ | with_reducible refine Below.setCell ?_ ?_ _ | omega | (simp; done) | (simp; omega))⟩
/-- Rest. -/
def restOk (x n : Int) : Bool := decide (1 ≤ n ∧ x < 18446744073709551616 - 18446744073709551616 % n)
def restV (x n : Int) : Int := if restOk x n = true then x % n else 0
theorem over_eq (n : Int) (h1 : 1 ≤ n) (h2 : n ≤ 9223372036854775807) : (IntKind.u64.wrap (-n)).tmod n = 18446744073709551616 % n := by
  rw [IntKind.wrap_u64, show -n % 18446744073709551616 = 18446744073709551616 - n by omega, Int.tmod_eq_emod_of_nonneg (by omega), Int.sub_emod_right]
theorem over_lt (n : Int) (h1 : 1 ≤ n) : 0 ≤ 18446744073709551616 % n ∧ 18446744073709551616 % n < n := ⟨Int.emod_nonneg _ (by omega), Int.emod_lt_of_pos _ (by omega)⟩
theorem wrap_neg (r : Int) (h1 : 0 < r) (h2 : r ≤ 9223372036854775807) : IntKind.u64.wrap (-r) = 18446744073709551616 - r := by rw [IntKind.wrap_u64]; omega
theorem ret_tup {a b : Int} {c d : Bool} (h1 : a = b) (h2 : c = d) : Ending.returned (.tuple #[.int .i64 a, .bool c]) = .returned (.tuple #[.int .i64 b, .bool d]) := by rw [h1, h2]
theorem rest_way1 {x n : Int} (h1 : 1 ≤ n) (h2 : n ≤ 9223372036854775807) (a : 0 < (IntKind.u64.wrap (-n)).tmod n) (b : IntKind.u64.wrap (-(IntKind.u64.wrap (-n)).tmod n) ≤ x) : restOk x n = false := by
  have := over_lt n h1
  rw [over_eq n h1 h2] at a b
  rw [wrap_neg _ a (by omega)] at b
  unfold restOk; exact decide_eq_false (by omega)
theorem rest_way2 {x n : Int} (h1 : 1 ≤ n) (h2 : n ≤ 9223372036854775807) (a : 0 < (IntKind.u64.wrap (-n)).tmod n) (b : x < IntKind.u64.wrap (-(IntKind.u64.wrap (-n)).tmod n)) : restOk x n = true := by
  have := over_lt n h1
  rw [over_eq n h1 h2] at a b
  rw [wrap_neg _ a (by omega)] at b
  unfold restOk; exact decide_eq_true (by omega)
theorem rest_way3 {x n : Int} (h1 : 1 ≤ n) (h2 : n ≤ 9223372036854775807) (hx : x < 18446744073709551616) (a : (IntKind.u64.wrap (-n)).tmod n ≤ 0) : restOk x n = true := by
  have := over_lt n h1
  rw [over_eq n h1 h2] at a
  unfold restOk; exact decide_eq_true (by omega)
theorem rest_val {x n : Int} (h1 : 1 ≤ n) (h2 : n ≤ 9223372036854775807) (h : restOk x n = true) : wrap64 (x % n) = restV x n := by
  have a1 := Int.emod_nonneg x (show n ≠ 0 by omega)
  have a2 := Int.emod_lt_of_pos x (show 0 < n by omega)
  unfold restV; rw [if_pos h]; unfold wrap64; omega
set_option maxHeartbeats 400000 in
theorem rest_c (x n : Int) (w : World) (hx0 : 0 ≤ x) (hx1 : x < 18446744073709551616) (h1 : 1 ≤ n) (h2 : n ≤ 9223372036854775807) :
    Calls Tryd.prog 18 #[.int .u64 x, .int .i64 n] w fun e w' => e = .returned (.tuple #[.int .i64 (restV x n), .bool (restOk x n)]) ∧ w = w' := by
  go_enter Tryd.func18, Tryd.ntmps18
  go_wp2
  · have a : 0 < (IntKind.u64.wrap (-n)).tmod n := by assumption
    have b : IntKind.u64.wrap (-(IntKind.u64.wrap (-n)).tmod n) ≤ x := by assumption
    go_ret2
    exact ⟨ret_tup (by unfold restV; rw [rest_way1 h1 h2 a b]; rfl) (rest_way1 h1 h2 a b).symm, rfl⟩
  · have a : 0 < (IntKind.u64.wrap (-n)).tmod n := by assumption
    have b : x < IntKind.u64.wrap (-(IntKind.u64.wrap (-n)).tmod n) := by assumption
    go_ret2
    exact ⟨ret_tup (rest_val h1 h2 (rest_way2 h1 h2 a b)) (rest_way2 h1 h2 a b).symm, rfl⟩
  · have a : (IntKind.u64.wrap (-n)).tmod n ≤ 0 := by assumption
    go_ret2
    exact ⟨ret_tup (rest_val h1 h2 (rest_way3 h1 h2 hx1 a)) (rest_way3 h1 h2 hx1 a).symm, rfl⟩
set_option maxHeartbeats 400000 in
theorem rest_no_c (x n : Int) (w : World) (h1 : n < 1) :
    Calls Tryd.prog 18 #[.int .u64 x, .int .i64 n] w fun e w' => e = .returned (.tuple #[.int .i64 0, .bool false]) ∧ w = w' := by
  go_enter Tryd.func18, Tryd.ntmps18
  go_wp2
  go_ret2
  exact ⟨rfl, rfl⟩
end Go.Proofs.YtkcifgnlkdicgaaDoor.Sd
