/-
  A row of integers in a block of the call's own.
-/
import Derived.Test.YtkcifgnlkdicgaaDoorSdW1
namespace Go.Proofs.YtkcifgnlkdicgaaDoor.Sd
open Go Go.RowKit
set_option linter.unusedVariables false
set_option linter.unusedSimpArgs false

/-- Block b begins with the integers xs, and they can be written. -/
def Row (w : World) (b : Nat) (xs : List Int) : Prop :=
  b < w.heap.size ∧ ∀ q, q < xs.length → w.cell? ⟨b, q, none⟩ = some (.int .i64 (xs.getD q 0)) ∧ w.frozen? ⟨b, q, none⟩ = false
theorem Row.lt {w : World} {b : Nat} {xs : List Int} (h : Row w b xs) : b < w.heap.size := h.1
theorem Row.cell {w : World} {b : Nat} {xs : List Int} (h : Row w b xs) (q : Nat) (hq : q < xs.length) : w.cell? ⟨b, q, none⟩ = some (.int .i64 (xs.getD q 0)) := (h.2 q hq).1
theorem Row.free {w : World} {b : Nat} {xs : List Int} (h : Row w b xs) (q : Nat) (hq : q < xs.length) : w.frozen? ⟨b, q, none⟩ = false := (h.2 q hq).2
theorem Row.below {w w' : World} {b B : Nat} {xs : List Int} (h : Row w b xs) (hb : Below B w w') (hB : b < B) : Row w' b xs :=
  ⟨Nat.lt_of_lt_of_le h.1 hb.size, fun q hq => ⟨by rw [hb.cell (p := ⟨b, q, none⟩) hB]; exact h.cell q hq, by rw [hb.frozen (p := ⟨b, q, none⟩) hB]; exact h.free q hq⟩⟩
theorem frozen_setCell (w : World) (a p : Addr) (v : Value) : (w.setCell a v).frozen? p = w.frozen? p := by simp
theorem size_setCell (w : World) (a : Addr) (v : Value) : (w.setCell a v).heap.size = w.heap.size := by simp
theorem Row.set {w : World} {b : Nat} {xs : List Int} (h : Row w b xs) (q : Nat) (hq : q < xs.length) (v : Int) : Row (w.setCell ⟨b, q, none⟩ (.int .i64 v)) b (xs.set q v) := by
  refine ⟨by rw [size_setCell]; exact h.1, fun r hr => ⟨?_, by rw [frozen_setCell]; exact h.free r (by simpa using hr)⟩⟩
  have hr' : r < xs.length := by simpa using hr
  by_cases e : q = r
  · subst e
    rw [World.cell?_setCell_same (h := h.cell q hq)]
    simp [List.getD_eq_getElem?_getD, hq]
  · rw [World.cell?_setCell_other (h := fun hh => e (congrArg Addr.off hh)), h.cell r hr']
    simp [List.getD_eq_getElem?_getD, e]
theorem Row.other {w : World} {b c o : Nat} {xs : List Int} (h : Row w b xs) (hc : c ≠ b) (v : Value) : Row (w.setCell ⟨c, o, none⟩ v) b xs :=
  ⟨by rw [size_setCell]; exact h.1, fun r hr => ⟨by rw [World.cell?_setCell_other (h := fun hh => hc (congrArg Addr.block hh))]; exact h.cell r hr, by rw [frozen_setCell]; exact h.free r hr⟩⟩
/-- A new row of zeros, as make lays it. -/
def zer (n : Nat) : Array Value := madeCells #[.int .i64 0] n
theorem zer_get (n q : Nat) (h : q < n) : (zer n)[q]? = some (.int .i64 0) := by simp [zer, madeCells, h, Nat.mod_one]
theorem Row.made (w : World) (n : Nat) : Row (w.alloc (.cells (zer n) 3)) w.heap.size (List.replicate n 0) := by
  refine ⟨by simp, fun q hq => ?_⟩
  have hq' : q < n := by simpa using hq
  refine ⟨?_, by simp⟩
  rw [World.cell?_alloc_at _ _ _ _ rfl, zer_get n q hq']
  simp [List.getD_eq_getElem?_getD, hq']
theorem info_int : (Tryd.prog.info? 3).map (fun i => (i.zero, i.size, i.bytes)) = some (some (.int .i64 0), 1, 8) := by kernel_rfl
theorem make_ints (l n : Nat) (h : l ≤ n) (hn : n ≤ 1000000) (w : World) :
    (Instr.makeSlice 26 (.int .i64 (l : Int)) (.int .i64 (n : Int))).run Tryd.prog w = .ok (.slice (some ⟨w.heap.size, 0, none⟩) l n) (w.alloc (.cells (zer n) 3)) := by
  obtain ⟨i0, hi, hz0, hz1, hz2⟩ := info_parts info_int
  have := run_make w 26 3 i0 (.int .i64 0) Tryd.underlying26 hi hz0 .i64 .i64 (l : Int) (n : Int) (by omega) (by omega) (by rw [hz2]; omega) (by omega)
  rw [this, hz1]
  simp [zer, Value.cells]
theorem make_ints0 (n : Nat) (hn : n ≤ 1000000) (w : World) :
    (Instr.makeSlice 26 (.int .i64 0) (.int .i64 (n : Int))).run Tryd.prog w = .ok (.slice (some ⟨w.heap.size, 0, none⟩) 0 n) (w.alloc (.cells (zer n) 3)) := make_ints 0 n (Nat.zero_le _) hn w
end Go.Proofs.YtkcifgnlkdicgaaDoor.Sd
