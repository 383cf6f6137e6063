/-
  The box of a stream's key in a law's own frame, carried from call to call.
-/
import Derived.Test.YtkcifgnlkdicgaaDoorSdW2
namespace Go.Proofs.YtkcifgnlkdicgaaDoor.Sd
open Go Go.RowKit
set_option linter.unusedVariables false
/-- The box of the key, and what was there before. -/
def St (k : Int) (s0 : Nat) (w W : World) : Prop := Tab W ∧ W.cell? ⟨s0, 0, none⟩ = some (.int .u64 k) ∧ Below w.heap.size w W ∧ s0 < W.heap.size ∧ w.heap.size ≤ s0
theorem St.tab {k : Int} {s0 : Nat} {w W : World} (h : St k s0 w W) : Tab W := h.1
theorem St.cell {k : Int} {s0 : Nat} {w W : World} (h : St k s0 w W) : W.cell? ⟨s0, 0, none⟩ = some (.int .u64 k) := h.2.1
theorem St.below {k : Int} {s0 : Nat} {w W : World} (h : St k s0 w W) : Below w.heap.size w W := h.2.2.1
theorem St.lt {k : Int} {s0 : Nat} {w W : World} (h : St k s0 w W) : s0 < W.heap.size := h.2.2.2.1
theorem St.step {k : Int} {s0 : Nat} {w W W' : World} (h : St k s0 w W) (hb : Below W.heap.size W W') : St k s0 w W' := by
  obtain ⟨hT, hc, hB, h1, h2⟩ := h
  have := hb.size
  exact ⟨hT.below hb hT.pos, by rw [hb.cell (p := ⟨s0, 0, none⟩) h1]; exact hc, hB.trans (hb.mono (by omega)), by omega, h2⟩
theorem St.start {k : Int} {w w1 : World} (hT : Tab w) (hb : Below w.heap.size w w1) : St k w1.heap.size w (w1.alloc (.cells #[.int .u64 k] 33)) := by
  have hB : Below w.heap.size w (w1.alloc (.cells #[.int .u64 k] 33)) := hb.alloc hb.size _
  exact ⟨hT.below hB hT.pos, by rw [World.cell?_alloc_at _ _ _ _ rfl]; rfl, hB, by simp, hb.size⟩
theorem St.alloc {k : Int} {s0 : Nat} {w W : World} (h : St k s0 w W) (o : Obj) : St k s0 w (W.alloc o) := h.step ((Below.refl _ _).alloc (Nat.le_refl _) _)
end Go.Proofs.YtkcifgnlkdicgaaDoor.Sd
