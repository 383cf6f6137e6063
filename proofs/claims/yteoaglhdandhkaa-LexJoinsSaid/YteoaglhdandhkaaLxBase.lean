/-
  What the names' contracts need.
-/
import Derived.Test.YteoaglhdandhkaaFmRange
import Derived.Test.YteoaglhdandhkaaProg
import Derived.OwnWalkIn
import Derived.TacticsInMore
import Derived.LoopNIn
import Derived.LoopIn
import Derived.Lib.Hide
import Derived.Shelf.Abstract
namespace Go.Proofs.Yteoaglhdandhkaa.Fm
open Go Go.RowKit
set_option linter.unusedVariables false
set_option linter.unusedSimpArgs false
theorem three_cells (w : World) (n d r : Value) (tn td tr : TypeId) : (((w.alloc (.cells #[n] tn)).alloc (.cells #[d] td)).alloc (.cells #[r] tr)).cell? ⟨w.heap.size, 0, none⟩ = some n ∧
    (((w.alloc (.cells #[n] tn)).alloc (.cells #[d] td)).alloc (.cells #[r] tr)).cell? ⟨w.heap.size + 1, 0, none⟩ = some d ∧ (((w.alloc (.cells #[n] tn)).alloc (.cells #[d] td)).alloc (.cells #[r] tr)).cell? ⟨w.heap.size + 2, 0, none⟩ = some r ∧
    (((w.alloc (.cells #[n] tn)).alloc (.cells #[d] td)).alloc (.cells #[r] tr)).frozen? ⟨w.heap.size, 0, none⟩ = false ∧ (((w.alloc (.cells #[n] tn)).alloc (.cells #[d] td)).alloc (.cells #[r] tr)).frozen? ⟨w.heap.size + 2, 0, none⟩ = false := by
  have h1 : (w.alloc (.cells #[n] tn)).heap.size = w.heap.size + 1 := by simp
  have h2 : ((w.alloc (.cells #[n] tn)).alloc (.cells #[d] td)).heap.size = w.heap.size + 2 := by simp
  refine ⟨?_, ?_, ?_, ?_, ?_⟩
  · rw [((Below.refl _ _).alloc (Nat.le_refl _) (.cells #[r] tr)).cell (p := ⟨w.heap.size, 0, none⟩) (by rw [h2]; show w.heap.size < _; omega), ((Below.refl _ _).alloc (Nat.le_refl _) (.cells #[d] td)).cell (p := ⟨w.heap.size, 0, none⟩) (by rw [h1]; show w.heap.size < _; omega), World.cell?_alloc_at _ _ _ _ rfl]; rfl
  · rw [((Below.refl _ _).alloc (Nat.le_refl _) (.cells #[r] tr)).cell (p := ⟨w.heap.size + 1, 0, none⟩) (by rw [h2]; show w.heap.size + 1 < _; omega), World.cell?_alloc_at _ _ _ _ h1.symm]; rfl
  · rw [World.cell?_alloc_at _ _ _ _ h2.symm]; rfl
  · rw [((Below.refl _ _).alloc (Nat.le_refl _) (.cells #[r] tr)).frozen (p := ⟨w.heap.size, 0, none⟩) (by rw [h2]; show w.heap.size < _; omega), ((Below.refl _ _).alloc (Nat.le_refl _) (.cells #[d] td)).frozen (p := ⟨w.heap.size, 0, none⟩) (by rw [h1]; show w.heap.size < _; omega), World.frozen?_alloc_at _ _ _ _ rfl]
  · rw [World.frozen?_alloc_at _ _ _ _ h2.symm]
end Go.Proofs.Yteoaglhdandhkaa.Fm
