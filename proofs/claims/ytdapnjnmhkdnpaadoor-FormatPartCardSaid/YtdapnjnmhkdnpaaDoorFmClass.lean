/-
  A region that draws its order, walked once, at a class of worlds of one's own: S is kept by all that its calls do.
-/
import Derived.Test.YtdapnjnmhkdnpaaDoorFmRow
import Derived.Deep.QuietTactic
import Derived.BigQuiet
namespace Go.Proofs.YtdapnjnmhkdnpaaDoor.Fm
open Go Go.RowKit
set_option linter.unusedVariables false
variable {P : Program}
/-- A world of the class S. -/
structure InS (S : World → Prop) where
  w : World
  h : S w
theorem wp_region_class {id : Nat} {Q : Exit → Act → World → Prop} {a : Act} {w : World} {l : List Oper} (S : World → Prop) (hm : P.follows .mixedOrders = true) (hB : Region.lexB .any l.toArray = true) (h0 : S w.drew)
    (h : wpQuiet P l.toArray (fun w' => ∃ p : InS S, w' = p.w) (fun a' => ∀ w', (∃ p : InS S, w' = p.w) → Q .normal a' w') l a) : (Code.region id l.toArray true).wp P Q a w :=
  wp_region_quiet (C := fun w' => ∃ p : InS S, w' = p.w) hm hB ⟨⟨w.drew, h0⟩, rfl⟩ (by simpa using h)
theorem Calls.class_of {f : FuncId} {args : Array Value} {S : World → Prop} {p : InS S} {v : Value} (h : Calls P f args p.w fun e w' => e = .returned v ∧ S w') :
    Calls P f args p.w fun e w'' => e = .returned v ∧ ∃ p : InS S, w'' = p.w :=
  h.mono fun e w' ⟨h1, h2⟩ => ⟨h1, ⟨w', h2⟩, rfl⟩
theorem Calls.below_of {f : FuncId} {args : Array Value} {W : World} {p : InS (Below W.heap.size W)} {v : Value} (h : Calls P f args p.w fun e w' => e = .returned v ∧ Below p.w.heap.size p.w w') :
    Calls P f args p.w fun e w'' => e = .returned v ∧ ∃ p : InS (Below W.heap.size W), w'' = p.w :=
  Calls.class_of (h.mono fun e w' ⟨h1, h2⟩ => ⟨h1, p.h.trans (h2.mono p.h.size)⟩)
end Go.Proofs.YtdapnjnmhkdnpaaDoor.Fm
