/-
  Formulas in a row: one more in front.
-/
import Derived.Test.YtnadjkofjgpabaaDoorFmData
namespace Go.Proofs.YtnadjkofjgpabaaDoor.Fm
open Go Go.RowKit
set_option linter.unusedVariables false
set_option linter.unusedSimpArgs false
theorem fsAt_cons' {n b o : Nat} {w : World} {v0 v1 v2 v3 : Value} {t : Fo} {l : List Fo} (c0 : w.cell? ⟨b, o, none⟩ = some v0) (c1 : w.cell? ⟨b, o + 1, none⟩ = some v1) (c2 : w.cell? ⟨b, o + 2, none⟩ = some v2) (c3 : w.cell? ⟨b, o + 3, none⟩ = some v3)
    (hv : FoV n w v0 v1 v2 v3 t) (h : FsAt n w b (o + 4) l) : FsAt n w b o (t :: l) := by
  obtain ⟨op, nm, args, sub⟩ := t
  obtain ⟨rfl, hbd, rfl, hok, ⟨a, cap, b', o', rfl, g1, g2, g3⟩, a2, cap2, b2, o2, rfl, k1, k2, k3⟩ := hv
  simp only [FsAt]
  exact ⟨⟨c0, hbd, c1, hok, ⟨a, cap, b', o', c2, g1, g2, g3⟩, a2, cap2, b2, o2, c3, k1, k2, k3⟩, h⟩
end Go.Proofs.YtnadjkofjgpabaaDoor.Fm
