/-
  Leaves.
-/
import Derived.Test.YtggkehncpkfakaaDoorPsTerm
import Derived.Test.YtggkehncpkfakaaDoorPsRow
namespace Go.Proofs.YtggkehncpkfakaaDoor.Ps
open Go Go.RowKit Go.Shelf Go.Proofs.YtggkehncpkfakaaDoor.Fm Go.Proofs.YtggkehncpkfakaaDoor.Lx
set_option linter.unusedVariables false
set_option linter.unusedSimpArgs false
theorem nil_fs (D : Nat → Prop) (w : World) : SlFD D w (.slice none 0 0) [] := ⟨none, 0, 0, 0, rfl, by simp, .inl rfl, by simp [FsD]⟩
theorem fval_leaf {lo : Nat} {w : World} (o : Int) (n : ByteArray) (ho : 0 ≤ o ∧ o ≤ 255) (hn : okStr n) : FVal lo w (.agg #[.int .u8 o, .string n, .slice none 0 0, .slice none 0 0]) (.mk o n [] []) :=
  ⟨none, 0, none, 0, rfl, ho, hn, nil_ts _ _, nil_fs _ _⟩
end Go.Proofs.YtggkehncpkfakaaDoor.Ps
