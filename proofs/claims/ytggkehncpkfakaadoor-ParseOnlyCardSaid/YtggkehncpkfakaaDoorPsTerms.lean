/-
  The contracts of term, args and list.
-/
import Derived.Test.YtggkehncpkfakaaDoorPsArgs
namespace Go.Proofs.YtggkehncpkfakaaDoor.Ps
open Go Go.RowKit Go.Shelf Go.Proofs.YtggkehncpkfakaaDoor.Fm Go.Proofs.YtggkehncpkfakaaDoor.Lx
set_option linter.unusedVariables false
set_option linter.unusedSimpArgs false
theorem terms_all (P : Nat) (m : Bool) : ∀ N (ts : List Tg), ts.length ≤ N → ∀ n, TermQ P m n ts ∧ ArgsQ P m n ts ∧ ListQ P m n ts := by
  intro N
  induction N using Nat.strongRecOn with
  | _ N ih =>
  intro ts hN n
  have ht : ∀ (r : List Tg), r.length ≤ ts.length → ∀ n, TermQ P m n r := fun r hr n => term_of P m n r fun hf => by
    have hd := drop_tx (fnB_ne hf)
    exact (ih (r.drop 1).length (by omega) _ (Nat.le_refl _) n).2.1
  refine ⟨ht ts (Nat.le_refl _) n, args_of P m n ts fun hi => ?_, list_of P m n ts fun r hr => ht r hr n⟩
  have hd := drop_len hi (by decide)
  exact (ih (ts.drop 1).length (by omega) _ (Nat.le_refl _) (n + 1)).2.2
theorem term_c (P : Nat) (m : Bool) (n : Nat) (ts : List Tg) : TermQ P m n ts := (terms_all P m _ ts (Nat.le_refl _) n).1
theorem args_c (P : Nat) (m : Bool) (n : Nat) (ts : List Tg) : ArgsQ P m n ts := (terms_all P m _ ts (Nat.le_refl _) n).2.1
end Go.Proofs.YtggkehncpkfakaaDoor.Ps
