/-
  slices.Compact at symbols, where no two neighbours are equal: the row stays as it is.
-/
import Derived.Test.YtnadjkofjgpabaaDoorFmSym
namespace Go.Proofs.YtnadjkofjgpabaaDoor.Fm
open Go Go.RowKit Go.Shelf
set_option linter.unusedVariables false
set_option linter.unusedSimpArgs false
/-- Symbols as they lie in a row. -/
def RowS (w : World) (g o : Nat) (d : List Sy) : Prop := g < w.heap.size ∧ ∀ j (h : j < d.length), w.cell? ⟨g, o + j * 2, none⟩ = some (.string d[j].1) ∧ w.cell? ⟨g, o + j * 2 + 1, none⟩ = some (.int .i64 d[j].2)
theorem RowS.below {w w' : World} {g o : Nat} {d : List Sy} (h : RowS w g o d) (hb : Below w.heap.size w w') : RowS w' g o d :=
  ⟨Nat.lt_of_lt_of_le h.1 hb.size, fun j hj => ⟨by rw [hb.cell (p := ⟨g, _, none⟩) h.1]; exact (h.2 j hj).1, by rw [hb.cell (p := ⟨g, _, none⟩) h.1]; exact (h.2 j hj).2⟩⟩
/-- No two neighbours are equal. -/
def Apart (d : List Sy) : Prop := ∀ j (h : j + 1 < d.length), d[j + 1] ≠ d[j]
set_option maxHeartbeats 1000000 in
theorem compact_c (g o cap : Nat) (d : List Sy) (w : World) (hH : RowS w g o d) (hsz : d.length ≤ 4611686018427387903) (hA : Apart d) :
    Calls Tryd.prog 72 #[.slice (some ⟨g, o, none⟩) d.length cap] w fun e w' => e = .returned (.slice (some ⟨g, o, none⟩) d.length cap) ∧ Below w.heap.size w w' := by
  have HH := Lib.hid hH
  have HA := Lib.hid hA
  clear hH hA
  by_cases h2 : d.length < 2
  · go_enter Tryd.func72, Tryd.ntmps72
    go_wp2_with fail
    go_ret
    exact ⟨rfl, Below.refl _ _⟩
  · go_enter Tryd.func72, Tryd.ntmps72
    go_wp2_with fail
    go_loopw [3] (fun x wr => ∃ k : Nat, x = .int .i64 ((k : Int) + 1) ∧ k + 1 ≤ d.length ∧ Below w.heap.size w wr) (fun x _ => d.length - (intOf x).toNat)
    case atStart => exact ⟨0, rfl, by omega, Below.refl _ _⟩
    case round =>
      obtain ⟨k, rfl, hk, hb⟩ := hrel
      by_cases hlt : k + 1 < d.length
      · have hR := HH.out.below hb
        obtain ⟨c1, c2⟩ := hR.2 (k + 1) hlt
        obtain ⟨c3, c4⟩ := hR.2 k (by omega)
        have hne := HA.out k hlt
        have heq := fun W => eqSy d[k + 1] d[k] W
        rw [decide_eq_false hne] at heq
        generalize d[k + 1] = x at *
        generalize d[k] = y at *
        obtain ⟨x1, x2⟩ := x
        obtain ⟨y1, y2⟩ := y
        clear hne hR
        go_wp2_with fail
        go_quiet (fail)
        go_wp2_with fail
        exact ⟨⟨k + 1, by go_num, by omega, below_drewN hb _⟩, by simp [intOf]; omega⟩
      · have e : k + 1 = d.length := by omega
        go_wp2_with fail
        go_ret
        exact ⟨rfl, hb⟩
end Go.Proofs.YtnadjkofjgpabaaDoor.Fm
