/-
  What the rows' list gives: the cells of the table of steps. And what each law's contract wants of a reading.
-/
import Derived.Test.YtkcifgnlkdicgaaDoorCards
import Derived.Test.YtkcifgnlkdicgaaDoorTie
import Derived.Test.YtkcifgnlkdicgaaDoorSdW1
import Derived.ProofKit
import Derived.OpenShut
import Derived.Deep.DeepHandedRow
import Derived.Lib.LaidTab
namespace Go.Proofs.YtkcifgnlkdicgaaDoor.Sd
open Go Go.RowKit Go.ChangeShapes Go.WideShapes Go.ChangeAt
set_option linter.unusedVariables false
set_option linter.unusedSimpArgs false
theorem own : ownKnob Tryd.prog.godebug = none := by kernel_rfl
theorem gTab : Tryd.prog.globalNamed "lyceum/seed.steps" = some 0 := by kernel_rfl
theorem gTabType : (Tryd.prog.globals[0]?).map (·.type) = some 69 := by kernel_rfl
theorem cellsArr : Tryd.prog.cellsOf 69 = 9 := by kernel_rfl
theorem cellsStep : Tryd.prog.cellsOf 68 = 3 := by kernel_rfl
theorem cellsInt : Tryd.prog.cellsOf 3 = 1 := by kernel_rfl
theorem cellsWord : Tryd.prog.cellsOf 22 = 1 := by kernel_rfl
theorem step_cells {H : Type} {enc : TypeId × Value → H} {w : World} {base : Nat} {sp : Nat → Bool} {held : Bool} {fuel : Nat} {cs : List Value} {a b c : Int} {p : List MemPlace}
    (h : DataW.trod enc Tryd.prog w base sp held fuel 68 cs = some (.agg [.lit (.int .i64 a), .lit (.int .u64 b), .lit (.int .u64 c)], p)) : cs = [.int .i64 a, .int .u64 b, .int .u64 c] := by
  obtain ⟨xs, n, _, hx, hl, hlen, hf⟩ := DataW.trod_struct Tryd.underlying68 h
  rw [cellsStep] at hl
  have e1 : (xs.map (·.1)) = [.lit (.int .i64 a), .lit (.int .u64 b), .lit (.int .u64 c)] := (DataW.agg.inj (Prod.mk.inj hx).1).symm
  match xs, e1 with
  | [x0, x1, x2], e1 =>
    simp only [List.map_cons, List.map_nil, List.cons.injEq, and_true] at e1
    obtain ⟨k0, k1, k2⟩ := e1
    have f0 : DataW.trod enc Tryd.prog w base sp held n 3 ((cs.drop 0).take (Tryd.prog.cellsOf 3)) = some x0 := hf 0 _ rfl
    have f1 : DataW.trod enc Tryd.prog w base sp held n 22 ((cs.drop 1).take (Tryd.prog.cellsOf 22)) = some x1 := hf 1 _ rfl
    have f2 : DataW.trod enc Tryd.prog w base sp held n 22 ((cs.drop 2).take (Tryd.prog.cellsOf 22)) = some x2 := hf 2 _ rfl
    rw [cellsInt] at f0
    rw [cellsWord] at f1 f2
    obtain ⟨z0, h0, d0, _⟩ := DataW.trod_int Tryd.underlying3 f0
    obtain ⟨z1, h1, d1, _⟩ := DataW.trod_int Tryd.underlying22 f1
    obtain ⟨z2, h2, d2, _⟩ := DataW.trod_int Tryd.underlying22 f2
    subst d0 d1 d2
    simp only [DataW.lit.injEq, Lit.int.injEq, true_and] at k0 k1 k2
    subst k0 k1 k2
    match cs, hl with
    | [c0, c1, c2], _ =>
      simp only [List.drop_zero, List.take_succ_cons, List.take_zero, List.drop_succ_cons, List.cons.injEq, and_true] at h0 h1 h2
      rw [h0, h1, h2]
theorem tab_of_laid {W : World} (h : laidMetH Tryd.prog [("lyceum/seed.steps", Rows.laid_lyceum_seed_steps)] W) : Tab W := by
  rw [MakeChecks.laidMetH_plain _ _ _ (by kernel_rfl)] at h
  obtain ⟨ps, ⟨g, t, cs, fuel, p, q, hg, ht, hv, hd, _, _⟩, _, _⟩ := h
  obtain rfl := Option.some.inj (gTab.symm.trans hg)
  obtain rfl := Option.some.inj (gTabType.symm.trans ht)
  obtain ⟨xs, m, _, ex, hl, hlen, hel⟩ := DataW.trod_array Tryd.underlying69 hd
  rw [cellsArr] at hl
  have e3 : (xs.map (·.1)) = _ := (DataW.agg.inj (Prod.mk.inj ex).1).symm
  match xs, e3 with
  | [x0, x1, x2], e3 =>
    simp only [List.map_cons, List.map_nil, List.cons.injEq, and_true] at e3
    obtain ⟨k0, k1, k2⟩ := e3
    obtain ⟨y0, p0⟩ := x0
    obtain ⟨y1, p1⟩ := x1
    obtain ⟨y2, p2⟩ := x2
    subst k0 k1 k2
    have h0 := step_cells (hel 0 (by decide))
    have h1 := step_cells (hel 1 (by decide))
    have h2 := step_cells (hel 2 (by decide))
    rw [cellsStep] at h0 h1 h2
    obtain ⟨cl⟩ := cs
    simp only [List.size_toArray] at *
    match cl, hl with
    | [a0, a1, a2, a3, a4, a5, a6, a7, a8], _ =>
      simp only [Nat.zero_mul, Nat.one_mul, List.drop_zero, List.take_succ_cons, List.take_zero, List.drop_succ_cons, List.cons.injEq, and_true, Nat.reduceMul] at h0 h1 h2
      obtain ⟨rfl, rfl, rfl⟩ := h0
      obtain ⟨rfl, rfl, rfl⟩ := h1
      obtain ⟨rfl, rfl, rfl⟩ := h2
      have hc := fun i => World.var?_cell hg hv i
      refine ⟨?_, by rw [hc]; rfl, by rw [hc]; rfl, by rw [hc]; rfl, by rw [hc]; rfl, by rw [hc]; rfl, by rw [hc]; rfl, by rw [hc]; rfl, by rw [hc]; rfl, by rw [hc]; rfl⟩
      have h00 := hc 0
      rcases Nat.eq_zero_or_pos W.heap.size with hz | hz
      · exfalso
        simp only [World.cell?] at h00
        rw [Array.getElem?_eq_none (by omega)] at h00
        cases h00
      · exact hz
end Go.Proofs.YtkcifgnlkdicgaaDoor.Sd
