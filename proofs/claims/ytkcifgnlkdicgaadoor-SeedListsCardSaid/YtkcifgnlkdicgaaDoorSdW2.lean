/-
  The contracts of the streams: New, At, Word, drawable.
-/
import Derived.Test.YtkcifgnlkdicgaaDoorSdW1
namespace Go.Proofs.YtkcifgnlkdicgaaDoor.Sd
open Go Go.RowKit
set_option linter.unusedVariables false
set_option linter.unusedSimpArgs false
/-- The word with an index, as the walk spells it. -/
def wordI (k n : Int) : Int := mixI (IntKind.u64.wrap (k + IntKind.u64.wrap ((n + 1) * 11400714819323198485)))
theorem word_lo (k n : Int) : 0 ≤ wordI k n := mix_lo _
theorem word_hi (k n : Int) : wordI k n < 18446744073709551616 := mix_hi _
theorem bcell {W w1 : World} (hb : Below W.heap.size W w1) : (∀ b o, b < W.heap.size → w1.cell? ⟨b, o, none⟩ = W.cell? ⟨b, o, none⟩) ∧ (∀ b o, b < W.heap.size → w1.frozen? ⟨b, o, none⟩ = W.frozen? ⟨b, o, none⟩) :=
  ⟨fun b o h => hb.cell (p := ⟨b, o, none⟩) h, fun b o h => hb.frozen (p := ⟨b, o, none⟩) h⟩
set_option maxHeartbeats 400000 in
theorem new_c (x : Int) (w : World) (hx0 : 0 ≤ x) (hx1 : x < 18446744073709551616) (hT : Tab w) :
    Calls Tryd.prog 21 #[.int .u64 x] w fun e w' => e = .returned (.agg #[.int .u64 (mixI x)]) ∧ Below w.heap.size w w' := by
  go_enter Tryd.func21, Tryd.ntmps21
  go_wp2_with fail
  refine (mix_c x _ hx0 hx1 (hT.below ((Below.refl _ _).alloc (Nat.le_refl _) _) hT.pos)).mono ?_
  rintro e w1 ⟨rfl, hb⟩
  have hz : w.heap.size < w1.heap.size := by have := hb.size; simp at this; omega
  obtain ⟨hc, hf⟩ := bcell hb
  go_wp2
  exact bodyPost_ret (v := .agg #[.int .u64 (mixI x)]) (by simp [results, Tryd.results21, go_sem, hc, hz]) rfl ⟨rfl, ((((Below.refl _ _).alloc (Nat.le_refl _) _).trans (hb.mono (by simp))).setCell (by simp) _)⟩
set_option maxHeartbeats 400000 in
theorem at_c (k n : Int) (w : World) (hx0 : 0 ≤ k) (hx1 : k < 18446744073709551616) (hT : Tab w) :
    Calls Tryd.prog 22 #[.agg #[.int .u64 k], .int .i64 n] w fun e w' => e = .returned (.agg #[.int .u64 (mixI (bits .xor .u64 (mixI (IntKind.u64.wrap (k + 1))) (IntKind.u64.wrap n)))]) ∧ Below w.heap.size w w' := by
  go_enter Tryd.func22, Tryd.ntmps22
  go_wp2_with fail
  refine (mix_c _ _ (wrap_lo _) (wrap_hi _) (hT.below (by repeat' (first | with_reducible exact Below.refl _ _ | with_reducible assumption | with_reducible refine below_drewN ?_ _ | with_reducible refine Below.drew ?_ | with_reducible refine Below.alloc ?_ ?_ _ | with_reducible refine Below.setCell ?_ ?_ _ | omega | (simp; done) | (simp; omega))) hT.pos)).mono ?_
  rintro e w1 ⟨rfl, hb⟩
  have hz : w.heap.size + 1 < w1.heap.size := by have := hb.size; simp at this; omega
  obtain ⟨hc, hf⟩ := bcell hb
  go_wp2_with fail
  have hb' : Below w.heap.size w w1 := (show Below w.heap.size w ((w.alloc _).alloc _) by repeat' (first | with_reducible exact Below.refl _ _ | with_reducible assumption | with_reducible refine below_drewN ?_ _ | with_reducible refine Below.drew ?_ | with_reducible refine Below.alloc ?_ ?_ _ | with_reducible refine Below.setCell ?_ ?_ _ | omega | (simp; done) | (simp; omega))).trans (hb.mono (by simp; omega))
  refine (mix_c _ _ (xor_lo _ _) (xor_hi _ _) (hT.below hb' hT.pos)).mono ?_
  rintro e w2 ⟨rfl, hb2⟩
  have hz2 : w.heap.size + 1 < w2.heap.size := by have := hb2.size; omega
  obtain ⟨hc2, hf2⟩ := bcell hb2
  go_wp2
  exact bodyPost_ret (v := .agg #[.int .u64 (mixI (bits .xor .u64 (mixI (IntKind.u64.wrap (k + 1))) (IntKind.u64.wrap n)))]) (by simp [results, Tryd.results22, go_sem, hc, hz, hc2, hz2]) rfl ⟨rfl, (hb'.trans (hb2.mono (by omega))).setCell (by simp) _⟩
set_option maxHeartbeats 400000 in
theorem word_c (k n : Int) (w : World) (hx0 : 0 ≤ k) (hx1 : k < 18446744073709551616) (hT : Tab w) (h0 : 0 ≤ n) (h1 : n < 1099511627776) :
    Calls Tryd.prog 24 #[.agg #[.int .u64 k], .int .i64 n] w fun e w' => e = .returned (.tuple #[.int .u64 (wordI k n), .int .i64 0]) ∧ Below w.heap.size w w' := by
  go_enter Tryd.func24, Tryd.ntmps24
  go_wp2_with fail
  refine (mix_c _ _ (wrap_lo _) (wrap_hi _) (hT.below (by repeat' (first | with_reducible exact Below.refl _ _ | with_reducible assumption | with_reducible refine below_drewN ?_ _ | with_reducible refine Below.drew ?_ | with_reducible refine Below.alloc ?_ ?_ _ | with_reducible refine Below.setCell ?_ ?_ _ | omega | (simp; done) | (simp; omega))) hT.pos)).mono ?_
  rintro e w1 ⟨rfl, hb⟩
  go_wp2
  go_ret2
  exact ⟨rfl, ((Below.refl _ _).alloc (Nat.le_refl _) _).trans (hb.mono (by simp))⟩
set_option maxHeartbeats 400000 in
theorem word_no_c (k n : Int) (w : World) (h : n < 0 ∨ 1099511627776 ≤ n) :
    Calls Tryd.prog 24 #[.agg #[.int .u64 k], .int .i64 n] w fun e w' => e = .returned (.tuple #[.int .u64 0, .int .i64 2]) ∧ Below w.heap.size w w' := by
  rcases h with h | h
  · go_enter Tryd.func24, Tryd.ntmps24
    go_wp2
    go_ret2
    exact ⟨rfl, by repeat' (first | with_reducible exact Below.refl _ _ | with_reducible assumption | with_reducible refine below_drewN ?_ _ | with_reducible refine Below.drew ?_ | with_reducible refine Below.alloc ?_ ?_ _ | with_reducible refine Below.setCell ?_ ?_ _ | omega | (simp; done) | (simp; omega))⟩
  · have h' : ¬ n < 0 := by omega
    go_enter Tryd.func24, Tryd.ntmps24
    go_wp2
    go_ret2
    exact ⟨rfl, by repeat' (first | with_reducible exact Below.refl _ _ | with_reducible assumption | with_reducible refine below_drewN ?_ _ | with_reducible refine Below.drew ?_ | with_reducible refine Below.alloc ?_ ?_ _ | with_reducible refine Below.setCell ?_ ?_ _ | omega | (simp; done) | (simp; omega))⟩
theorem drawable_c (i : Int) (w : World) :
    Calls Tryd.prog 45 #[.int .i64 i] w fun e w' => e = .returned (.bool (decide (0 ≤ i) && decide (i ≤ 1099511627776))) ∧ w = w' := by
  by_cases h : 0 ≤ i
  · go_enter Tryd.func45, Tryd.ntmps45
    go_wp2
    go_ret
    exact ⟨by simp [h], rfl⟩
  · go_enter Tryd.func45, Tryd.ntmps45
    go_wp2
    go_ret
    exact ⟨by simp; omega, rfl⟩
end Go.Proofs.YtkcifgnlkdicgaaDoor.Sd
