/-
  The examples of the chapter hold: awake returns true.
-/
import Derived.Test.YtkcifgnlkdicgaaDoorSdBel
namespace Go.Proofs.YtkcifgnlkdicgaaDoor.Sd
open Go Go.RowKit
set_option linter.unusedVariables false
set_option linter.unusedSimpArgs false

theorem Ints.reads {base : Nat} {w : World} {v : Value} {xs : List Int} (h : Ints base w v xs) : RInts w v xs := by
  obtain ⟨a, cap, rfl, h⟩ := h
  exact ⟨a, cap, rfl, h.imp id fun ⟨g, h1, h2, h3⟩ => ⟨g, 0, h1, h3.lt, fun q hq => by rw [Nat.zero_add]; exact h3.cell q hq⟩⟩
theorem Row.reads {w : World} {g n cap : Nat} {xs : List Int} (h : Row w g xs) (hn : n = xs.length) : RInts w (.slice (some ⟨g, 0, none⟩) n cap) xs := by
  subst hn
  exact ⟨_, cap, rfl, .inr ⟨g, 0, rfl, h.lt, fun q hq => by rw [Nat.zero_add]; exact h.cell q hq⟩⟩
theorem rest_e1 (w : World) : Calls Tryd.prog 18 #[.int .u64 18446744073709551609, .int .i64 10] w fun e w' => e = .returned (.tuple #[.int .i64 9, .bool true]) ∧ w = w' := by
  have h := rest_c 18446744073709551609 10 w (by decide) (by decide) (by decide) (by decide)
  rw [show restV 18446744073709551609 10 = 9 by decide, show restOk 18446744073709551609 10 = true by decide] at h
  exact h
theorem rest_e2 (w : World) : Calls Tryd.prog 18 #[.int .u64 18446744073709551610, .int .i64 10] w fun e w' => e = .returned (.tuple #[.int .i64 0, .bool false]) ∧ w = w' := by
  have h := rest_c 18446744073709551610 10 w (by decide) (by decide) (by decide) (by decide)
  rw [show restV 18446744073709551610 10 = 0 by decide, show restOk 18446744073709551610 10 = false by decide] at h
  exact h
theorem perm_e (k : Int) (w : World) (hx0 : 0 ≤ k) (hx1 : k < 18446744073709551616) (hT : Tab w) :
    Calls Tryd.prog 27 #[.agg #[.int .u64 k], .int .i64 3, .int .i64 1] w fun e w' =>
      e = .returned (.tuple #[.slice (some ⟨w.heap.size + 2, 0, none⟩) 1 1, .int .i64 3, .int .i64 0]) ∧ Row w' (w.heap.size + 2) [0] ∧ Below w.heap.size w w' :=
  (perm_some_c k 3 3 1 [0] w hx0 hx1 hT (by decide) (by decide) (by decide) rfl).mono fun _ _ ⟨h1, h2, _, h3⟩ => ⟨h1, h2, h3⟩
theorem choose_e (k : Int) (w : World) (hx0 : 0 ≤ k) (hx1 : k < 18446744073709551616) (hT : Tab w) :
    Calls Tryd.prog 30 #[.agg #[.int .u64 k], .int .i64 0, .int .i64 4, .int .i64 4] w fun e w' =>
      ∃ v j, e = .returned (.tuple #[v, .int .i64 j, .int .i64 0]) ∧ Ints w.heap.size w' v [0, 1, 2, 3] ∧ Below w.heap.size w w' := by
  obtain ⟨fl, j, hc, _, _⟩ := choo_some k 4 0 0 flagsL (by decide) (by decide) (by decide)
  obtain ⟨_, ha⟩ := choo_all k 4 0 0 flagsL fl j (by decide) (by decide) (by rw [flagsL_len]; decide) (fun q hq => by omega) hc
  refine (choose_some_c k 0 j 4 4 fl w hx0 hx1 hT (by decide) (by decide) (by decide) (by decide) hc).mono fun e w' ⟨v, h1, h2, h3⟩ => ⟨v, j, h1, ?_, h3⟩
  rw [chosen_all fl 4 fun q hq => ha q (by omega)] at h2
  exact h2
theorem weigh_e (k : Int) (v : Value) (w : World) (hx0 : 0 ≤ k) (hx1 : k < 18446744073709551616) (hT : Tab w) (hv : RInts w v [0, 5, 0]) :
    Calls Tryd.prog 29 #[.agg #[.int .u64 k], .int .i64 0, v] w fun e w' =>
      ∃ j, e = .returned (.tuple #[.int .i64 1, .int .i64 j, .int .i64 0]) ∧ Below w.heap.size w w' := by
  obtain ⟨t, j, hb, h1, h2, _, _⟩ := below_within k 0 5 (by decide) (by decide) (by decide)
  refine (weigh_some_c k 0 t j [0, 5, 0] v w hx0 hx1 hT (by decide) (by decide) hv (by decide) hb).mono fun e w' ⟨h3, h4⟩ => ⟨j, ?_, h4⟩
  rw [h3, show pickF [0, 5, 0] t 0 = 1 by simp only [pickF]; rw [if_pos h1, if_neg (by omega)]; rfl]
theorem below_e (k : Int) (w : World) (hx0 : 0 ≤ k) (hx1 : k < 18446744073709551616) (hT : Tab w) :
    Calls Tryd.prog 26 #[.agg #[.int .u64 k], .int .i64 1099511627776, .int .i64 6] w fun e w' => e = .returned (.tuple #[.int .i64 0, .int .i64 0, .int .i64 4]) ∧ Below w.heap.size w w' :=
  below_none_c k 1099511627776 6 w hx0 hx1 hT (by decide) (by decide) (by decide) (by decide) (below_end _ _ _ (by decide))
theorem lit_reads (w : World) (xs : List Int) (T : TypeId) : RInts (w.alloc (.cells (xs.map (Value.int .i64)).toArray T)) (.slice (some ⟨w.heap.size, 0, none⟩) xs.length xs.length) xs := by
  refine ⟨_, _, rfl, .inr ⟨w.heap.size, 0, rfl, by simp, fun q hq => ?_⟩⟩
  rw [Nat.zero_add, World.cell?_alloc_at _ _ _ _ rfl]
  simp [List.getD_eq_getElem?_getD, hq]
set_option maxHeartbeats 2000000 in
theorem awake_c (w : World) (hT : Tab w) : Calls Tryd.prog 13 #[] w fun e w' => e = .returned (.bool true) ∧ Below w.heap.size w w' := by
  have hk0 := mix_lo 5
  have hk1 := mix_hi 5
  go_enter Tryd.func13, Tryd.ntmps13
  go_wp2_with fail
  refine (rest_e1 _).mono ?_
  rintro e w1 ⟨rfl, rfl⟩
  go_wp2_with fail
  refine (rest_e2 _).mono ?_
  rintro e w1 ⟨rfl, rfl⟩
  go_wp2_with fail
  refine (rest_no_c 7 0 _ (by decide)).mono ?_
  rintro e w1 ⟨rfl, rfl⟩
  go_wp2_with fail
  refine (new_c 5 _ (by decide) (by decide) hT).mono ?_
  rintro e w1 ⟨rfl, hb1⟩
  have hT1 := hT.below hb1 hT.pos
  have hB1 : Below w.heap.size w (w1.alloc (.cells #[.int .u64 (mixI 5)] 33)) := hb1.alloc hb1.size _
  have hT2 : Tab (w1.alloc (.cells #[.int .u64 (mixI 5)] 33)) := hT.below hB1 hT.pos
  have hz1 := hb1.size
  clear hb1 hT1
  generalize mixI 5 = k at *
  go_wp2_with fail
  refine (perm_e k _ hk0 hk1 hT2).mono ?_
  rintro e w3 ⟨rfl, hrow, hb3⟩
  have hz3 := hb3.size
  simp only [World.size_alloc] at hz3 hrow
  have hc3 : w3.cell? ⟨w1.heap.size, 0, none⟩ = some (.int .u64 k) := by rw [hb3.cell (p := ⟨w1.heap.size, 0, none⟩) (by simp)]; simp
  have hB3 := hB1.trans (hb3.mono (show w.heap.size ≤ _ by simp; omega))
  have hT3 := hT.below hB3 hT.pos
  have hL := hrow.reads (n := 1) (cap := 1) rfl
  clear hb3 hT2 hrow hB1
  go_wp2_with fail
  refine (choose_e k _ hk0 hk1 hT3).mono ?_
  rintro e w4 ⟨all, j4, rfl, hall, hb4⟩
  have hz4 := hb4.size
  have hc4 : w4.cell? ⟨w1.heap.size, 0, none⟩ = some (.int .u64 k) := by rw [hb4.cell (p := ⟨w1.heap.size, 0, none⟩) (show w1.heap.size < w3.heap.size by omega)]; exact hc3
  have hB4 := hB3.trans (hb4.mono (show w.heap.size ≤ _ by omega))
  have hT4 := hT.below hB4 hT.pos
  have hL4 := hL.below hb4 (Nat.le_refl _)
  have hA4 := hall.reads
  clear hb4 hT3 hL hall hc3 hB3
  go_wp2_with fail
  have hT5 : Tab (w4.alloc (.cells #[.int .i64 0, .int .i64 5, .int .i64 0] 3)) := hT4.below ((Below.refl _ _).alloc (Nat.le_refl _) _) hT4.pos
  have hb5 : Below w4.heap.size w4 (w4.alloc (.cells #[.int .i64 0, .int .i64 5, .int .i64 0] 3)) := (Below.refl _ _).alloc (Nat.le_refl _) _
  refine (weigh_e k _ _ hk0 hk1 hT5 (lit_reads w4 [0, 5, 0] 3)).mono ?_
  rintro e w5 ⟨j5, rfl, hb⟩
  have hb6 := hb5.trans (hb.mono (by simp))
  have hz5 := hb6.size
  have hc5 : w5.cell? ⟨w1.heap.size, 0, none⟩ = some (.int .u64 k) := by rw [hb6.cell (p := ⟨w1.heap.size, 0, none⟩) (show w1.heap.size < w4.heap.size by omega)]; exact hc4
  have hB5 := hB4.trans (hb6.mono (show w.heap.size ≤ _ by omega))
  have hT6 := hT.below hB5 hT.pos
  have hL5 := hL4.below hb6 (Nat.le_refl _)
  have hA5 := hA4.below hb6 (Nat.le_refl _)
  clear hb5 hb6 hb hT5 hT4 hL4 hA4 hc4 hB4
  go_wp2_with fail
  refine (word_no_c k 1099511627776 _ (by decide)).mono ?_
  rintro e w6 ⟨rfl, hb⟩
  have hz6 := hb.size
  have hc6 : w6.cell? ⟨w1.heap.size, 0, none⟩ = some (.int .u64 k) := by rw [hb.cell (p := ⟨w1.heap.size, 0, none⟩) (show w1.heap.size < w5.heap.size by omega)]; exact hc5
  have hB6 := hB5.trans (hb.mono (show w.heap.size ≤ _ by omega))
  have hT7 := hT.below hB6 hT.pos
  have hL6 := hL5.below hb (Nat.le_refl _)
  have hA6 := hA5.below hb (Nat.le_refl _)
  clear hb hT6 hL5 hA5 hc5 hB5
  go_wp2_with fail
  refine (below_e k _ hk0 hk1 hT7).mono ?_
  rintro e w7 ⟨rfl, hb⟩
  have hz7 := hb.size
  have hB7 := hB6.trans (hb.mono (show w.heap.size ≤ _ by omega))
  have hT8 := hT.below hB7 hT.pos
  have hL7 := hL6.below hb (Nat.le_refl _)
  have hA7 := hA6.below hb (Nat.le_refl _)
  clear hb hT7 hL6 hA6 hc6 hB6
  go_wp2_with fail
  refine (mix_c 5 _ (by decide) (by decide) hT8).mono ?_
  rintro e w8 ⟨rfl, hb⟩
  have hB8 := hB7.trans (hb.mono (show w.heap.size ≤ _ by omega))
  have hT9 := hT.below hB8 hT.pos
  have hz8 := hb.size
  have hL8 := hL7.below hb (Nat.le_refl _)
  have hA8 := hA7.below hb (Nat.le_refl _)
  clear hb hT8 hL7 hA7 hB7
  go_wp2_with fail
  refine (unmix_c _ _ (mix_lo 5) (mix_hi 5) hT9).mono ?_
  rw [unmix_mix 5 (by decide) (by decide)]
  rintro e w9 ⟨rfl, hb⟩
  have hB9 := hB8.trans (hb.mono (show w.heap.size ≤ _ by omega))
  have hz9 := hb.size
  have hL9 := hL8.below hb (Nat.le_refl _)
  have hA9 := hA8.below hb (Nat.le_refl _)
  clear hb hT9 hL8 hA8 hB8
  go_wp2_with fail
  have hb10 : Below w9.heap.size w9 (w9.alloc (.cells #[.int .i64 0] 3)) := (Below.refl _ _).alloc (Nat.le_refl _) _
  have hL10 := hL9.below hb10 (Nat.le_refl _)
  have hA10 := hA9.below hb10 (Nat.le_refl _)
  refine (same_ints_c [0] [0] _ _ _ hL10 (lit_reads w9 [0] 3) (by decide) (by decide)).mono ?_
  rw [show decide (([0] : List Int) = [0]) = true by decide]
  rintro e w11 ⟨rfl, hb⟩
  have hb11 := hb10.trans (hb.mono (by simp))
  have hz11 := hb11.size
  have hB11 := hB9.trans (hb11.mono (show w.heap.size ≤ _ by omega))
  have hA11 := hA9.below hb11 (Nat.le_refl _)
  clear hb hb10 hb11 hL10 hA10 hL9 hA9 hB9
  go_wp2_with fail
  have hb12 : Below w11.heap.size w11 (w11.alloc (.cells #[.int .i64 0, .int .i64 1, .int .i64 2, .int .i64 3] 3)) := (Below.refl _ _).alloc (Nat.le_refl _) _
  have hA12 := hA11.below hb12 (Nat.le_refl _)
  refine (same_ints_c [0, 1, 2, 3] [0, 1, 2, 3] _ _ _ hA12 (lit_reads w11 [0, 1, 2, 3] 3) (by decide) (by decide)).mono ?_
  rw [show decide (([0, 1, 2, 3] : List Int) = [0, 1, 2, 3]) = true by decide]
  rintro e w13 ⟨rfl, hb⟩
  have hb13 := hb12.trans (hb.mono (by simp))
  have hB13 := hB11.trans (hb13.mono (show w.heap.size ≤ _ by omega))
  clear hb hb12 hb13 hA12 hA11 hB11
  go_wp2_with fail
  go_ret
  exact ⟨rfl, hB13⟩
end Go.Proofs.YtkcifgnlkdicgaaDoor.Sd
