/-
  The contract of Below.
-/
import Derived.Test.YtkcifgnlkdicgaaDoorSdW2
namespace Go.Proofs.YtkcifgnlkdicgaaDoor.Sd
open Go Go.RowKit
set_option linter.unusedVariables false
set_option linter.unusedSimpArgs false

/-- The first accepted word from i on, among f words: its rest, and the index behind it. -/
def belowF (k n : Int) : Nat → Int → Option (Int × Int)
  | 0, _ => none
  | f + 1, i => if restOk (wordI k i) n = true then some (restV (wordI k i) n, i + 1) else belowF k n f (i + 1)
def below (k i n : Int) : Option (Int × Int) := belowF k n (1099511627776 - i).toNat i
theorem below_end (k i n : Int) (h : 1099511627776 ≤ i) : below k i n = none := by
  unfold below; rw [show (1099511627776 - i).toNat = 0 by omega]; rfl
theorem below_hit (k i n : Int) (h : i < 1099511627776) (hr : restOk (wordI k i) n = true) : below k i n = some (restV (wordI k i) n, i + 1) := by
  unfold below; rw [show (1099511627776 - i).toNat = (1099511627776 - (i + 1)).toNat + 1 by omega]; unfold belowF; rw [if_pos hr]
theorem below_miss (k i n : Int) (h : i < 1099511627776) (hr : restOk (wordI k i) n = false) : below k i n = below k (i + 1) n := by
  unfold below; rw [show (1099511627776 - i).toNat = (1099511627776 - (i + 1)).toNat + 1 by omega]; rw [belowF, if_neg (by rw [hr]; decide)]
theorem rest_range {x n : Int} (hn : 1 ≤ n) : 0 ≤ restV x n ∧ restV x n < n := by
  unfold restV; split
  · exact ⟨Int.emod_nonneg _ (by omega), Int.emod_lt_of_pos _ (by omega)⟩
  · omega
theorem belowF_range {k n : Int} (hn : 1 ≤ n) : ∀ (f : Nat) (i v j : Int), belowF k n f i = some (v, j) → 0 ≤ v ∧ v < n ∧ i < j ∧ j ≤ i + f
  | 0, i, v, j, h => by simp [belowF] at h
  | f + 1, i, v, j, h => by
    unfold belowF at h
    split at h
    · simp only [Option.some.injEq, Prod.mk.injEq] at h
      obtain ⟨rfl, rfl⟩ := h
      have := rest_range (x := wordI k i) hn
      omega
    · have := belowF_range hn f (i + 1) v j h
      omega
theorem below_range {k i n v j : Int} (hn : 1 ≤ n) (hi : i ≤ 1099511627776) (h : below k i n = some (v, j)) : 0 ≤ v ∧ v < n ∧ i < j ∧ j ≤ 1099511627776 := by
  have := belowF_range hn _ _ _ _ h
  omega
def belR : Option (Int × Int) → Value
  | some (v, j) => .tuple #[.int .i64 v, .int .i64 j, .int .i64 0]
  | none => .tuple #[.int .i64 0, .int .i64 0, .int .i64 4]
def BelRel (k i n : Int) (w : World) (x : Value) (wr : World) : Prop :=
  ∃ j : Int, x = .int .i64 j ∧ i ≤ j ∧ j ≤ 1099511627776 ∧ below k j n = below k i n ∧ Below (w.heap.size + 1) (w.alloc (.cells #[.int .u64 k] 33)) wr
set_option maxHeartbeats 400000 in
theorem below_c (k i n : Int) (w : World) (hx0 : 0 ≤ k) (hx1 : k < 18446744073709551616) (hT : Tab w) (h0 : 0 ≤ i) (h1 : i ≤ 1099511627776) (hn : 1 ≤ n) (hn2 : n ≤ 9223372036854775807) :
    Calls Tryd.prog 26 #[.agg #[.int .u64 k], .int .i64 i, .int .i64 n] w fun e w' => e = .returned (belR (below k i n)) ∧ Below w.heap.size w w' := by
  have hd : (decide (0 ≤ i) && decide (i ≤ 1099511627776)) = true := by simp [h0, h1]
  go_enter Tryd.func26, Tryd.ntmps26
  go_wp2_with fail
  refine (drawable_c i _).mono ?_
  rw [hd]
  clear hd
  rintro e w1 ⟨rfl, rfl⟩
  go_wp2
  go_loopw [1] (fun x wr => BelRel k i n w x wr) (fun x _ => (1099511627776 - intOf x).toNat)
  case atStart => exact ⟨i, rfl, Int.le_refl _, h1, rfl, Below.refl _ _⟩
  case round =>
    obtain ⟨j, rfl, hj1, hj2, hj3, hb⟩ := hrel
    have hz : w.heap.size < wr.heap.size := by have := hb.size; simp at this; omega
    have hc : wr.cell? ⟨w.heap.size, 0, none⟩ = some (.int .u64 k) := by rw [hb.cell (p := ⟨w.heap.size, 0, none⟩) (by simp)]; simp
    have hT1 : Tab wr := (hT.below ((Below.refl _ _).alloc (Nat.le_refl _) _) hT.pos).below hb (by omega)
    have H3 : Hid (below k j n = below k i n) := hj3
    clear hj3
    by_cases hlt : j < 1099511627776
    · have hw0 := word_lo k j
      have hw1 := word_hi k j
      go_wp2_with fail
      refine (word_c k j _ hx0 hx1 hT1 (by omega) hlt).mono ?_
      rintro e w1 ⟨rfl, hb1⟩
      go_wp2_with fail
      refine (rest_c _ n _ hw0 hw1 hn hn2).mono ?_
      rintro e w2 ⟨rfl, rfl⟩
      have hb2 : Below (w.heap.size + 1) (w.alloc (.cells #[.int .u64 k] 33)) w1 := hb.trans (hb1.mono (by omega))
      cases hr : restOk (wordI k j) n
      · have HR := below_miss k j n hlt hr
        clear hr
        rw [H3.out] at HR
        have HR2 : Hid (below k i n = below k (j + 1) n) := HR
        clear HR
        go_wp2
        exact ⟨⟨j + 1, rfl, by omega, by omega, HR2.out.symm, hb2⟩, by simp [intOf]; omega⟩
      · have HR := below_hit k j n hlt hr
        clear hr
        rw [H3.out] at HR
        have HR2 : Hid (below k i n = some (restV (wordI k j) n, j + 1)) := HR
        clear HR
        go_wp2
        go_ret3
        exact ⟨by rw [HR2.out]; rfl, ((Below.refl _ _).alloc (Nat.le_refl _) _).trans (hb2.mono (by omega))⟩
    · have HR := below_end k j n (by omega)
      rw [H3.out] at HR
      have HR2 : Hid (below k i n = none) := HR
      clear HR
      go_wp2
      go_ret3
      exact ⟨by rw [HR2.out]; rfl, ((Below.refl _ _).alloc (Nat.le_refl _) _).trans (hb.mono (by omega))⟩
set_option maxHeartbeats 400000 in
theorem below_no_c (k i n : Int) (w : World) (h : i < 0 ∨ 1099511627776 < i ∨ n < 1) :
    Calls Tryd.prog 26 #[.agg #[.int .u64 k], .int .i64 i, .int .i64 n] w fun e w' => e = .returned (.tuple #[.int .i64 0, .int .i64 0, .int .i64 2]) ∧ Below w.heap.size w w' := by
  by_cases hd : (decide (0 ≤ i) && decide (i ≤ 1099511627776)) = true
  · have hn : n < 1 := by simp at hd; omega
    go_enter Tryd.func26, Tryd.ntmps26
    go_wp2_with fail
    refine (drawable_c i _).mono ?_
    rw [hd]
    clear hd
    rintro e w1 ⟨rfl, rfl⟩
    go_wp2
    go_ret3
    exact ⟨rfl, by repeat' (first | with_reducible exact Below.refl _ _ | with_reducible assumption | with_reducible refine below_drewN ?_ _ | with_reducible refine Below.drew ?_ | with_reducible refine Below.alloc ?_ ?_ _ | with_reducible refine Below.setCell ?_ ?_ _ | omega | (simp; done) | (simp; omega))⟩
  · have hd' : (decide (0 ≤ i) && decide (i ≤ 1099511627776)) = false := by simpa using hd
    clear hd
    go_enter Tryd.func26, Tryd.ntmps26
    go_wp2_with fail
    refine (drawable_c i _).mono ?_
    rw [hd']
    clear hd'
    rintro e w1 ⟨rfl, rfl⟩
    go_wp2
    go_ret3
    exact ⟨rfl, by repeat' (first | with_reducible exact Below.refl _ _ | with_reducible assumption | with_reducible refine below_drewN ?_ _ | with_reducible refine Below.drew ?_ | with_reducible refine Below.alloc ?_ ?_ _ | with_reducible refine Below.setCell ?_ ?_ _ | omega | (simp; done) | (simp; omega))⟩
end Go.Proofs.YtkcifgnlkdicgaaDoor.Sd
