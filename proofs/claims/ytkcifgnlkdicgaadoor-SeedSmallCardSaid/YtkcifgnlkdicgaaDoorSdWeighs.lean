/-
  SeedWeighs: for any list, Weigh returns what the document specifies, and leaves it unchanged.
-/
import Derived.Test.YtkcifgnlkdicgaaDoorSdR3
import Derived.Test.YtkcifgnlkdicgaaDoorSdAw
import Derived.Test.YtkcifgnlkdicgaaDoorSdLent
namespace Go.Proofs.YtkcifgnlkdicgaaDoor.Sd
open Go Go.RowKit
set_option linter.unusedVariables false
set_option linter.unusedSimpArgs false
theorem weigh_pair (k i : Int) (xs : List Int) (hx0 : 0 ≤ k) (hx1 : k < 18446744073709551616) (hl : xs.length ≤ 9223372036854775807) : ∃ a p f : Int,
    (∀ w v, Tab w → RInts w v xs → Calls Tryd.prog 29 #[.agg #[.int .u64 k], .int .i64 i, v] w fun e w' => e = .returned (.tuple #[.int .i64 a, .int .i64 p, .int .i64 f]) ∧ Below w.heap.size w w') ∧
    (∀ w v, RInts w v xs → Calls Tryd.prog 41 #[.int .u64 k, .int .i64 i, v] w fun e w' => e = .returned (.tuple #[.int .i64 a, .int .i64 p, .int .i64 f]) ∧ w = w') := by
  by_cases h : i < 0 ∨ 1099511627776 < i ∨ totOk xs = false
  · exact ⟨0, 0, 2, fun w v _ hv => weigh_err_c k i xs v w hv hl h, fun w v hv => rweigh_err_c k i xs v w hv hl h⟩
  · have hok : totOk xs = true := by
      cases hc : totOk xs
      · exact absurd (.inr (.inr hc)) h
      · rfl
    cases hb : below k i (totV xs) with
    | none => exact ⟨0, 0, 4, fun w v hT hv => weigh_none_c k i xs v w hx0 hx1 hT (by omega) (by omega) hv hok hb, fun w v hv => rweigh_c k i none xs v w hx0 hx1 (by omega) (by omega) hv hok hb⟩
    | some r =>
      obtain ⟨t, j⟩ := r
      exact ⟨pickF xs t 0, j, 0, fun w v hT hv => weigh_some_c k i t j xs v w hx0 hx1 hT (by omega) (by omega) hv hok hb, fun w v hv => rweigh_c k i (some (t, j)) xs v w hx0 hx1 (by omega) (by omega) hv hok hb⟩
set_option maxHeartbeats 1000000 in
theorem weighs_c (k i : Int) (xs : List Int) (v : Value) (w : World) (hT : Tab w) (hv : In w v xs) (hx0 : 0 ≤ k) (hx1 : k < 18446744073709551616) (hl : xs.length ≤ 17592186043904) :
    Calls Tryd.prog 15 #[.int .u64 k, .int .i64 i, v] w fun e w' => e = .returned (.bool true) ∧ Below w.heap.size w w' := by
  obtain ⟨a, p, f, hA, hB⟩ := weigh_pair k i xs hx0 hx1 (by omega)
  have HA := Lib.hid hA
  have HB := Lib.hid hB
  clear hA hB
  go_enter Tryd.func15, Tryd.ntmps15
  go_wp2_with fail
  refine (lent_c xs v _ hv hl).mono ?_
  rintro e w1 ⟨g, cap, rfl, hg, hcap, hcap2, hrow, hb⟩
  have hv1 := hv.below hb (Nat.le_refl _)
  have hT1 := hT.below hb hT.pos
  have hrd : RInts w1 (.slice (some ⟨g, 0, none⟩) xs.length cap) xs := ⟨_, cap, rfl, .inr ⟨g, 0, rfl, hrow.lt, fun q hq => by rw [Nat.zero_add]; exact row_left hrow q hq⟩⟩
  go_wp2_with fail
  refine (HA.out _ _ hT1 hrd).mono ?_
  rintro e w2 ⟨rfl, hb2⟩
  have hv2 := hv1.below hb2 (Nat.le_refl _)
  have hrow2 := hrow.below hb2 hrow.lt
  have hB2 := hb.trans (hb2.mono hb.size)
  clear hb hb2 hv1 hT1 hrd hrow
  go_wp2_with fail
  refine (HB.out _ _ hv2.reads).mono ?_
  rintro e w3 ⟨rfl, rfl⟩
  go_wp2_with fail
  refine (kept_c xs _ g cap _ hrow2 hcap hcap2 hv2.reads hl).mono ?_
  rintro e w4 ⟨rfl, hb4⟩
  have hB4 := hB2.trans (hb4.mono hB2.size)
  clear hB2 hb4 hv2 hrow2
  go_wp2_with fail
  go_ret
  exact ⟨by simp, hB4⟩
set_option maxHeartbeats 1000000 in
theorem seed_weighs_c (k i : Int) (xs : List Int) (v : Value) (w : World) (hT : Tab w) (hv : In w v xs) (hx0 : 0 ≤ k) (hx1 : k < 18446744073709551616) (hl : xs.length ≤ 17592186043904) :
    Calls Tryd.prog 5 #[.int .u64 k, .int .i64 i, v] w fun e w' => e = .returned (.bool true) ∧ Below w.heap.size w w' := by
  have hvs : ∃ a cap, v = .slice a xs.length cap := by
    obtain ⟨a, cap, h, _⟩ := hv.reads
    exact ⟨a, cap, h⟩
  obtain ⟨a, cap, rfl⟩ := hvs
  have h3 : (100 < xs.length ∧ xs.length ≤ 1000) ∨ xs.length ≤ 100 ∨ (100 < xs.length ∧ 1000 < xs.length) := by omega
  rcases h3 with ⟨h1, h2⟩ | h1 | ⟨h1, h2⟩
  · go_enter Tryd.func5, Tryd.ntmps5
    go_wp2_with fail
    refine (awake_c _ hT).mono ?_
    rintro e w2 ⟨rfl, hb2⟩
    go_wp2_with fail
    go_ret
    exact ⟨by simp, hb2⟩
  all_goals
    have HW := Lib.hid (weighs_c k i xs _ _ hT hv hx0 hx1 hl)
    clear hv
    go_enter Tryd.func5, Tryd.ntmps5
    go_wp2_with fail
    refine HW.out.mono ?_
    rintro e w1 ⟨rfl, hb⟩
    have hT1 := hT.below hb hT.pos
    go_wp2_with fail
    refine (awake_c _ hT1).mono ?_
    rintro e w2 ⟨rfl, hb2⟩
    have hb3 := hb.trans (hb2.mono hb.size)
    clear hb hb2 hT1
    go_wp2_with fail
    go_ret
    exact ⟨by simp, hb3⟩
end Go.Proofs.YtkcifgnlkdicgaaDoor.Sd
