/-
  SeedFair: for every number n the words have the rests 0, 1, .. n - 1, again and again; fewer than n words, the last ones, are not accepted.
-/
import Derived.Test.YtkcifgnlkdicgaaDoorSdAw
namespace Go.Proofs.YtkcifgnlkdicgaaDoor.Sd
open Go Go.RowKit
set_option linter.unusedVariables false
set_option linter.unusedSimpArgs false

theorem rv_no {x n : Int} (h : restOk x n = false) : restV x n = 0 := by unfold restV; rw [h]; rfl
theorem rv_yes {x n : Int} (h : restOk x n = true) : restV x n = x % n := by unfold restV; rw [if_pos h]
theorem ok_iff {x n : Int} (hn : 1 ≤ n) : restOk x n = true ↔ x < 18446744073709551616 - 18446744073709551616 % n := by
  unfold restOk; rw [decide_eq_true_iff]; omega
theorem no_iff {x n : Int} (hn : 1 ≤ n) : restOk x n = false ↔ 18446744073709551616 - 18446744073709551616 % n ≤ x := by
  unfold restOk; rw [decide_eq_false_iff_not]; omega
theorem ok_zero {n : Int} (hn : 1 ≤ n) (hn2 : n ≤ 9223372036854775807) : restOk 0 n = true := by
  have := over_lt n hn
  rw [ok_iff hn]; omega
theorem fair_no {x n : Int} (hn : 1 ≤ n) (hx : x < 18446744073709551616) (h : restOk x n = false) : 18446744073709551615 - x < n - 1 := by
  have := over_lt n hn
  rw [no_iff hn] at h; omega
theorem fair_no_next {x n : Int} (hn : 1 ≤ n) (h : restOk x n = false) : restOk (x + 1) n = false := by
  rw [no_iff hn] at h ⊢; omega
theorem fair_cut {x n : Int} (hn : 1 ≤ n) (hx : x = 18446744073709551616 - 18446744073709551616 % n - 1) : x % n = n - 1 := by
  have h1 := Int.mul_ediv_add_emod 18446744073709551616 n
  rw [show x = -1 + n * (18446744073709551616 / n) by omega, Int.add_mul_emod_self_left]
  by_cases h : n = 1
  · subst h; rfl
  · rw [show (-1 : Int) = (n - 1) + n * (-1) by omega, Int.add_mul_emod_self_left]; exact Int.emod_eq_of_lt (by omega) (by omega)
theorem fair_top {n : Int} (hn : 1 ≤ n) (h : restOk 18446744073709551615 n = true) : restV 18446744073709551615 n = n - 1 := by
  rw [rv_yes h]
  have := over_lt n hn
  rw [ok_iff hn] at h
  exact fair_cut hn (by omega)
theorem fair_last {x n : Int} (hn : 1 ≤ n) (h : restOk x n = true) (h2 : restOk (x + 1) n = false) : restV x n = n - 1 := by
  rw [rv_yes h]
  rw [ok_iff hn] at h
  rw [no_iff hn] at h2
  exact fair_cut hn (by omega)
theorem fair_step {x n : Int} (hn : 1 ≤ n) (h : restOk x n = true) (h2 : restOk (x + 1) n = true) : (restV x n = n - 1 ∧ restV (x + 1) n = 0) ∨ (restV x n < n - 1 ∧ restV (x + 1) n = restV x n + 1) := by
  rw [rv_yes h, rv_yes h2]
  have a1 := Int.emod_nonneg x (show n ≠ 0 by omega)
  have a2 := Int.emod_lt_of_pos x (show 0 < n by omega)
  rw [Int.add_emod]
  by_cases hx : x % n = n - 1
  · left
    refine ⟨hx, ?_⟩
    rw [hx]
    by_cases h1 : n = 1
    · subst h1; rfl
    · rw [show (1 : Int) % n = 1 from Int.emod_eq_of_lt (by omega) (by omega), show n - 1 + 1 = n by omega, Int.emod_self]
  · right
    refine ⟨by omega, ?_⟩
    rw [show (1 : Int) % n = 1 from Int.emod_eq_of_lt (by omega) (by omega), Int.emod_eq_of_lt (by omega) (by omega)]
theorem not_word (x : Int) (h0 : 0 ≤ x) (h1 : x < 18446744073709551616) : bits BinOp.xor IntKind.u64 (if IntKind.u64.signed = true then -1 else IntKind.u64.max) x = 18446744073709551615 - x := by
  rw [if_neg (by decide), show IntKind.u64.max = 18446744073709551615 by decide, xor_eq]
  obtain ⟨m, rfl⟩ := Int.eq_ofNat_of_zero_le h0
  have hb : (bv 18446744073709551615) = BitVec.allOnes 64 := by decide
  rw [hb, BitVec.allOnes_xor, BitVec.toNat_not]
  have : (bv (m : Int)).toNat = m := ofInt_u64 m (by omega)
  rw [this]
  omega
set_option maxHeartbeats 1000000 in
theorem fair_c (x n : Int) (w : World) (hT : Tab w) (hx0 : 0 ≤ x) (hx1 : x < 18446744073709551616) (hn0 : -9223372036854775808 ≤ n) (hn1 : n ≤ 9223372036854775807) :
    Calls Tryd.prog 7 #[.int .u64 x, .int .i64 n] w fun e w' => e = .returned (.bool true) ∧ Below w.heap.size w w' := by
  by_cases hn : n < 1
  · go_enter Tryd.func7, Tryd.ntmps7
    go_wp2_with fail
    refine (awake_c _ hT).mono ?_
    rintro e w1 ⟨rfl, hb⟩
    go_wp2_with fail
    refine (rest_no_c x n _ hn).mono ?_
    rintro e w2 ⟨rfl, rfl⟩
    go_wp2
    go_ret
    exact ⟨rfl, hb⟩
  · have hn2 : 1 ≤ n := by omega
    clear hn
    have hv := rest_range (x := x) hn2
    cases hok : restOk x n
    · have hf := fair_no hn2 hx1 hok
      have hv0 := rv_no hok
      rw [← not_word x hx0 hx1] at hf
      have hm := fair_no_next hn2 hok
      by_cases hmax : x = 18446744073709551615
      · subst hmax
        go_enter Tryd.func7, Tryd.ntmps7
        go_wp2_with fail
        refine (awake_c _ hT).mono ?_
        rintro e w1 ⟨rfl, hb⟩
        go_wp2_with fail
        refine (rest_c _ n _ hx0 hx1 hn2 hn1).mono ?_
        rw [hok, hv0]
        rintro e w2 ⟨rfl, rfl⟩
        clear hok hv0 hv hm
        go_wp2_with fail
        refine (rest_c 0 n _ (by decide) (by decide) hn2 hn1).mono ?_
        rw [ok_zero hn2 hn1, rv_yes (ok_zero hn2 hn1), Int.zero_emod]
        rintro e w2 ⟨rfl, rfl⟩
        go_wp2_with fail
        go_ret
        exact ⟨rfl, hb⟩
      · have hx2 : x < 18446744073709551615 := by omega
        clear hmax
        go_enter Tryd.func7, Tryd.ntmps7
        go_wp2_with fail
        refine (awake_c _ hT).mono ?_
        rintro e w1 ⟨rfl, hb⟩
        go_wp2_with fail
        refine (rest_c _ n _ hx0 hx1 hn2 hn1).mono ?_
        rw [hok, hv0]
        rintro e w2 ⟨rfl, rfl⟩
        clear hok hv0 hv
        go_wp2_with fail
        refine (rest_c 0 n _ (by decide) (by decide) hn2 hn1).mono ?_
        rw [ok_zero hn2 hn1, rv_yes (ok_zero hn2 hn1), Int.zero_emod]
        rintro e w2 ⟨rfl, rfl⟩
        go_wp2_with fail
        refine (rest_c _ n _ (by omega) (by omega) hn2 hn1).mono ?_
        rw [hm, rv_no hm]
        rintro e w2 ⟨rfl, rfl⟩
        clear hm
        go_wp2_with fail
        go_ret
        exact ⟨rfl, hb⟩
    · obtain ⟨hv1, hv2⟩ := hv
      by_cases hmax : x = 18446744073709551615
      · subst hmax
        have ht := fair_top hn2 hok
        go_enter Tryd.func7, Tryd.ntmps7
        go_wp2_with fail
        refine (awake_c _ hT).mono ?_
        rintro e w1 ⟨rfl, hb⟩
        go_wp2_with fail
        refine (rest_c _ n _ hx0 hx1 hn2 hn1).mono ?_
        rw [hok, ht]
        rintro e w2 ⟨rfl, rfl⟩
        clear hok ht hv1 hv2
        go_wp2_with fail
        refine (rest_c 0 n _ (by decide) (by decide) hn2 hn1).mono ?_
        rw [ok_zero hn2 hn1, rv_yes (ok_zero hn2 hn1), Int.zero_emod]
        rintro e w2 ⟨rfl, rfl⟩
        go_wp2_with fail
        go_ret
        exact ⟨by simp, hb⟩
      · have hx2 : x < 18446744073709551615 := by omega
        clear hmax
        cases hok2 : restOk (x + 1) n
        · have ht := fair_last hn2 hok hok2
          have hr2 := rest_c (x + 1) n
          rw [hok2, rv_no hok2] at hr2
          have hR2 := Lib.hid hr2
          clear hr2
          go_enter Tryd.func7, Tryd.ntmps7
          go_wp2_with fail
          refine (awake_c _ hT).mono ?_
          rintro e w1 ⟨rfl, hb⟩
          go_wp2_with fail
          refine (rest_c _ n _ hx0 hx1 hn2 hn1).mono ?_
          rw [hok, ht]
          rintro e w2 ⟨rfl, rfl⟩
          clear hok hok2 ht hv1 hv2
          go_wp2_with fail
          refine (rest_c 0 n _ (by decide) (by decide) hn2 hn1).mono ?_
          rw [ok_zero hn2 hn1, rv_yes (ok_zero hn2 hn1), Int.zero_emod]
          rintro e w2 ⟨rfl, rfl⟩
          go_wp2_with fail
          refine (hR2.out _ (by omega) (by omega) hn2 hn1).mono ?_
          rintro e w2 ⟨rfl, rfl⟩
          go_wp2_with fail
          go_ret
          exact ⟨by simp, hb⟩
        · have ht := fair_step hn2 hok hok2
          have hr1 := rest_c x n
          have hr2 := rest_c (x + 1) n
          rw [hok] at hr1
          rw [hok2] at hr2
          clear hok hok2
          generalize restV x n = v at *
          generalize restV (x + 1) n = u at *
          have hR1 := Lib.hid hr1
          have hR2 := Lib.hid hr2
          clear hr1 hr2
          rcases ht with ⟨ht1, ht2⟩ | ⟨ht1, ht2⟩
          · subst ht1 ht2
            go_enter Tryd.func7, Tryd.ntmps7
            go_wp2_with fail
            refine (awake_c _ hT).mono ?_
            rintro e w1 ⟨rfl, hb⟩
            go_wp2_with fail
            refine (hR1.out _ hx0 hx1 hn2 hn1).mono ?_
            rintro e w2 ⟨rfl, rfl⟩
            go_wp2_with fail
            refine (rest_c 0 n _ (by decide) (by decide) hn2 hn1).mono ?_
            rw [ok_zero hn2 hn1, rv_yes (ok_zero hn2 hn1), Int.zero_emod]
            rintro e w2 ⟨rfl, rfl⟩
            go_wp2_with fail
            refine (hR2.out _ (by omega) (by omega) hn2 hn1).mono ?_
            rintro e w2 ⟨rfl, rfl⟩
            go_wp2_with fail
            go_ret
            exact ⟨by simp, hb⟩
          · subst ht2
            go_enter Tryd.func7, Tryd.ntmps7
            go_wp2_with fail
            refine (awake_c _ hT).mono ?_
            rintro e w1 ⟨rfl, hb⟩
            go_wp2_with fail
            refine (hR1.out _ hx0 hx1 hn2 hn1).mono ?_
            rintro e w2 ⟨rfl, rfl⟩
            go_wp2_with fail
            refine (rest_c 0 n _ (by decide) (by decide) hn2 hn1).mono ?_
            rw [ok_zero hn2 hn1, rv_yes (ok_zero hn2 hn1), Int.zero_emod]
            rintro e w2 ⟨rfl, rfl⟩
            go_wp2_with fail
            refine (hR2.out _ (by omega) (by omega) hn2 hn1).mono ?_
            rintro e w2 ⟨rfl, rfl⟩
            go_wp2_with fail
            go_ret
            exact ⟨by simp, hb⟩
end Go.Proofs.YtkcifgnlkdicgaaDoor.Sd
