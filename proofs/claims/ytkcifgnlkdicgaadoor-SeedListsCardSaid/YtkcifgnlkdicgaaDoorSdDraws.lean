/-
  SeedDraws: for all integers, Below, Perm and Choose return what the document specifies, as the reference has it.
-/
import Derived.Test.YtkcifgnlkdicgaaDoorSdR3
import Derived.Test.YtkcifgnlkdicgaaDoorSdAw
import Derived.Test.YtkcifgnlkdicgaaDoorSdSt
namespace Go.Proofs.YtkcifgnlkdicgaaDoor.Sd
open Go Go.RowKit
set_option linter.unusedVariables false
set_option linter.unusedSimpArgs false
theorem below_pair (k i n : Int) (hx0 : 0 ≤ k) (hx1 : k < 18446744073709551616) (hn2 : n ≤ 9223372036854775807) : ∃ a p f : Int,
    (∀ w, Tab w → Calls Tryd.prog 26 #[.agg #[.int .u64 k], .int .i64 i, .int .i64 n] w fun e w' => e = .returned (.tuple #[.int .i64 a, .int .i64 p, .int .i64 f]) ∧ Below w.heap.size w w') ∧
    (∀ w, Calls Tryd.prog 37 #[.int .u64 k, .int .i64 i, .int .i64 n] w fun e w' => e = .returned (.tuple #[.int .i64 a, .int .i64 p, .int .i64 f]) ∧ w = w') := by
  by_cases h : i < 0 ∨ 1099511627776 < i ∨ n < 1
  · exact ⟨0, 0, 2, fun w _ => below_no_c k i n w h, fun w => rbelow_no_c k i n w h⟩
  · cases hb : below k i n with
    | none => exact ⟨0, 0, 4, fun w hT => below_none_c k i n w hx0 hx1 hT (by omega) (by omega) (by omega) hn2 hb, fun w => rbelow_none_c k i n w hx0 hx1 (by omega) (by omega) (by omega) hn2 hb⟩
    | some r =>
      obtain ⟨v, j⟩ := r
      exact ⟨v, j, 0, fun w hT => below_some_c k i n v j w hx0 hx1 hT (by omega) (by omega) (by omega) hn2 hb, fun w => rbelow_some_c k i n v j w hx0 hx1 (by omega) (by omega) (by omega) hn2 hb⟩
theorem nil_reads (w : World) : RInts w (.slice none 0 0) [] := ⟨none, 0, rfl, .inl rfl⟩
/-- Two callees that draw a list: the same list, the same index, the same error. -/
def Lists (P : World → Prop) (f g : FuncId) (ar br : Array Value) (xs : List Int) (p e1 : Int) : Prop :=
  xs.length ≤ 1000 ∧ (∀ w, P w → Calls Tryd.prog f ar w fun e w' => ∃ v, e = .returned (.tuple #[v, .int .i64 p, .int .i64 e1]) ∧ RInts w' v xs ∧ Below w.heap.size w w') ∧
  (∀ w, Calls Tryd.prog g br w fun e w' => ∃ v, e = .returned (.tuple #[v, .int .i64 p, .int .i64 e1]) ∧ RInts w' v xs ∧ Below w.heap.size w w')
theorem perm_pair (k i n : Int) (hx0 : 0 ≤ k) (hx1 : k < 18446744073709551616) : ∃ xs p f,
    Lists Tab 27 38 #[.agg #[.int .u64 k], .int .i64 i, .int .i64 n] #[.int .u64 k, .int .i64 i, .int .i64 n] xs p f := by
  by_cases h : i < 0 ∨ 1099511627776 < i ∨ 1000 < n ∨ n < 0
  · exact ⟨[], 0, 2, by simp, fun w _ => (perm_err_c k i n w h).mono fun e w' ⟨h1, h2⟩ => ⟨_, h1, nil_reads _, h2⟩, fun w => (rperm_err_c k i n w h).mono fun e w' ⟨h1, h2⟩ => ⟨_, h1, nil_reads _, by rw [h2]; exact Below.refl _ _⟩⟩
  · obtain ⟨m, rfl⟩ := Int.eq_ofNat_of_zero_le (show 0 ≤ n by omega)
    cases hp : perm k i m with
    | none => exact ⟨[], 0, 4, by simp, fun w hT => (perm_none_c k i m w hx0 hx1 hT (by omega) (by omega) (by omega) hp).mono fun e w' ⟨h1, h2⟩ => ⟨_, h1, nil_reads _, h2⟩, fun w => (rperm_none_c k i m w hx0 hx1 (by omega) (by omega) (by omega) hp).mono fun e w' ⟨h1, h2⟩ => ⟨_, h1, nil_reads _, h2⟩⟩
    | some r =>
      obtain ⟨l, j⟩ := r
      have hlen : ∀ (p : Nat) (i : Int) (l l' : List Int) (j : Int), permF k p i l = some (l', j) → l'.length = l.length := by
        intro p
        induction p with
        | zero => intro i l l' j h; simp only [permF, Option.some.injEq, Prod.mk.injEq] at h; rw [h.1]
        | succ p ih =>
          intro i l l' j h
          rw [permF] at h
          split at h
          · cases h
          · rw [ih _ _ _ _ h]; simp [swp]
      have hl : l.length = m := by rw [hlen _ _ _ _ _ hp]; simp [iota]
      exact ⟨l, j, 0, by omega, fun w hT => (perm_some_c k i j m l w hx0 hx1 hT (by omega) (by omega) (by omega) hp).mono fun e w' ⟨h1, h2, h3, h4⟩ => ⟨_, h1, h2.reads h3.symm, h4⟩, fun w => (rperm_some_c k i j m l w hx0 hx1 (by omega) (by omega) (by omega) hp).mono fun e w' ⟨h1, h2, h3, h4⟩ => ⟨_, h1, h2.reads h3.symm, h4⟩⟩
theorem choose_pair (k i n c : Int) (hx0 : 0 ≤ k) (hx1 : k < 18446744073709551616) : ∃ xs p f,
    Lists Tab 30 39 #[.agg #[.int .u64 k], .int .i64 i, .int .i64 n, .int .i64 c] #[.int .u64 k, .int .i64 i, .int .i64 n, .int .i64 c] xs p f := by
  by_cases h : i < 0 ∨ 1099511627776 < i ∨ 1000 < n ∨ c < 0 ∨ n < c
  · exact ⟨[], 0, 2, by simp, fun w _ => (choose_err_c k i n c w h).mono fun e w' ⟨h1, h2⟩ => ⟨_, h1, nil_reads _, h2⟩, fun w => (rchoose_err_c k i n c w h).mono fun e w' ⟨h1, h2⟩ => ⟨_, h1, nil_reads _, by rw [h2]; exact Below.refl _ _⟩⟩
  · obtain ⟨m, rfl⟩ := Int.eq_ofNat_of_zero_le (show 0 ≤ n by omega)
    obtain ⟨d, rfl⟩ := Int.eq_ofNat_of_zero_le (show 0 ≤ c by omega)
    cases hp : chooF k d ((m : Int) - d) i flagsL with
    | none => exact ⟨[], 0, 4, by simp, fun w hT => (choose_none_c k i m d w hx0 hx1 hT (by omega) (by omega) (by omega) (by omega) hp).mono fun e w' ⟨h1, h2⟩ => ⟨_, h1, nil_reads _, h2⟩, fun w => (rchoose_none_c k i m d w hx0 hx1 (by omega) (by omega) (by omega) (by omega) hp).mono fun e w' ⟨h1, h2⟩ => ⟨_, h1, nil_reads _, h2⟩⟩
    | some r =>
      obtain ⟨fl, j⟩ := r
      have hl := chosen_len fl m
      exact ⟨chosenTo fl m, j, 0, by omega, fun w hT => (choose_some_c k i j m d fl w hx0 hx1 hT (by omega) (by omega) (by omega) (by omega) hp).mono fun e w' ⟨v, h1, h2, h3⟩ => ⟨v, h1, h2.reads, h3⟩, fun w => (rchoose_some_c k i j m d fl w hx0 hx1 (by omega) (by omega) (by omega) (by omega) hp).mono fun e w' ⟨v, h1, h2, h3⟩ => ⟨v, h1, h2.reads, h3⟩⟩
theorem same_c (xs : List Int) (v u : Value) (w : World) (hv : RInts w v xs) (hu : RInts w u xs) (hl : xs.length ≤ 1000) :
    Calls Tryd.prog 28 #[v, u] w fun e w' => e = .returned (.bool true) ∧ Below w.heap.size w w' := by
  have := same_ints_c xs xs v u w hv hu (by omega) (by omega)
  rw [show decide (xs = xs) = true by simp] at this
  exact this
set_option maxHeartbeats 1000000 in
theorem draws_c (k i n c : Int) (w : World) (hT : Tab w) (hx0 : 0 ≤ k) (hx1 : k < 18446744073709551616) (hn0 : -9223372036854775808 ≤ n) (hn2 : n ≤ 9223372036854775807) :
    Calls Tryd.prog 14 #[.int .u64 k, .int .i64 i, .int .i64 n, .int .i64 c] w fun e w' => e = .returned (.bool true) ∧ Below w.heap.size w w' := by
  obtain ⟨a, p, f, hA, hB⟩ := below_pair k i n hx0 hx1 hn2
  obtain ⟨xs, p2, f2, hl2, hC, hD⟩ := perm_pair k i n hx0 hx1
  obtain ⟨ys, p3, f3, hl3, hE, hF⟩ := choose_pair k i n c hx0 hx1
  have HA := Lib.hid hA
  have HB := Lib.hid hB
  have HC := Lib.hid hC
  have HD := Lib.hid hD
  have HE := Lib.hid hE
  have HF := Lib.hid hF
  clear hA hB hC hD hE hF
  by_cases hmid : 200 < n ∧ n ≤ 1000
  · obtain ⟨hm1, hm2⟩ := hmid
    go_enter Tryd.func14, Tryd.ntmps14
    go_wp2_with fail
    refine (HA.out _ (hT.below (show Below w.heap.size w _ by repeat' (first | with_reducible exact Below.refl _ _ | with_reducible assumption | with_reducible refine below_drewN ?_ _ | with_reducible refine Below.drew ?_ | with_reducible refine Below.alloc ?_ ?_ _ | with_reducible refine Below.setCell ?_ ?_ _ | omega | (simp; done) | (simp; omega))) hT.pos)).mono ?_
    rintro e w1 ⟨rfl, hb⟩
    have hb1 := (show Below w.heap.size w _ by repeat' (first | with_reducible exact Below.refl _ _ | with_reducible assumption | with_reducible refine below_drewN ?_ _ | with_reducible refine Below.drew ?_ | with_reducible refine Below.alloc ?_ ?_ _ | with_reducible refine Below.setCell ?_ ?_ _ | omega | (simp; done) | (simp; omega))).trans (hb.mono (by simp))
    clear hb
    go_wp2_with fail
    refine (HB.out _).mono ?_
    rintro e w2 ⟨rfl, rfl⟩
    go_wp2_with fail
    go_ret
    exact ⟨rfl, hb1⟩
  · have hmid2 : n ≤ 200 ∨ 1000 < n := by omega
    clear hmid
    rcases hmid2 with hm | hm
    all_goals
      go_enter Tryd.func14, Tryd.ntmps14
      go_wp2_with fail
      have hS : St k w.heap.size w (w.alloc (.cells #[.int .u64 k] 33)) := St.start hT (Below.refl _ _)
      have hc := hS.cell
      refine (HA.out _ hS.tab).mono ?_
      rintro e w1 ⟨rfl, hb⟩
      have hS1 := hS.step hb
      have hc1 := hS1.cell
      clear hb hS hc
      go_wp2_with fail
      refine (HB.out _).mono ?_
      rintro e w2 ⟨rfl, rfl⟩
      go_wp2_with fail
      refine (HC.out _ hS1.tab).mono ?_
      rintro e w2 ⟨v1, rfl, hr1, hb⟩
      have hS2 := hS1.step hb
      have hc2 := hS2.cell
      clear hb hS1 hc1
      go_wp2_with fail
      refine (HD.out _).mono ?_
      rintro e w3 ⟨v2, rfl, hr2, hb⟩
      have hr1' := hr1.below hb (Nat.le_refl _)
      have hS3 := hS2.step hb
      have hc3 := hS3.cell
      clear hb hS2 hc2 hr1
      go_wp2_with fail
      refine (same_c xs _ _ _ hr1' hr2 hl2).mono ?_
      rintro e w4 ⟨rfl, hb⟩
      have hS4 := hS3.step hb
      have hc4 := hS4.cell
      clear hb hS3 hc3 hr1' hr2
      go_wp2_with fail
      refine (HE.out _ hS4.tab).mono ?_
      rintro e w5 ⟨v3, rfl, hr3, hb⟩
      have hS5 := hS4.step hb
      clear hb hS4 hc4
      go_wp2_with fail
      refine (HF.out _).mono ?_
      rintro e w6 ⟨v4, rfl, hr4, hb⟩
      have hr3' := hr3.below hb (Nat.le_refl _)
      have hS6 := hS5.step hb
      clear hb hS5 hr3
      go_wp2_with fail
      refine (same_c ys _ _ _ hr3' hr4 hl3).mono ?_
      rintro e w7 ⟨rfl, hb⟩
      have hS7 := hS6.step hb
      clear hb hS6 hr3' hr4
      go_wp2_with fail
      go_ret
      exact ⟨by simp, hS7.below⟩
theorem seed_draws_c (k i n c : Int) (w : World) (hT : Tab w) (hx0 : 0 ≤ k) (hx1 : k < 18446744073709551616) (hn0 : -9223372036854775808 ≤ n) (hn2 : n ≤ 9223372036854775807) :
    Calls Tryd.prog 4 #[.int .u64 k, .int .i64 i, .int .i64 n, .int .i64 c] w fun e w' => e = .returned (.bool true) ∧ Below w.heap.size w w' := by
  go_enter Tryd.func4, Tryd.ntmps4
  go_wp2_with fail
  refine (draws_c k i n c _ hT hx0 hx1 hn0 hn2).mono ?_
  rintro e w1 ⟨rfl, hb⟩
  have hT1 := hT.below hb hT.pos
  go_wp2_with fail
  refine (awake_c _ hT1).mono ?_
  rintro e w2 ⟨rfl, hb2⟩
  have hb3 := hb.trans (hb2.mono hb.size)
  clear hb hb2 hT1
  go_wp2_with fail
  go_ret
  exact ⟨rfl, hb3⟩
end Go.Proofs.YtkcifgnlkdicgaaDoor.Sd
