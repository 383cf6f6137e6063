/-
  The contracts of the reference's words.
-/
import Derived.Test.YtkcifgnlkdicgaaDoorSdW3
import Derived.Test.YtkcifgnlkdicgaaDoorSdSub
import Derived.Laws.ShiftsVarLaws
namespace Go.Proofs.YtkcifgnlkdicgaaDoor.Sd
open Go Go.RowKit
set_option linter.unusedVariables false
set_option linter.unusedSimpArgs false
theorem div_word (z c : Int) (hc : 1 ≤ c) : IntKind.u64.wrap ((IntKind.u64.wrap z).tdiv c) = IntKind.u64.wrap z / c := by
  have h0 := wrap_lo z
  have h1 := wrap_hi z
  rw [Int.tdiv_eq_ediv_of_nonneg h0, IntKind.wrap_u64 (_ / c)]
  apply Int.emod_eq_of_lt (Int.ediv_nonneg h0 (by omega))
  have := Int.ediv_le_self c h0
  omega
theorem ret_int {k : IntKind} {a b : Int} (h : a = b) : Ending.returned (.int k a) = .returned (.int k b) := by rw [h]
set_option maxHeartbeats 400000 in
theorem rmix_c (x : Int) (w : World) (hx0 : 0 ≤ x) (hx1 : x < 18446744073709551616) :
    Calls Tryd.prog 35 #[.int .u64 x] w fun e w' => e = .returned (.int .u64 (mixI x)) ∧ w = w' := by
  go_enter Tryd.func35, Tryd.ntmps35
  go_wp2
  go_ret
  exact ⟨ret_int (by simp only [mixI, wrap_xor, m2, m1, div_word _ 134217728 (by decide), div_word _ 2147483648 (by decide)]), rfl⟩
theorem rnew_c (x : Int) (w : World) (hx0 : 0 ≤ x) (hx1 : x < 18446744073709551616) :
    Calls Tryd.prog 34 #[.int .u64 x] w fun e w' => e = .returned (.int .u64 (mixI x)) ∧ w = w' := by
  go_enter Tryd.func34, Tryd.ntmps34
  go_wp2_with fail
  refine (rmix_c x _ hx0 hx1).mono ?_
  rintro e w1 ⟨rfl, rfl⟩
  go_wp2_with fail
  go_ret
  exact ⟨rfl, rfl⟩
theorem rat_c (k n : Int) (w : World) :
    Calls Tryd.prog 33 #[.int .u64 k, .int .i64 n] w fun e w' => e = .returned (.int .u64 (mixI (bits .xor .u64 (mixI (IntKind.u64.wrap (k + 1))) (IntKind.u64.wrap n)))) ∧ w = w' := by
  go_enter Tryd.func33, Tryd.ntmps33
  go_wp2_with fail
  refine (rmix_c _ _ (wrap_lo _) (wrap_hi _)).mono ?_
  rintro e w1 ⟨rfl, rfl⟩
  go_wp2_with fail
  refine (rmix_c _ _ (xor_lo _ _) (xor_hi _ _)).mono ?_
  rintro e w1 ⟨rfl, rfl⟩
  go_wp2_with fail
  go_ret
  exact ⟨rfl, rfl⟩
theorem rword_c (k n : Int) (w : World) (h0 : 0 ≤ n) (h1 : n < 1099511627776) :
    Calls Tryd.prog 32 #[.int .u64 k, .int .i64 n] w fun e w' => e = .returned (.tuple #[.int .u64 (wordI k n), .int .i64 0]) ∧ w = w' := by
  go_enter Tryd.func32, Tryd.ntmps32
  go_wp2_with fail
  refine (rmix_c _ _ (wrap_lo _) (wrap_hi _)).mono ?_
  rintro e w1 ⟨rfl, rfl⟩
  go_wp2_with fail
  go_ret2
  exact ⟨rfl, rfl⟩
theorem rword_no_c (k n : Int) (w : World) (h : n < 0 ∨ 1099511627776 ≤ n) :
    Calls Tryd.prog 32 #[.int .u64 k, .int .i64 n] w fun e w' => e = .returned (.tuple #[.int .u64 0, .int .i64 2]) ∧ w = w' := by
  rcases h with h | h
  · go_enter Tryd.func32, Tryd.ntmps32
    go_wp2
    go_ret2
    exact ⟨rfl, rfl⟩
  · have h' : ¬ n < 0 := by omega
    go_enter Tryd.func32, Tryd.ntmps32
    go_wp2
    go_ret2
    exact ⟨rfl, rfl⟩
/-- The reference's test: a multiple of n that would pass 2^64. -/
theorem rest_alt {x n : Int} (hx0 : 0 ≤ x) (hn : 1 ≤ n) : restOk x n = true ↔ n - 1 ≤ 18446744073709551615 - (x - x % n) := by
  unfold restOk
  rw [decide_eq_true_iff]
  have a1 := Int.emod_nonneg x (show n ≠ 0 by omega)
  have a2 := Int.emod_lt_of_pos x (show 0 < n by omega)
  have b1 := Int.emod_nonneg 18446744073709551616 (show n ≠ 0 by omega)
  have b2 := Int.emod_lt_of_pos 18446744073709551616 (show 0 < n by omega)
  have a3 := Int.mul_ediv_add_emod x n
  have b3 := Int.mul_ediv_add_emod 18446744073709551616 n
  generalize 18446744073709551616 / n = q at *
  generalize x / n = p at *
  generalize x % n = r at *
  generalize 18446744073709551616 % n = s at *
  constructor
  · rintro ⟨_, h⟩
    have hpq : p < q := by
      by_cases hc : p < q
      · exact hc
      · exfalso
        have := Int.mul_le_mul_of_nonneg_left (show q ≤ p by omega) (show 0 ≤ n by omega)
        omega
    have := Int.mul_le_mul_of_nonneg_left (show p + 1 ≤ q by omega) (show 0 ≤ n by omega)
    rw [Int.mul_add, Int.mul_one] at this
    omega
  · intro h
    refine ⟨hn, ?_⟩
    have hpq : p < q := by
      by_cases hc : p < q
      · exact hc
      · exfalso
        have := Int.mul_le_mul_of_nonneg_left (show q ≤ p by omega) (show 0 ≤ n by omega)
        omega
    have := Int.mul_le_mul_of_nonneg_left (show p + 1 ≤ q by omega) (show 0 ≤ n by omega)
    rw [Int.mul_add, Int.mul_one] at this
    omega
set_option maxHeartbeats 400000 in
theorem rrest_c (x n : Int) (w : World) (hx0 : 0 ≤ x) (hx1 : x < 18446744073709551616) (h1 : 1 ≤ n) (h2 : n ≤ 9223372036854775807) :
    Calls Tryd.prog 43 #[.int .u64 x, .int .i64 n] w fun e w' => e = .returned (.tuple #[.int .i64 (restV x n), .bool (restOk x n)]) ∧ w = w' := by
  have a1 := Int.emod_nonneg x (show n ≠ 0 by omega)
  have a2 := Int.emod_lt_of_pos x (show 0 < n by omega)
  have a4 : x % n ≤ x := by have := Int.emod_add_mul_ediv x n; have h3 := Int.mul_nonneg (show 0 ≤ n by omega) (Int.ediv_nonneg hx0 (show 0 ≤ n by omega)); omega
  go_enter Tryd.func43, Tryd.ntmps43
  have HA := Lib.hid (rest_alt (x := x) (n := n) hx0 h1)
  go_wp2
  · have h : 18446744073709551615 - (x - x % n) < n - 1 := by assumption
    have hr : restOk x n = false := by
      cases hc : restOk x n
      · rfl
      · have := HA.out.1 hc; omega
    go_ret2
    exact ⟨ret_tup (by unfold restV; rw [hr]; rfl) hr.symm, rfl⟩
  · have h : n - 1 ≤ 18446744073709551615 - (x - x % n) := by assumption
    have hr := HA.out.2 h
    go_ret2
    exact ⟨ret_tup (by unfold restV; rw [if_pos hr]) hr.symm, rfl⟩
theorem rrest_no_c (x n : Int) (w : World) (h1 : n < 1) :
    Calls Tryd.prog 43 #[.int .u64 x, .int .i64 n] w fun e w' => e = .returned (.tuple #[.int .i64 0, .bool false]) ∧ w = w' := by
  go_enter Tryd.func43, Tryd.ntmps43
  go_wp2
  go_ret2
  exact ⟨rfl, rfl⟩
theorem bit_and (z : Int) (q : Nat) (h0 : 0 ≤ z) (h1 : z < 18446744073709551616) (hq : q < 64) : bits .and .u64 z ((2 : Int) ^ q) = z / 2 ^ q % 2 * 2 ^ q := by
  obtain ⟨n, rfl⟩ := Int.eq_ofNat_of_zero_le h0
  have hp : (2 : Nat) ^ q < 18446744073709551616 := Nat.lt_of_le_of_lt (Nat.pow_le_pow_right (by decide) (show q ≤ 63 by omega)) (by decide)
  have e : ((2 : Int) ^ q) = ((2 ^ q : Nat) : Int) := by simp
  have hv := and_bit_var 64 n (q : Int) (by omega)
  rw [if_neg (by omega), Int.toNat_natCast, show min q 64 = q by omega] at hv
  have hm : (2 : Int) ^ q % 2 ^ 64 = ((2 ^ q : Nat) : Int) := by
    rw [e, show (2 : Int) ^ 64 = ((18446744073709551616 : Nat) : Int) by decide]
    exact Int.emod_eq_of_lt (Int.natCast_nonneg _) (Int.ofNat_lt.2 hp)
  rw [hm, Int.toNat_natCast] at hv
  rw [e, u64_and_nat n (2 ^ q) (by omega) hp, hv]
  simp
theorem bit_or (y : Int) (q : Nat) (h0 : 0 ≤ y) (h1 : y < 2 ^ q) (hq : q < 64) : bits .or .u64 y ((2 : Int) ^ q) = y + 2 ^ q := by
  obtain ⟨n, rfl⟩ := Int.eq_ofNat_of_zero_le h0
  have hp : (2 : Nat) ^ q < 18446744073709551616 := Nat.lt_of_le_of_lt (Nat.pow_le_pow_right (by decide) (show q ≤ 63 by omega)) (by decide)
  have e : ((2 : Int) ^ q) = ((2 ^ q : Nat) : Int) := by simp
  rw [e] at h1 ⊢
  have h2 : n < 2 ^ q := Int.ofNat_lt.1 h1
  rw [u64_or_nat n (2 ^ q) (by omega) hp, Nat.or_comm, nat_join q (2 ^ q) n (Nat.mod_self _) h2]
  omega
theorem pow_pos' (q : Nat) : (1 : Int) ≤ 2 ^ q := by
  have : (0 : Int) < 2 ^ q := Int.pow_pos (by decide)
  omega
theorem pow_dvd (q : Nat) (h : q ≤ 64) : ∃ t : Int, (18446744073709551616 : Int) = 2 ^ q * t := by
  refine ⟨2 ^ (64 - q), ?_⟩
  rw [← Int.pow_add, show q + (64 - q) = 64 by omega]; decide
/-- One round of the division: bit q of what is left. -/
theorem div_step {x y o P t : Int} (hP : 1 ≤ P) (ht : (18446744073709551616 : Int) = P * (2 * t)) (ho : o % 2 = 1) (hd : (x - y * o) % P = 0) :
    (IntKind.u64.wrap (x - IntKind.u64.wrap (y * o)) / P % 2 = 0 → (x - y * o) % (P * 2) = 0) ∧ (IntKind.u64.wrap (x - IntKind.u64.wrap (y * o)) / P % 2 = 1 → (x - (y + P) * o) % (P * 2) = 0) := by
  obtain ⟨a, ha⟩ : ∃ a, x - y * o = P * a := ⟨(x - y * o) / P, by have := Int.mul_ediv_add_emod (x - y * o) P; omega⟩
  obtain ⟨u, hu⟩ : ∃ u, IntKind.u64.wrap (x - IntKind.u64.wrap (y * o)) = P * (a + 2 * t * u) := by
    rw [IntKind.wrap_u64, IntKind.wrap_u64]
    have h1 := Int.mul_ediv_add_emod (y * o) 18446744073709551616
    have h2 := Int.mul_ediv_add_emod (x - y * o % 18446744073709551616) 18446744073709551616
    refine ⟨(y * o) / 18446744073709551616 - (x - y * o % 18446744073709551616) / 18446744073709551616, ?_⟩
    generalize (y * o) / 18446744073709551616 = q1 at *
    generalize (x - y * o % 18446744073709551616) / 18446744073709551616 = q2 at *
    have e : P * (a + 2 * t * (q1 - q2)) = P * a + (P * (2 * t)) * (q1 - q2) := by rw [Int.mul_add, Int.mul_assoc P (2 * t)]
    rw [e, ← ht, ← ha]
    omega
  rw [hu, Int.mul_ediv_cancel_left _ (by omega)]
  obtain ⟨c, hc⟩ : ∃ c, o = 2 * c + 1 := ⟨o / 2, by omega⟩
  constructor
  · intro h
    obtain ⟨d, hd2⟩ : ∃ d, a = 2 * d := ⟨a / 2, by rw [Int.mul_assoc] at h; omega⟩
    rw [ha, hd2, ← Int.mul_assoc]; exact Int.mul_emod_right _ _
  · intro h
    obtain ⟨d, hd2⟩ : ∃ d, a = 2 * d + 1 := ⟨a / 2, by rw [Int.mul_assoc] at h; omega⟩
    have e : x - (y + P) * o = P * 2 * (d - c) := by
      rw [Int.add_mul, show x - (y * o + P * o) = (x - y * o) - P * o by omega, ha, hd2, hc, ← Int.mul_sub, show 2 * d + 1 - (2 * c + 1) = 2 * (d - c) by omega, Int.mul_assoc]
    rw [e]; exact Int.mul_emod_right _ _
def DivRel (x o : Int) (y b : Value) : Prop :=
  ∃ (q : Nat) (y1 : Int), q ≤ 64 ∧ b = .int .u64 (IntKind.u64.wrap (2 ^ q)) ∧ y = .int .u64 y1 ∧ 0 ≤ y1 ∧ y1 < 2 ^ q ∧ (x - y1 * o) % 2 ^ q = 0
def expo (v : Value) : Nat := if intOf v = 0 then 0 else 64 - Nat.log2 (intOf v).toNat
theorem pw_lt (q : Nat) (h : q < 64) : IntKind.u64.wrap (2 ^ q) = 2 ^ q := by
  have hp : (2 : Nat) ^ q < 18446744073709551616 := Nat.lt_of_le_of_lt (Nat.pow_le_pow_right (by decide) (show q ≤ 63 by omega)) (by decide)
  have e : ((2 : Int) ^ q) = ((2 ^ q : Nat) : Int) := by simp
  rw [IntKind.wrap_u64, e]
  exact Int.emod_eq_of_lt (Int.natCast_nonneg _) (Int.ofNat_lt.2 hp)
theorem expo_pw (q : Nat) (h : q ≤ 64) : expo (.int .u64 (IntKind.u64.wrap (2 ^ q))) = 64 - q := by
  by_cases hlt : q < 64
  · rw [pw_lt q hlt]
    have := pow_pos' q
    show (if ((2 : Int) ^ q) = 0 then 0 else 64 - ((2 : Int) ^ q).toNat.log2) = 64 - q
    rw [if_neg (by omega)]
    have e : ((2 : Int) ^ q).toNat = 2 ^ q := toNat_two_pow q
    rw [e, Nat.log2_two_pow]
  · have hq : q = 64 := by omega
    subst hq
    decide
set_option maxHeartbeats 400000 in
theorem rdiv_x (x o : Int) (w : World) (hx0 : 0 ≤ x) (hx1 : x < 18446744073709551616) (ho : o % 2 = 1) :
    Calls Tryd.prog 49 #[.int .u64 x, .int .u64 o] w fun e w' => (∃ y : Int, e = .returned (.int .u64 y) ∧ 0 ≤ y ∧ y < 18446744073709551616 ∧ (x - y * o) % 18446744073709551616 = 0) ∧ w = w' := by
  go_enter Tryd.func49, Tryd.ntmps49
  go_wp2
  go_loop [5, 6] (fun y b => DivRel x o y b) (fun _ b => expo b)
  case atStart => exact ⟨0, 0, by omega, rfl, rfl, by omega, by decide, Int.emod_one _⟩
  case round =>
    obtain ⟨q, y1, hq, rfl, rfl, hy0, hy1, hd⟩ := hrel
    have hm := expo_pw q hq
    by_cases hlt : q < 64
    · have hm2 := expo_pw (q + 1) (by omega)
      have hP := pw_lt q hlt
      have hnext : IntKind.u64.wrap (2 ^ (q + 1)) = IntKind.u64.wrap (IntKind.u64.wrap (2 ^ q) * 2) := by rw [hP, Int.pow_succ]
      have hand := bit_and (IntKind.u64.wrap (x - IntKind.u64.wrap (y1 * o))) q (wrap_lo _) (wrap_hi _) hlt
      have hor := bit_or y1 q hy0 hy1 hlt
      obtain ⟨t, ht⟩ := pow_dvd (q + 1) (by omega)
      rw [Int.pow_succ, Int.mul_assoc] at ht
      have hst := div_step (pow_pos' q) ht ho hd
      have hp1 := pow_pos' q
      have hp2 : (2 : Int) ^ (q + 1) = 2 ^ q * 2 := Int.pow_succ ..
      have hbit := Int.emod_two_eq (IntKind.u64.wrap (x - IntKind.u64.wrap (y1 * o)) / 2 ^ q)
      rw [← hP] at hand hor hst hp1 hp2 hbit hd hy1
      rw [hnext] at hm2
      have hlast : DivRel x o (.int .u64 y1) (.int .u64 (IntKind.u64.wrap (IntKind.u64.wrap (2 ^ q) * 2))) ∨ IntKind.u64.wrap (x - IntKind.u64.wrap (y1 * o)) / IntKind.u64.wrap (2 ^ q) % 2 = 1 := by
        rcases hbit with h | h
        · exact .inl ⟨q + 1, y1, by omega, by rw [hnext], rfl, hy0, by rw [hp2]; omega, by rw [hp2]; exact hst.1 h⟩
        · exact .inr h
      have hlast2 : IntKind.u64.wrap (x - IntKind.u64.wrap (y1 * o)) / IntKind.u64.wrap (2 ^ q) % 2 = 1 → DivRel x o (.int .u64 (y1 + IntKind.u64.wrap (2 ^ q))) (.int .u64 (IntKind.u64.wrap (IntKind.u64.wrap (2 ^ q) * 2))) := by
        intro h
        exact ⟨q + 1, _, by omega, by rw [hnext], rfl, by omega, by rw [hp2]; omega, by rw [hp2]; exact hst.2 h⟩
      clear hst ht hP hnext hp2 hd hy1
      generalize IntKind.u64.wrap (2 ^ q) = P at *
      have hPb : (P != 0) = true := by simp; omega
      by_cases hb : IntKind.u64.wrap (x - IntKind.u64.wrap (y1 * o)) / P % 2 = 1
      · have hR := Lib.hid (hlast2 hb)
        have hand2 : (bits .and .u64 (IntKind.u64.wrap (x - IntKind.u64.wrap (y1 * o))) P != 0) = true := by rw [hand, hb]; simp; omega
        have hor2 := Lib.hid hor
        have M1 := Lib.hid hm
        have M2 := Lib.hid hm2
        clear hlast hlast2 hand hb hbit hor hm hm2
        go_wp2
        exact ⟨by rw [hor2.out]; exact hR.out, by rw [M1.out, M2.out]; omega⟩
      · have hR := Lib.hid (hlast.resolve_right hb)
        have hand2 : (bits .and .u64 (IntKind.u64.wrap (x - IntKind.u64.wrap (y1 * o))) P != 0) = false := by rw [hand, show IntKind.u64.wrap (x - IntKind.u64.wrap (y1 * o)) / P % 2 = 0 by omega]; simp
        have M1 := Lib.hid hm
        have M2 := Lib.hid hm2
        clear hlast hlast2 hand hb hbit hor hm hm2
        go_wp2
        exact ⟨hR.out, by rw [M1.out, M2.out]; omega⟩
    · have hq2 : q = 64 := by omega
      subst hq2
      have h0 : IntKind.u64.wrap (2 ^ 64) = 0 := by decide
      rw [h0]
      have hd2 := Lib.hid (show (x - y1 * o) % 18446744073709551616 = 0 from hd)
      have hy2 : y1 < 18446744073709551616 := hy1
      clear hd hm
      go_wp2
      go_ret
      exact ⟨⟨y1, rfl, hy0, hy2, hd2.out⟩, rfl⟩
theorem div_eq {x y o v : Int} (hy0 : 0 ≤ y) (hy1 : y < 18446744073709551616) (hov : bv o * bv v = 1#64) (h : (x - y * o) % 18446744073709551616 = 0) : y = IntKind.u64.wrap (x * v) := by
  apply bv_inj hy0 hy1 (wrap_lo _) (wrap_hi _)
  rw [bv_wrap, bv_mul]
  have e : bv x = bv y * bv o := by
    rw [show x = (x - y * o) + y * o by omega, bv_add, bv_mul]
    have hz : bv (x - y * o) = 0#64 := by
      rw [← bv_wrap, IntKind.wrap_u64, h]; rfl
    rw [hz, BitVec.zero_add]
  rw [e, BitVec.mul_assoc, hov, BitVec.mul_one]
theorem rdiv1_c (x : Int) (w : World) (hx0 : 0 ≤ x) (hx1 : x < 18446744073709551616) :
    Calls Tryd.prog 49 #[.int .u64 x, .int .u64 10723151780598845931] w fun e w' => e = .returned (.int .u64 (IntKind.u64.wrap (x * 3573116690164977347))) ∧ w = w' := by
  refine (rdiv_x x 10723151780598845931 w hx0 hx1 (by decide)).mono fun e w' ⟨⟨y, h1, h2, h3, h4⟩, h5⟩ => ⟨?_, h5⟩
  rw [h1, div_eq h2 h3 (show bv 10723151780598845931 * bv 3573116690164977347 = 1#64 by decide) h4]
theorem rdiv2_c (x : Int) (w : World) (hx0 : 0 ≤ x) (hx1 : x < 18446744073709551616) :
    Calls Tryd.prog 49 #[.int .u64 x, .int .u64 13787848793156543929] w fun e w' => e = .returned (.int .u64 (IntKind.u64.wrap (x * 10871156337175269513))) ∧ w = w' := by
  refine (rdiv_x x 13787848793156543929 w hx0 hx1 (by decide)).mono fun e w' ⟨⟨y, h1, h2, h3, h4⟩, h5⟩ => ⟨?_, h5⟩
  rw [h1, div_eq h2 h3 (show bv 13787848793156543929 * bv 10871156337175269513 = 1#64 by decide) h4]
theorem and_one (z : Int) (h0 : 0 ≤ z) (h1 : z < 18446744073709551616) : bits .and .u64 z 1 = z % 2 := by
  have := bit_and z 0 h0 h1 (by decide)
  simpa using this
/-- What is found of the word Z from bit m on. -/
def tops (Z m : Nat) : Int := ((Z / 2 ^ m * 2 ^ m : Nat) : Int)
theorem tops_bit (Z m q : Nat) (h : m ≤ q) : tops Z m / ((2 ^ q : Nat) : Int) % 2 = ((Z / 2 ^ q % 2 : Nat) : Int) := by
  unfold tops
  obtain ⟨d, rfl⟩ : ∃ d, q = m + d := ⟨q - m, by omega⟩
  rw [← Int.natCast_ediv, Nat.pow_add, ← Nat.div_div_eq_div_mul, Nat.mul_div_cancel _ (Nat.pow_pos (by decide)), Nat.div_div_eq_div_mul]
  omega
theorem tops_step (Z j : Nat) (hZ : Z < 18446744073709551616) (hj : j < 64) : bits .or .u64 (tops Z (j + 1)) (IntKind.u64.wrap (((Z / 2 ^ j % 2 : Nat) : Int) * ((2 ^ j : Nat) : Int))) = tops Z j := by
  have hp : (2 : Nat) ^ j < 18446744073709551616 := Nat.lt_of_le_of_lt (Nat.pow_le_pow_right (by decide) (show j ≤ 63 by omega)) (by decide)
  have hb : Z / 2 ^ j % 2 * 2 ^ j < 2 ^ (j + 1) := by
    have := Nat.mod_lt (Z / 2 ^ j) (show 0 < 2 by decide)
    rw [Nat.pow_succ]
    have h2 := Nat.mul_le_mul_right (2 ^ j) (show Z / 2 ^ j % 2 ≤ 1 by omega)
    have h3 : 0 < 2 ^ j := Nat.pow_pos (by decide)
    generalize Z / 2 ^ j % 2 * 2 ^ j = t at *
    omega
  have hb2 : Z / 2 ^ j % 2 * 2 ^ j < 18446744073709551616 := by
    have h2 := Nat.mul_le_mul_right (2 ^ j) (show Z / 2 ^ j % 2 ≤ 1 by omega)
    generalize Z / 2 ^ j % 2 * 2 ^ j = t at *
    omega
  have hm : ((Z / 2 ^ j % 2 * 2 ^ j : Nat) : Int) % 18446744073709551616 = ((Z / 2 ^ j % 2 * 2 ^ j : Nat) : Int) := by
    generalize Z / 2 ^ j % 2 * 2 ^ j = t at *
    omega
  have e : Z / 2 ^ j = 2 * (Z / 2 ^ (j + 1)) + Z / 2 ^ j % 2 := by
    rw [Nat.pow_succ, ← Nat.div_div_eq_div_mul]; omega
  have hY : Z / 2 ^ (j + 1) * 2 ^ (j + 1) < 18446744073709551616 := Nat.lt_of_le_of_lt (Nat.div_mul_le_self _ _) hZ
  unfold tops
  rw [← Int.natCast_mul, IntKind.wrap_u64, hm, u64_or_nat _ _ hY hb2, nat_join (j + 1) _ _ (Nat.mul_mod_left _ _) hb]
  congr 1
  have e2 : Z / 2 ^ j * 2 ^ j = Z / 2 ^ (j + 1) * 2 ^ (j + 1) + Z / 2 ^ j % 2 * 2 ^ j := by
    have h1 := congrArg (· * 2 ^ j) e
    simp only [Nat.add_mul] at h1
    rw [h1, Nat.pow_succ, Nat.mul_comm 2 (Z / (2 ^ j * 2)), Nat.mul_assoc, Nat.mul_comm 2 (2 ^ j)]
  exact e2.symm
theorem un_bit (x : Int) (k j : Nat) (h0 : 0 ≤ x) (h1 : x < 18446744073709551616) (hk : 64 ≤ k + k + k) (hj : j < 64) :
    (x / ((2 ^ j : Nat) : Int) % 2) = (((unB k (bv x)).toNat / 2 ^ j + (unB k (bv x)).toNat / 2 ^ (j + k)) % 2 : Nat) := by
  have h := congrArg (fun b => b.toNat.testBit j) (unB_right k hk (bv x))
  simp only [BitVec.toNat_xor, BitVec.toNat_ushiftRight, Nat.testBit_xor, Nat.testBit_shiftRight] at h
  obtain ⟨n, rfl⟩ := Int.eq_ofNat_of_zero_le h0
  have e : (bv (n : Int)).toNat = n := ofInt_u64 n (by omega)
  rw [e] at h
  simp only [Nat.testBit_eq_decide_div_mod_eq] at h
  generalize (unB k (bv (n : Int))).toNat = Z at *
  rw [← Int.natCast_ediv, Nat.add_comm k j] at *
  have a1 := Nat.mod_two_eq_zero_or_one (Z / 2 ^ j)
  have a2 := Nat.mod_two_eq_zero_or_one (Z / 2 ^ (j + k))
  have a3 := Nat.mod_two_eq_zero_or_one (n / 2 ^ j)
  rcases a1 with a1 | a1 <;> rcases a2 with a2 | a2 <;> rcases a3 with a3 | a3 <;> simp [a1, a2, a3] at h <;> omega
/-- One round of the reference's way back. -/
theorem un_round (x : Int) (k j : Nat) (h0 : 0 ≤ x) (h1 : x < 18446744073709551616) (hk : 64 ≤ k + k + k) (hj : j < 64) (hk1 : 1 ≤ k) :
    (j + k < 64 → bits .or .u64 (tops (unB k (bv x)).toNat (j + 1)) (IntKind.u64.wrap (bits .xor .u64 (bits .and .u64 (x / 2 ^ j) 1) (bits .and .u64 (tops (unB k (bv x)).toNat (j + 1) / 2 ^ (j + k)) 1) * 2 ^ j)) = tops (unB k (bv x)).toNat j) ∧
    (64 ≤ j + k → bits .or .u64 (tops (unB k (bv x)).toNat (j + 1)) (IntKind.u64.wrap (bits .and .u64 (x / 2 ^ j) 1 * 2 ^ j)) = tops (unB k (bv x)).toNat j) := by
  have hb := un_bit x k j h0 h1 hk hj
  have hZ : (unB k (bv x)).toNat < 18446744073709551616 := (unB k (bv x)).isLt
  generalize (unB k (bv x)).toNat = Z at *
  have hs := tops_step Z j hZ hj
  have hpj : ((2 : Int) ^ j) = ((2 ^ j : Nat) : Int) := by simp
  have hxd : 0 ≤ x / ((2 ^ j : Nat) : Int) ∧ x / ((2 ^ j : Nat) : Int) < 18446744073709551616 := ⟨Int.ediv_nonneg h0 (Int.natCast_nonneg _), by have := Int.ediv_le_self ((2 ^ j : Nat) : Int) h0; omega⟩
  rw [hpj, and_one _ hxd.1 hxd.2, hb]
  constructor
  · intro hlt
    have hpk : ((2 : Int) ^ (j + k)) = ((2 ^ (j + k) : Nat) : Int) := by simp
    have ht0 : 0 ≤ tops Z (j + 1) := Int.natCast_nonneg _
    have ht1 : tops Z (j + 1) < 18446744073709551616 := Int.ofNat_lt.2 (Nat.lt_of_le_of_lt (Nat.div_mul_le_self _ _) hZ)
    have htd : 0 ≤ tops Z (j + 1) / ((2 ^ (j + k) : Nat) : Int) ∧ tops Z (j + 1) / ((2 ^ (j + k) : Nat) : Int) < 18446744073709551616 := ⟨Int.ediv_nonneg ht0 (Int.natCast_nonneg _), by have := Int.ediv_le_self ((2 ^ (j + k) : Nat) : Int) ht0; omega⟩
    rw [hpk, and_one _ htd.1 htd.2, tops_bit Z (j + 1) (j + k) (by omega)]
    have a1 := Nat.mod_two_eq_zero_or_one (Z / 2 ^ j)
    have a2 := Nat.mod_two_eq_zero_or_one (Z / 2 ^ (j + k))
    have hx : bits .xor .u64 (((Z / 2 ^ j + Z / 2 ^ (j + k)) % 2 : Nat) : Int) ((Z / 2 ^ (j + k) % 2 : Nat) : Int) = ((Z / 2 ^ j % 2 : Nat) : Int) := by
      rw [Nat.add_mod]
      rcases a1 with a1 | a1 <;> rcases a2 with a2 | a2 <;> rw [a1, a2] <;> decide
    rw [hx]; exact hs
  · intro hge
    have hz : Z / 2 ^ (j + k) = 0 := Nat.div_eq_of_lt (Nat.lt_of_lt_of_le hZ (Nat.le_trans (by decide) (Nat.pow_le_pow_right (show 0 < 2 by decide) hge)))
    rw [hz, Nat.add_zero]; exact hs
def UnRel (x : Int) (k : Nat) (y i : Value) : Prop :=
  ∃ i1 : Int, i = .int .i64 i1 ∧ -1 ≤ i1 ∧ i1 ≤ 63 ∧ y = .int .u64 (tops (unB k (bv x)).toNat (i1 + 1).toNat)
set_option maxHeartbeats 400000 in
theorem run_c (x : Int) (k : Nat) (w : World) (hx0 : 0 ≤ x) (hx1 : x < 18446744073709551616) (hk : 64 ≤ k + k + k) (hk2 : k ≤ 63) :
    Calls Tryd.prog 48 #[.int .u64 x, .int .i64 (k : Int)] w fun e w' => e = .returned (.int .u64 (unI x ((2 ^ k : Nat) : Int))) ∧ w = w' := by
  have HZ : Hid (((unB k (bv x)).toNat : Int) = unI x ((2 ^ k : Nat) : Int)) := by
    show _ = _
    rw [← bv_un x hx0 hx1 k]; exact bv_toNat _ (xor_lo _ _) (xor_hi _ _)
  have hZ : (unB k (bv x)).toNat < 18446744073709551616 := (unB k (bv x)).isLt
  have HR := Lib.hid (fun j hj => un_round x k j hx0 hx1 hk hj (by omega))
  go_enter Tryd.func48, Tryd.ntmps48
  go_wp2
  go_loop [5, 6, 7] (fun y i _ => UnRel x k y i) (fun _ i _ => (intOf i + 1).toNat)
  case atStart =>
    refine ⟨63, rfl, by omega, by omega, ?_⟩
    have e : tops (unB k (bv x)).toNat 64 = 0 := by unfold tops; rw [Nat.div_eq_of_lt hZ]; simp
    show _ = Value.int .u64 (tops (unB k (bv x)).toNat 64)
    rw [e]
  case round =>
    obtain ⟨i1, rfl, hi0, hi1, rfl⟩ := hrel
    by_cases h : 0 ≤ i1
    · obtain ⟨j, rfl⟩ := Int.eq_ofNat_of_zero_le h
      have hr := HR.out j (by omega)
      rw [show ((j : Int) + 1).toNat = j + 1 by omega]
      have et : (((j : Int) - 1 + 1).toNat) = j := by omega
      have ET := Lib.hid et
      clear et hZ
      by_cases hs : j + k < 64
      · have hr1 := Lib.hid (hr.1 hs)
        have hs2 : (j : Int) + (k : Int) < 64 := by omega
        clear hr
        generalize tops (unB k (bv x)).toNat (j + 1) = Y at *
        go_wp2
        exact ⟨⟨(j : Int) - 1, rfl, by omega, by omega, by rw [ET.out, hr1.out]⟩, by simp [intOf]⟩
      · have hr1 := Lib.hid (hr.2 (by omega))
        have hs2 : ¬ (j : Int) + (k : Int) < 64 := by omega
        clear hr
        generalize tops (unB k (bv x)).toNat (j + 1) = Y at *
        go_wp2
        exact ⟨⟨(j : Int) - 1, rfl, by omega, by omega, by rw [ET.out, hr1.out]⟩, by simp [intOf]⟩
    · have e : (i1 + 1).toNat = 0 := by omega
      have HE : Hid (tops (unB k (bv x)).toNat 0 = unI x ((2 ^ k : Nat) : Int)) := by
        show _ = _
        rw [← HZ.out]; unfold tops; simp
      rw [e]
      clear e hZ
      generalize tops (unB k (bv x)).toNat 0 = Y at *
      go_wp2
      go_ret
      exact ⟨ret_int (by have := HE.out; simpa using this), rfl⟩
set_option maxHeartbeats 400000 in
theorem runmix_c (x : Int) (w : World) (hx0 : 0 ≤ x) (hx1 : x < 18446744073709551616) :
    Calls Tryd.prog 36 #[.int .u64 x] w fun e w' => e = .returned (.int .u64 (unmixI x)) ∧ w = w' := by
  have u31 := fun w => run_c x 31 w hx0 hx1 (by decide) (by decide)
  have d1 := fun w => rdiv1_c (unI x 2147483648) w (xor_lo _ _) (xor_hi _ _)
  have u27 := fun w => run_c (IntKind.u64.wrap (unI x 2147483648 * 3573116690164977347)) 27 w (wrap_lo _) (wrap_hi _) (by decide) (by decide)
  have d2 := fun w => rdiv2_c (unI (IntKind.u64.wrap (unI x 2147483648 * 3573116690164977347)) 134217728) w (xor_lo _ _) (xor_hi _ _)
  have u30 := fun w => run_c (IntKind.u64.wrap (unI (IntKind.u64.wrap (unI x 2147483648 * 3573116690164977347)) 134217728 * 10871156337175269513)) 30 w (wrap_lo _) (wrap_hi _) (by decide) (by decide)
  rw [show ((2 ^ 31 : Nat) : Int) = 2147483648 by decide] at u31
  rw [show ((2 ^ 27 : Nat) : Int) = 134217728 by decide] at u27
  rw [show ((2 ^ 30 : Nat) : Int) = 1073741824 by decide] at u30
  have U31 := Lib.hid u31
  have U27 := Lib.hid u27
  have U30 := Lib.hid u30
  have D1 := Lib.hid d1
  have D2 := Lib.hid d2
  clear u31 u27 u30 d1 d2
  have HE : Hid (unmixI x = _) := (rfl : unmixI x = unI (IntKind.u64.wrap (unI (IntKind.u64.wrap (unI x 2147483648 * 3573116690164977347)) 134217728 * 10871156337175269513)) 1073741824)
  go_enter Tryd.func36, Tryd.ntmps36
  go_wp2_with fail
  refine (U31.out _).mono ?_
  rintro e w1 ⟨rfl, rfl⟩
  go_wp2_with fail
  refine (D1.out _).mono ?_
  rintro e w1 ⟨rfl, rfl⟩
  go_wp2_with fail
  refine (U27.out _).mono ?_
  rintro e w1 ⟨rfl, rfl⟩
  go_wp2_with fail
  refine (D2.out _).mono ?_
  rintro e w1 ⟨rfl, rfl⟩
  go_wp2_with fail
  refine (U30.out _).mono ?_
  rintro e w1 ⟨rfl, rfl⟩
  go_wp2_with fail
  go_ret
  exact ⟨rfl, rfl⟩
end Go.Proofs.YtkcifgnlkdicgaaDoor.Sd
