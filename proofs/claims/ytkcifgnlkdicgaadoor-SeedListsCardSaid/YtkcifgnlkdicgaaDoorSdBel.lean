/-
  What draws come to: a draw ends within n words; all of n numbers are chosen.
-/
import Derived.Test.YtkcifgnlkdicgaaDoorSdW5
import Derived.Test.YtkcifgnlkdicgaaDoorSdW6
import Derived.Test.YtkcifgnlkdicgaaDoorSdW7
namespace Go.Proofs.YtkcifgnlkdicgaaDoor.Sd
open Go Go.RowKit
set_option linter.unusedVariables false
set_option linter.unusedSimpArgs false

theorem pigeon : ∀ (r : Nat) (f : Nat → Nat), (∀ a, a < r + 1 → f a < r) → ∃ a b, a < b ∧ b < r + 1 ∧ f a = f b
  | 0, f, h => absurd (h 0 (by omega)) (by omega)
  | r + 1, f, h => by
    by_cases hx : ∃ a, a < r + 1 ∧ f a = f (r + 1)
    · obtain ⟨a, ha, he⟩ := hx
      exact ⟨a, r + 1, ha, by omega, he⟩
    · have hne : ∀ a, a < r + 1 → f a ≠ f (r + 1) := fun a ha he => hx ⟨a, ha, he⟩
      obtain ⟨a, b, h1, h2, h3⟩ := pigeon r (fun a => if f a < f (r + 1) then f a else f a - 1) (fun a ha => by
        have k1 := h a (by omega)
        have k2 := h (r + 1) (by omega)
        have k3 := hne a ha
        show (if f a < f (r + 1) then f a else f a - 1) < r
        split <;> omega)
      refine ⟨a, b, h1, by omega, ?_⟩
      have k3 := hne a (by omega)
      have k4 := hne b h2
      split at h3 <;> split at h3 <;> omega
theorem bv_arg (k n : Int) : bv (IntKind.u64.wrap (k + IntKind.u64.wrap ((n + 1) * 11400714819323198485))) = bv k + bv (n + 1) * 11400714819323198485#64 := by
  rw [bv_wrap, bv_add, bv_wrap, bv_mul]; rfl
theorem word_inj {k a b : Int} (ha : 0 ≤ a) (ha2 : a < 1099511627776) (hb : 0 ≤ b) (hb2 : b < 1099511627776) (h : wordI k a = wordI k b) : a = b := by
  unfold wordI at h
  have h1 := mix_inj (wrap_lo _) (wrap_hi _) (wrap_lo _) (wrap_hi _) h
  have h2 : bv k + bv (a + 1) * 11400714819323198485#64 = bv k + bv (b + 1) * 11400714819323198485#64 := by rw [← bv_arg, ← bv_arg, h1]
  have h3 : bv (a + 1) * 11400714819323198485#64 = bv (b + 1) * 11400714819323198485#64 := by
    have := congrArg (fun z => z - bv k) h2
    simpa [BitVec.add_comm (bv k), BitVec.add_sub_cancel] using this
  have h4 : bv (a + 1) = bv (b + 1) := by
    have := congrArg (fun z => z * 17428512612931826493#64) h3
    simp only [BitVec.mul_assoc] at this
    rw [show (11400714819323198485#64 * 17428512612931826493#64) = 1#64 by decide, BitVec.mul_one, BitVec.mul_one] at this
    exact this
  have := bv_inj (by omega) (by omega) (by omega) (by omega) h4
  omega
theorem below_miss_all (k n : Int) : ∀ (f : Nat) (i : Int), belowF k n f i = none → ∀ q : Nat, q < f → restOk (wordI k (i + q)) n = false
  | 0, i, _, q, hq => by omega
  | f + 1, i, h, q, hq => by
    unfold belowF at h
    split at h
    · cases h
    · rename_i hr
      rcases q with _ | q
      · rw [show i + ((0 : Nat) : Int) = i by omega]; simpa using hr
      · rw [show i + ((q + 1 : Nat) : Int) = i + 1 + (q : Int) by omega]
        exact below_miss_all k n f (i + 1) h q (by omega)
theorem belowF_more (k n : Int) : ∀ (f g : Nat) (i : Int), belowF k n (f + g) i = match belowF k n f i with | some r => some r | none => belowF k n g (i + f)
  | 0, g, i => by simp [belowF]
  | f + 1, g, i => by
    rw [show f + 1 + g = (f + g) + 1 by omega, belowF, belowF]
    by_cases hr : restOk (wordI k i) n = true
    · rw [if_pos hr, if_pos hr]
    · rw [if_neg hr, if_neg hr, belowF_more k n f g (i + 1), show i + 1 + (f : Int) = i + ((f + 1 : Nat) : Int) by omega]
theorem belowF_some (k i : Int) (n : Nat) (hn : 1 ≤ n) (hi : 0 ≤ i) (h : i + n ≤ 1099511627776) : ∃ r, belowF k n n i = some r := by
  cases hb : belowF k n n i with
  | some r => exact ⟨r, rfl⟩
  | none =>
    exfalso
    have hm := below_miss_all k n n i hb
    have ho := over_lt (n : Int) (by omega)
    obtain ⟨r, hr⟩ : ∃ r, n = r + 1 := ⟨n - 1, by omega⟩
    have hlt : ∀ a, a < r + 1 → (18446744073709551615 - wordI k (i + (a : Int))).toNat < r := fun a ha => by
      have := hm a (by omega)
      unfold restOk at this
      have h2 := of_decide_eq_false this
      have hw := word_lo k (i + (a : Int))
      have hw2 := word_hi k (i + (a : Int))
      omega
    obtain ⟨a, b, h1, h2, h3⟩ := pigeon r (fun a => (18446744073709551615 - wordI k (i + (a : Int))).toNat) hlt
    have hwa := word_hi k (i + (a : Int))
    have hwb := word_hi k (i + (b : Int))
    have e : wordI k (i + (a : Int)) = wordI k (i + (b : Int)) := by
      have : (18446744073709551615 - wordI k (i + (a : Int))).toNat = (18446744073709551615 - wordI k (i + (b : Int))).toNat := h3
      omega
    have := word_inj (by omega) (by omega) (by omega) (by omega) e
    omega
/-- A draw below n ends within n words, unless the stream ends. -/
theorem below_within (k i n : Int) (hn : 1 ≤ n) (hi : 0 ≤ i) (h : i + n ≤ 1099511627776) : ∃ v j, below k i n = some (v, j) ∧ 0 ≤ v ∧ v < n ∧ i < j ∧ j ≤ i + n := by
  obtain ⟨m, rfl⟩ := Int.eq_ofNat_of_zero_le (show 0 ≤ n by omega)
  obtain ⟨⟨v, j⟩, hr⟩ := belowF_some k i m (by omega) hi h
  have hb : below k i m = some (v, j) := by
    unfold below
    rw [show (1099511627776 - i).toNat = m + ((1099511627776 - i).toNat - m) by omega, belowF_more, hr]
  have := belowF_range (show (1 : Int) ≤ m by omega) _ _ _ _ hr
  exact ⟨v, j, hb, this.1, this.2.1, this.2.2.1, this.2.2.2⟩
/-- If all are chosen, all flags stand. -/
theorem choo_all (k : Int) : ∀ (f : Nat) (m i : Int) (fl fl' : List Bool) (j : Int), 0 ≤ m → i ≤ 1099511627776 → m + f ≤ fl.length → (∀ q : Nat, (q : Int) < m → fl.getD q false = true) → chooF k f m i fl = some (fl', j) →
    fl'.length = fl.length ∧ ∀ q : Nat, (q : Int) < m + f → fl'.getD q false = true
  | 0, m, i, fl, fl', j, hm, hi, hl, hq, h => by
    simp only [chooF, Option.some.injEq, Prod.mk.injEq] at h
    obtain ⟨rfl, rfl⟩ := h
    exact ⟨rfl, fun q h => hq q (by omega)⟩
  | f + 1, m, i, fl, fl', j, hm, hi, hl, hq, h => by
    obtain ⟨v, j', hb, hn⟩ := choo_step h
    have hr := below_range (by omega) hi hb
    obtain ⟨r1, r2⟩ := choo_all k f (m + 1) j' _ fl' j (by omega) hr.2.2.2 (by rw [List.length_set]; omega) (fun q hq1 => by
      have hset : ∀ p : Nat, p = q ∨ (fl.getD q false = true) → p < fl.length → (fl.set p true).getD q false = true := fun p hp hl => by
        by_cases e : p = q
        · subst e; simp [List.getD_eq_getElem?_getD, hl]
        · rcases hp with hp | hp
          · exact absurd hp e
          · simp only [List.getD_eq_getElem?_getD, List.getElem?_set_ne e] at hp ⊢; exact hp
      apply hset
      · by_cases e : (q : Int) < m
        · exact .inr (hq q e)
        · have e2 : (q : Int) = m := by omega
          split
          · exact .inl (by omega)
          · rename_i hv
            by_cases hvm : v < m
            · exact absurd (hq v.toNat (by omega)) hv
            · exact .inl (by omega)
      · split <;> omega) hn
    exact ⟨by rw [r1, List.length_set], fun q hq => r2 q (by omega)⟩
theorem chosen_all (fl : List Bool) : ∀ n : Nat, (∀ q : Nat, q < n → fl.getD q false = true) → chosenTo fl n = iota n
  | 0, _ => rfl
  | n + 1, h => by
    rw [chosen_step, chosen_all fl n fun q hq => h q (by omega), if_pos (h n (by omega))]
    unfold iota
    rw [List.range_succ, List.map_append]; rfl
/-- c numbers are chosen, if so many words are left. -/
theorem choo_some (k : Int) : ∀ (f : Nat) (m i : Int) (fl : List Bool), 0 ≤ m → 0 ≤ i → i + f * (m + f) ≤ 1099511627776 → ∃ fl' j, chooF k f m i fl = some (fl', j) ∧ i + f ≤ j ∧ j ≤ i + f * (m + f)
  | 0, m, i, fl, _, _, _ => ⟨fl, i, rfl, by omega, by omega⟩
  | f + 1, m, i, fl, hm, hi, h => by
    have hmul : ((f + 1 : Nat) : Int) * (m + ((f + 1 : Nat) : Int)) = (f : Int) * ((m + 1) + (f : Int)) + (m + 1 + f) := by
      rw [Int.natCast_add, Int.add_mul, Int.natCast_one, Int.one_mul]
      rw [show m + ((f : Int) + 1) = m + 1 + f by omega]
    have hnn : 0 ≤ (f : Int) * ((m + 1) + (f : Int)) := Int.mul_nonneg (by omega) (by omega)
    rw [hmul] at h
    obtain ⟨v, j, hb, h1, h2, h3, h4⟩ := below_within k i (m + 1) (by omega) hi (by omega)
    obtain ⟨fl', j', hc, h5, h6⟩ := choo_some k f (m + 1) j (fl.set (if fl.getD v.toNat false = true then m else v).toNat true) (by omega) (by omega) (by omega)
    refine ⟨fl', j', ?_, by omega, by rw [hmul]; omega⟩
    rw [chooF, hb]; exact hc
theorem permF_some (k : Int) : ∀ (p : Nat) (i : Int) (l : List Int), 0 ≤ i → i + p * (p + 1) ≤ 1099511627776 → ∃ l' j, permF k p i l = some (l', j) ∧ i + p ≤ j ∧ j ≤ i + p * (p + 1)
  | 0, i, l, _, _ => ⟨l, i, rfl, by omega, by omega⟩
  | p + 1, i, l, hi, h => by
    have hmul : ((p + 1 : Nat) : Int) * (((p + 1 : Nat) : Int) + 1) = (p : Int) * ((p : Int) + 1) + 2 * (p + 1) := by
      rw [Int.natCast_add, Int.natCast_one]
      rw [show (p : Int) + 1 + 1 = ((p : Int) + 1) + 1 from rfl, Int.mul_add, Int.mul_one, Int.add_mul, Int.one_mul, Int.mul_add]
      omega
    have hnn : 0 ≤ (p : Int) * ((p : Int) + 1) := Int.mul_nonneg (by omega) (by omega)
    rw [hmul] at h
    obtain ⟨v, j, hb, h1, h2, h3, h4⟩ := below_within k i ((p + 2 : Nat) : Int) (by omega) hi (by omega)
    obtain ⟨l', j', hc, h5, h6⟩ := permF_some k p j (swp l v.toNat (p + 1)) (by omega) (by omega)
    refine ⟨l', j', ?_, by omega, by rw [hmul]; omega⟩
    rw [permF, hb]; exact hc
end Go.Proofs.YtkcifgnlkdicgaaDoor.Sd
