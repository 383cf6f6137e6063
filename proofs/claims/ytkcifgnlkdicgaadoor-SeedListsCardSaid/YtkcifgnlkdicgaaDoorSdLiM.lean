/-
  SeedLists, its arithmetic: Perm's list is a permutation; the chosen numbers are increasing, different, in range, and as many as asked.
-/
import Derived.Test.YtkcifgnlkdicgaaDoorSdBel
namespace Go.Proofs.YtkcifgnlkdicgaaDoor.Sd
open Go Go.RowKit
set_option linter.unusedVariables false
set_option linter.unusedSimpArgs false
theorem swp_perm (l : List Int) (v p : Nat) (hv : v < l.length) (hp : p < l.length) : (swp l v p).Perm l := by
  unfold swp
  rw [List.getD_eq_getElem?_getD, List.getD_eq_getElem?_getD, List.getElem?_eq_getElem hv, List.getElem?_eq_getElem hp]
  exact List.set_set_perm hv hp
theorem permF_perm (k : Int) : ∀ (p : Nat) (i : Int) (l l' : List Int) (j : Int), p < l.length → i ≤ 1099511627776 → permF k p i l = some (l', j) → l'.Perm l
  | 0, i, l, l', j, _, _, h => by
    simp only [permF, Option.some.injEq, Prod.mk.injEq] at h
    obtain ⟨rfl, rfl⟩ := h
    exact List.Perm.refl _
  | p + 1, i, l, l', j, hp, hi, h => by
    rw [permF] at h
    split at h
    · cases h
    · rename_i v j2 hb
      have hr := below_range (by omega) hi hb
      exact (permF_perm k p j2 _ l' j (by unfold swp; simp; omega) hr.2.2.2 h).trans (swp_perm l v.toNat (p + 1) (by omega) hp)
theorem iota_nodup (n : Nat) : (iota n).Nodup := by
  unfold iota
  unfold List.Nodup
  rw [List.pairwise_map]
  exact List.Pairwise.imp (fun {a b} (h : a ≠ b) hh => h (Int.ofNat.inj hh)) List.nodup_range
theorem iota_mem (n : Nat) (x : Int) : x ∈ iota n ↔ 0 ≤ x ∧ x < n := by
  unfold iota
  simp only [List.mem_map, List.mem_range]
  constructor
  · rintro ⟨a, h1, rfl⟩; exact ⟨Int.natCast_nonneg _, by show (a : Int) < n; omega⟩
  · rintro ⟨h1, h2⟩; exact ⟨x.toNat, by omega, by show ((x.toNat : Nat) : Int) = x; omega⟩
/-- What Perm returns: each number below n once. -/
theorem perm_all (k i j : Int) (n : Nat) (l : List Int) (hi : i ≤ 1099511627776) (h : perm k i n = some (l, j)) : l.Nodup ∧ ∀ x, x ∈ l ↔ 0 ≤ x ∧ x < n := by
  unfold perm at h
  by_cases hn : n = 0
  · subst hn
    simp only [show 0 - 1 = 0 from rfl, permF, Option.some.injEq, Prod.mk.injEq] at h
    obtain ⟨rfl, rfl⟩ := h
    exact ⟨iota_nodup 0, iota_mem 0⟩
  · have hp := permF_perm k (n - 1) i (iota n) l j (by simp [iota]; omega) hi h
    exact ⟨hp.symm.nodup (iota_nodup n), fun x => by rw [hp.mem_iff]; exact iota_mem n x⟩
/-- What is chosen below x: in range, and increasing. -/
theorem chosen_sorted (fl : List Bool) (x : Nat) : (chosenTo fl x).Pairwise (· < ·) ∧ ∀ y ∈ chosenTo fl x, 0 ≤ y ∧ y < x := by
  unfold chosenTo
  constructor
  · rw [List.pairwise_map]
    refine List.Pairwise.imp (fun {a b} (h : a < b) => Int.ofNat_lt.2 h) ?_
    exact List.Pairwise.filter _ List.pairwise_lt_range
  · intro y hy
    simp only [List.mem_map, List.mem_filter, List.mem_range] at hy
    obtain ⟨a, ⟨h1, _⟩, rfl⟩ := hy
    exact ⟨Int.natCast_nonneg _, by show (a : Int) < x; omega⟩
theorem getD_set (fl : List Bool) (q x : Nat) (hq : q < fl.length) : (fl.set q true).getD x false = if q = x then true else fl.getD x false := by
  by_cases e : q = x
  · subst e; simp [List.getD_eq_getElem?_getD, hq]
  · simp [List.getD_eq_getElem?_getD, e]
theorem set_len (fl : List Bool) (q : Nat) (hq : q < fl.length) (hf : fl.getD q false = false) : ∀ x : Nat, (chosenTo (fl.set q true) x).length = (chosenTo fl x).length + (if q < x then 1 else 0)
  | 0 => by simp [chosenTo]
  | x + 1 => by
    rw [chosen_step, chosen_step, List.length_append, List.length_append, set_len fl q hq hf x, getD_set fl q x hq]
    by_cases e : q = x
    · subst e
      rw [hf]
      simp
    · rw [if_neg e]
      by_cases h : q < x
      · have h2 : q < x + 1 := by omega
        simp only [h, h2, if_true]; omega
      · have h2 : ¬ q < x + 1 := by omega
        simp only [h, h2, if_false]; omega
/-- So many numbers are chosen as are asked. -/
theorem choo_count (k : Int) : ∀ (f m : Nat) (i : Int) (fl fl' : List Bool) (j : Int) (n : Nat), i ≤ 1099511627776 → m + f ≤ fl.length → m + f ≤ n → (∀ q : Nat, m ≤ q → fl.getD q false = false) →
    chooF k f m i fl = some (fl', j) → (chosenTo fl' n).length = (chosenTo fl n).length + f
  | 0, m, i, fl, fl', j, n, _, _, _, _, h => by
    simp only [chooF, Option.some.injEq, Prod.mk.injEq] at h
    obtain ⟨rfl, rfl⟩ := h
    rfl
  | f + 1, m, i, fl, fl', j, n, hi, hl, hn, hq, h => by
    obtain ⟨v, j', hb, hx⟩ := choo_step h
    have hr := below_range (by omega) hi hb
    have hm := hq m (Nat.le_refl _)
    obtain ⟨u, hu, hu2, hu3⟩ : ∃ u : Nat, (if fl.getD v.toNat false = true then (m : Int) else v).toNat = u ∧ u ≤ m ∧ fl.getD u false = false := by
      refine ⟨_, rfl, ?_, ?_⟩
      · split <;> omega
      · split
        · simpa using hm
        · rename_i hh; simpa using hh
    rw [hu] at hx
    have := choo_count k f (m + 1) j' (fl.set u true) fl' j n hr.2.2.2 (by rw [List.length_set]; omega) (by omega) (fun q h1 => by
      rw [getD_set fl u q (by omega), if_neg (by omega)]; exact hq q (by omega)) (by rw [show ((m + 1 : Nat) : Int) = (m : Int) + 1 by omega]; exact hx)
    have hun : u < n := by omega
    rw [this, set_len fl u (by omega) hu3]
    simp only [hun, if_true]
    omega
theorem flags_false (q : Nat) : flagsL.getD q false = false := by
  unfold flagsL
  rw [List.getD_eq_getElem?_getD, List.getElem?_replicate]
  split <;> rfl
theorem chosen_none (n : Nat) : chosenTo flagsL n = [] := by
  unfold chosenTo
  rw [List.filter_eq_nil_iff.2 (fun q _ => by rw [flags_false]; decide)]
  rfl
theorem small_mul (p n : Nat) (hp : p ≤ n) (hn : n ≤ 100) : (p : Int) * ((n : Int) + 1) ≤ 10100 ∧ 0 ≤ (p : Int) * ((n : Int) + 1) := by
  have h := Nat.mul_le_mul (show p ≤ 100 by omega) (show n + 1 ≤ 101 by omega)
  have e : ((p * (n + 1) : Nat) : Int) = (p : Int) * ((n : Int) + 1) := by rw [Int.natCast_mul]; rfl
  rw [← e]
  omega
/-- What the three lists of SeedLists are: they are found, and what is known of them. -/
theorem lists_facts (k i : Int) (n p : Nat) (hi0 : 0 ≤ i) (hi1 : i < 549755813888) (hn : n ≤ 100) (hp : p ≤ n) : ∃ (l : List Int) (j : Int) (fl : List Bool) (j2 : Int) (fa : List Bool) (j3 : Int),
    perm k i n = some (l, j) ∧ i + ((n - 1 : Nat) : Int) ≤ j ∧ (l.Nodup ∧ ∀ x, x ∈ l ↔ 0 ≤ x ∧ x < n) ∧
    chooF k p ((n : Int) - p) i flagsL = some (fl, j2) ∧ i + p ≤ j2 ∧ (chosenTo fl n).length = p ∧ chooF k n ((n : Int) - n) i flagsL = some (fa, j3) ∧ chosenTo fa n = iota n := by
  have m1 := small_mul (n - 1) (n - 1) (Nat.le_refl _) (by omega)
  obtain ⟨l, j, h1, h2, _⟩ := permF_some k (n - 1) i (iota n) hi0 (by omega)
  have e2 : (n : Int) - p + p = n := by omega
  have m3 : (p : Int) * ((n : Int) - p + p) ≤ 10100 := by
    rw [e2]
    have := (small_mul p n hp hn).1
    rw [Int.mul_add] at this
    omega
  have m4 : (n : Int) * ((n : Int) - n + n) ≤ 10100 := by
    rw [show (n : Int) - n + n = n by omega]
    have := (small_mul n n (Nat.le_refl _) hn).1
    rw [Int.mul_add] at this
    omega
  obtain ⟨fl, j2, h3, h4, _⟩ := choo_some k p ((n : Int) - p) i flagsL (by omega) hi0 (by omega)
  obtain ⟨fa, j3, h5, _, _⟩ := choo_some k n ((n : Int) - n) i flagsL (by omega) hi0 (by omega)
  have hc := choo_count k p (n - p) i flagsL fl j2 n (by omega) (by rw [flagsL_len]; omega) (by omega) (fun q _ => flags_false q) (by rw [show ((n - p : Nat) : Int) = (n : Int) - p by omega]; exact h3)
  rw [chosen_none] at hc
  have ha := choo_all k n ((n : Int) - n) i flagsL fa j3 (by omega) (by omega) (by rw [flagsL_len]; omega) (fun q hq => by omega) h5
  exact ⟨l, j, fl, j2, fa, j3, h1, h2, perm_all k i j n l (by omega) h1, h3, h4, by simpa using hc, h5, chosen_all fa n fun q hq => ha.2 q (by omega)⟩
/-- What has been counted of l behind x rounds. -/
def cnt (l : List Int) (n x : Nat) : List Int := (List.range n).map fun (y : Nat) => if (y : Int) ∈ l.take x then 1 else 0
theorem cnt_len (l : List Int) (n x : Nat) : (cnt l n x).length = n := by simp [cnt]
theorem cnt_get (l : List Int) (n x y : Nat) (hy : y < n) : (cnt l n x).getD y 0 = if (y : Int) ∈ l.take x then 1 else 0 := by
  simp [cnt, List.getD_eq_getElem?_getD, hy]
theorem cnt_zero (l : List Int) (n : Nat) : cnt l n 0 = List.replicate n 0 := by
  apply List.ext_getElem
  · simp [cnt]
  · intro q h1 h2; simp [cnt]
theorem cnt_new (l : List Int) (n x v : Nat) (hd : l.Nodup) (hx : x < l.length) (hv : l[x] = (v : Int)) (hn : v < n) : (cnt l n x).getD v 0 = 0 := by
  rw [cnt_get l n x v hn, if_neg]
  intro h
  obtain ⟨q, hq, he⟩ := List.getElem_of_mem h
  have hq2 : q < x := by rw [List.length_take] at hq; omega
  rw [List.getElem_take, ← hv] at he
  have hp := List.pairwise_iff_getElem.1 hd q x (by omega) hx hq2
  exact hp he
theorem cnt_step (l : List Int) (n x v : Nat) (hx : x < l.length) (hv : l[x] = (v : Int)) : (cnt l n x).set v 1 = cnt l n (x + 1) := by
  apply List.ext_getElem
  · simp [cnt]
  · intro q h1 h2
    have hq : q < n := by rw [cnt_len] at h2; exact h2
    rw [List.getElem_set]
    simp only [cnt, List.getElem_map, List.getElem_range]
    have e : l.take (x + 1) = l.take x ++ [(v : Int)] := by rw [List.take_succ_eq_append_getElem hx, hv]
    have e2 : (q : Int) ∈ l.take (x + 1) ↔ (q : Int) ∈ l.take x ∨ (q : Int) = (v : Int) := by rw [e, List.mem_append, List.mem_singleton]
    by_cases h : v = q
    · subst h; simp [e2]
    · have h3 : ¬ ((q : Int) = (v : Int)) := by omega
      simp [h, h3, e2]
theorem cnt_full (l : List Int) (n y : Nat) (hl : l.length = n) (hm : ∀ x, x ∈ l ↔ 0 ≤ x ∧ x < n) (hy : y < n) : (cnt l n n).getD y 0 = 1 := by
  rw [cnt_get l n n y hy, if_pos]
  rw [List.take_of_length_le (by omega), hm]
  omega
end Go.Proofs.YtkcifgnlkdicgaaDoor.Sd
