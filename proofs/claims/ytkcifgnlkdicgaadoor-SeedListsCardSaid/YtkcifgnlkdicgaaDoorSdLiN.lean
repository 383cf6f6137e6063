/-
  SeedLists, the weights: what is known of a list of bytes as weights, and of the index that is picked.
-/
import Derived.Test.YtkcifgnlkdicgaaDoorSdLiM
import Derived.Test.YtkcifgnlkdicgaaDoorSdW7
import Derived.IntWalk
namespace Go.Proofs.YtkcifgnlkdicgaaDoor.Sd
open Go Go.RowKit
set_option linter.unusedVariables false
set_option linter.unusedSimpArgs false
theorem pick_pos : ∀ (xs : List Int) (t a : Int), 0 ≤ t → t < sumI xs → ∃ q : Nat, pickF xs t a = a + q ∧ q < xs.length ∧ 0 < xs.getD q 0
  | [], t, a, h0, h1 => by simp [sumI] at h1; omega
  | x :: r, t, a, h0, h1 => by
    rw [pickF]
    split
    · rename_i h
      obtain ⟨q, h2, h3, h4⟩ := pick_pos r (t - x) (a + 1) (by omega) (by simp only [sumI, List.foldr_cons] at h1 ⊢; omega)
      exact ⟨q + 1, by rw [h2]; omega, by simp; omega, by simpa using h4⟩
    · exact ⟨0, by simp, by simp, by simp; omega⟩
theorem totF_small : ∀ (xs : List Int) (s : Int), (∀ x ∈ xs, 0 ≤ x ∧ x ≤ 255) → totF xs s = some (s + sumI xs)
  | [], s, _ => by simp [totF, sumI]
  | x :: r, s, h => by
    have h1 := h x (List.mem_cons_self ..)
    rw [totF, if_neg (by omega), totF_small r (s + x) fun y hy => h y (List.mem_cons_of_mem _ hy)]
    simp only [sumI, List.foldr_cons]
    congr 1
    omega
theorem sum_small : ∀ (xs : List Int), (∀ x ∈ xs, 0 ≤ x ∧ x ≤ 255) → 0 ≤ sumI xs ∧ sumI xs ≤ xs.length * 255
  | [], _ => by simp [sumI]
  | x :: r, h => by
    have h1 := h x (List.mem_cons_self ..)
    have h2 := sum_small r fun y hy => h y (List.mem_cons_of_mem _ hy)
    simp only [sumI, List.foldr_cons, List.length_cons] at h2 ⊢
    omega
theorem tot_small (xs : List Int) (hl : xs.length ≤ 100) (h : ∀ x ∈ xs, 0 ≤ x ∧ x ≤ 255) : totOk xs = decide (0 < sumI xs) ∧ totV xs = sumI xs ∧ 0 ≤ sumI xs ∧ sumI xs ≤ 25500 := by
  have h2 := sum_small xs h
  have e : total xs = some (sumI xs) := by
    unfold total
    rw [if_neg (by omega), totF_small xs 0 h]
    simp
  refine ⟨by unfold totOk; rw [e], by unfold totV; rw [e]; rfl, h2.1, by omega⟩
theorem sum_take (ws : List Int) (q : Nat) (hq : q < ws.length) : sumI (ws.take (q + 1)) = sumI (ws.take q) + ws.getD q 0 := by
  rw [List.take_succ_eq_append_getElem hq]
  unfold sumI
  rw [List.foldr_append, List.getD_eq_getElem?_getD, List.getElem?_eq_getElem hq]
  simp only [List.foldr_cons, List.foldr_nil, Option.getD_some, Int.add_zero]
  induction ws.take q with
  | nil => simp
  | cons x r ih => simp only [List.foldr_cons, ih]; omega
theorem take_snoc (ws : List Int) (q : Nat) (hq : q < ws.length) : ws.take (q + 1) = ws.take q ++ [ws.getD q 0] := by
  rw [List.take_succ_eq_append_getElem hq, List.getD_eq_getElem?_getD, List.getElem?_eq_getElem hq]
  rfl
theorem small_take (ws : List Int) (q : Nat) (h : ∀ x ∈ ws, 0 ≤ x ∧ x ≤ 255) : ∀ x ∈ ws.take q, 0 ≤ x ∧ x ≤ 255 := fun x hx => h x (List.mem_of_mem_take hx)
theorem small_get (ws : List Int) (q : Nat) (h : ∀ x ∈ ws, 0 ≤ x ∧ x ≤ 255) (hq : q < ws.length) : 0 ≤ ws.getD q 0 ∧ ws.getD q 0 ≤ 255 := by
  rw [List.getD_eq_getElem?_getD, List.getElem?_eq_getElem hq]
  exact h _ (List.getElem_mem hq)
theorem take_get (ws : List Int) (n q : Nat) (hq : q < n) : (ws.take n).getD q 0 = ws.getD q 0 := by
  rw [List.getD_eq_getElem?_getD, List.getD_eq_getElem?_getD, List.getElem?_take, if_pos hq]
theorem sub_facts (x y : Int) (h : x - 1 = y) (h0 : 0 ≤ y) (h1 : y ≤ 100) : IntKind.i64.wrap (x - 1) = y ∧ wrap64 y = y := by
  subst h
  refine ⟨IntWalk.i64_in _ (by omega), ?_⟩
  unfold wrap64
  omega
end Go.Proofs.YtkcifgnlkdicgaaDoor.Sd
