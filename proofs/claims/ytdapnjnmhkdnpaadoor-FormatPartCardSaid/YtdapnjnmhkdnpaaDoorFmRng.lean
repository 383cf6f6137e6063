/-
  The contracts of Nodes, Depth and fits.
-/
import Derived.Test.YtdapnjnmhkdnpaaDoorFmLevels
import Derived.WalkLawsBesides
namespace Go.Proofs.YtdapnjnmhkdnpaaDoor.Fm
open Go Go.RowKit Go.Shelf
set_option linter.unusedVariables false
set_option linter.unusedSimpArgs false
attribute [local go_sem] Oper.semAt_some
/-- Sizes at which no number overflows. -/
structure Fine (f : Fo) : Prop where
  p : ∀ x ∈ f.all 1, -9223372036854775808 ≤ x.1 ∧ x.1 ≤ 9223372036854775807
  t : ∀ x ∈ termsL f, -9223372036854775808 ≤ x.1 ∧ x.1 ≤ 9223372036854775807
  n : (levelsL f).length ≤ 4611686018427387904
def NJ (C : Nat) (k : Nat) (O : Nat → Prop) (W : World) : Prop := (∀ b, O b ↔ b = C) ∧ W.cell? ⟨C, 0, none⟩ = some (.int .i64 (wrap64 (k : Int))) ∧ W.frozen? ⟨C, 0, none⟩ = false ∧ C < W.heap.size
theorem NJ.fr (C n : Nat) : Fr n (NJ C) where
  lt h b hb := by rw [(h.1 b).1 hb]; exact h.2.2.2
  keep h hb ho := by
    have e := ho C ((h.1 C).2 rfl)
    exact ⟨h.1, (World.cell?_of_block e).trans h.2.1, (World.frozen?_of_block e).trans h.2.2.1, Nat.lt_of_lt_of_le h.2.2.2 hb.size⟩
def mx (a b : Int) : Int := if b > a then b else a
def depthL (f : Fo) : Int := (levelsL f).foldl mx 0
def DJ (f : Fo) (C : Nat) (k : Nat) (O : Nat → Prop) (W : World) : Prop := (∀ b, O b ↔ b = C) ∧ W.cell? ⟨C, 0, none⟩ = some (.int .i64 (((levelsL f).take k).foldl mx 0)) ∧ W.frozen? ⟨C, 0, none⟩ = false ∧ C < W.heap.size
theorem DJ.fr (f : Fo) (C n : Nat) : Fr n (DJ f C) where
  lt h b hb := by rw [(h.1 b).1 hb]; exact h.2.2.2
  keep h hb ho := by
    have e := ho C ((h.1 C).2 rfl)
    exact ⟨h.1, (World.cell?_of_block e).trans h.2.1, (World.frozen?_of_block e).trans h.2.2.1, Nat.lt_of_lt_of_le h.2.2.2 hb.size⟩
theorem wrap_rng (x : Int) : -9223372036854775808 ≤ wrap64 x ∧ wrap64 x ≤ 9223372036854775807 := by unfold wrap64; omega
theorem wrap_add (x y : Int) : wrap64 (wrap64 x + y) = wrap64 (x + y) := by
  unfold wrap64
  have h : (x + 9223372036854775808) % 18446744073709551616 - 9223372036854775808 + y + 9223372036854775808 = (x + 9223372036854775808) % 18446744073709551616 + y := by omega
  rw [h, Int.emod_add_emod]
  congr 2
  omega
theorem wrap_succ (k : Nat) : wrap64 (wrap64 (k : Int) + 1) = wrap64 ((k + 1 : Nat) : Int) := by
  rw [wrap_add]
  rfl
theorem wrap_zero : wrap64 ((0 : Nat) : Int) = ((0 : Nat) : Int) := by
  unfold wrap64
  omega
theorem all_rngT : ∀ (N : Nat) (t : Tm), SizeOf.sizeOf t < N → ∀ (lv : Int), (-9223372036854775808 ≤ lv ∧ lv ≤ 9223372036854775807) → ∀ x ∈ t.all lv, -9223372036854775808 ≤ x.1 ∧ x.1 ≤ 9223372036854775807
  | 0, _, h, _, _, _, _ => absurd h (Nat.not_lt_zero _)
  | N + 1, t, h, lv, hlv, x, hx => by
    rw [Tm.all_eq] at hx
    rcases List.mem_cons.1 hx with rfl | hx
    · exact hlv
    · obtain ⟨u, hu, hxu⟩ := List.mem_flatMap.1 hx
      obtain ⟨q, hq, rfl⟩ := List.getElem_of_mem hu
      exact all_rngT N _ (by have := size_arg t q hq; omega) _ (wrap_rng _) x hxu
theorem all_rngF : ∀ (N : Nat) (t : Fo), SizeOf.sizeOf t < N → ∀ (lv : Int), (-9223372036854775808 ≤ lv ∧ lv ≤ 9223372036854775807) → ∀ x ∈ t.all lv, -9223372036854775808 ≤ x.1 ∧ x.1 ≤ 9223372036854775807
  | 0, _, h, _, _, _, _ => absurd h (Nat.not_lt_zero _)
  | N + 1, t, h, lv, hlv, x, hx => by
    rw [Fo.all_eq] at hx
    rcases List.mem_cons.1 hx with rfl | hx
    · exact hlv
    · obtain ⟨u, hu, hxu⟩ := List.mem_flatMap.1 hx
      obtain ⟨q, hq, rfl⟩ := List.getElem_of_mem hu
      exact all_rngF N _ (by have := size_sub t q hq; omega) _ (wrap_rng _) x hxu
theorem rng_p (f : Fo) : ∀ x ∈ f.all 1, -9223372036854775808 ≤ x.1 ∧ x.1 ≤ 9223372036854775807 := all_rngF (SizeOf.sizeOf f + 1) f (Nat.lt_succ_self _) 1 (by omega)
theorem rng_t (f : Fo) : ∀ x ∈ termsL f, -9223372036854775808 ≤ x.1 ∧ x.1 ≤ 9223372036854775807 := fun x hx => by
  rw [termsL] at hx
  obtain ⟨y, hy, hxy⟩ := List.mem_flatMap.1 hx
  rw [termsOf] at hxy
  obtain ⟨t, ht, hxt⟩ := List.mem_flatMap.1 hxy
  exact all_rngT (SizeOf.sizeOf t + 1) t (Nat.lt_succ_self _) _ (wrap_rng _) x hxt
theorem wrap_id {x : Int} (h0 : -9223372036854775808 ≤ x) (h1 : x ≤ 9223372036854775807) : wrap64 x = x := by unfold wrap64; omega
end Go.Proofs.YtdapnjnmhkdnpaaDoor.Fm
