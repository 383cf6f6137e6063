/-
  A formula with another part at a place: what stands there, what stands elsewhere, how many nodes it has.
-/
import Derived.Test.YtnadjkofjgpabaaDoorFmWith
import Derived.Test.YtnadjkofjgpabaaDoorFmNodes
import Derived.Test.YtnadjkofjgpabaaDoorFmOrd
namespace Go.Proofs.YtnadjkofjgpabaaDoor.Fm
open Go Go.RowKit
set_option linter.unusedVariables false
set_option linter.unusedSimpArgs false
mutual
def nT : Tm → Nat
  | .mk _ _ l => 1 + nTL l
def nTL : List Tm → Nat
  | [] => 0
  | x :: r => nT x + nTL r
end
mutual
def nF : Fo → Nat
  | .mk _ _ l s => 1 + nTL l + nFL s
def nFL : List Fo → Nat
  | [] => 0
  | x :: r => nF x + nFL r
end
mutual
theorem lenT : ∀ (t : Tm) (lv : Int), (t.all lv).length = nT t
  | .mk v n l, lv => by
    have h := lenTL l (wrap64 (lv + 1))
    rw [Tm.all_eq, List.length_cons, nT]
    simp only [Tm.args]
    omega
theorem lenTL : ∀ (l : List Tm) (lv : Int), (l.flatMap fun t => t.all lv).length = nTL l
  | [], _ => by simp [nTL]
  | x :: r, lv => by rw [List.flatMap_cons, List.length_append, lenT x lv, lenTL r lv, nTL]
end
mutual
theorem lenF : ∀ (f : Fo) (lv : Int), (f.all lv).length + ((f.all lv).flatMap termsOf).length = nF f
  | .mk o n l s, lv => by
    have h := lenFL s (wrap64 (lv + 1))
    have h2 := lenTL l (wrap64 (lv + 1))
    rw [Fo.all_eq, List.length_cons, List.flatMap_cons, List.length_append, nF]
    simp only [Fo.sub, termsOf, Fo.args] at h ⊢
    omega
theorem lenFL : ∀ (l : List Fo) (lv : Int), (l.flatMap fun t => t.all lv).length + ((l.flatMap fun t => t.all lv).flatMap termsOf).length = nFL l
  | [], _ => by simp [nFL]
  | x :: r, lv => by
    have h := lenF x lv
    have h2 := lenFL r lv
    rw [List.flatMap_cons, List.length_append, List.flatMap_append, List.length_append, nFL]
    omega
end
theorem len_levels (f : Fo) : (levelsL f).length = nF f := by
  rw [levelsL, List.length_append, List.length_map, List.length_map, termsL]
  exact lenF f 1
theorem nFL_set : ∀ (l : List Fo) (i : Nat) (t g : Fo), l[i]? = some g → nFL (l.set i t) + nF g = nFL l + nF t
  | [], i, t, g, h => by simp at h
  | x :: r, 0, t, g, h => by
    obtain rfl : x = g := by simpa using h
    rw [List.set_cons_zero, nFL, nFL]; omega
  | x :: r, i + 1, t, g, h => by
    have := nFL_set r i t g (by simpa using h)
    rw [List.set_cons_succ, nFL, nFL]; omega
theorem atF_cons {f old : Fo} {i : Int} {r : List Int} (h : atF f (i :: r) = some old) : 0 ≤ i ∧ ∃ g, f.sub[i.toNat]? = some g ∧ atF g r = some old := by
  rw [atF] at h
  split at h
  · rename_i h0
    split at h
    · rename_i g hg; exact ⟨h0, g, hg, h⟩
    · cases h
  · cases h
theorem with_at : ∀ (is : List Int) (f p old : Fo), atF f is = some old → atF (withF f is p) is = some p
  | [], f, p, old, h => by simp [withF, atF]
  | i :: r, f, p, old, h => by
    obtain ⟨h0, g, hg, hr⟩ := atF_cons h
    have hl := (List.getElem?_eq_some_iff.1 hg).1
    rw [withF, hg, atF, if_pos h0]
    show (match (f.sub.set i.toNat (withF g r p))[i.toNat]? with | some g => atF g r | none => none) = some p
    rw [List.getElem?_set_self hl]
    exact with_at r g p old hr
theorem with_back : ∀ (is : List Int) (f p old : Fo), atF f is = some old → withF (withF f is p) is old = f
  | [], f, p, old, h => by
    simp only [atF, Option.some.injEq] at h
    simp [withF, h]
  | i :: r, f, p, old, h => by
    obtain ⟨h0, g, hg, hr⟩ := atF_cons h
    obtain ⟨hl, hge⟩ := List.getElem?_eq_some_iff.1 hg
    obtain ⟨op, n, args, sub⟩ := f
    simp only [Fo.sub] at hg hl hge
    rw [withF]
    simp only [Fo.sub, hg, withF, List.getElem?_set_self hl, Fo.op, Fo.n, Fo.args]
    rw [with_back r g p old hr, List.set_set, ← hge, List.set_getElem_self]
theorem with_nodes : ∀ (is : List Int) (f p old : Fo), atF f is = some old → nF (withF f is p) + nF old = nF f + nF p
  | [], f, p, old, h => by
    simp only [atF, Option.some.injEq] at h
    subst h
    simp only [withF]; omega
  | i :: r, f, p, old, h => by
    obtain ⟨h0, g, hg, hr⟩ := atF_cons h
    have ih := with_nodes r g p old hr
    obtain ⟨op, n, args, sub⟩ := f
    simp only [Fo.sub] at hg
    have hs := nFL_set sub i.toNat (withF g r p) g hg
    rw [withF]
    simp only [Fo.sub, hg, Fo.op, Fo.n, Fo.args, nF]
    omega
theorem with_else : ∀ (k : Nat) (is js : List Int) (f p old : Fo), atF f is = some old → ∀ (hi : k < is.length) (hj : k < js.length), (∀ q (h : q < k), is[q]'(by omega) = js[q]'(by omega)) → is[k] ≠ js[k] → atF (withF f is p) js = atF f js
  | _, [], _, _, _, _, _, hi, _, _, _ => by simp at hi
  | _, _ :: _, [], _, _, _, _, _, hj, _, _ => by simp at hj
  | 0, i :: r, j :: s, f, p, old, h, _, _, _, hne => by
    obtain ⟨h0, g, hg, hr⟩ := atF_cons h
    have hij : i ≠ j := by simpa using hne
    rw [withF, hg, atF, atF]
    by_cases h1 : 0 ≤ j
    · rw [if_pos h1, if_pos h1]
      simp only [Fo.sub]
      rw [List.getElem?_set_ne (by omega)]
    · rw [if_neg h1, if_neg h1]
  | k + 1, i :: r, j :: s, f, p, old, h, hi, hj, heq, hne => by
    obtain ⟨h0, g, hg, hr⟩ := atF_cons h
    have hij : i = j := by simpa using heq 0 (by omega)
    subst hij
    have hl := (List.getElem?_eq_some_iff.1 hg).1
    rw [withF, hg, atF, atF, if_pos h0, if_pos h0]
    show (match (f.sub.set i.toNat (withF g r p))[i.toNat]? with | some g => atF g s | none => none) = _
    rw [List.getElem?_set_self hl, hg]
    exact with_else k r s g p old hr (by simpa using hi) (by simpa using hj) (fun q hq => by simpa using heq (q + 1) (by omega)) (by simpa using hne)
theorem eqF_self (f : Fo) : eqF f f = true := (cmpF_zero f f).1 (cmpF_self f)
end Go.Proofs.YtnadjkofjgpabaaDoor.Fm
