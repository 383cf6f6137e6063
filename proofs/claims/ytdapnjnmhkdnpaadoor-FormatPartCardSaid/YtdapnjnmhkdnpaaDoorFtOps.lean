/-
  Operators are bytes; a row of one formula; the length of what package format writes.
-/
import Derived.Test.YtdapnjnmhkdnpaaDoorMgText
import Derived.Test.YtdapnjnmhkdnpaaDoorFtSize
import Derived.Test.YtdapnjnmhkdnpaaDoorFmRight
namespace Go.Proofs.YtdapnjnmhkdnpaaDoor.Fb
open Go Go.RowKit Go.Shelf Go.Proofs.YtdapnjnmhkdnpaaDoor.Fm Go.Proofs.YtdapnjnmhkdnpaaDoor.Lx Go.Proofs.YtdapnjnmhkdnpaaDoor.Ps Go.Proofs.YtdapnjnmhkdnpaaDoor.Ft
set_option linter.unusedVariables false
set_option linter.unusedSimpArgs false
theorem fov_ops (N : Nat) : ∀ (f : Fo), SizeOf.sizeOf f < N → ∀ (n : Nat) (w : World) (v0 v1 v2 v3 : Value), FoV n w v0 v1 v2 v3 f → ∀ lv, ∀ x ∈ f.all lv, 0 ≤ x.2.op := by
  induction N with
  | zero => exact fun f h => absurd h (Nat.not_lt_zero _)
  | succ N ih =>
    intro f hN n w v0 v1 v2 v3 hf lv x hx
    rw [Fo.all_eq] at hx
    rcases List.mem_cons.1 hx with rfl | hx
    · exact hf.bd.1
    · obtain ⟨g, hg, hx⟩ := List.mem_flatMap.1 hx
      obtain ⟨i, hi, rfl⟩ := List.getElem_of_mem hg
      have hlt : SizeOf.sizeOf f.sub[i] < SizeOf.sizeOf f := by
        obtain ⟨o, n, a, ss⟩ := f
        have : SizeOf.sizeOf ss[i] < SizeOf.sizeOf ss := List.sizeOf_lt_of_mem (List.getElem_mem hi)
        simp only [Fo.sub, Fo.mk.sizeOf_spec]
        omega
      have hs := hf.sub
      obtain ⟨⟨a, c, rfl⟩, _⟩ := hs.form
      obtain ⟨_, b, o, rfl, hbn, u0, u1, u2, u3, c0, c1, c2, c3, hu⟩ := hs.get hi
      exact ih f.sub[i] (by omega) n w _ _ _ _ hu _ x hx
theorem fov_opsOk {f : Fo} {n : Nat} {w : World} {v0 v1 v2 v3 : Value} (h : FoV n w v0 v1 v2 v3 f) : OpsOk f := fov_ops _ f (Nat.lt_succ_self _) n w v0 v1 v2 v3 h 1
theorem slF_one {n b : Nat} {w : World} {f : Fo} {v2 v3 : Value} (c0 : w.cell? ⟨b, 0, none⟩ = some (.int .u8 f.op)) (c1 : w.cell? ⟨b, 1, none⟩ = some (.string f.n)) (c2 : w.cell? ⟨b, 2, none⟩ = some v2) (c3 : w.cell? ⟨b, 3, none⟩ = some v3)
    (hf : FoV n w (.int .u8 f.op) (.string f.n) v2 v3 f) (hb : b < n) : SlF n w (.slice (some ⟨b, 0, none⟩) 1 1) [f] := by
  obtain ⟨op, nm, args, sub⟩ := f
  obtain ⟨_, hop, _, hok, ⟨a, cap, b', o', he, hl, hx, ht⟩, ⟨a', cap', b2, o2, he', hl', hx', ht'⟩⟩ := hf
  subst he he'
  refine ⟨some ⟨b, 0, none⟩, 1, b, 0, rfl, by simp, .inr ⟨rfl, hb⟩, ?_⟩
  rw [FsAt]
  exact ⟨⟨c0, hop, c1, hok, ⟨a, cap, b', o', c2, hl, hx, ht⟩, ⟨a', cap', b2, o2, c3, hl', hx', ht'⟩⟩, by simp [FsAt]⟩
/-- A right schema's text is short; so is any text of it. -/
theorem foB_len {m : Bool} {f : Fo} (h : rightB m f = true) (ho : OpsOk f) (br : Fo → Nat → Bool) : (foB br f).length ≤ 11600 := by
  have := right_len h ho styN (.inr rfl) br
  unfold foB
  omega
def tl (ws : List Bs) : Nat := (ws.map fun w => w.length + 1).sum
theorem tl_app (a b : List Bs) : tl (a ++ b) = tl a + tl b := by simp [tl]
theorem tl_cons (a : Bs) (b : List Bs) : tl (a :: b) = a.length + 1 + tl b := by simp [tl]
theorem tl_nil : tl [] = 0 := rfl
theorem jn_tl : ∀ ws : List Bs, (jn [32] ws).length ≤ tl ws
  | [] => Nat.le_refl _
  | x :: r => by
    have : ∀ l : List Bs, (l.flatMap fun y => [32] ++ y).length = tl l := by
      intro l
      induction l with
      | nil => rfl
      | cons a l ih => rw [List.flatMap_cons, List.length_append, ih, tl_cons]; simp
    unfold jn
    rw [List.length_append, this, tl_cons]
    omega
theorem pw_len {m : Bool} (N : Nat) : ∀ f, SizeOf.sizeOf f < N → ∀ (lv : Int), FoK m lv f → 1 ≤ lv → tl (pwB f) ≤ 29 * NF lv f := by
  induction N with
  | zero => exact fun f h => absurd h (Nat.not_lt_zero _)
  | succ N ih =>
    intro f hN lv hf h1
    have hl := hf.head.2.2.1
    have hwr : wrap64 (lv + 1) = lv + 1 := wrap_id (by omega) (by omega)
    by_cases hs : f.sub = []
    · rw [pwB_leaf hs, tl_cons, tl_nil]
      have h := fo_len m styP (.inl rfl) brN _ f (Nat.lt_succ_self _) lv hf h1
      have e : byP (foP styP brN f) = baB [] f := by
        obtain ⟨o, n, a, s⟩ := f
        have hs : s = [] := hs
        subst hs
        rw [foP]
        rfl
      rw [e] at h
      omega
    · have hsub : ∀ g ∈ f.sub, tl (pwB g) ≤ 29 * NF (wrap64 (lv + 1)) g := by
        intro g hg
        have hlt : SizeOf.sizeOf g < SizeOf.sizeOf f := by
          obtain ⟨o, n, a, ss⟩ := f
          have : SizeOf.sizeOf g < SizeOf.sizeOf ss := List.sizeOf_lt_of_mem hg
          simp only [Fo.mk.sizeOf_spec]; omega
        rw [hwr]
        exact ih g (by omega) (lv + 1) (hf.sub h1 hg) (by omega)
      have hsum : ∀ l : List Fo, (∀ g ∈ l, tl (pwB g) ≤ 29 * NF (wrap64 (lv + 1)) g) → tl (l.flatMap pwB) ≤ 29 * (l.map fun g => NF (wrap64 (lv + 1)) g).sum := by
        intro l
        induction l with
        | nil => exact fun _ => Nat.le_refl _
        | cons a l ih =>
          intro h
          have h1 := h a (List.mem_cons_self ..)
          have h2 := ih fun g hg => h g (List.mem_cons_of_mem _ hg)
          rw [List.flatMap_cons, tl_app, List.map_cons, List.sum_cons]
          omega
      have h2 := hsum f.sub hsub
      have h3 := sg_le f.op
      have hn : f.n.size ≤ 16 := by
        cases hf.shape with
        | ato => exact absurd rfl hs
        | fal => exact absurd rfl hs
        | met => exact absurd rfl hs
        | ins => exact absurd rfl hs
        | qua ho hn => exact var_le hn
        | una ho => exact (by decide : (⟨#[]⟩ : ByteArray).size ≤ 16)
        | bin ho => exact (by decide : (⟨#[]⟩ : ByteArray).size ≤ 16)
      rw [pwB_node hs, tl_cons, tl_app, NF_eq, ba_len]
      have h4 : tl (if f.n.size = 0 then [] else [f.n.data.toList]) ≤ 17 := by
        split
        · rw [tl_nil]; omega
        · rw [tl_cons, tl_nil, ba_len]; omega
      omega
theorem pf_len {m : Bool} {f : Fo} (h : rightB m f = true) (ho : OpsOk f) : tl (pwB f) ≤ 11600 := by
  have h1 := pw_len _ f (Nat.lt_succ_self _) 1 (fok_right h ho) (Int.le_refl _)
  have h2 : NF 1 f ≤ 400 := by
    unfold rightB fitsB levelsL at h
    rw [Bool.and_eq_true, Bool.and_eq_true] at h
    have := of_decide_eq_true h.1.1
    rw [List.length_append, List.length_map, List.length_map] at this
    unfold NF
    unfold termsL at this
    omega
  omega
end Go.Proofs.YtdapnjnmhkdnpaaDoor.Fb
