/-
  Which formulas are right, as a function that the kernel can run.
-/
import Derived.Test.YtdapnjnmhkdnpaaDoorFmRight
namespace Go.Proofs.YtdapnjnmhkdnpaaDoor.Ps
open Go Go.RowKit Go.Shelf Go.Proofs.YtdapnjnmhkdnpaaDoor.Fm
set_option linter.unusedVariables false
set_option linter.unusedSimpArgs false
def catK {α β : Type} (g : α → Option (List β)) : List α → Option (List β)
  | [] => some []
  | x :: r => match g x, catK g r with
    | some a, some b => some (a ++ b)
    | _, _ => none
theorem catK_flat {α β : Type} {g : α → Option (List β)} {h : α → List β} : ∀ {l : List α} {b : List β}, (∀ x ∈ l, ∀ a, g x = some a → h x = a) → catK g l = some b → l.flatMap h = b
  | [], b, _, hb => by simpa [catK] using hb
  | x :: r, b, hg, hb => by
    unfold catK at hb
    cases h1 : g x with
    | none => rw [h1] at hb; cases hb
    | some a =>
      cases h2 : catK g r with
      | none => rw [h1, h2] at hb; cases hb
      | some c =>
        rw [h1, h2] at hb
        injection hb with hb
        rw [List.flatMap_cons, hg x (List.mem_cons_self ..) a h1, catK_flat (fun y hy => hg y (List.mem_cons_of_mem _ hy)) h2, hb]
def allK {α : Type} (g : α → Option Bool) : List α → Option Bool
  | [] => some true
  | x :: r => match g x, allK g r with
    | some a, some b => some (a && b)
    | _, _ => none
theorem allK_all {α : Type} {g : α → Option Bool} {h : α → Bool} : ∀ {l : List α} {b : Bool}, (∀ x ∈ l, ∀ a, g x = some a → h x = a) → allK g l = some b → l.all h = b
  | [], b, _, hb => by simpa [allK] using hb
  | x :: r, b, hg, hb => by
    unfold allK at hb
    cases h1 : g x with
    | none => rw [h1] at hb; cases hb
    | some a =>
      cases h2 : allK g r with
      | none => rw [h1, h2] at hb; cases hb
      | some c =>
        rw [h1, h2] at hb
        injection hb with hb
        rw [List.all_cons, hg x (List.mem_cons_self ..) a h1, allK_all (fun y hy => hg y (List.mem_cons_of_mem _ hy)) h2, hb]
def fK : Nat → Int → Fo → Option (List (Int × Fo))
  | 0, _, _ => none
  | k + 1, lv, f => (catK (fK k (wrap64 (lv + 1))) f.sub).map fun l => (lv, f) :: l
theorem fK_all : ∀ (k : Nat) (lv : Int) (f : Fo) (l : List (Int × Fo)), fK k lv f = some l → f.all lv = l
  | 0, _, _, _, h => by cases h
  | k + 1, lv, f, l, h => by
    unfold fK at h
    obtain ⟨b, hb, rfl⟩ := Option.map_eq_some_iff.1 h
    rw [Fo.all_eq, catK_flat (fun x _ a ha => fK_all k _ x a ha) hb]
def tK : Nat → Int → Tm → Option (List (Int × Tm))
  | 0, _, _ => none
  | k + 1, lv, t => (catK (tK k (wrap64 (lv + 1))) t.args).map fun l => (lv, t) :: l
theorem tK_all : ∀ (k : Nat) (lv : Int) (f : Tm) (l : List (Int × Tm)), tK k lv f = some l → f.all lv = l
  | 0, _, _, _, h => by cases h
  | k + 1, lv, f, l, h => by
    unfold tK at h
    obtain ⟨b, hb, rfl⟩ := Option.map_eq_some_iff.1 h
    rw [Tm.all_eq, catK_flat (fun x _ a ha => tK_all k _ x a ha) hb]
def rK (sc : Bool) : Nat → Tm → Option Bool
  | 0, _ => none
  | k + 1, t => if t.v then some (varT t || sc && metaT t) else (allK (rK sc k) t.args).map fun b => fnB t.n && decide (t.args.length ≤ 4) && b
theorem rK_right (sc : Bool) : ∀ (k : Nat) (t : Tm) (b : Bool), rK sc k t = some b → t.right sc = b
  | 0, _, _, h => by cases h
  | k + 1, t, b, h => by
    unfold rK at h
    rw [Tm.right_eq]
    split at h
    · next hv => rw [if_pos hv]; exact Option.some.inj h
    · next hv =>
      rw [if_neg hv]
      obtain ⟨c, hc, rfl⟩ := Option.map_eq_some_iff.1 h
      rw [allK_all (fun x _ a ha => rK_right sc k x a ha) hc]
def sK (sc : Bool) (k : Nat) (f : Fo) : Option Bool := (if f.op = 16 then some (match f.args with | [a, b] => varT a && metaT b | _ => false) else allK (rK sc k) f.args).map fun b => headB sc f && b
theorem sK_sat {sc : Bool} {k : Nat} {f : Fo} {b : Bool} (h : sK sc k f = some b) : satB sc f = b := by
  unfold sK at h
  obtain ⟨c, hc, rfl⟩ := Option.map_eq_some_iff.1 h
  unfold satB tailB
  split at hc
  · next ho => rw [if_pos ho]; rw [← Option.some.inj hc]; rfl
  · next ho => rw [if_neg ho, allK_all (fun x _ a ha => rK_right sc k x a ha) hc]
def rightK (sc : Bool) (k : Nat) (f : Fo) : Option Bool :=
  match fK k 1 f with
  | none => none
  | some l => match catK (fun x : Int × Fo => catK (fun t => tK k (wrap64 (x.1 + 1)) t) x.2.args) l, allK (fun x : Int × Fo => sK sc k x.2) l with
    | some ts, some b => some ((decide (((l.map (·.1) ++ ts.map (·.1)).length : Int) ≤ 400) && (l.map (·.1) ++ ts.map (·.1)).all fun x => decide (x ≤ 40)) && b)
    | _, _ => none
theorem rightK_right {sc : Bool} {k : Nat} {f : Fo} {b : Bool} (h : rightK sc k f = some b) : rightB sc f = b := by
  unfold rightK at h
  cases h1 : fK k 1 f with
  | none => rw [h1] at h; cases h
  | some l =>
    rw [h1] at h
    simp only at h
    split at h
    · next ts b' h2 h3 =>
      injection h with h
      rw [← h]
      unfold rightB fitsB levelsL allB termsL
      rw [fK_all k 1 f l h1, allK_all (fun x _ a ha => sK_sat ha) h3]
      have : l.flatMap termsOf = ts := catK_flat (fun x _ a ha => catK_flat (fun t _ c hc => tK_all k _ t c hc) ha) h2
      rw [this]
    · cases h
end Go.Proofs.YtdapnjnmhkdnpaaDoor.Ps
