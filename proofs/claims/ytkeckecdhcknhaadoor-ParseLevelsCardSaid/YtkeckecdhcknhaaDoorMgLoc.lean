/-
  Several texts in one: PsSim, PsSim2, PsMap, PsLoc, LxPure3, PsCut, PsFirstT.
-/
import Derived.Test.YtkeckecdhcknhaaDoorPsPure
import Derived.Test.YtkeckecdhcknhaaDoorLxPure2
import Derived.Test.YtkeckecdhcknhaaDoorMgApi

/-
  What a rule leaves is a part of what it reads.
-/
namespace Go.Proofs.YtkeckecdhcknhaaDoor.Ps
open Go Go.RowKit Go.Proofs.YtkeckecdhcknhaaDoor.Fm Go.Proofs.YtkeckecdhcknhaaDoor.Lx
set_option linter.unusedVariables false
set_option linter.unusedSimpArgs false
/-- The signs that are asked for. -/
def sigs : List ByteArray := [⟨#[40]⟩, ⟨#[41]⟩, ⟨#[44]⟩, ⟨#[91]⟩, ⟨#[93]⟩, ⟨#[47]⟩, ⟨#[102, 97, 108, 115, 101]⟩, lvS 0, lvS 1, lvS 2, lvS 3, lvS 4]
/-- A token's text that is asked for somewhere. -/
def alive (m : Bool) (s : ByteArray) : Bool := varB s || fnB s || predB s || mtB m s || mfB m s || (unOp s != 0) || sigs.any (eqB s)
theorem alive_sig {m : Bool} {ts : List Tg} {s : ByteArray} (hs : s ∈ sigs) (h : is ts s = true) : alive m (tx ts) = true := by
  unfold alive
  rw [Bool.or_eq_true]
  exact .inr (List.any_eq_true.2 ⟨s, hs, h⟩)
theorem lvS_sig (i : Nat) : lvS i ∈ sigs := by
  match i with
  | 0 => exact (by simp [sigs])
  | 1 => exact (by simp [sigs])
  | 2 => exact (by simp [sigs])
  | 3 => exact (by simp [sigs])
  | _ + 4 => exact (by simp [sigs, lvS])
theorem alive_var {m : Bool} {s : ByteArray} (h : varB s = true) : alive m s = true := by simp [alive, h]
theorem alive_fn {m : Bool} {s : ByteArray} (h : fnB s = true) : alive m s = true := by simp [alive, h]
theorem alive_pred {m : Bool} {s : ByteArray} (h : predB s = true) : alive m s = true := by simp [alive, h]
theorem alive_mt {m : Bool} {s : ByteArray} (h : mtB m s = true) : alive m s = true := by simp [alive, h]
theorem alive_mf {m : Bool} {s : ByteArray} (h : mfB m s = true) : alive m s = true := by simp [alive, h]
theorem alive_op {m : Bool} {s : ByteArray} (h : unOp s ≠ 0) : alive m s = true := by simp [alive, h]
/-- What is left, at the end or at an error, is as I says. -/
def InvR {α : Type} (I : List Tg → Prop) (x : R α) : Prop := (∀ a r, x = .ok a r → I r) ∧ ∀ a e, x = .er a e → ∃ r, I r ∧ a = (hd r).a ∧ (e = 50 ∨ e = 51)
theorem inv_ok {α : Type} {I : List Tg → Prop} {a : α} {r : List Tg} (h : I r) : InvR I (.ok a r) := ⟨fun _ _ q => (by cases q; exact h), fun _ _ q => (by cases q)⟩
theorem inv_bad {α : Type} {I : List Tg → Prop} {ts : List Tg} {e : Int} (h : I ts) (he : e = 50 ∨ e = 51) : InvR I (bad ts e : R α) := ⟨fun _ _ q => (by cases q), fun _ _ q => (by cases q; exact ⟨ts, h, rfl, he⟩)⟩
theorem inv_bind {α β : Type} {I : List Tg → Prop} {x : R α} {f : α → List Tg → R β} (h : InvR I x) (hf : ∀ a r, x = .ok a r → I r → InvR I (f a r)) : InvR I (x.bind f) := by
  cases x with
  | ok a r => exact hf a r rfl (h.1 a r rfl)
  | er a e => exact ⟨fun _ _ q => (by cases q), fun _ _ q => (by cases q; exact h.2 a e rfl)⟩
section
variable {m : Bool} {I : List Tg → Prop} (hI : ∀ ts, I ts → alive m (tx ts) = true → I (ts.drop 1))
include hI
theorem inv_terms : ∀ N (ts : List Tg), ts.length ≤ N → I ts → (∀ n, InvR I (termC m n ts)) ∧ (∀ n, InvR I (argsC m n ts)) ∧ (∀ n, InvR I (listC m n ts)) ∧ ∀ n l, InvR I (moreC m n l ts) := by
  intro N
  induction N using Nat.strongRecOn with
  | _ N ih =>
  intro ts hN h
  have IH : ∀ r : List Tg, r.length < ts.length → I r → (∀ n, InvR I (termC m n r)) ∧ (∀ n, InvR I (argsC m n r)) ∧ (∀ n, InvR I (listC m n r)) ∧ ∀ n l, InvR I (moreC m n l r) := fun r hr hi => ih r.length (by omega) r (Nat.le_refl _) hi
  have ht : ∀ n, InvR I (termC m n ts) := fun n => by
    rw [termC_eq]
    split
    · exact inv_bad h (.inr rfl)
    split
    · next _ hh =>
      rw [Bool.or_eq_true] at hh
      exact inv_ok (hI ts h (hh.elim alive_var alive_mt))
    split
    · next _ _ hh => exact inv_bind ((IH _ (drop_tx (fnB_ne hh)) (hI ts h (alive_fn hh))).2.1 n) fun _ _ _ hr => inv_ok hr
    · exact inv_bad h (.inl rfl)
  refine ⟨ht, fun n => ?_, fun n => ?_, fun n l => ?_⟩
  · rw [argsC_eq]
    split
    · next hh =>
      refine inv_bind ((IH _ (drop_len hh (by decide)) (hI ts h (alive_sig (by simp [sigs]) hh))).2.2.1 (n + 1)) fun l r _ hr => ?_
      split
      · next h2 => exact inv_ok (hI r hr (alive_sig (by simp [sigs]) h2))
      · exact inv_bad hr (.inl rfl)
    · exact inv_ok h
  · rw [listC_eq]
    exact inv_bind (ht n) fun t r hx hr => (IH r (termC_len m n ts t r hx) hr).2.2.2 n [t]
  · rw [moreC_eq]
    split
    · next hh =>
      have hd := drop_len hh (by decide)
      exact inv_bind ((IH _ hd (hI ts h (alive_sig (by simp [sigs]) hh))).1 n) fun t r hx hr => (IH r (by have := termC_len m n _ t r hx; omega) hr).2.2.2 n _
    · exact inv_ok h
theorem inv_meta (ts : List Tg) (h : I ts) (ha : alive m (tx ts) = true) : InvR I (metaP m ts) := by
  have h1 := hI ts h ha
  unfold metaP metaQ
  split
  · next a1 =>
    have h2 := hI _ h1 (alive_sig (by simp [sigs]) a1)
    unfold metaA
    split
    · next a2 =>
      have h3 := hI _ h2 (alive_mt a2)
      unfold metaS
      split
      · next a3 =>
        have h4 := hI _ h3 (alive_sig (by simp [sigs]) a3)
        unfold metaE
        split
        · next a4 =>
          have h5 := hI _ h4 (alive_var a4)
          unfold metaD
          split
          · next a5 => exact inv_ok (hI _ h5 (alive_sig (by simp [sigs]) a5))
          · exact inv_bad h5 (.inl rfl)
        · exact inv_bad h4 (.inl rfl)
      · exact inv_bad h3 (.inl rfl)
    · exact inv_bad h2 (.inl rfl)
  · exact inv_ok h1
theorem inv_forms : ∀ N (ts : List Tg), ts.length ≤ N → I ts → (∀ d i n, i + d = 5 → InvR I (binC m i n ts)) ∧ (∀ i n f, i < 5 → InvR I (chC m i n f ts)) ∧ (∀ n, InvR I (unC m n ts)) ∧ ∀ n, InvR I (basC m n ts) := by
  intro N
  induction N using Nat.strongRecOn with
  | _ N ih =>
  intro ts hN h
  have IH : ∀ r : List Tg, r.length < ts.length → I r → (∀ d i n, i + d = 5 → InvR I (binC m i n r)) ∧ (∀ i n f, i < 5 → InvR I (chC m i n f r)) ∧ (∀ n, InvR I (unC m n r)) ∧ ∀ n, InvR I (basC m n r) := fun r hr hi => ih r.length (by omega) r (Nat.le_refl _) hi
  have hb : ∀ n, InvR I (basC m n ts) := fun n => by
    rw [basC_eq]
    split
    · next hh =>
      have hd := drop_len hh (by decide)
      refine inv_bind ((IH _ hd (hI ts h (alive_sig (by simp [sigs]) hh))).1 5 0 (n + 1) rfl) fun f r hx hr => ?_
      split
      · next h2 => exact inv_ok (hI r hr (alive_sig (by simp [sigs]) h2))
      · exact inv_bad hr (.inl rfl)
    split
    · next hh => exact inv_ok (hI ts h (alive_sig (by simp [sigs]) hh))
    split
    · next hh => exact inv_meta hI ts h (alive_mf hh)
    split
    · next hh => exact inv_bind ((inv_terms hI _ _ (Nat.le_refl _) (hI ts h (alive_pred hh))).2.1 n) fun _ _ _ hr => inv_ok hr
    · exact inv_bad h (.inl rfl)
  have hu : ∀ n, InvR I (unC m n ts) := fun n => by
    rw [unC_eq]
    split
    · exact inv_bad h (.inr rfl)
    split
    · exact hb n
    next ho =>
    have hd := drop_tx (unOp_ne ho)
    have h1 := hI ts h (alive_op ho)
    split
    · split
      · next hv =>
        have h2 := hI _ h1 (alive_var hv)
        rw [List.drop_drop] at h2
        have hd2 : (ts.drop 2).length ≤ (ts.drop 1).length := by simp; omega
        exact inv_bind ((IH (ts.drop 2) (by omega) h2).2.2.1 (n + 1)) fun _ _ _ hr => inv_ok hr
      · exact inv_bad h1 (.inl rfl)
    · exact inv_bind ((IH _ hd h1).2.2.1 (n + 1)) fun _ _ _ hr => inv_ok hr
  refine ⟨fun d => ?_, fun i n f hi => ?_, hu, hb⟩
  · induction d with
    | zero => intro i n hi; obtain rfl : i = 5 := by omega
              rw [binC_un]; exact hu n
    | succ d ihd =>
      intro i n hi
      rw [binC_eq m i n ts (by omega)]
      refine inv_bind (ihd (i + 1) n (by omega)) fun f r hx hr => ?_
      have hl := binC_len m (i + 1) n ts f r hx
      split
      · split
        · next hh =>
          have hd := drop_len hh (lvS_ne i)
          exact inv_bind ((IH _ (by omega) (hI r hr (alive_sig (lvS_sig i) hh))).1 (d + 1) i (n + 1) hi) fun _ _ _ hr => inv_ok hr
        · exact inv_ok hr
      · exact (IH r hl hr).2.1 i n f (by omega)
  · rw [chC_eq m i n f ts hi]
    split
    · next hh =>
      have hd := drop_len hh (lvS_ne i)
      refine inv_bind ((IH _ hd (hI ts h (alive_sig (lvS_sig i) hh))).1 (4 - i) (i + 1) n (by omega)) fun g r hx hr => ?_
      exact (IH r (by have := binC_len m (i + 1) n _ g r hx; omega) hr).2.1 i n _ hi
    · exact inv_ok h
theorem inv_term (n : Nat) (ts : List Tg) (h : I ts) : InvR I (termC m n ts) := (inv_terms hI _ ts (Nat.le_refl _) h).1 n
theorem inv_bin (i n : Nat) (ts : List Tg) (h : I ts) (hi : i ≤ 5) : InvR I (binC m i n ts) := (inv_forms hI _ ts (Nat.le_refl _) h).1 (5 - i) i n (by omega)
theorem inv_fs : ∀ N (ts : List Tg), ts.length ≤ N → I ts → ∀ l, InvR I (fsC m l ts) := by
  intro N
  induction N using Nat.strongRecOn with
  | _ N ih =>
  intro ts hN h l
  rw [fsC_eq]
  split
  · next hh =>
    have hd := drop_len hh (by decide)
    exact inv_bind (inv_bin hI 0 0 _ (hI ts h (alive_sig (by simp [sigs]) hh)) (by omega)) fun f r hx hr => ih r.length (by have := binC_len m 0 0 _ f r hx; omega) r (Nat.le_refl _) hr _
  · exact inv_ok h
theorem inv_formsC (ts : List Tg) (h : I ts) : InvR I (formsC m ts) := by
  unfold formsC
  split
  · exact inv_ok h
  · exact inv_bind (inv_bin hI 0 0 ts h (by omega)) fun f r _ hr => inv_fs hI _ r (Nat.le_refl _) hr _
end
end Go.Proofs.YtkeckecdhcknhaaDoor.Ps

/-
  Two lists of tokens whose first tokens are alike.
-/
namespace Go.Proofs.YtkeckecdhcknhaaDoor.Ps
open Go Go.RowKit Go.Proofs.YtkeckecdhcknhaaDoor.Fm Go.Proofs.YtkeckecdhcknhaaDoor.Lx
set_option linter.unusedVariables false
set_option linter.unusedSimpArgs false
/-- Two tokens that answer alike all that is asked. -/
def Agr (m m' : Bool) (t t' : ByteArray) : Prop := (t = t' ∧ mtB m t = mtB m' t ∧ mfB m t = mfB m' t) ∨ (alive m t = false ∧ alive m' t' = false)
structure Ans (m m' : Bool) (ts ts' : List Tg) : Prop where
  sg : ∀ s, s ∈ sigs → is ts s = is ts' s
  va : varB (tx ts) = varB (tx ts')
  fn : fnB (tx ts) = fnB (tx ts')
  pr : predB (tx ts) = predB (tx ts')
  mt : mtB m (tx ts) = mtB m' (tx ts')
  mf : mfB m (tx ts) = mfB m' (tx ts')
  op : unOp (tx ts) = unOp (tx ts')
  eq : alive m (tx ts) = true → tx ts = tx ts'
  al : alive m (tx ts) = alive m' (tx ts')
theorem dead_all {m : Bool} {s : ByteArray} (h : alive m s = false) : varB s = false ∧ fnB s = false ∧ predB s = false ∧ mtB m s = false ∧ mfB m s = false ∧ unOp s = 0 ∧ ∀ x ∈ sigs, eqB s x = false := by
  unfold alive at h
  simp only [Bool.or_eq_false_iff, bne_eq_false_iff_eq, List.any_eq_false, Bool.not_eq_true] at h
  obtain ⟨⟨⟨⟨⟨⟨a, b⟩, c⟩, d⟩, e⟩, f⟩, g⟩ := h
  exact ⟨a, b, c, d, e, f, g⟩
theorem ans_of {m m' : Bool} {ts ts' : List Tg} (h : Agr m m' (tx ts) (tx ts')) : Ans m m' ts ts' := by
  rcases h with ⟨h1, h2, h3⟩ | ⟨h1, h2⟩
  · exact ⟨fun s _ => by unfold is; rw [h1], by rw [h1], by rw [h1], by rw [h1], by rw [h2, h1], by rw [h3, h1], by rw [h1], fun _ => h1, by unfold alive; rw [h2, h3, h1]⟩
  · obtain ⟨a1, a2, a3, a4, a5, a6, a7⟩ := dead_all h1
    obtain ⟨b1, b2, b3, b4, b5, b6, b7⟩ := dead_all h2
    exact ⟨fun s hs => by unfold is; rw [a7 s hs, b7 s hs], by rw [a1, b1], by rw [a2, b2], by rw [a3, b3], by rw [a4, b4], by rw [a5, b5], by rw [a6, b6], fun h => by rw [h1] at h; exact absurd h (by decide), by rw [h1, h2]⟩
/-- The first k tokens answer alike. -/
def AgrN (m m' : Bool) (k : Nat) (ts ts' : List Tg) : Prop := ∀ i, i < k → Agr m m' (tx (ts.drop i)) (tx (ts'.drop i))
theorem AgrN.drop {m m' : Bool} {k : Nat} {ts ts' : List Tg} (h : AgrN m m' k ts ts') (j : Nat) : AgrN m m' (k - j) (ts.drop j) (ts'.drop j) := fun i hi => by
  rw [List.drop_drop, List.drop_drop]
  exact h (j + i) (by omega)
/-- It is at token k, or behind it. -/
def Far {α : Type} (k : Nat) (ts : List Tg) (x : R α) : Prop := InvR (fun r => ∃ j, k ≤ j ∧ r = ts.drop j) x
/-- Both are the same ahead of token k, or both come to it. -/
def Sim {α : Type} (k : Nat) (ts ts' : List Tg) (x x' : R α) : Prop :=
  (∃ a j, j < k ∧ x = .ok a (ts.drop j) ∧ x' = .ok a (ts'.drop j)) ∨ (∃ j e, j < k ∧ x = bad (ts.drop j) e ∧ x' = bad (ts'.drop j) e) ∨ (Far k ts x ∧ Far k ts' x')
theorem Far.up {α : Type} {k j : Nat} {ts : List Tg} {x : R α} (h : Far (k - j) (ts.drop j) x) (hj : j ≤ k) : Far k ts x :=
  ⟨fun a r e => by obtain ⟨i, hi, e2⟩ := h.1 a r e; exact ⟨j + i, by omega, by rw [e2, List.drop_drop]⟩,
   fun a e q => by obtain ⟨r, ⟨i, hi, e2⟩, h2⟩ := h.2 a e q; exact ⟨r, ⟨j + i, by omega, by rw [e2, List.drop_drop]⟩, h2⟩⟩
theorem Far.zero {α : Type} {k j : Nat} {ts : List Tg} {x : R α} (h : Far 0 (ts.drop j) x) (hj : k ≤ j) : Far k ts x :=
  ⟨fun a r e => by obtain ⟨i, hi, e2⟩ := h.1 a r e; exact ⟨j + i, by omega, by rw [e2, List.drop_drop]⟩,
   fun a e q => by obtain ⟨r, ⟨i, hi, e2⟩, h2⟩ := h.2 a e q; exact ⟨r, ⟨j + i, by omega, by rw [e2, List.drop_drop]⟩, h2⟩⟩
theorem Far.bind {α β : Type} {k : Nat} {ts : List Tg} {x : R α} {f : α → List Tg → R β} (h : Far k ts x) (hf : ∀ a r, x = .ok a r → Far 0 r (f a r)) : Far k ts (x.bind f) :=
  inv_bind h fun a r hx ⟨j, hj, e⟩ => by subst e; exact (hf a _ hx).zero hj
theorem Sim.up {α : Type} {k j : Nat} {ts ts' : List Tg} {x x' : R α} (h : Sim (k - j) (ts.drop j) (ts'.drop j) x x') (hj : j ≤ k) : Sim k ts ts' x x' := by
  rcases h with ⟨a, i, hi, h1, h2⟩ | ⟨i, e, hi, h1, h2⟩ | ⟨h1, h2⟩
  · exact .inl ⟨a, j + i, by omega, by rw [h1, List.drop_drop], by rw [h2, List.drop_drop]⟩
  · exact .inr (.inl ⟨j + i, e, by omega, by rw [h1, List.drop_drop], by rw [h2, List.drop_drop]⟩)
  · exact .inr (.inr ⟨h1.up hj, h2.up hj⟩)
theorem sim_ok {α : Type} {k : Nat} {ts ts' : List Tg} (a : α) : Sim k ts ts' (.ok a ts) (.ok a ts') := by
  by_cases hk : 0 < k
  · exact .inl ⟨a, 0, hk, rfl, rfl⟩
  · exact .inr (.inr ⟨inv_ok ⟨0, by omega, rfl⟩, inv_ok ⟨0, by omega, rfl⟩⟩)
theorem sim_ok1 {α : Type} {k : Nat} {ts ts' : List Tg} (a : α) (hk : 0 < k) : Sim k ts ts' (.ok a (ts.drop 1)) (.ok a (ts'.drop 1)) := Sim.up (j := 1) (sim_ok a) hk
theorem sim_bad {α : Type} {k : Nat} {ts ts' : List Tg} (e : Int) (he : e = 50 ∨ e = 51) : Sim k ts ts' (bad ts e : R α) (bad ts' e) := by
  by_cases hk : 0 < k
  · exact .inr (.inl ⟨0, e, hk, rfl, rfl⟩)
  · exact .inr (.inr ⟨inv_bad ⟨0, by omega, rfl⟩ he, inv_bad ⟨0, by omega, rfl⟩ he⟩)
theorem Sim.bind {α β : Type} {k : Nat} {ts ts' : List Tg} {x x' : R α} {f f' : α → List Tg → R β} (h : Sim k ts ts' x x')
    (hf : ∀ a j, j < k → x = .ok a (ts.drop j) → Sim (k - j) (ts.drop j) (ts'.drop j) (f a (ts.drop j)) (f' a (ts'.drop j)))
    (h1 : ∀ a r, x = .ok a r → Far 0 r (f a r)) (h2 : ∀ a r, x' = .ok a r → Far 0 r (f' a r)) : Sim k ts ts' (x.bind f) (x'.bind f') := by
  rcases h with ⟨a, j, hj, e1, e2⟩ | ⟨j, e, hj, e1, e2⟩ | ⟨e1, e2⟩
  · have := hf a j hj e1
    subst e1 e2
    exact this.up (Nat.le_of_lt hj)
  · subst e1 e2
    exact .inr (.inl ⟨j, e, hj, rfl, rfl⟩)
  · exact .inr (.inr ⟨e1.bind h1, e2.bind h2⟩)
theorem inv_far {m : Bool} {ts0 : List Tg} {k : Nat} : ∀ ts, (∃ j, k ≤ j ∧ ts = List.drop j ts0) → alive m (tx ts) = true → ∃ j, k ≤ j ∧ ts.drop 1 = List.drop j ts0 := fun ts ⟨j, hj, e⟩ _ => ⟨j + 1, by omega, by rw [e, List.drop_drop]⟩
theorem far_term (m : Bool) (n : Nat) (ts : List Tg) : Far 0 ts (termC m n ts) := (inv_terms (m := m) inv_far _ ts (Nat.le_refl _) ⟨0, Nat.le_refl _, rfl⟩).1 n
theorem far_args (m : Bool) (n : Nat) (ts : List Tg) : Far 0 ts (argsC m n ts) := (inv_terms (m := m) inv_far _ ts (Nat.le_refl _) ⟨0, Nat.le_refl _, rfl⟩).2.1 n
theorem far_list (m : Bool) (n : Nat) (ts : List Tg) : Far 0 ts (listC m n ts) := (inv_terms (m := m) inv_far _ ts (Nat.le_refl _) ⟨0, Nat.le_refl _, rfl⟩).2.2.1 n
theorem far_more (m : Bool) (n : Nat) (l : List Tm) (ts : List Tg) : Far 0 ts (moreC m n l ts) := (inv_terms (m := m) inv_far _ ts (Nat.le_refl _) ⟨0, Nat.le_refl _, rfl⟩).2.2.2 n l
theorem far_bin (m : Bool) (i n : Nat) (ts : List Tg) (hi : i ≤ 5) : Far 0 ts (binC m i n ts) := inv_bin (m := m) inv_far i n ts ⟨0, Nat.le_refl _, rfl⟩ hi
theorem far_ch (m : Bool) (i n : Nat) (f : Fo) (ts : List Tg) (hi : i < 5) : Far 0 ts (chC m i n f ts) := (inv_forms (m := m) inv_far _ ts (Nat.le_refl _) ⟨0, Nat.le_refl _, rfl⟩).2.1 i n f hi
theorem far_un (m : Bool) (n : Nat) (ts : List Tg) : Far 0 ts (unC m n ts) := (inv_forms (m := m) inv_far _ ts (Nat.le_refl _) ⟨0, Nat.le_refl _, rfl⟩).2.2.1 n
theorem far_bas (m : Bool) (n : Nat) (ts : List Tg) : Far 0 ts (basC m n ts) := (inv_forms (m := m) inv_far _ ts (Nat.le_refl _) ⟨0, Nat.le_refl _, rfl⟩).2.2.2 n
theorem far_fs (m : Bool) (l : List Fo) (ts : List Tg) : Far 0 ts (fsC m l ts) := inv_fs (m := m) inv_far _ ts (Nat.le_refl _) ⟨0, Nat.le_refl _, rfl⟩ l
theorem far_ok {α : Type} {a : α} {r : List Tg} : Far 0 r (.ok a r) := inv_ok ⟨0, Nat.le_refl _, rfl⟩
theorem far_ok1 {α : Type} {a : α} {r : List Tg} : Far 0 r (.ok a (r.drop 1)) := inv_ok ⟨1, by omega, rfl⟩
theorem far_bad {α : Type} {e : Int} {r : List Tg} (he : e = 50 ∨ e = 51) : Far 0 r (bad r e : R α) := inv_bad ⟨0, Nat.le_refl _, rfl⟩ he
theorem far_need {α : Type} {a : α} {r : List Tg} {s : ByteArray} : Far 0 r (if is r s then .ok a (r.drop 1) else bad r 50) := by
  split
  · exact far_ok1
  · exact far_bad (.inl rfl)
theorem sim_need {α : Type} {m m' : Bool} {k : Nat} {ts ts' : List Tg} {a : α} {s : ByteArray} (hs : s ∈ sigs) (hk : 0 < k) (h : AgrN m m' k ts ts') :
    Sim k ts ts' (if is ts s then .ok a (ts.drop 1) else bad ts 50) (if is ts' s then .ok a (ts'.drop 1) else bad ts' 50) := by
  have A := ans_of (h 0 hk)
  rw [List.drop_zero, List.drop_zero] at A
  rw [← A.sg s hs]
  split
  · exact sim_ok1 a hk
  · exact sim_bad _ (.inl rfl)
section
variable {m m' : Bool}
theorem sim_terms : ∀ N (ts ts' : List Tg) (k : Nat), ts.length ≤ N → AgrN m m' k ts ts' → (∀ n, Sim k ts ts' (termC m n ts) (termC m' n ts')) ∧ (∀ n, Sim k ts ts' (argsC m n ts) (argsC m' n ts')) ∧ (∀ n, Sim k ts ts' (listC m n ts) (listC m' n ts')) ∧ ∀ n l, Sim k ts ts' (moreC m n l ts) (moreC m' n l ts') := by
  intro N
  induction N using Nat.strongRecOn with
  | _ N ih =>
  intro ts ts' k hN h
  by_cases hk : 0 < k
  case neg =>
    obtain rfl : k = 0 := by omega
    exact ⟨fun n => .inr (.inr ⟨far_term m n ts, far_term m' n ts'⟩), fun n => .inr (.inr ⟨far_args m n ts, far_args m' n ts'⟩), fun n => .inr (.inr ⟨far_list m n ts, far_list m' n ts'⟩), fun n l => .inr (.inr ⟨far_more m n l ts, far_more m' n l ts'⟩)⟩
  have A := ans_of (h 0 hk)
  rw [List.drop_zero, List.drop_zero] at A
  have IH : ∀ j, (ts.drop j).length < ts.length → (∀ n, Sim (k - j) (ts.drop j) (ts'.drop j) (termC m n (ts.drop j)) (termC m' n (ts'.drop j))) ∧ (∀ n, Sim (k - j) (ts.drop j) (ts'.drop j) (argsC m n (ts.drop j)) (argsC m' n (ts'.drop j))) ∧ (∀ n, Sim (k - j) (ts.drop j) (ts'.drop j) (listC m n (ts.drop j)) (listC m' n (ts'.drop j))) ∧ ∀ n l, Sim (k - j) (ts.drop j) (ts'.drop j) (moreC m n l (ts.drop j)) (moreC m' n l (ts'.drop j)) :=
    fun j hj => ih (ts.drop j).length (by omega) _ _ _ (Nat.le_refl _) (h.drop j)
  have ht : ∀ n, Sim k ts ts' (termC m n ts) (termC m' n ts') := fun n => by
    rw [termC_eq, termC_eq, ← A.va, ← A.mt, ← A.fn]
    split
    · exact sim_bad _ (.inr rfl)
    split
    · next _ hh =>
      rw [Bool.or_eq_true] at hh
      rw [A.eq (hh.elim alive_var alive_mt)]
      exact sim_ok1 _ hk
    split
    · next _ _ hh =>
      have hd := drop_tx (fnB_ne hh)
      rw [A.eq (alive_fn hh)]
      refine Sim.up (j := 1) (Sim.bind ((IH 1 hd).2.1 n) (fun a j hj _ => sim_ok _) (fun _ _ _ => far_ok) (fun _ _ _ => far_ok)) hk
    · exact sim_bad _ (.inl rfl)
  refine ⟨ht, fun n => ?_, fun n => ?_, fun n l => ?_⟩
  · rw [argsC_eq, argsC_eq, ← A.sg _ (by simp [sigs])]
    split
    · next hh =>
      have hd := drop_len hh (by decide)
      exact Sim.up (j := 1) (Sim.bind ((IH 1 hd).2.2.1 (n + 1)) (fun a j hj _ => sim_need (m := m) (m' := m') (by simp [sigs]) (by omega) ((h.drop 1).drop j)) (fun _ _ _ => far_need) (fun _ _ _ => far_need)) hk
    · exact sim_ok _
  · rw [listC_eq, listC_eq]
    refine Sim.bind (ht n) (fun t j hj hx => ?_) (fun _ _ _ => far_more _ _ _ _) (fun _ _ _ => far_more _ _ _ _)
    exact (IH j (termC_len m n ts t _ hx)).2.2.2 n [t]
  · rw [moreC_eq, moreC_eq, ← A.sg _ (by simp [sigs])]
    split
    · next hh =>
      have hd := drop_len hh (by decide)
      refine Sim.up (j := 1) (Sim.bind ((IH 1 hd).1 n) (fun t j hj hx => ?_) (fun _ _ _ => far_more _ _ _ _) (fun _ _ _ => far_more _ _ _ _)) hk
      have hl := termC_len m n _ t _ hx
      have := (IH (1 + j) (by rw [← List.drop_drop]; omega)).2.2.2 n (l ++ [t])
      rw [← List.drop_drop, ← List.drop_drop, Nat.sub_add_eq] at this
      exact this
    · exact sim_ok _
theorem far_metaD (n t x : ByteArray) (r : List Tg) : Far 0 r (metaD n t x r) := by unfold metaD; exact far_need
theorem Far.d1 {α : Type} {r : List Tg} {x : R α} (h : Far 0 (r.drop 1) x) : Far 0 r x := h.zero (Nat.zero_le _)
theorem far_metaE (n t : ByteArray) (r : List Tg) : Far 0 r (metaE n t r) := by
  unfold metaE
  split
  · exact (far_metaD _ _ _ _).d1
  · exact far_bad (.inl rfl)
theorem far_metaS (n t : ByteArray) (r : List Tg) : Far 0 r (metaS n t r) := by
  unfold metaS
  split
  · exact (far_metaE _ _ _).d1
  · exact far_bad (.inl rfl)
theorem far_metaA (m : Bool) (n : ByteArray) (r : List Tg) : Far 0 r (metaA m n r) := by
  unfold metaA
  split
  · exact (far_metaS _ _ _).d1
  · exact far_bad (.inl rfl)
theorem far_metaQ (m : Bool) (n : ByteArray) (r : List Tg) : Far 0 r (metaQ m n r) := by
  unfold metaQ
  split
  · exact (far_metaA _ _ _).d1
  · exact far_ok
theorem far_meta (m : Bool) (r : List Tg) : Far 0 r (metaP m r) := (far_metaQ _ _ _).d1
theorem AgrN.ans {k : Nat} {ts ts' : List Tg} (h : AgrN m m' k ts ts') (hk : 0 < k) : Ans m m' ts ts' := by
  have A := ans_of (h 0 hk)
  rwa [List.drop_zero, List.drop_zero] at A
/-- A step of a rule: either there are no tokens alike any more, or the first ones answer alike. -/
theorem sim_step {α : Type} {k : Nat} {ts ts' : List Tg} {x x' : R α} (f1 : Far 0 ts x) (f2 : Far 0 ts' x') (h : AgrN m m' k ts ts') (hf : 0 < k → Ans m m' ts ts' → Sim k ts ts' x x') : Sim k ts ts' x x' := by
  by_cases hk : 0 < k
  · exact hf hk (h.ans hk)
  · obtain rfl : k = 0 := by omega
    exact .inr (.inr ⟨f1, f2⟩)
theorem sim_metaD (n t x : ByteArray) (k : Nat) (r r' : List Tg) (h : AgrN m m' k r r') : Sim k r r' (metaD n t x r) (metaD n t x r') :=
  sim_step (far_metaD _ _ _ _) (far_metaD _ _ _ _) h fun hk _ => sim_need (m := m) (m' := m') (by simp [sigs]) hk h
theorem sim_metaE (n t : ByteArray) (k : Nat) (r r' : List Tg) (h : AgrN m m' k r r') : Sim k r r' (metaE n t r) (metaE n t r') :=
  sim_step (far_metaE _ _ _) (far_metaE _ _ _) h fun hk A => by
    unfold metaE
    rw [← A.va]
    split
    · next a => rw [← A.eq (alive_var a)]; exact Sim.up (j := 1) (sim_metaD _ _ _ _ _ _ (h.drop 1)) hk
    · exact sim_bad _ (.inl rfl)
theorem sim_metaS (n t : ByteArray) (k : Nat) (r r' : List Tg) (h : AgrN m m' k r r') : Sim k r r' (metaS n t r) (metaS n t r') :=
  sim_step (far_metaS _ _ _) (far_metaS _ _ _) h fun hk A => by
    unfold metaS
    rw [← A.sg _ (by simp [sigs])]
    split
    · exact Sim.up (j := 1) (sim_metaE _ _ _ _ _ (h.drop 1)) hk
    · exact sim_bad _ (.inl rfl)
theorem sim_metaA (n : ByteArray) (k : Nat) (r r' : List Tg) (h : AgrN m m' k r r') : Sim k r r' (metaA m n r) (metaA m' n r') :=
  sim_step (far_metaA _ _ _) (far_metaA _ _ _) h fun hk A => by
    unfold metaA
    rw [← A.mt]
    split
    · next a => rw [← A.eq (alive_mt a)]; exact Sim.up (j := 1) (sim_metaS _ _ _ _ _ (h.drop 1)) hk
    · exact sim_bad _ (.inl rfl)
theorem sim_metaQ (n : ByteArray) (k : Nat) (r r' : List Tg) (h : AgrN m m' k r r') : Sim k r r' (metaQ m n r) (metaQ m' n r') :=
  sim_step (far_metaQ _ _ _) (far_metaQ _ _ _) h fun hk A => by
    unfold metaQ
    rw [← A.sg _ (by simp [sigs])]
    split
    · exact Sim.up (j := 1) (sim_metaA _ _ _ _ (h.drop 1)) hk
    · exact sim_ok _
theorem sim_meta (ts ts' : List Tg) (k : Nat) (h : AgrN m m' k ts ts') (hk : 0 < k) (ha : alive m (tx ts) = true) : Sim k ts ts' (metaP m ts) (metaP m' ts') := by
  unfold metaP
  rw [← (h.ans hk).eq ha]
  exact Sim.up (j := 1) (sim_metaQ _ _ _ _ (h.drop 1)) hk
theorem sim_forms : ∀ N (ts ts' : List Tg) (k : Nat), ts.length ≤ N → AgrN m m' k ts ts' → (∀ d i n, i + d = 5 → Sim k ts ts' (binC m i n ts) (binC m' i n ts')) ∧ (∀ i n f, i < 5 → Sim k ts ts' (chC m i n f ts) (chC m' i n f ts')) ∧ (∀ n, Sim k ts ts' (unC m n ts) (unC m' n ts')) ∧ ∀ n, Sim k ts ts' (basC m n ts) (basC m' n ts') := by
  intro N
  induction N using Nat.strongRecOn with
  | _ N ih =>
  intro ts ts' k hN h
  have IH : ∀ j, (ts.drop j).length < ts.length → (∀ d i n, i + d = 5 → Sim (k - j) (ts.drop j) (ts'.drop j) (binC m i n (ts.drop j)) (binC m' i n (ts'.drop j))) ∧ (∀ i n f, i < 5 → Sim (k - j) (ts.drop j) (ts'.drop j) (chC m i n f (ts.drop j)) (chC m' i n f (ts'.drop j))) ∧
      (∀ n, Sim (k - j) (ts.drop j) (ts'.drop j) (unC m n (ts.drop j)) (unC m' n (ts'.drop j))) ∧ ∀ n, Sim (k - j) (ts.drop j) (ts'.drop j) (basC m n (ts.drop j)) (basC m' n (ts'.drop j)) :=
    fun j hj => ih (ts.drop j).length (by omega) _ _ _ (Nat.le_refl _) (h.drop j)
  have hb : ∀ n, Sim k ts ts' (basC m n ts) (basC m' n ts') := fun n => sim_step (far_bas _ _ _) (far_bas _ _ _) h fun hk A => by
    rw [basC_eq, basC_eq, ← A.sg _ (by simp [sigs]), ← A.sg _ (by simp [sigs]), ← A.mf, ← A.pr]
    split
    · next hh =>
      have hd := drop_len hh (by decide)
      exact Sim.up (j := 1) (Sim.bind ((IH 1 hd).1 5 0 (n + 1) rfl) (fun a j hj _ => sim_need (m := m) (m' := m') (by simp [sigs]) (by omega) ((h.drop 1).drop j)) (fun _ _ _ => far_need) (fun _ _ _ => far_need)) hk
    split
    · exact sim_ok1 _ hk
    split
    · next hh => exact sim_meta _ _ _ h hk (alive_mf hh)
    split
    · next hh =>
      rw [← A.eq (alive_pred hh)]
      exact Sim.up (j := 1) (Sim.bind ((sim_terms _ _ _ _ (Nat.le_refl _) (h.drop 1)).2.1 n) (fun a j hj _ => sim_ok _) (fun _ _ _ => far_ok) (fun _ _ _ => far_ok)) hk
    · exact sim_bad _ (.inl rfl)
  have hu : ∀ n, Sim k ts ts' (unC m n ts) (unC m' n ts') := fun n => sim_step (far_un _ _ _) (far_un _ _ _) h fun hk A => by
    rw [unC_eq m n ts, unC_eq m' n ts', ← A.op]
    split
    · exact sim_bad _ (.inr rfl)
    split
    · exact hb n
    next ho =>
    have hd := drop_tx (unOp_ne ho)
    split
    · have H1 := h.drop 1
      refine Sim.up (j := 1) (sim_step (m := m) (m' := m') ?_ ?_ H1 fun hk1 A1 => ?_) hk
      · split
        · rw [← List.drop_drop (i := 1) (j := 1)]
          exact Far.d1 (Far.bind (far_un _ _ _) fun _ _ _ => far_ok)
        · exact far_bad (.inl rfl)
      · split
        · rw [← List.drop_drop (i := 1) (j := 1)]
          exact Far.d1 (Far.bind (far_un _ _ _) fun _ _ _ => far_ok)
        · exact far_bad (.inl rfl)
      · rw [← A1.va]
        split
        · next hv =>
          rw [← A1.eq (alive_var hv), ← List.drop_drop (i := 1) (j := 1), ← List.drop_drop (i := 1) (j := 1)]
          have hd2 : (ts.drop 2).length ≤ (ts.drop 1).length := by simp; omega
          have I2 := (IH 2 (by omega)).2.2.1 (n + 1)
          rw [← List.drop_drop (i := 1) (j := 1), ← List.drop_drop (i := 1) (j := 1)] at I2
          exact Sim.up (j := 1) (Sim.bind I2 (fun a j hj _ => sim_ok _) (fun _ _ _ => far_ok) (fun _ _ _ => far_ok)) hk1
        · exact sim_bad _ (.inl rfl)
    · exact Sim.up (j := 1) (Sim.bind ((IH 1 hd).2.2.1 (n + 1)) (fun a j hj _ => sim_ok _) (fun _ _ _ => far_ok) (fun _ _ _ => far_ok)) hk
  refine ⟨fun d => ?_, fun i n f hi => sim_step (far_ch _ _ _ _ _ hi) (far_ch _ _ _ _ _ hi) h fun hk A => ?_, hu, hb⟩
  · induction d with
    | zero => intro i n hi; obtain rfl : i = 5 := by omega
              rw [binC_un, binC_un]; exact hu n
    | succ d ihd =>
      intro i n hi
      rw [binC_eq m i n ts (by omega), binC_eq m' i n ts' (by omega)]
      have far_in : ∀ (m : Bool) (f : Fo) (r : List Tg), Far 0 r (if lvR i then (if is r (lvS i) then (binC m i (n + 1) (r.drop 1)).bind fun g r2 => .ok (two (lvO i) f g) r2 else .ok f r) else chC m i n f r) := fun m f r => by
        split
        · split
          · exact Far.d1 (Far.bind (far_bin _ _ _ _ (by omega)) fun _ _ _ => far_ok)
          · exact far_ok
        · exact far_ch _ _ _ _ _ (by omega)
      refine Sim.bind (ihd (i + 1) n (by omega)) (fun f j hj hx => ?_) (fun f r _ => far_in m f r) (fun f r _ => far_in m' f r)
      have hl := binC_len m (i + 1) n ts f _ hx
      refine sim_step (m := m) (m' := m') (far_in m f _) (far_in m' f _) (h.drop j) fun hk1 A1 => ?_
      rw [← A1.sg _ (lvS_sig i)]
      split
      · split
        · next hh =>
          have hd := drop_len hh (lvS_ne i)
          have I2 := (IH (j + 1) (by rw [← List.drop_drop]; omega)).1 (d + 1) i (n + 1) hi
          rw [← List.drop_drop, ← List.drop_drop, Nat.sub_add_eq] at I2
          exact Sim.up (j := 1) (Sim.bind I2 (fun a j hj _ => sim_ok _) (fun _ _ _ => far_ok) (fun _ _ _ => far_ok)) hk1
        · exact sim_ok _
      · exact (IH j hl).2.1 i n f (by omega)
  · rw [chC_eq m i n f ts hi, chC_eq m' i n f ts' hi, ← A.sg _ (lvS_sig i)]
    split
    · next hh =>
      have hd := drop_len hh (lvS_ne i)
      refine Sim.up (j := 1) (Sim.bind ((IH 1 hd).1 (4 - i) (i + 1) n (by omega)) (fun g j hj hx => ?_) (fun _ _ _ => far_ch _ _ _ _ _ hi) (fun _ _ _ => far_ch _ _ _ _ _ hi)) hk
      have hl := binC_len m (i + 1) n _ g _ hx
      have I2 := (IH (1 + j) (by rw [← List.drop_drop]; omega)).2.1 i n (two (lvO i) f g) hi
      rw [← List.drop_drop, ← List.drop_drop, Nat.sub_add_eq] at I2
      exact I2
    · exact sim_ok _
theorem sim_term (n k : Nat) (ts ts' : List Tg) (h : AgrN m m' k ts ts') : Sim k ts ts' (termC m n ts) (termC m' n ts') := (sim_terms _ ts ts' k (Nat.le_refl _) h).1 n
theorem sim_bin (i n k : Nat) (ts ts' : List Tg) (h : AgrN m m' k ts ts') (hi : i ≤ 5) : Sim k ts ts' (binC m i n ts) (binC m' i n ts') := (sim_forms _ ts ts' k (Nat.le_refl _) h).1 (5 - i) i n (by omega)
end
end Go.Proofs.YtkeckecdhcknhaaDoor.Ps

/-
  What the tokens' places are does not matter.
-/
namespace Go.Proofs.YtkeckecdhcknhaaDoor.Ps
open Go Go.RowKit Go.Proofs.YtkeckecdhcknhaaDoor.Fm Go.Proofs.YtkeckecdhcknhaaDoor.Lx
set_option linter.unusedVariables false
set_option linter.unusedSimpArgs false
variable (p : Int → Int) (hp : p 0 = 0)
def re (ts : List Tg) : List Tg := ts.map fun t => ⟨t.k, t.t, p t.a⟩
def R.re {α : Type} : R α → R α
  | .ok a r => .ok a (Ps.re p r)
  | .er a e => .er (p a) e
theorem re_drop (ts : List Tg) (i : Nat) : (re p ts).drop i = re p (ts.drop i) := by unfold re; rw [List.map_drop]
theorem re_tx (ts : List Tg) : tx (re p ts) = tx ts := by cases ts <;> rfl
theorem re_is (ts : List Tg) (s : ByteArray) : is (re p ts) s = is ts s := by unfold is; rw [re_tx]
include hp in
theorem re_bad {α : Type} (ts : List Tg) (e : Int) : (bad (re p ts) e : R α) = (bad ts e : R α).re p := by
  cases ts with
  | nil => show R.er 0 e = R.er (p 0) e; rw [hp]
  | cons t r => rfl
theorem re_bind {α β : Type} {x y : R α} {f g : α → List Tg → R β} (h : x = y.re p) (hf : ∀ a r, f a (re p r) = (g a r).re p) : x.bind f = (y.bind g).re p := by
  subst h
  cases y with
  | ok a r => exact hf a r
  | er a e => rfl
theorem re_ite {α : Type} {c : Prop} [Decidable c] {x y x' y' : R α} (h1 : x = x'.re p) (h2 : y = y'.re p) : (if c then x else y) = (if c then x' else y').re p := by
  split
  · exact h1
  · exact h2
include hp
theorem re_terms (m : Bool) : ∀ k, (∀ n ts, termF m k n (re p ts) = (termF m k n ts).re p) ∧ (∀ n ts, argsF m k n (re p ts) = (argsF m k n ts).re p) ∧ (∀ n ts, listF m k n (re p ts) = (listF m k n ts).re p) ∧ ∀ n l ts, moreF m k n l (re p ts) = (moreF m k n l ts).re p
  | 0 => ⟨fun _ _ => by unfold termF; show R.er 0 0 = R.er (p 0) 0; rw [hp], fun _ _ => by unfold argsF; show R.er 0 0 = R.er (p 0) 0; rw [hp], fun _ _ => by unfold listF; show R.er 0 0 = R.er (p 0) 0; rw [hp], fun _ _ _ => by unfold moreF; show R.er 0 0 = R.er (p 0) 0; rw [hp]⟩
  | k + 1 => by
    obtain ⟨h1, h2, h3, h4⟩ := re_terms m k
    refine ⟨fun n ts => ?_, fun n ts => ?_, fun n ts => ?_, fun n l ts => ?_⟩
    · conv => lhs; rw [termF]
      conv => rhs; rw [termF]
      rw [re_tx, re_drop]
      refine re_ite p (re_bad p hp _ _) (re_ite p rfl (re_ite p (re_bind p (h2 _ _) fun _ _ => rfl) (re_bad p hp _ _)))
    · conv => lhs; rw [argsF]
      conv => rhs; rw [argsF]
      rw [re_is, re_drop]
      refine re_ite p (re_bind p (h3 _ _) fun l r => ?_) rfl
      rw [re_is, re_drop]
      exact re_ite p rfl (re_bad p hp _ _)
    · conv => lhs; rw [listF]
      conv => rhs; rw [listF]
      exact re_bind p (h1 _ _) fun t r => h4 _ _ _
    · conv => lhs; rw [moreF]
      conv => rhs; rw [moreF]
      rw [re_is, re_drop]
      exact re_ite p (re_bind p (h1 _ _) fun t r => h4 _ _ _) rfl
theorem re_meta (m : Bool) (ts : List Tg) : metaP m (re p ts) = (metaP m ts).re p := by
  unfold metaP metaQ metaA metaS metaE metaD
  simp only [re_tx, re_drop, re_is]
  refine re_ite p (re_ite p (re_ite p (re_ite p (re_ite p rfl (re_bad p hp _ _)) (re_bad p hp _ _)) (re_bad p hp _ _)) (re_bad p hp _ _)) rfl
omit hp in
theorem re_len (ts : List Tg) : (re p ts).length = ts.length := by unfold re; simp
theorem re_args (m : Bool) (n : Nat) (ts : List Tg) : argsC m n (re p ts) = (argsC m n ts).re p := by unfold argsC; rw [re_len p]; exact (re_terms p hp m _).2.1 n ts
theorem re_forms (m : Bool) : ∀ k, (∀ i n ts, binF m k i n (re p ts) = (binF m k i n ts).re p) ∧ (∀ i n f ts, chF m k i n f (re p ts) = (chF m k i n f ts).re p) ∧ (∀ n ts, unF m k n (re p ts) = (unF m k n ts).re p) ∧ ∀ n ts, basF m k n (re p ts) = (basF m k n ts).re p
  | 0 => ⟨fun _ _ _ => by unfold binF; show R.er 0 0 = R.er (p 0) 0; rw [hp], fun _ _ _ _ => by unfold chF; show R.er 0 0 = R.er (p 0) 0; rw [hp], fun _ _ => by unfold unF; show R.er 0 0 = R.er (p 0) 0; rw [hp], fun _ _ => by unfold basF; show R.er 0 0 = R.er (p 0) 0; rw [hp]⟩
  | k + 1 => by
    obtain ⟨h1, h2, h3, h4⟩ := re_forms m k
    refine ⟨fun i n ts => ?_, fun i n f ts => ?_, fun n ts => ?_, fun n ts => ?_⟩
    · conv => lhs; rw [binF]
      conv => rhs; rw [binF]
      refine re_ite p (h3 _ _) (re_bind p (h1 _ _ _) fun f r => ?_)
      rw [re_is, re_drop]
      exact re_ite p (re_ite p (re_bind p (h1 _ _ _) fun _ _ => rfl) rfl) (h2 _ _ _ _)
    · conv => lhs; rw [chF]
      conv => rhs; rw [chF]
      rw [re_is, re_drop]
      exact re_ite p (re_bind p (h1 _ _ _) fun g r => h2 _ _ _ _) rfl
    · conv => lhs; rw [unF]
      conv => rhs; rw [unF]
      simp only [re_tx, re_drop]
      refine re_ite p (re_bad p hp _ _) (re_ite p (h4 _ _) (re_ite p (re_ite p (re_bind p (h3 _ _) fun _ _ => rfl) (re_bad p hp _ _)) (re_bind p (h3 _ _) fun _ _ => rfl)))
    · conv => lhs; rw [basF]
      conv => rhs; rw [basF]
      simp only [re_tx, re_drop, re_is]
      refine re_ite p (re_bind p (h1 _ _ _) fun f r => ?_) (re_ite p rfl (re_ite p (re_meta p hp m ts) (re_ite p (re_bind p (re_args p hp m n _) fun _ _ => rfl) (re_bad p hp _ _))))
      rw [re_is, re_drop]
      exact re_ite p rfl (re_bad p hp _ _)
theorem re_bin (m : Bool) (i n : Nat) (ts : List Tg) : binC m i n (re p ts) = (binC m i n ts).re p := by unfold binC; rw [re_len p]; exact (re_forms p hp m _).1 i n ts
end Go.Proofs.YtkeckecdhcknhaaDoor.Ps

/-
  At which token a text is left: what stands behind it does not matter.
-/
namespace Go.Proofs.YtkeckecdhcknhaaDoor.Ps
open Go Go.RowKit Go.Proofs.YtkeckecdhcknhaaDoor.Fm Go.Proofs.YtkeckecdhcknhaaDoor.Lx
set_option linter.unusedVariables false
set_option linter.unusedSimpArgs false
/-- The tokens with their numbers in place of their places. -/
def ixF : Nat → List Tg → List Tg
  | _, [] => []
  | i, t :: r => ⟨t.k, t.t, (i + 1 : Nat)⟩ :: ixF (i + 1) r
theorem ixF_len : ∀ (i : Nat) (ts : List Tg), (ixF i ts).length = ts.length
  | _, [] => rfl
  | i, t :: r => by unfold ixF; rw [List.length_cons, List.length_cons, ixF_len (i + 1) r]
theorem ixF_drop : ∀ (q i : Nat) (ts : List Tg), (ixF i ts).drop q = ixF (i + q) (ts.drop q)
  | 0, i, ts => rfl
  | q + 1, i, [] => by simp [ixF]
  | q + 1, i, t :: r => by
    unfold ixF
    rw [List.drop_succ_cons, List.drop_succ_cons, ixF_drop q (i + 1) r, show i + 1 + q = i + (q + 1) by omega]
    cases r.drop q <;> rfl
theorem ixF_tx (i : Nat) (ts : List Tg) : tx (ixF i ts) = tx ts := by cases ts <;> rfl
theorem ixF_hd (i q : Nat) (ts : List Tg) (h : q < ts.length) : (hd ((ixF i ts).drop q)).a = ((i + q + 1 : Nat) : Int) := by
  rw [ixF_drop]
  cases hd : ts.drop q with
  | nil => rw [List.drop_eq_nil_iff] at hd; omega
  | cons t r => rfl
def phi (ts : List Tg) (z : Int) : Int := if z ≤ 0 then 0 else (hd (ts.drop (z - 1).toNat)).a
theorem phi_zero (ts : List Tg) : phi ts 0 = 0 := rfl
theorem re_ixF (all : List Tg) : ∀ (i : Nat) (ts : List Tg), all.drop i = ts → re (phi all) (ixF i ts) = ts
  | _, [], _ => rfl
  | i, t :: r, h => by
    have h1 : phi all ((i + 1 : Nat) : Int) = t.a := by
      unfold phi
      rw [if_neg (by omega), show (((i + 1 : Nat) : Int) - 1).toNat = i by omega, h]
      rfl
    have h2 : re (phi all) (ixF (i + 1) r) = r := re_ixF all (i + 1) r (by rw [← List.drop_drop, h]; rfl)
    unfold ixF
    show (⟨t.k, t.t, phi all ((i + 1 : Nat) : Int)⟩ : Tg) :: re (phi all) (ixF (i + 1) r) = t :: r
    rw [h1, h2]
/-- The last token is asked for nowhere. -/
def Ended (m : Bool) (ts : List Tg) : Prop := ts ≠ [] ∧ ∀ i, i < ts.length → alive m (tx (ts.drop i)) = true → i + 1 < ts.length
theorem locate (m : Bool) (ts : List Tg) (hE : Ended m ts) :
    (∃ f i, i < ts.length ∧ binC m 0 0 ts = .ok f (ts.drop i) ∧ ∀ ts2, AgrN m m (i + 1) ts ts2 → binC m 0 0 ts2 = .ok f (ts2.drop i)) ∨
    (∃ i e, i < ts.length ∧ (e = 50 ∨ e = 51) ∧ binC m 0 0 ts = bad (ts.drop i) e ∧ ∀ ts2, AgrN m m (i + 1) ts ts2 → binC m 0 0 ts2 = bad (ts2.drop i) e) := by
  have hre := re_bin (phi ts) (phi_zero ts) m 0 0 (ixF 0 ts)
  rw [re_ixF ts 0 ts rfl] at hre
  have hinv : InvR (fun r => ∃ i, i < ts.length ∧ r = (ixF 0 ts).drop i) (binC m 0 0 (ixF 0 ts)) := by
    refine inv_bin (m := m) (fun r ⟨i, hi, e⟩ ha => ⟨i + 1, hE.2 i hi ?_, by rw [e, List.drop_drop]⟩) 0 0 _ ⟨0, List.length_pos_iff.2 hE.1, rfl⟩ (by omega)
    rw [e, ixF_drop, ixF_tx] at ha
    exact ha
  have hag : ∀ k ts2, AgrN m m k ts ts2 → AgrN m m k (ixF 0 ts) ts2 := fun k ts2 h i hi => by
    rw [ixF_drop, ixF_tx]
    exact h i hi
  cases hx : binC m 0 0 (ixF 0 ts) with
  | ok f r =>
    obtain ⟨i, hi, e⟩ := hinv.1 f r hx
    refine .inl ⟨f, i, hi, ?_, fun ts2 h2 => ?_⟩
    · rw [hre, hx]
      show R.ok f (re (phi ts) r) = _
      rw [e, ← re_drop, re_ixF ts 0 ts rfl]
    · rcases sim_bin 0 0 (i + 1) (ixF 0 ts) ts2 (hag _ _ h2) (by omega) with ⟨a, j, hj, e1, e2⟩ | ⟨j, e', hj, e1, e2⟩ | ⟨f1, _⟩
      · rw [hx] at e1
        injection e1 with e1 e3
        subst e1
        have := congrArg List.length (e.symm.trans e3)
        rw [List.length_drop, List.length_drop, ixF_len] at this
        obtain rfl : j = i := by omega
        exact e2
      · rw [hx] at e1; cases e1
      · obtain ⟨q, hq, e3⟩ := f1.1 f r hx
        have := congrArg List.length (e.symm.trans e3)
        rw [List.length_drop, List.length_drop, ixF_len] at this
        omega
  | er a e =>
    obtain ⟨r, ⟨i, hi, er⟩, ha, he⟩ := hinv.2 a e hx
    have ha' : a = ((i + 1 : Nat) : Int) := by rw [ha, er, ixF_hd 0 i ts hi, Nat.zero_add]
    refine .inr ⟨i, e, hi, he, ?_, fun ts2 h2 => ?_⟩
    · rw [hre, hx]
      show R.er (phi ts a) e = R.er (hd (ts.drop i)).a e
      rw [ha']
      unfold phi
      rw [if_neg (by omega), show (((i + 1 : Nat) : Int) - 1).toNat = i by omega]
    · rcases sim_bin 0 0 (i + 1) (ixF 0 ts) ts2 (hag _ _ h2) (by omega) with ⟨b, j, hj, e1, e2⟩ | ⟨j, e', hj, e1, e2⟩ | ⟨f1, _⟩
      · rw [hx] at e1; cases e1
      · rw [hx] at e1
        have e1 : R.er a e = R.er (hd ((ixF 0 ts).drop j)).a e' := e1
        obtain ⟨e4, e3⟩ := R.er.inj e1
        have e5 := ixF_hd 0 j ts (by omega)
        rw [← e4, ha'] at e5
        obtain rfl : j = i := by omega
        rw [e3]
        exact e2
      · obtain ⟨r', ⟨q, hq, e3⟩, e4, _⟩ := f1.2 a e hx
        rw [ha', e3] at e4
        by_cases hql : q < ts.length
        · rw [ixF_hd 0 q ts hql] at e4; omega
        · rw [List.drop_eq_nil_iff.2 (by rw [ixF_len]; omega)] at e4
          have e4 : ((i + 1 : Nat) : Int) = 0 := e4
          omega
theorem alive_end (m : Bool) : alive m ⟨#[]⟩ = false := by cases m <;> kernel_rfl
end Go.Proofs.YtkeckecdhcknhaaDoor.Ps

/-
  Two tokens, one directly behind the other.
-/
namespace Go.Proofs.YtkeckecdhcknhaaDoor.Lx
set_option linter.unusedVariables false
set_option linter.unusedSimpArgs false
variable (K : Kinds)
theorem tw_next (r r2 : Bs) (c : UInt8) (hc : lod c = false) : (r.takeWhile lod ++ c :: r2).takeWhile lod = r.takeWhile lod := by
  induction r with
  | nil => rw [List.takeWhile_nil, List.nil_append, List.takeWhile_cons, if_neg (by rw [hc]; decide)]
  | cons a r ih =>
    rw [List.takeWhile_cons]
    split
    · rename_i h; rw [List.cons_append, List.takeWhile_cons, if_pos h, ih]
    · rw [List.nil_append, List.takeWhile_cons, if_neg (by rw [hc]; decide)]
theorem tw_stop (r : Bs) (c : UInt8) (r2 : Bs) (h : r.drop (r.takeWhile lod).length = c :: r2) : lod c = false := by
  induction r with
  | nil => simp at h
  | cons a r ih =>
    rw [List.takeWhile_cons] at h
    split at h
    · exact ih (by simpa using h)
    · rename_i h1
      simp only [List.length_nil, List.drop_zero, List.cons.injEq] at h
      rw [← h.1]; simpa using h1
theorem sgn_next (c : UInt8) (r : Bs) (h : sgn (c :: r) ≠ 0) (d : UInt8) (r2 r3 : Bs) (hd : (c :: r).drop (sgn (c :: r)) = d :: r2) : sgn ((c :: r).take (sgn (c :: r)) ++ d :: r3) = sgn (c :: r) := by
  rw [sgn_cons] at h hd ⊢
  split
  · rename_i h1
    rw [if_pos h1] at h hd
    split
    · rename_i h2
      match r, h2 with
      | a :: b :: r, h2 =>
        show sgn (c :: a :: b :: d :: r3) = 3
        rw [sgn_cons, if_pos h1]; exact if_pos h2
      | [a], h2 => simp at h2
      | [], h2 => simp at h2
    · rename_i h2
      rw [if_neg h2] at h
      split
      · rename_i h3
        match r, h3 with
        | a :: r, h3 =>
          have e : a = 62 := by simpa using h3
          subst e
          show sgn (c :: 62 :: d :: r3) = 2
          rw [sgn_cons, if_pos h1, if_neg (by simp)]; exact if_pos h3
        | [], h3 => simp at h3
      · rename_i h3; rw [if_neg h3] at h; exact absurd rfl h
  · rename_i h1
    rw [if_neg h1] at h hd
    split
    · rename_i h2
      rw [if_pos h2] at h
      split
      · rename_i h3
        match r, h3 with
        | a :: r, h3 =>
          show sgn (c :: a :: d :: r3) = 2
          rw [sgn_cons, if_neg h1, if_pos h2]; exact if_pos h3
        | [], h3 => simp at h3
      · rename_i h3; rw [if_neg h3] at h; exact absurd rfl h
    · rename_i h2
      rw [if_neg h2] at h hd
      split
      · rename_i h3
        rw [if_pos h3] at h hd
        split
        · rename_i h4
          match r, h4 with
          | a :: r, h4 =>
            show sgn (c :: a :: d :: r3) = 2
            rw [sgn_cons, if_neg h1, if_neg h2, if_pos h3]; exact if_pos h4
          | [], h4 => simp at h4
        · rename_i h4
          rw [if_neg h4] at hd
          have hr : r = d :: r2 := by simpa using hd
          show sgn (c :: d :: r3) = 1
          rw [sgn_cons, if_neg h1, if_neg h2, if_pos h3, if_neg]
          rw [hr] at h4
          simpa using h4
      · rename_i h3
        rw [if_neg h3] at h
        split
        · rename_i h4
          show sgn (c :: d :: r3) = 1
          rw [sgn_cons, if_neg h1, if_neg h2, if_neg h3, if_pos h4]
        · rename_i h4; rw [if_neg h4] at h; exact absurd rfl h
/-- What is read looks no further than at the next byte. -/
theorem tok1_next (c : UInt8) (r : Bs) (h : (tok1 K (c :: r)).2.2 = 0) (d : UInt8) (r2 r3 : Bs) (hd : (c :: r).drop (tok1 K (c :: r)).2.1 = d :: r2) : tok1 K ((c :: r).take (tok1 K (c :: r)).2.1 ++ d :: r3) = tok1 K (c :: r) ∧
    ((tok1 K (c :: r)).1 = 4 ∨ lod d = false) := by
  rw [tok1_cons] at h hd ⊢
  split
  · rename_i h1
    rw [if_pos h1] at h hd
    split
    · rename_i h2; rw [if_pos h2] at h; simp at h
    · rename_i h2
      rw [if_neg h2] at hd
      have hs : lod d = false := tw_stop r d r2 (by simpa using hd)
      refine ⟨?_, .inr hs⟩
      simp only [List.take_succ_cons, take_tw, List.cons_append]
      rw [tok1_cons, if_pos h1, tw_next _ _ _ hs, if_neg h2]
  · rename_i h1
    rw [if_neg h1] at h hd
    split
    · rename_i h2
      rw [if_pos h2] at h hd
      split
      · rename_i h3; rw [if_pos h3] at h; simp at h
      · rename_i h3
        rw [if_neg h3] at hd
        have hs : lod d = false := tw_stop r d r2 (by simpa using hd)
        refine ⟨?_, .inr hs⟩
        simp only [List.take_succ_cons, take_tw, List.cons_append]
        rw [tok1_cons, if_neg h1, if_pos h2, tw_next _ _ _ hs, if_neg h3]
    · rename_i h2
      rw [if_neg h2] at h hd
      split
      · rename_i h3; rw [if_pos h3] at h; simp at h
      · rename_i h3
        rw [if_neg h3] at hd
        have h4 := sgn_next c r h3 d r2 r3 hd
        refine ⟨?_, .inl rfl⟩
        obtain ⟨n, hn⟩ : ∃ n, sgn (c :: r) = n + 1 := ⟨sgn (c :: r) - 1, by omega⟩
        simp only
        rw [hn, List.take_succ_cons] at h4 ⊢
        rw [List.cons_append] at h4 ⊢
        rw [tok1_cons, if_neg h1, if_neg h2, h4, if_neg (by omega)]
/-- What kind a token has that begins with no letter or digit. -/
theorem tok1_kind (c : UInt8) (r : Bs) (h : (tok1 K (c :: r)).2.2 = 0) (hc : lod c = false) : (tok1 K (c :: r)).1 = 4 ∨ (tok1 K (c :: r)).1 = 2 := by
  have hl : ltr c = false := by unfold lod at hc; simp at hc; exact hc.1
  rw [tok1_cons, hl] at h ⊢
  simp only [Bool.false_eq_true, if_false] at h ⊢
  split
  · rename_i h2
    rw [if_pos h2] at h
    split
    · rename_i h3; rw [if_pos h3] at h; simp at h
    · rename_i h3
      right
      rcases K.mne (c :: r.takeWhile lod) with h4 | h4
      · exact absurd h4 h3
      · exact h4
  · rename_i h2
    rw [if_neg h2] at h
    split
    · rename_i h3; rw [if_pos h3] at h; simp at h
    · exact .inl rfl
theorem adj {l : Bs} {k n k' n' : Nat} (h : tok1 K l = (k, n, 0)) (h2 : tok1 K (l.drop n) = (k', n', 0)) :
    toks K 0 (l.take n ++ (l.drop n).take n') = [(⟨k, l.take n, 0⟩, 0), (⟨k', (l.drop n).take n', n⟩, 0), (⟨5, [], n + n'⟩, 0)] ∧ (k = 4 ∨ k' = 4 ∨ k' = 2) := by
  match l, h with
  | [], h => simp [tok1] at h
  | c :: r, h =>
    have hb := tok1_bd K (l := c :: r) (by rw [h])
    rw [h] at hb
    have hnn : 1 ≤ n ∧ n ≤ (c :: r).length := ⟨hb.1, hb.2.1⟩
    match hd : (c :: r).drop n, h2 with
    | [], h2 => simp [tok1] at h2
    | d :: r2, h2 =>
      have hb2 := tok1_bd K (l := d :: r2) (by rw [h2])
      rw [h2] at hb2
      have hn2 : 1 ≤ n' ∧ n' ≤ (d :: r2).length := ⟨hb2.1, hb2.2.1⟩
      obtain ⟨m', rfl⟩ : ∃ m', n' = m' + 1 := ⟨n' - 1, by omega⟩
      have hnx := tok1_next K c r (by rw [h]) d r2 (r2.take m') (by rw [h]; exact hd)
      rw [h] at hnx
      have hself := self_of K (c := d) (l := r2) (by rw [h2])
      rw [h2] at hself
      have hblk := blk_err K (c := c) (l := r) (by rw [h])
      constructor
      · have ht : (d :: r2).take (m' + 1) = d :: r2.take m' := List.take_succ_cons
        obtain ⟨m, rfl⟩ : ∃ m, n = m + 1 := ⟨n - 1, by omega⟩
        have hlen : ((c :: r).take (m + 1)).length = m + 1 := by rw [List.length_take]; omega
        have h3 : tok1 K ((c :: r).take (m + 1) ++ (d :: r2).take (m' + 1)) = (k, m + 1, 0) := by rw [ht]; exact hnx.1
        have h5 : toks K 0 ((c :: r).take (m + 1) ++ (d :: r2).take (m' + 1)) = (⟨k, (c :: r).take (m + 1), 0⟩, 0) :: toks K (m + 1) ((d :: r2).take (m' + 1)) := by
          rw [List.take_succ_cons, List.cons_append] at h3 ⊢
          rw [toks_tok K hblk (by rw [h3]), h3]
          simp only [Nat.zero_add]
          rw [← List.cons_append, ← List.take_succ_cons, List.take_left' hlen, List.drop_left' hlen]
        have h6 := toks_self K hself (m + 1) [] trivial
        rw [List.append_nil, toks_nil] at h6
        have hlen2 : ((d :: r2).take (m' + 1)).length = m' + 1 := by rw [List.length_take]; omega
        rw [h5, h6, hlen2]
      · rcases hnx.2 with h4 | h4
        · exact .inl h4
        · have := tok1_kind K d r2 (by rw [h2]) h4
          rw [h2] at this
          exact .inr this
end Go.Proofs.YtkeckecdhcknhaaDoor.Lx

/-
  The tokens of a text that is cut between two tokens.
-/
namespace Go.Proofs.YtkeckecdhcknhaaDoor.Lx
set_option linter.unusedVariables false
variable (K : Kinds)
/-- A token, and what stood behind it up to some place. -/
theorem toks_pre {c : UInt8} {l : Bs} (hb : blk c = false) (h : (tok1 K (c :: l)).2.2 = 0) (off p : Nat) :
    toks K off ((c :: l).take (tok1 K (c :: l)).2.1 ++ ((c :: l).drop (tok1 K (c :: l)).2.1).take p) = (⟨(tok1 K (c :: l)).1, (c :: l).take (tok1 K (c :: l)).2.1, off⟩, 0) :: toks K (off + (tok1 K (c :: l)).2.1) (((c :: l).drop (tok1 K (c :: l)).2.1).take p) := by
  have hbd := tok1_bd K h
  have hlen : ((c :: l).take (tok1 K (c :: l)).2.1).length = (tok1 K (c :: l)).2.1 := by rw [List.length_take]; omega
  cases hX : ((c :: l).drop (tok1 K (c :: l)).2.1).take p with
  | nil =>
    have := toks_self K (self_of K h) off [] trivial
    rw [hlen] at this
    exact this
  | cons d r3 =>
    cases hd : (c :: l).drop (tok1 K (c :: l)).2.1 with
    | nil => rw [hd] at hX; simp at hX
    | cons d' r2 =>
      rw [hd] at hX
      cases p with
      | zero => simp at hX
      | succ p =>
        rw [List.take_succ_cons] at hX
        injection hX with e1 e2
        subst e1
        have hn := (tok1_next K c l h d' r2 r3 hd).1
        obtain ⟨n, hn1⟩ : ∃ n, (tok1 K (c :: l)).2.1 = n + 1 := ⟨(tok1 K (c :: l)).2.1 - 1, by omega⟩
        have hc : (c :: l).take (tok1 K (c :: l)).2.1 ++ d' :: r3 = c :: (l.take n ++ d' :: r3) := by rw [hn1, List.take_succ_cons]; rfl
        rw [hc] at hn ⊢
        rw [toks_tok K hb (by rw [hn]; exact h), hn]
        rw [← hc]
        congr 2
        · congr 1
          rw [List.take_append_of_le_length (by rw [hlen]; exact Nat.le_refl _), List.take_of_length_le (by rw [hlen]; exact Nat.le_refl _)]
        · rw [List.drop_append_of_le_length (by rw [hlen]; exact Nat.le_refl _), List.drop_of_length_le (by rw [hlen]; exact Nat.le_refl _)]
          rfl
structure CutQ (off : Nat) (l : Bs) (j : Nat) (y : Tk × Nat) : Prop where
  ge : off ≤ y.1.a
  le : y.1.a - off ≤ l.length
  a : toks K off (l.take (y.1.a - off)) = (toks K off l).take j ++ [(⟨5, [], y.1.a⟩, 0)]
  b : y.2 = 0 → y.1.k ≠ 5 → y.1.a - off + y.1.t.length ≤ l.length ∧ toks K off (l.take (y.1.a - off + y.1.t.length)) = (toks K off l).take (j + 1) ++ [(⟨5, [], y.1.a + y.1.t.length⟩, 0)]
theorem toks_cut (off : Nat) (l : Bs) : ∀ j y, (toks K off l)[j]? = some y → CutQ K off l j y := by
  refine toks_ind K (M := fun off l => ∀ j y, (toks K off l)[j]? = some y → CutQ K off l j y) ?_ ?_ ?_ ?_ off l
  · intro off j y h
    rw [toks_nil] at h
    cases j with
    | zero =>
      simp only [List.getElem?_cons_zero, Option.some.injEq] at h
      subst h
      exact ⟨Nat.le_refl _, by simp, by simp [toks_nil], fun _ h5 => absurd rfl h5⟩
    | succ j => simp at h
  · intro off c l hc ih j y h
    rw [toks_blank K hc] at h
    obtain ⟨h1, h2, h3, h4⟩ := ih j y h
    have e : y.1.a - off = y.1.a - (off + 1) + 1 := by omega
    refine ⟨by omega, by simp; omega, ?_, fun hy hk => ?_⟩
    · rw [e, List.take_succ_cons, toks_blank K hc, toks_blank K hc]; exact h3
    · obtain ⟨h5, h6⟩ := h4 hy hk
      refine ⟨by simp; omega, ?_⟩
      rw [show y.1.a - off + y.1.t.length = y.1.a - (off + 1) + y.1.t.length + 1 by omega, List.take_succ_cons, toks_blank K hc, toks_blank K hc]; exact h6
  · intro off c l hc he j y h
    rw [toks_err K hc he] at h
    cases j with
    | zero =>
      simp only [List.getElem?_cons_zero, Option.some.injEq] at h
      subst h
      exact ⟨Nat.le_refl _, by simp, by simp [toks_nil], fun h0 _ => absurd h0 he⟩
    | succ j => simp at h
  · intro off c l hc h0 ih j y h
    have hbd := tok1_bd K h0
    have hlen : ((c :: l).take (tok1 K (c :: l)).2.1).length = (tok1 K (c :: l)).2.1 := by rw [List.length_take]; omega
    have hT := toks_tok K hc h0 off
    rw [hT] at h
    cases j with
    | zero =>
      simp only [List.getElem?_cons_zero, Option.some.injEq] at h
      subst h
      refine ⟨Nat.le_refl _, by simp, by simp [toks_nil], fun _ _ => ⟨by simp only [hlen]; omega, ?_⟩⟩
      have := toks_pre K hc h0 off 0
      rw [List.take_zero, List.append_nil, toks_nil] at this
      simp only [Nat.sub_self, Nat.zero_add, hlen]
      rw [this, hT]
      rfl
    | succ j =>
      rw [List.getElem?_cons_succ] at h
      obtain ⟨h1, h2, h3, h4⟩ := ih j y h
      rw [List.length_drop] at h2
      have key : ∀ q, (c :: l).take ((tok1 K (c :: l)).2.1 + q) = (c :: l).take (tok1 K (c :: l)).2.1 ++ ((c :: l).drop (tok1 K (c :: l)).2.1).take q := fun q => List.take_add ..
      refine ⟨by omega, by omega, ?_, fun hy hk => ?_⟩
      · rw [show y.1.a - off = (tok1 K (c :: l)).2.1 + (y.1.a - (off + (tok1 K (c :: l)).2.1)) by omega, key, toks_pre K hc h0, h3, hT]
        rfl
      · obtain ⟨h5, h6⟩ := h4 hy hk
        rw [List.length_drop] at h5
        refine ⟨by omega, ?_⟩
        rw [show y.1.a - off + y.1.t.length = (tok1 K (c :: l)).2.1 + (y.1.a - (off + (tok1 K (c :: l)).2.1) + y.1.t.length) by omega, key, toks_pre K hc h0, h6, hT]
        rfl
theorem toks_inc (off : Nat) (l : Bs) : (∀ y ∈ toks K off l, off ≤ y.1.a) ∧ (toks K off l).Pairwise (fun y z => y.1.a < z.1.a) := by
  refine toks_ind K (M := fun off l => (∀ y ∈ toks K off l, off ≤ y.1.a) ∧ (toks K off l).Pairwise (fun y z => y.1.a < z.1.a)) ?_ ?_ ?_ ?_ off l
  · intro off; rw [toks_nil]; exact ⟨by simp, by simp⟩
  · intro off c l hc ih; rw [toks_blank K hc]; exact ⟨fun y hy => by have := ih.1 y hy; omega, ih.2⟩
  · intro off c l hc he; rw [toks_err K hc he]; exact ⟨by simp, by simp⟩
  · intro off c l hc h0 ih
    have hbd := tok1_bd K h0
    rw [toks_tok K hc h0]
    refine ⟨fun y hy => ?_, List.pairwise_cons.2 ⟨fun y hy => ?_, ih.2⟩⟩
    · rcases List.mem_cons.1 hy with rfl | hy
      · exact Nat.le_refl _
      · have := ih.1 y hy; omega
    · have := ih.1 y hy
      show off < _
      omega
end Go.Proofs.YtkeckecdhcknhaaDoor.Lx

/-
  What ParseFirst says, as plain mathematics.
-/
namespace Go.Proofs.YtkeckecdhcknhaaDoor.Ps
open Go Go.RowKit Go.Proofs.YtkeckecdhcknhaaDoor.Fm Go.Proofs.YtkeckecdhcknhaaDoor.Lx
set_option linter.unusedVariables false
set_option linter.unusedSimpArgs false
theorem lexErr_40 {s : ByteArray} {a n : Int} (h : lexErr s = some (a, n)) : n = 40 ∨ n = 41 := by
  have hne := lexErr_ne h
  unfold lexErr at h
  split at h
  · obtain ⟨zs, x, e1, e2, e3⟩ := toks_ends KK 0 s.data.toList
    have e1 : ysL s = zs ++ [x] := e1
    rw [e1, List.getLast?_concat] at h
    simp only [Option.map_some, Option.some.injEq, Prod.mk.injEq] at h
    obtain ⟨rfl, rfl⟩ := h
    rcases e3 with ⟨h0, _⟩ | ⟨h0, _⟩
    · rw [h0] at hne; exact absurd rfl hne
    · omega
  · cases h
theorem lexErr_none {s : ByteArray} : lexErr s = none ↔ errs (ysL s) = false := by
  obtain ⟨zs, x, e1, e2, e3⟩ := toks_ends KK 0 s.data.toList
  have e1 : ysL s = zs ++ [x] := e1
  unfold lexErr
  cases he : errs (ysL s) with
  | false => simp
  | true => rw [e1, List.getLast?_concat]; simp
theorem ended_tok {ts : List Tg} (m : Bool) (h : TOK ts) : Ended m ts := by
  obtain ⟨pre, a, hts, hp⟩ := h.h
  refine ⟨h.ne, fun i hi ha => ?_⟩
  by_cases hl : i + 1 < ts.length
  · exact hl
  · have h1 : ts.length = pre.length + 1 := by rw [hts]; simp
    have : i = pre.length := by omega
    subst this
    rw [hts, List.drop_left] at ha
    have ha : alive m ⟨#[]⟩ = true := ha
    rw [alive_end] at ha
    exact absurd ha (by decide)
theorem hd_drop {ts : List Tg} {i : Nat} (h : i < ts.length) : hd (ts.drop i) = ts[i] := by
  unfold hd
  rw [List.drop_eq_getElem_cons h]
  rfl
/-- At which token a text is left, with which error. -/
theorem first_at (m : Bool) (rt : Fo → Bool) (s : ByteArray) (hs : s.size ≤ 16384) (he : (formRes m rt s).2.2 = 50 ∨ (formRes m rt s).2.2 = 51) :
    lexErr s = none ∧ ∃ i, ∃ hi : i < (tgL s).length, (formRes m rt s).2.1 = ((tgL s)[i]).a ∧
      ((∃ f, (formRes m rt s).2.2 = 50 ∧ ((tgL s)[i]).k ≠ 5 ∧ ∀ ts2, AgrN m m (i + 1) (tgL s) ts2 → binC m 0 0 ts2 = .ok f (ts2.drop i)) ∨
       (∀ ts2, AgrN m m (i + 1) (tgL s) ts2 → binC m 0 0 ts2 = bad (ts2.drop i) (formRes m rt s).2.2)) := by
  unfold formRes at he ⊢
  cases hl : lexErr s with
  | some an =>
    obtain ⟨a, n⟩ := an
    rw [hl] at he
    have := lexErr_40 hl
    simp only at he
    omega
  | none =>
    rw [hl] at he
    simp only at he ⊢
    refine ⟨trivial, ?_⟩
    have hE := ended_tok m (tok_tgL hs hl).1
    rcases locate m (tgL s) hE with ⟨f, i, hi, hx, hloc⟩ | ⟨i, e, hi, hee, hx, hloc⟩
    · rw [hx] at he ⊢
      unfold endC at he ⊢
      simp only [hd_drop hi] at he ⊢
      by_cases h5 : ((tgL s)[i]).k == 5
      · rw [if_pos h5] at he
        split at he <;> simp at he
      · rw [if_neg h5]
        exact ⟨i, hi, rfl, .inl ⟨f, rfl, fun e => h5 (by rw [e]; rfl), hloc⟩⟩
    · rw [hx]
      exact ⟨i, hi, by show (hd ((tgL s).drop i)).a = _; rw [hd_drop hi], .inr hloc⟩
theorem tgL_map (s : ByteArray) : tgL s = (ysL s).map (fun y => toG y.1) := by unfold tgL tksL; rw [List.map_map]; rfl
theorem tgL_get {s : ByteArray} {i : Nat} (hi : i < (tgL s).length) : ∃ y, (ysL s)[i]? = some y ∧ (tgL s)[i] = toG y.1 := by
  have h : (tgL s)[i]? = some (tgL s)[i] := List.getElem?_eq_getElem hi
  have h2 : (tgL s)[i]? = ((ysL s)[i]?).map (fun y => toG y.1) := by rw [tgL_map, List.getElem?_map]
  rw [h2] at h
  obtain ⟨y, hy, e⟩ := Option.map_eq_some_iff.1 h
  exact ⟨y, hy, e.symm⟩
theorem ex_list (s : ByteArray) (n : Nat) : (s.extract 0 n).data.toList = s.data.toList.take n := by simp [ByteArray.data_extract]
theorem agr_pre {m : Bool} {ts us vs : List Tg} {k : Nat} (h : us = ts.take k ++ vs) (j : Nat) (hj : j ≤ k) (hk : k ≤ ts.length) : AgrN m m j ts us ∧ AgrN m m j us ts := by
  have key : ∀ i, i < j → tx (us.drop i) = tx (ts.drop i) := fun i hi => by
    rw [h, List.drop_append_of_le_length (by rw [List.length_take]; omega), List.drop_take]
    unfold tx hd
    cases hd : ts.drop i with
    | nil => rw [List.drop_eq_nil_iff] at hd; omega
    | cons t r =>
      obtain ⟨q, hq⟩ : ∃ q, k - i = q + 1 := ⟨k - i - 1, by omega⟩
      rw [hq, List.take_succ_cons]
      rfl
  exact ⟨fun i hi => .inl ⟨(key i hi).symm, rfl, rfl⟩, fun i hi => .inl ⟨key i hi, rfl, rfl⟩⟩
theorem first_facts (m : Bool) (rt : Fo → Bool) (s behind : ByteArray) (hs : s.size ≤ 1500) (hb : behind.size ≤ 1000) (he : (formRes m rt s).2.2 = 50 ∨ (formRes m rt s).2.2 = 51) :
    lexErr s = none ∧ ∃ i n : Nat, ∃ hi : i < (tgL s).length, n ≤ s.size ∧ (formRes m rt s).2.1 = (n : Int) ∧ ((tgL s)[i]).a = (n : Int) ∧ (∀ q (hq : q < i), ((tgL s)[q]'(Nat.lt_trans hq hi)).a ≠ (n : Int)) ∧
      ((formRes m rt (s.extract 0 n)).2.2 = 0 ∨ (formRes m rt (s.extract 0 n)).2.2 = 3 ∨ (((formRes m rt (s.extract 0 n)).2.2 = 50 ∨ (formRes m rt (s.extract 0 n)).2.2 = 51) ∧ (n : Int) ≤ (formRes m rt (s.extract 0 n)).2.1)) ∧
      (((tgL s)[i]).k ≠ 5 → n + ((tgL s)[i]).t.size ≤ s.size ∧ (lexErr behind = none → (formRes m rt ((s.extract 0 (n + ((tgL s)[i]).t.size) ++ ⟨#[32]⟩) ++ behind)).2.1 = (n : Int) ∧
        (formRes m rt ((s.extract 0 (n + ((tgL s)[i]).t.size) ++ ⟨#[32]⟩) ++ behind)).2.2 = (formRes m rt s).2.2)) := by
  obtain ⟨hl, i, hi, hat, hout⟩ := first_at m rt s (by omega) he
  obtain ⟨y, hy, hyt⟩ := tgL_get hi
  have hcut := toks_cut KK 0 s.data.toList i y hy
  have hinc := toks_inc KK 0 s.data.toList
  have hle : y.1.a ≤ s.size := by have := hcut.le; rw [Nat.sub_zero] at this; exact this
  have hya : ((tgL s)[i]).a = (y.1.a : Int) := by rw [hyt]; rfl
  have hself : AgrN m m (i + 1) (tgL s) (tgL s) := fun q hq => .inl ⟨rfl, rfl, rfl⟩
  have hlt : ∀ q (hq : q < (tgL s).length) (r : Nat) (hr : r < (tgL s).length), q < r → ((tgL s)[q]).a < ((tgL s)[r]).a := fun q hq r hr hqr => by
    obtain ⟨yq, h1, e1⟩ := tgL_get hq
    obtain ⟨yr, h2, e2⟩ := tgL_get hr
    obtain ⟨hq', g1⟩ := List.getElem?_eq_some_iff.1 h1
    obtain ⟨hr', g2⟩ := List.getElem?_eq_some_iff.1 h2
    have := List.pairwise_iff_getElem.1 hinc.2 q r hq' hr' hqr
    have this : (ysL s)[q].1.a < (ysL s)[r].1.a := this
    rw [g1, g2] at this
    rw [e1, e2]
    show (yq.1.a : Int) < (yr.1.a : Int)
    omega
  have hers : errs (ysL s) = false := lexErr_none.1 hl
  refine ⟨hl, i, y.1.a, hi, hle, hat.trans hya, hya, fun q hq => ?_, ?_, fun h5 => ?_⟩
  · have := hlt q (Nat.lt_trans hq hi) i hi hq
    omega
  · -- the text up to the token
    have hys1 : ysL (s.extract 0 y.1.a) = (ysL s).take i ++ [(⟨5, [], y.1.a⟩, 0)] := by
      have := hcut.a
      rw [Nat.sub_zero] at this
      unfold ysL
      rw [ex_list]
      exact this
    have hl1 : lexErr (s.extract 0 y.1.a) = none := by
      rw [lexErr_none, hys1]
      unfold errs
      rw [List.any_append]
      have : ((ysL s).take i).any (fun y => y.2 != 0) = false := by
        rw [List.any_eq_false]
        intro z hz
        rw [errs_all hers z (List.mem_of_mem_take hz)]
        decide
      rw [this]
      rfl
    have hts1 : tgL (s.extract 0 y.1.a) = (tgL s).take i ++ [⟨5, ⟨#[]⟩, (y.1.a : Int)⟩] := by
      rw [tgL_map, hys1, List.map_append, List.map_take, ← tgL_map]
      rfl
    have hsz1 : (s.extract 0 y.1.a).size ≤ 16384 := by rw [ByteArray.size_extract]; omega
    have hlen1 : (tgL (s.extract 0 y.1.a)).length = i + 1 := by rw [hts1, List.length_append, List.length_take]; simp; omega
    have hE1 := ended_tok m (tok_tgL hsz1 hl1).1
    have hagr := fun j (hj : j ≤ i) => (agr_pre (m := m) hts1 j hj (Nat.le_of_lt hi)).2
    have hd1 : (tgL (s.extract 0 y.1.a)).drop i = [⟨5, ⟨#[]⟩, (y.1.a : Int)⟩] := by
      rw [hts1, List.drop_left' (by rw [List.length_take]; omega)]
    have hfr : formRes m rt (s.extract 0 y.1.a) = endC rt (binC m 0 0 (tgL (s.extract 0 y.1.a))) := by unfold formRes; rw [hl1]
    rw [hfr]
    rcases locate m _ hE1 with ⟨f, i1, hi1, hx, hloc⟩ | ⟨i1, e, hi1, hee, hx, hloc⟩
    · by_cases hii : i1 < i
      · have h2 := hloc (tgL s) (hagr (i1 + 1) (by omega))
        rcases hout with ⟨f', _, _, h3⟩ | h3
        · have h3 := h3 _ hself
          rw [h2] at h3
          injection h3 with _ h3
          have := congrArg List.length h3
          rw [List.length_drop, List.length_drop] at this
          omega
        · have h3 := h3 _ hself
          rw [h2] at h3
          cases h3
      · obtain rfl : i1 = i := by omega
        rw [hx, hd1]
        have hE : endC rt (R.ok f [⟨5, ⟨#[]⟩, (y.1.a : Int)⟩]) = if rt f then (some f, 0, 0) else (none, 0, 3) := by simp [endC, hd]
        rw [hE]
        cases rt f
        · exact .inr (.inl rfl)
        · exact .inl rfl
    · by_cases hii : i1 < i
      · have h2 := hloc (tgL s) (hagr (i1 + 1) (by omega))
        rcases hout with ⟨f', _, _, h3⟩ | h3
        · have h3 := h3 _ hself
          rw [h2] at h3
          cases h3
        · have h3 := h3 _ hself
          rw [h2] at h3
          have h4 := (R.er.inj h3).1
          rw [hd_drop (by omega), hd_drop hi] at h4
          have := hlt i1 (by omega) i hi hii
          omega
      · obtain rfl : i1 = i := by omega
        rw [hx, hd1]
        exact .inr (.inr ⟨hee, Int.le_refl _⟩)
  · have hk5 : y.1.k ≠ 5 := fun e => h5 (by rw [hyt]; show ((y.1.k : Nat) : Int) = 5; rw [e]; rfl)
    have hy0 : y.2 = 0 := errs_all hers y (List.mem_of_getElem? hy)
    obtain ⟨hb1, hb2⟩ := hcut.b hy0 hk5
    rw [Nat.sub_zero] at hb1 hb2
    have htl : ((tgL s)[i]).t.size = y.1.t.length := by rw [hyt]; simp [toG, bs, ByteArray.size]
    rw [htl]
    have hb1' : y.1.a + y.1.t.length ≤ s.size := hb1
    refine ⟨hb1', fun hlb => ?_⟩
    have hlist : ((s.extract 0 (y.1.a + y.1.t.length) ++ ⟨#[32]⟩) ++ behind).data.toList = s.data.toList.take (y.1.a + y.1.t.length) ++ (32 :: behind.data.toList) := by
      rw [← ex_list]
      simp
    have hA : errs (toks KK 0 (s.data.toList.take (y.1.a + y.1.t.length))) = false := by
      rw [hb2]
      unfold errs
      rw [List.any_append]
      have : ((ysL s).take (i + 1)).any (fun y => y.2 != 0) = false := by
        rw [List.any_eq_false]
        intro z hz
        rw [errs_all hers z (List.mem_of_mem_take hz)]
        decide
      have this : ((toks KK 0 s.data.toList).take (i + 1)).any (fun y => y.2 != 0) = false := this
      rw [this]
      rfl
    have hys2 : ysL ((s.extract 0 (y.1.a + y.1.t.length) ++ ⟨#[32]⟩) ++ behind) = (ysL s).take (i + 1) ++ toks KK (0 + (s.data.toList.take (y.1.a + y.1.t.length)).length + 1) behind.data.toList := by
      unfold ysL
      rw [hlist, toks_both KK 0 _ 32 _ (by decide), hA]
      simp only [Bool.false_eq_true, if_false]
      rw [hb2, List.dropLast_concat]
    have hmv : errs (toks KK (0 + (s.data.toList.take (y.1.a + y.1.t.length)).length + 1) behind.data.toList) = false := by
      have := toks_mv KK (0 + (s.data.toList.take (y.1.a + y.1.t.length)).length + 1) 0 behind.data.toList
      rw [Nat.zero_add] at this
      rw [Nat.zero_add] at this ⊢
      rw [this]
      have hbe := lexErr_none.1 hlb
      unfold errs ysL at hbe
      unfold errs
      rw [List.any_map]
      exact hbe
    have hl2 : lexErr ((s.extract 0 (y.1.a + y.1.t.length) ++ ⟨#[32]⟩) ++ behind) = none := by
      rw [lexErr_none, hys2]
      unfold errs at hmv ⊢
      rw [List.any_append, hmv]
      have : ((ysL s).take (i + 1)).any (fun y => y.2 != 0) = false := by
        rw [List.any_eq_false]
        intro z hz
        rw [errs_all hers z (List.mem_of_mem_take hz)]
        decide
      rw [this]
      rfl
    obtain ⟨vs, hts2⟩ : ∃ vs, tgL ((s.extract 0 (y.1.a + y.1.t.length) ++ ⟨#[32]⟩) ++ behind) = (tgL s).take (i + 1) ++ vs := by
      refine ⟨(toks KK (0 + (s.data.toList.take (y.1.a + y.1.t.length)).length + 1) behind.data.toList).map (fun y => toG y.1), ?_⟩
      rw [tgL_map, hys2, List.map_append, List.map_take, ← tgL_map]
    have hag := (agr_pre (m := m) hts2 (i + 1) (Nat.le_refl _) (by omega)).1
    have hhd : hd ((tgL ((s.extract 0 (y.1.a + y.1.t.length) ++ ⟨#[32]⟩) ++ behind)).drop i) = (tgL s)[i] := by
      rw [hts2, List.drop_append_of_le_length (by rw [List.length_take]; omega), List.drop_take, List.drop_eq_getElem_cons hi, show i + 1 - i = 0 + 1 by omega, List.take_succ_cons]
      rfl
    have hfr : formRes m rt ((s.extract 0 (y.1.a + y.1.t.length) ++ ⟨#[32]⟩) ++ behind) = endC rt (binC m 0 0 (tgL ((s.extract 0 (y.1.a + y.1.t.length) ++ ⟨#[32]⟩) ++ behind))) := by unfold formRes; rw [hl2]
    rw [hfr]
    rcases hout with ⟨f, h50, hk, h3⟩ | h3
    · rw [h3 _ hag]
      unfold endC
      simp only [hhd]
      rw [if_neg (by rw [beq_iff_eq]; exact hk)]
      exact ⟨hya, h50.symm⟩
    · rw [h3 _ hag]
      show (hd _).a = _ ∧ _ = _
      rw [hhd]
      exact ⟨hya, rfl⟩
end Go.Proofs.YtkeckecdhcknhaaDoor.Ps
