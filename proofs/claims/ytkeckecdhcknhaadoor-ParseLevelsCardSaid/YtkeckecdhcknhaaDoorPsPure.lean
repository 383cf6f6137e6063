/-
  The grammar as functions over lists of tokens.
-/
import Derived.Test.YtkeckecdhcknhaaDoorLxTg
namespace Go.Proofs.YtkeckecdhcknhaaDoor.Ps
open Go Go.RowKit Go.Proofs.YtkeckecdhcknhaaDoor.Fm Go.Proofs.YtkeckecdhcknhaaDoor.Lx
set_option linter.unusedVariables false
set_option linter.unusedSimpArgs false
/-- What a rule reads: a value and the tokens that are left, or the place of an error and the error. -/
inductive R (α : Type) where
  | ok (a : α) (r : List Tg)
  | er (a e : Int)
def R.bind {α β : Type} : R α → (α → List Tg → R β) → R β
  | .ok a r, f => f a r
  | .er a e, _ => .er a e
def eqB (a b : ByteArray) : Bool := a.data.toList == b.data.toList
theorem eqB_iff {a b : ByteArray} : eqB a b = true ↔ a = b := by
  unfold eqB
  rw [beq_iff_eq]
  constructor
  · intro h
    obtain ⟨⟨l⟩⟩ := a
    obtain ⟨⟨k⟩⟩ := b
    simpa using h
  · rintro rfl; rfl
def hd (ts : List Tg) : Tg := ts.headD ⟨5, ⟨#[]⟩, 0⟩
def tx (ts : List Tg) : ByteArray := (hd ts).t
def is (ts : List Tg) (s : ByteArray) : Bool := eqB (tx ts) s
def bad {α : Type} (ts : List Tg) (e : Int) : R α := .er (hd ts).a e
/-- A metavariable of terms, of formulas, where such can stand. -/
def mtB (m : Bool) (s : ByteArray) : Bool := m && metB s && fnB (s.extract 1 s.size)
def mfB (m : Bool) (s : ByteArray) : Bool := m && metB s && predB (s.extract 1 s.size)
mutual
def termF (m : Bool) : Nat → Nat → List Tg → R Tm
  | 0, _, _ => .er 0 0
  | k + 1, n, ts => if 120 < n then bad ts 51 else if varB (tx ts) || mtB m (tx ts) then .ok (.mk true (tx ts) []) (ts.drop 1) else
      if fnB (tx ts) then (argsF m k n (ts.drop 1)).bind fun l r => .ok (.mk false (tx ts) l) r else bad ts 50
def argsF (m : Bool) : Nat → Nat → List Tg → R (List Tm)
  | 0, _, _ => .er 0 0
  | k + 1, n, ts => if is ts ⟨#[40]⟩ then (listF m k (n + 1) (ts.drop 1)).bind fun l r => if is r ⟨#[41]⟩ then .ok l (r.drop 1) else bad r 50 else .ok [] ts
def listF (m : Bool) : Nat → Nat → List Tg → R (List Tm)
  | 0, _, _ => .er 0 0
  | k + 1, n, ts => (termF m k n ts).bind fun t r => moreF m k n [t] r
def moreF (m : Bool) : Nat → Nat → List Tm → List Tg → R (List Tm)
  | 0, _, _, _ => .er 0 0
  | k + 1, n, l, ts => if is ts ⟨#[44]⟩ then (termF m k n (ts.drop 1)).bind fun t r => moreF m k n (l ++ [t]) r else .ok l ts
end
def termC (m : Bool) (n : Nat) (ts : List Tg) : R Tm := termF m (4 * ts.length + 4) n ts
def argsC (m : Bool) (n : Nat) (ts : List Tg) : R (List Tm) := argsF m (4 * ts.length + 4) n ts
def listC (m : Bool) (n : Nat) (ts : List Tg) : R (List Tm) := listF m (4 * ts.length + 4) n ts
def moreC (m : Bool) (n : Nat) (l : List Tm) (ts : List Tg) : R (List Tm) := moreF m (4 * ts.length + 4) n l ts
/-- The operator of a sign or word ahead of a unary; 0 for none. -/
def unOp (s : ByteArray) : Int := if eqB s ⟨#[126]⟩ then 3 else if eqB s ⟨#[91, 93]⟩ then 10 else if eqB s ⟨#[60, 62]⟩ then 11 else if eqB s ⟨#[110, 101, 120, 116]⟩ then 12 else
  if eqB s ⟨#[97, 108, 119, 97, 121, 115]⟩ then 13 else if eqB s ⟨#[97, 108, 108]⟩ then 8 else if eqB s ⟨#[115, 111, 109, 101]⟩ then 9 else 0
/-- The levels of binary signs: sign, operator, whether it is grouped from the right. -/
def lvS : Nat → ByteArray
  | 0 => ⟨#[60, 45, 62]⟩
  | 1 => ⟨#[45, 62]⟩
  | 2 => ⟨#[117, 110, 116, 105, 108]⟩
  | 3 => ⟨#[124]⟩
  | _ => ⟨#[38]⟩
def lvO : Nat → Int
  | 0 => 7
  | 1 => 6
  | 2 => 14
  | 3 => 5
  | _ => 4
def lvR : Nat → Bool
  | 1 => true
  | 2 => true
  | _ => false
def two (o : Int) (f g : Fo) : Fo := .mk o ⟨#[]⟩ [] [f, g]
def metaD (n t x : ByteArray) (r : List Tg) : R Fo := if is r ⟨#[93]⟩ then .ok (.mk 16 n [.mk true x [], .mk true t []] []) (r.drop 1) else bad r 50
def metaE (n t : ByteArray) (r : List Tg) : R Fo := if varB (tx r) then metaD n t (tx r) (r.drop 1) else bad r 50
def metaS (n t : ByteArray) (r : List Tg) : R Fo := if is r ⟨#[47]⟩ then metaE n t (r.drop 1) else bad r 50
def metaA (m : Bool) (n : ByteArray) (r : List Tg) : R Fo := if mtB m (tx r) then metaS n (tx r) (r.drop 1) else bad r 50
def metaQ (m : Bool) (n : ByteArray) (r : List Tg) : R Fo := if is r ⟨#[91]⟩ then metaA m n (r.drop 1) else .ok (.mk 15 n [] []) r
def metaP (m : Bool) (ts : List Tg) : R Fo := metaQ m (tx ts) (ts.drop 1)
mutual
def binF (m : Bool) : Nat → Nat → Nat → List Tg → R Fo
  | 0, _, _, _ => .er 0 0
  | k + 1, i, n, ts => if 5 ≤ i then unF m k n ts else (binF m k (i + 1) n ts).bind fun f r =>
      if lvR i then (if is r (lvS i) then (binF m k i (n + 1) (r.drop 1)).bind fun g r2 => .ok (two (lvO i) f g) r2 else .ok f r) else chF m k i n f r
def chF (m : Bool) : Nat → Nat → Nat → Fo → List Tg → R Fo
  | 0, _, _, _, _ => .er 0 0
  | k + 1, i, n, f, ts => if is ts (lvS i) then (binF m k (i + 1) n (ts.drop 1)).bind fun g r => chF m k i n (two (lvO i) f g) r else .ok f ts
def unF (m : Bool) : Nat → Nat → List Tg → R Fo
  | 0, _, _ => .er 0 0
  | k + 1, n, ts => if 120 < n then bad ts 51 else if unOp (tx ts) = 0 then basF m k n ts else
      if unOp (tx ts) = 8 ∨ unOp (tx ts) = 9 then
        if varB (tx (ts.drop 1)) then (unF m k (n + 1) (ts.drop 2)).bind fun g r => .ok (.mk (unOp (tx ts)) (tx (ts.drop 1)) [] [g]) r else bad (ts.drop 1) 50
      else (unF m k (n + 1) (ts.drop 1)).bind fun g r => .ok (.mk (unOp (tx ts)) ⟨#[]⟩ [] [g]) r
def basF (m : Bool) : Nat → Nat → List Tg → R Fo
  | 0, _, _ => .er 0 0
  | k + 1, n, ts => if is ts ⟨#[40]⟩ then (binF m k 0 (n + 1) (ts.drop 1)).bind fun f r => if is r ⟨#[41]⟩ then .ok f (r.drop 1) else bad r 50 else
      if is ts ⟨#[102, 97, 108, 115, 101]⟩ then .ok (.mk 2 ⟨#[]⟩ [] []) (ts.drop 1) else
      if mfB m (tx ts) then metaP m ts else
      if predB (tx ts) then (argsC m n (ts.drop 1)).bind fun l r => .ok (.mk 1 (tx ts) l []) r else bad ts 50
end
def binC (m : Bool) (i n : Nat) (ts : List Tg) : R Fo := binF m (12 * ts.length + 12 - i) i n ts
def chC (m : Bool) (i n : Nat) (f : Fo) (ts : List Tg) : R Fo := chF m (12 * ts.length + 12) i n f ts
def unC (m : Bool) (n : Nat) (ts : List Tg) : R Fo := unF m (12 * ts.length + 5) n ts
def basC (m : Bool) (n : Nat) (ts : List Tg) : R Fo := basF m (12 * ts.length + 4) n ts
/-- What is read is followed by fewer tokens, or by no more. -/
theorem drop_len {ts : List Tg} {s : ByteArray} (h : is ts s = true) (hs : s ≠ ⟨#[]⟩) : (ts.drop 1).length < ts.length := by
  cases ts with
  | nil => exact absurd (eqB_iff.1 h).symm hs
  | cons a r => simp
theorem drop_tx {ts : List Tg} (h : tx ts ≠ ⟨#[]⟩) : (ts.drop 1).length < ts.length := by
  cases ts with
  | nil => exact absurd rfl h
  | cons a r => simp
theorem varB_ne {s : ByteArray} (h : varB s = true) : s ≠ ⟨#[]⟩ := by rintro rfl; exact absurd h (by rw [show varB ⟨#[]⟩ = false from names_empty _ _ _ _ rfl]; decide)
theorem fnB_ne {s : ByteArray} (h : fnB s = true) : s ≠ ⟨#[]⟩ := by rintro rfl; unfold fnB at h; rw [names_empty _ _ _ _ rfl] at h; exact absurd h (by decide)
theorem predB_ne {s : ByteArray} (h : predB s = true) : s ≠ ⟨#[]⟩ := by rintro rfl; exact absurd h (by rw [show predB ⟨#[]⟩ = false from names_empty _ _ _ _ rfl]; decide)
theorem markB_ne {s : ByteArray} (h : markB s = true) : s ≠ ⟨#[]⟩ := by rintro rfl; exact absurd h (by unfold markB; rw [show decide (1 ≤ (⟨#[]⟩ : ByteArray).size) = false from rfl, Bool.false_and]; decide)
theorem metB_ne {s : ByteArray} (h : metB s = true) : s ≠ ⟨#[]⟩ := by
  unfold metB metaB at h
  rw [Bool.or_eq_true] at h
  rcases h with h | h <;> (rw [Bool.and_eq_true, Bool.and_eq_true] at h; exact markB_ne h.1.1)
theorem mtB_ne {m : Bool} {s : ByteArray} (h : mtB m s = true) : s ≠ ⟨#[]⟩ := by unfold mtB at h; rw [Bool.and_eq_true, Bool.and_eq_true] at h; exact metB_ne h.1.2
theorem mfB_ne {m : Bool} {s : ByteArray} (h : mfB m s = true) : s ≠ ⟨#[]⟩ := by unfold mfB at h; rw [Bool.and_eq_true, Bool.and_eq_true] at h; exact metB_ne h.1.2
theorem unOp_ne {s : ByteArray} (h : unOp s ≠ 0) : s ≠ ⟨#[]⟩ := by rintro rfl; exact h rfl
theorem lvS_ne (i : Nat) : lvS i ≠ ⟨#[]⟩ := by
  match i with
  | 0 => decide
  | 1 => decide
  | 2 => decide
  | 3 => decide
  | _ + 4 => exact (by decide : lvS 4 ≠ ⟨#[]⟩)
def R.Le {α : Type} (n : Nat) (x : R α) : Prop := ∀ a r, x = .ok a r → r.length ≤ n
def R.Lt {α : Type} (n : Nat) (x : R α) : Prop := ∀ a r, x = .ok a r → r.length < n
theorem R.Lt.le {α : Type} {n : Nat} {x : R α} (h : x.Lt n) : x.Le n := fun a r e => Nat.le_of_lt (h a r e)
theorem bad_le {α : Type} {n : Nat} {ts : List Tg} {e : Int} : (bad ts e : R α).Le n := fun _ _ h => by cases h
theorem bad_lt {α : Type} {n : Nat} {ts : List Tg} {e : Int} : (bad ts e : R α).Lt n := fun _ _ h => by cases h
theorem ok_le {α : Type} {n : Nat} {a : α} {r : List Tg} (h : r.length ≤ n) : (R.ok a r).Le n := fun _ _ e => by cases e; exact h
theorem ok_lt {α : Type} {n : Nat} {a : α} {r : List Tg} (h : r.length < n) : (R.ok a r).Lt n := fun _ _ e => by cases e; exact h
theorem er_le {α : Type} {n : Nat} {a e : Int} : (R.er a e : R α).Le n := fun _ _ h => by cases h
theorem er_lt {α : Type} {n : Nat} {a e : Int} : (R.er a e : R α).Lt n := fun _ _ h => by cases h
theorem bind_le {α β : Type} {n m : Nat} {x : R α} {f : α → List Tg → R β} (h : x.Le n) (hf : ∀ a r, r.length ≤ n → (f a r).Le m) : (x.bind f).Le m := by
  cases x with
  | ok a r => exact hf a r (h a r rfl)
  | er a e => exact er_le
theorem bind_lt {α β : Type} {n m : Nat} {x : R α} {f : α → List Tg → R β} (h : x.Le n) (hf : ∀ a r, r.length ≤ n → (f a r).Lt m) : (x.bind f).Lt m := by
  cases x with
  | ok a r => exact hf a r (h a r rfl)
  | er a e => exact er_lt
theorem bind_lt' {α β : Type} {n m : Nat} {x : R α} {f : α → List Tg → R β} (h : x.Lt n) (hf : ∀ a r, r.length < n → (f a r).Lt m) : (x.bind f).Lt m := by
  cases x with
  | ok a r => exact hf a r (h a r rfl)
  | er a e => exact er_lt
theorem R.eq_bind {α β : Type} {n : Nat} {x y : R α} {f g : α → List Tg → R β} (h : x = y) (hl : y.Le n) (hf : ∀ a r, r.length ≤ n → f a r = g a r) : x.bind f = y.bind g := by
  subst h
  cases x with
  | ok a r => exact hf a r (hl a r rfl)
  | er a e => rfl
theorem R.eq_bind' {α β : Type} {n : Nat} {x y : R α} {f g : α → List Tg → R β} (h : x = y) (hl : y.Lt n) (hf : ∀ a r, r.length < n → f a r = g a r) : x.bind f = y.bind g := by
  subst h
  cases x with
  | ok a r => exact hf a r (hl a r rfl)
  | er a e => rfl
theorem R.Lt.mono {α : Type} {n m : Nat} {x : R α} (h : x.Lt n) (hm : n ≤ m) : x.Lt m := fun a r e => Nat.lt_of_lt_of_le (h a r e) hm
theorem R.Le.mono {α : Type} {n m : Nat} {x : R α} (h : x.Le n) (hm : n ≤ m) : x.Le m := fun a r e => Nat.le_trans (h a r e) hm
theorem R.Le.lt {α : Type} {n m : Nat} {x : R α} (h : x.Le n) (hm : n < m) : x.Lt m := fun a r e => Nat.lt_of_le_of_lt (h a r e) hm
theorem dl (ts : List Tg) (i : Nat) : (ts.drop i).length ≤ ts.length := by simp
theorem terms_len (m : Bool) : ∀ k, (∀ n ts, (termF m k n ts).Lt ts.length) ∧ (∀ n ts, (argsF m k n ts).Le ts.length) ∧ (∀ n ts, (listF m k n ts).Lt ts.length) ∧ ∀ n l ts, (moreF m k n l ts).Le ts.length
  | 0 => ⟨fun _ _ => by unfold termF; exact er_lt, fun _ _ => by unfold argsF; exact er_le, fun _ _ => by unfold listF; exact er_lt, fun _ _ _ => by unfold moreF; exact er_le⟩
  | k + 1 => by
    obtain ⟨h1, h2, h3, h4⟩ := terms_len m k
    refine ⟨fun n ts => ?_, fun n ts => ?_, fun n ts => ?_, fun n l ts => ?_⟩
    · unfold termF
      split
      · exact bad_lt
      split
      · next _ h =>
        rw [Bool.or_eq_true] at h
        exact ok_lt (drop_tx (h.elim varB_ne mtB_ne))
      split
      · next _ _ h =>
        have hd := drop_tx (fnB_ne h)
        exact bind_lt (h2 n (ts.drop 1)) fun a r hr => ok_lt (by omega)
      · exact bad_lt
    · unfold argsF
      split
      · refine bind_le (h3 (n + 1) (ts.drop 1)).le fun a r hr => ?_
        have hd := dl ts 1
        have hd2 := dl r 1
        split
        · exact ok_le (by omega)
        · exact bad_le
      · exact ok_le (Nat.le_refl _)
    · unfold listF
      exact bind_lt' (h1 n ts) fun a r hr => (h4 n [a] r).lt hr
    · unfold moreF
      split
      · next h =>
        have hd := drop_len h (by decide)
        exact bind_le (h1 n (ts.drop 1)).le fun a r hr => (h4 n _ r).mono (by omega)
      · exact ok_le (Nat.le_refl _)
/-- More fuel changes nothing. -/
theorem terms_irr (m : Bool) : ∀ k, (∀ n ts, 4 * ts.length + 1 ≤ k → termF m (k + 1) n ts = termF m k n ts) ∧ (∀ n ts, 4 * ts.length + 1 ≤ k → argsF m (k + 1) n ts = argsF m k n ts) ∧
    (∀ n ts, 4 * ts.length + 2 ≤ k → listF m (k + 1) n ts = listF m k n ts) ∧ ∀ n l ts, 4 * ts.length + 2 ≤ k → moreF m (k + 1) n l ts = moreF m k n l ts
  | 0 => ⟨fun _ _ h => by omega, fun _ _ h => by omega, fun _ _ h => by omega, fun _ _ _ h => by omega⟩
  | k + 1 => by
    obtain ⟨h1, h2, h3, h4⟩ := terms_irr m k
    obtain ⟨l1, l2, l3, l4⟩ := terms_len m k
    refine ⟨fun n ts hk => ?_, fun n ts hk => ?_, fun n ts hk => ?_, fun n l ts hk => ?_⟩
    · conv => lhs; rw [termF]
      conv => rhs; rw [termF]
      split
      · rfl
      split
      · rfl
      split
      · next _ _ h =>
        have hd := drop_tx (fnB_ne h)
        rw [h2 n (ts.drop 1) (by omega)]
      · rfl
    · conv => lhs; rw [argsF]
      conv => rhs; rw [argsF]
      split
      · next h =>
        have hd := drop_len h (by decide)
        rw [h3 (n + 1) (ts.drop 1) (by omega)]
      · rfl
    · conv => lhs; rw [listF]
      conv => rhs; rw [listF]
      exact R.eq_bind' (h1 n ts (by omega)) (l1 n ts) fun a r hr => h4 n [a] r (by omega)
    · conv => lhs; rw [moreF]
      conv => rhs; rw [moreF]
      split
      · next h =>
        have hd := drop_len h (by decide)
        exact R.eq_bind' (h1 n (ts.drop 1) (by omega)) (l1 n (ts.drop 1)) fun a r hr => h4 n _ r (by omega)
      · rfl
theorem irr_up {α : Type} {f : Nat → α} {b : Nat} (h : ∀ k, b ≤ k → f (k + 1) = f k) {k : Nat} (hk : b ≤ k) : f k = f b := by
  obtain ⟨d, rfl⟩ := Nat.exists_eq_add_of_le hk
  induction d with
  | zero => rfl
  | succ d ih => exact (h (b + d) (by omega)).trans (ih (by omega))
theorem termF_C {m : Bool} {n : Nat} {ts : List Tg} {k : Nat} (h : 4 * ts.length + 1 ≤ k) : termF m k n ts = termF m (4 * ts.length + 1) n ts := irr_up (f := fun k => termF m k n ts) (fun k h => (terms_irr m k).1 n ts h) h
theorem argsF_C {m : Bool} {n : Nat} {ts : List Tg} {k : Nat} (h : 4 * ts.length + 1 ≤ k) : argsF m k n ts = argsF m (4 * ts.length + 1) n ts := irr_up (f := fun k => argsF m k n ts) (fun k h => (terms_irr m k).2.1 n ts h) h
theorem listF_C {m : Bool} {n : Nat} {ts : List Tg} {k : Nat} (h : 4 * ts.length + 2 ≤ k) : listF m k n ts = listF m (4 * ts.length + 2) n ts := irr_up (f := fun k => listF m k n ts) (fun k h => (terms_irr m k).2.2.1 n ts h) h
theorem moreF_C {m : Bool} {n : Nat} {l : List Tm} {ts : List Tg} {k : Nat} (h : 4 * ts.length + 2 ≤ k) : moreF m k n l ts = moreF m (4 * ts.length + 2) n l ts := irr_up (f := fun k => moreF m k n l ts) (fun k h => (terms_irr m k).2.2.2 n l ts h) h
theorem termC_len (m : Bool) (n : Nat) (ts : List Tg) : (termC m n ts).Lt ts.length := (terms_len m _).1 n ts
theorem argsC_len (m : Bool) (n : Nat) (ts : List Tg) : (argsC m n ts).Le ts.length := (terms_len m _).2.1 n ts
theorem listC_len (m : Bool) (n : Nat) (ts : List Tg) : (listC m n ts).Lt ts.length := (terms_len m _).2.2.1 n ts
theorem moreC_len (m : Bool) (n : Nat) (l : List Tm) (ts : List Tg) : (moreC m n l ts).Le ts.length := (terms_len m _).2.2.2 n l ts
theorem termC_eq (m : Bool) (n : Nat) (ts : List Tg) : termC m n ts = if 120 < n then bad ts 51 else if varB (tx ts) || mtB m (tx ts) then .ok (.mk true (tx ts) []) (ts.drop 1) else
    if fnB (tx ts) then (argsC m n (ts.drop 1)).bind fun l r => .ok (.mk false (tx ts) l) r else bad ts 50 := by
  unfold termC
  rw [termF]
  split
  · rfl
  split
  · rfl
  split
  · next _ _ h =>
    have hd := drop_tx (fnB_ne h)
    rw [argsF_C (by omega), argsC, argsF_C (k := 4 * (ts.drop 1).length + 4) (by omega)]
  · rfl
theorem argsC_eq (m : Bool) (n : Nat) (ts : List Tg) : argsC m n ts = if is ts ⟨#[40]⟩ then (listC m (n + 1) (ts.drop 1)).bind fun l r => if is r ⟨#[41]⟩ then .ok l (r.drop 1) else bad r 50 else .ok [] ts := by
  unfold argsC
  rw [argsF]
  split
  · next h =>
    have hd := drop_len h (by decide)
    rw [listF_C (by omega), listC, listF_C (k := 4 * (ts.drop 1).length + 4) (by omega)]
  · rfl
theorem listC_eq (m : Bool) (n : Nat) (ts : List Tg) : listC m n ts = (termC m n ts).bind fun t r => moreC m n [t] r := by
  unfold listC
  rw [listF]
  refine R.eq_bind' ?_ (termC_len m n ts) fun a r hr => ?_
  · rw [termF_C (by omega), termC, termF_C (k := 4 * ts.length + 4) (by omega)]
  · rw [moreF_C (by omega), moreC, moreF_C (k := 4 * r.length + 4) (by omega)]
theorem moreC_eq (m : Bool) (n : Nat) (l : List Tm) (ts : List Tg) : moreC m n l ts = if is ts ⟨#[44]⟩ then (termC m n (ts.drop 1)).bind fun t r => moreC m n (l ++ [t]) r else .ok l ts := by
  unfold moreC
  rw [moreF]
  split
  · next h =>
    have hd := drop_len h (by decide)
    refine R.eq_bind' ?_ (termC_len m n (ts.drop 1)) fun a r hr => ?_
    · rw [termF_C (by omega), termC, termF_C (k := 4 * (ts.drop 1).length + 4) (by omega)]
    · rw [moreF_C (by omega), moreF_C (k := 4 * r.length + 4) (by omega)]
  · rfl
theorem meta_len (m : Bool) (ts : List Tg) (h : tx ts ≠ ⟨#[]⟩) : (metaP m ts).Lt ts.length := by
  have h1 := drop_tx h
  have hq : ∀ r : List Tg, (r.drop 1).length ≤ r.length := fun r => by simp
  unfold metaP metaQ metaA metaS metaE metaD
  have e1 := hq (ts.drop 1)
  have e2 := hq ((ts.drop 1).drop 1)
  have e3 := hq (((ts.drop 1).drop 1).drop 1)
  have e4 := hq ((((ts.drop 1).drop 1).drop 1).drop 1)
  have e5 := hq (((((ts.drop 1).drop 1).drop 1).drop 1).drop 1)
  repeat' split
  all_goals first | exact bad_lt | exact ok_lt (by omega)
theorem forms_len (m : Bool) : ∀ k, (∀ i n ts, (binF m k i n ts).Lt ts.length) ∧ (∀ i n f ts, (chF m k i n f ts).Le ts.length) ∧ (∀ n ts, (unF m k n ts).Lt ts.length) ∧ ∀ n ts, (basF m k n ts).Lt ts.length
  | 0 => ⟨fun _ _ _ => by unfold binF; exact er_lt, fun _ _ _ _ => by unfold chF; exact er_le, fun _ _ => by unfold unF; exact er_lt, fun _ _ => by unfold basF; exact er_lt⟩
  | k + 1 => by
    obtain ⟨h1, h2, h3, h4⟩ := forms_len m k
    refine ⟨fun i n ts => ?_, fun i n f ts => ?_, fun n ts => ?_, fun n ts => ?_⟩
    · unfold binF
      split
      · exact h3 n ts
      refine bind_lt' (h1 (i + 1) n ts) fun f r hr => ?_
      have hd := dl r 1
      split
      · split
        · exact bind_lt (h1 i (n + 1) (r.drop 1)).le fun g r2 h2 => ok_lt (by omega)
        · exact ok_lt hr
      · exact (h2 i n f r).lt hr
    · unfold chF
      split
      · next h =>
        have hd := drop_len h (lvS_ne i)
        exact bind_le (h1 (i + 1) n (ts.drop 1)).le fun g r hr => (h2 i n _ r).mono (by omega)
      · exact ok_le (Nat.le_refl _)
    · unfold unF
      split
      · exact bad_lt
      split
      · exact h4 n ts
      next h =>
      have hd := drop_tx (unOp_ne h)
      split
      · split
        · have h2 : (ts.drop 2).length ≤ (ts.drop 1).length := by simp; omega
          exact bind_lt (h3 (n + 1) (ts.drop 2)).le fun g r hr => ok_lt (by omega)
        · exact bad_lt
      · exact bind_lt (h3 (n + 1) (ts.drop 1)).le fun g r hr => ok_lt (by omega)
    · unfold basF
      split
      · refine bind_lt' (h1 0 (n + 1) (ts.drop 1)) fun f r hr => ?_
        have hd := dl ts 1
        have hd2 := dl r 1
        split
        · exact ok_lt (by omega)
        · exact bad_lt
      split
      · next h => exact ok_lt (drop_len h (by decide))
      split
      · next h => exact meta_len m ts (mfB_ne h)
      split
      · next h =>
        have hd := drop_tx (predB_ne h)
        exact bind_lt (argsC_len m n (ts.drop 1)) fun l r hr => ok_lt (by omega)
      · exact bad_lt
theorem forms_irr (m : Bool) : ∀ k, (∀ i n ts, 12 * ts.length + 8 - i ≤ k → i ≤ 5 → binF m (k + 1) i n ts = binF m k i n ts) ∧ (∀ i n f ts, 12 * ts.length + 1 ≤ k → i < 5 → chF m (k + 1) i n f ts = chF m k i n f ts) ∧
    (∀ n ts, 12 * ts.length + 2 ≤ k → unF m (k + 1) n ts = unF m k n ts) ∧ ∀ n ts, 12 * ts.length + 1 ≤ k → basF m (k + 1) n ts = basF m k n ts
  | 0 => ⟨fun _ _ _ h _ => by omega, fun _ _ _ _ h => by omega, fun _ _ h => by omega, fun _ _ h => by omega⟩
  | k + 1 => by
    obtain ⟨h1, h2, h3, h4⟩ := forms_irr m k
    obtain ⟨l1, l2, l3, l4⟩ := forms_len m k
    refine ⟨fun i n ts hk hi => ?_, fun i n f ts hk hi => ?_, fun n ts hk => ?_, fun n ts hk => ?_⟩
    · conv => lhs; rw [binF]
      conv => rhs; rw [binF]
      split
      · exact h3 n ts (by omega)
      refine R.eq_bind' (h1 (i + 1) n ts (by omega) (by omega)) (l1 (i + 1) n ts) fun f r hr => ?_
      split
      · split
        · next h =>
          have hd := drop_len h (lvS_ne i)
          rw [h1 i (n + 1) (r.drop 1) (by omega) hi]
        · rfl
      · exact h2 i n f r (by omega) (by omega)
    · conv => lhs; rw [chF]
      conv => rhs; rw [chF]
      split
      · next h =>
        have hd := drop_len h (lvS_ne i)
        exact R.eq_bind' (h1 (i + 1) n (ts.drop 1) (by omega) (by omega)) (l1 (i + 1) n (ts.drop 1)) fun g r hr => h2 i n _ r (by omega) hi
      · rfl
    · conv => lhs; rw [unF]
      conv => rhs; rw [unF]
      split
      · rfl
      split
      · exact h4 n ts (by omega)
      next h =>
      have hd := drop_tx (unOp_ne h)
      have hd2 : (ts.drop 2).length ≤ (ts.drop 1).length := by simp; omega
      rw [h3 (n + 1) (ts.drop 2) (by omega), h3 (n + 1) (ts.drop 1) (by omega)]
    · conv => lhs; rw [basF]
      conv => rhs; rw [basF]
      split
      · next h =>
        have hd := drop_len h (by decide)
        rw [h1 0 (n + 1) (ts.drop 1) (by omega) (by omega)]
      · rfl
theorem binF_C {m : Bool} {i n : Nat} {ts : List Tg} {k : Nat} (h : 12 * ts.length + 8 - i ≤ k) (hi : i ≤ 5) : binF m k i n ts = binF m (12 * ts.length + 8 - i) i n ts := irr_up (f := fun k => binF m k i n ts) (fun k h => (forms_irr m k).1 i n ts h hi) h
theorem chF_C {m : Bool} {i n : Nat} {f : Fo} {ts : List Tg} {k : Nat} (h : 12 * ts.length + 1 ≤ k) (hi : i < 5) : chF m k i n f ts = chF m (12 * ts.length + 1) i n f ts := irr_up (f := fun k => chF m k i n f ts) (fun k h => (forms_irr m k).2.1 i n f ts h hi) h
theorem unF_C {m : Bool} {n : Nat} {ts : List Tg} {k : Nat} (h : 12 * ts.length + 2 ≤ k) : unF m k n ts = unF m (12 * ts.length + 2) n ts := irr_up (f := fun k => unF m k n ts) (fun k h => (forms_irr m k).2.2.1 n ts h) h
theorem basF_C {m : Bool} {n : Nat} {ts : List Tg} {k : Nat} (h : 12 * ts.length + 1 ≤ k) : basF m k n ts = basF m (12 * ts.length + 1) n ts := irr_up (f := fun k => basF m k n ts) (fun k h => (forms_irr m k).2.2.2 n ts h) h
theorem binC_len (m : Bool) (i n : Nat) (ts : List Tg) : (binC m i n ts).Lt ts.length := (forms_len m _).1 i n ts
theorem chC_len (m : Bool) (i n : Nat) (f : Fo) (ts : List Tg) : (chC m i n f ts).Le ts.length := (forms_len m _).2.1 i n f ts
theorem unC_len (m : Bool) (n : Nat) (ts : List Tg) : (unC m n ts).Lt ts.length := (forms_len m _).2.2.1 n ts
theorem basC_len (m : Bool) (n : Nat) (ts : List Tg) : (basC m n ts).Lt ts.length := (forms_len m _).2.2.2 n ts
theorem binC_un (m : Bool) (n : Nat) (ts : List Tg) : binC m 5 n ts = unC m n ts := by
  unfold binC
  obtain ⟨k, hk⟩ : ∃ k, 12 * ts.length + 12 - 5 = k + 1 := ⟨12 * ts.length + 6, by omega⟩
  rw [hk, binF, if_pos (by decide), unC, unF_C (by omega), unF_C (k := 12 * ts.length + 5) (by omega)]
theorem binC_eq (m : Bool) (i n : Nat) (ts : List Tg) (hi : i < 5) : binC m i n ts = (binC m (i + 1) n ts).bind fun f r =>
    if lvR i then (if is r (lvS i) then (binC m i (n + 1) (r.drop 1)).bind fun g r2 => .ok (two (lvO i) f g) r2 else .ok f r) else chC m i n f r := by
  conv => lhs; unfold binC
  obtain ⟨k, hk⟩ : ∃ k, 12 * ts.length + 12 - i = k + 1 := ⟨12 * ts.length + 11 - i, by omega⟩
  rw [hk, binF, if_neg (by omega)]
  refine R.eq_bind' ?_ (binC_len m (i + 1) n ts) fun f r hr => ?_
  · rw [binF_C (by omega) (by omega), binC, binF_C (k := 12 * ts.length + 12 - (i + 1)) (by omega) (by omega)]
  split
  · split
    · next h =>
      have hd := drop_len h (lvS_ne i)
      rw [binF_C (by omega) (by omega), binC, binF_C (k := 12 * (r.drop 1).length + 12 - i) (by omega) (by omega)]
    · rfl
  · rw [chF_C (by omega) hi, chC, chF_C (k := 12 * r.length + 12) (by omega) hi]
theorem chC_eq (m : Bool) (i n : Nat) (f : Fo) (ts : List Tg) (hi : i < 5) : chC m i n f ts = if is ts (lvS i) then (binC m (i + 1) n (ts.drop 1)).bind fun g r => chC m i n (two (lvO i) f g) r else .ok f ts := by
  unfold chC
  rw [chF]
  split
  · next h =>
    have hd := drop_len h (lvS_ne i)
    refine R.eq_bind' ?_ (binC_len m (i + 1) n (ts.drop 1)) fun g r hr => ?_
    · rw [binF_C (by omega) (by omega), binC, binF_C (k := 12 * (ts.drop 1).length + 12 - (i + 1)) (by omega) (by omega)]
    · rw [chF_C (by omega) hi, chF_C (k := 12 * r.length + 12) (by omega) hi]
  · rfl
theorem unC_eq (m : Bool) (n : Nat) (ts : List Tg) : unC m n ts = if 120 < n then bad ts 51 else if unOp (tx ts) = 0 then basC m n ts else
    if unOp (tx ts) = 8 ∨ unOp (tx ts) = 9 then
      if varB (tx (ts.drop 1)) then (unC m (n + 1) (ts.drop 2)).bind fun g r => .ok (.mk (unOp (tx ts)) (tx (ts.drop 1)) [] [g]) r else bad (ts.drop 1) 50
    else (unC m (n + 1) (ts.drop 1)).bind fun g r => .ok (.mk (unOp (tx ts)) ⟨#[]⟩ [] [g]) r := by
  conv => lhs; unfold unC
  rw [unF]
  split
  · rfl
  split
  · rw [basF_C (by omega), basC, basF_C (k := 12 * ts.length + 4) (by omega)]
  next h =>
  have hd := drop_tx (unOp_ne h)
  have hd2 : (ts.drop 2).length ≤ (ts.drop 1).length := by simp; omega
  rw [unF_C (ts := ts.drop 2) (by omega), unF_C (ts := ts.drop 1) (by omega), unC, unC, unF_C (k := 12 * (ts.drop 2).length + 5) (by omega), unF_C (k := 12 * (ts.drop 1).length + 5) (by omega)]
theorem basC_eq (m : Bool) (n : Nat) (ts : List Tg) : basC m n ts = if is ts ⟨#[40]⟩ then (binC m 0 (n + 1) (ts.drop 1)).bind fun f r => if is r ⟨#[41]⟩ then .ok f (r.drop 1) else bad r 50 else
    if is ts ⟨#[102, 97, 108, 115, 101]⟩ then .ok (.mk 2 ⟨#[]⟩ [] []) (ts.drop 1) else
    if mfB m (tx ts) then metaP m ts else
    if predB (tx ts) then (argsC m n (ts.drop 1)).bind fun l r => .ok (.mk 1 (tx ts) l []) r else bad ts 50 := by
  unfold basC
  rw [basF]
  split
  · next h =>
    have hd := drop_len h (by decide)
    rw [binF_C (by omega) (by omega), binC, binF_C (k := 12 * (ts.drop 1).length + 12 - 0) (by omega) (by omega)]
  · rfl
/-- A list of formulas with commas between them. -/
def fsF (m : Bool) : Nat → List Fo → List Tg → R (List Fo)
  | 0, _, _ => .er 0 0
  | k + 1, l, ts => if is ts ⟨#[44]⟩ then (binC m 0 0 (ts.drop 1)).bind fun f r => fsF m k (l ++ [f]) r else .ok l ts
def fsC (m : Bool) (l : List Fo) (ts : List Tg) : R (List Fo) := fsF m (ts.length + 1) l ts
theorem fs_irr (m : Bool) : ∀ k l ts, ts.length + 1 ≤ k → fsF m (k + 1) l ts = fsF m k l ts
  | 0, _, _, h => by omega
  | k + 1, l, ts, h => by
    conv => lhs; rw [fsF]
    conv => rhs; rw [fsF]
    split
    · next h =>
      have hd := drop_len h (by decide)
      exact R.eq_bind' rfl (binC_len m 0 0 (ts.drop 1)) fun f r hr => fs_irr m k _ r (by omega)
    · rfl
theorem fsF_C {m : Bool} {l : List Fo} {ts : List Tg} {k : Nat} (h : ts.length + 1 ≤ k) : fsF m k l ts = fsC m l ts := irr_up (f := fun k => fsF m k l ts) (fun k h => fs_irr m k l ts h) h
theorem fsC_eq (m : Bool) (l : List Fo) (ts : List Tg) : fsC m l ts = if is ts ⟨#[44]⟩ then (binC m 0 0 (ts.drop 1)).bind fun f r => fsC m (l ++ [f]) r else .ok l ts := by
  conv => lhs; unfold fsC
  rw [fsF]
  split
  · next h =>
    have hd := drop_len h (by decide)
    exact R.eq_bind' rfl (binC_len m 0 0 (ts.drop 1)) fun f r hr => fsF_C (by omega)
  · rfl
def formsC (m : Bool) (ts : List Tg) : R (List Fo) := if (hd ts).k = 5 then .ok [] ts else (binC m 0 0 ts).bind fun f r => fsC m [f] r
end Go.Proofs.YtkeckecdhcknhaaDoor.Ps
