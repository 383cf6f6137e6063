/-
  The order of terms and formulas: its values, its turns, its steps; where it is 0.
-/
import Derived.Test.YtnadjkofjgpabaaDoorFmCmp
import Derived.Test.YtnadjkofjgpabaaDoorFmEq
namespace Go.Proofs.YtnadjkofjgpabaaDoor.Fm
open Go Go.RowKit Go.Shelf
set_option linter.unusedVariables false
set_option linter.unusedSimpArgs false
def lex (a b : Int) : Int := if a = 0 then b else a
def Rng (x : Int) : Prop := -1 ≤ x ∧ x ≤ 1
def Tri (x y z : Int) : Prop := (x ≤ 0 → y ≤ 0 → z ≤ 0 ∧ (z = 0 ↔ x = 0 ∧ y = 0)) ∧ (0 ≤ x → 0 ≤ y → 0 ≤ z ∧ (z = 0 ↔ x = 0 ∧ y = 0))
theorem lex_rng {a b : Int} (h1 : Rng a) (h2 : Rng b) : Rng (lex a b) := by
  unfold lex; split <;> assumption
theorem lex_neg {a b a' b' : Int} (h1 : a = -a') (h2 : b = -b') : lex a b = -lex a' b' := by
  subst h1 h2; unfold lex; split <;> split <;> omega
theorem lex_zero {a b : Int} : lex a b = 0 ↔ a = 0 ∧ b = 0 := by
  unfold lex; split <;> omega
theorem lex_tri {a b c a' b' c' : Int} (r1 : Rng a) (r2 : Rng b) (r3 : Rng c) (h : Tri a b c) (h' : a = 0 → b = 0 → Tri a' b' c')
    (e1 : a = 0 → b ≠ 0 → c = b) (e2 : b = 0 → a ≠ 0 → c = a) : Tri (lex a a') (lex b b') (lex c c') := by
  unfold Rng at *
  unfold Tri at *
  unfold lex
  by_cases ha : a = 0
  · by_cases hb : b = 0
    · have hc : c = 0 := by have := h.1 (by omega) (by omega); omega
      rw [if_pos ha, if_pos hb, if_pos hc]
      exact h' ha hb
    · have hc := e1 ha hb
      rw [if_pos ha, if_neg hb, if_neg (by omega)]
      constructor <;> intro _ _ <;> refine ⟨by omega, ?_⟩ <;> constructor <;> intro _ <;> omega
  · rw [if_neg ha]
    by_cases hb : b = 0
    · have hc := e2 hb ha
      rw [if_pos hb, if_neg (by omega)]
      constructor <;> intro _ _ <;> refine ⟨by omega, ?_⟩ <;> constructor <;> intro _ <;> omega
    · rw [if_neg hb]
      constructor
      · intro p q
        have := h.1 p q
        rw [if_neg (by omega)]
        exact this
      · intro p q
        have := h.2 p q
        rw [if_neg (by omega)]
        exact this
/-- What an order by three is, at three things. -/
structure Ord (x y z : Int) : Prop where
  rx : Rng x
  ry : Rng y
  rz : Rng z
  tri : Tri x y z
theorem Ord.lex {a b c a' b' c' : Int} (h : Ord a b c) (h' : Ord a' b' c') : Ord (Fm.lex a a') (Fm.lex b b') (Fm.lex c c') := by
  obtain ⟨r1, r2, r3, t⟩ := h
  refine ⟨lex_rng r1 h'.rx, lex_rng r2 h'.ry, lex_rng r3 h'.rz, lex_tri r1 r2 r3 t (fun _ _ => h'.tri) ?_ ?_⟩ <;>
    (intro p q; unfold Rng at *; unfold Tri at *; by_cases 0 ≤ a <;> by_cases 0 ≤ b <;> have t1 := t.1 <;> have t2 := t.2 <;> omega)
theorem cmpI_rng (a b : Int) : Rng (cmpI a b) := by
  unfold cmpI Rng; split <;> try split
  all_goals omega
theorem cmpI_neg (a b : Int) : cmpI a b = -cmpI b a := by
  unfold cmpI
  by_cases h1 : a < b
  · rw [if_pos h1, if_neg (by omega), if_pos h1]
  · rw [if_neg h1]
    by_cases h2 : b < a
    · rw [if_pos h2, if_pos h2]; rfl
    · rw [if_neg h2, if_neg h2, if_neg h1]; rfl
theorem cmpI_ord (a b c : Int) : Ord (cmpI a b) (cmpI b c) (cmpI a c) := by
  refine ⟨cmpI_rng _ _, cmpI_rng _ _, cmpI_rng _ _, ?_⟩
  unfold Tri cmpI
  split <;> split <;> split <;> (try split) <;> (try split) <;> (try split) <;> omega
def cmpL : List UInt8 → List UInt8 → Int
  | [], [] => 0
  | [], _ :: _ => -1
  | _ :: _, [] => 1
  | a :: x, b :: y => lex (cmpI a.toNat b.toNat) (cmpL x y)
theorem cmpL_rng : ∀ (x y : List UInt8), Rng (cmpL x y)
  | [], [] => by simp [cmpL, Rng]
  | [], _ :: _ => by simp [cmpL, Rng]
  | _ :: _, [] => by simp [cmpL, Rng]
  | a :: x, b :: y => by rw [cmpL]; exact lex_rng (cmpI_rng _ _) (cmpL_rng x y)
theorem cmpL_neg : ∀ (x y : List UInt8), cmpL x y = -cmpL y x
  | [], [] => by simp [cmpL]
  | [], _ :: _ => by simp [cmpL]
  | _ :: _, [] => by simp [cmpL]
  | a :: x, b :: y => by rw [cmpL, cmpL]; exact lex_neg (cmpI_neg _ _) (cmpL_neg x y)
theorem u8_eq {a b : UInt8} : (a.toNat : Int) = b.toNat ↔ a = b := by
  constructor
  · intro h; exact UInt8.toNat_inj.1 (by omega)
  · rintro rfl; rfl
theorem cmpL_zero : ∀ (x y : List UInt8), cmpL x y = 0 ↔ x = y
  | [], [] => by simp [cmpL]
  | [], _ :: _ => by simp [cmpL]
  | _ :: _, [] => by simp [cmpL]
  | a :: x, b :: y => by rw [cmpL, lex_zero, cmpI_zero, cmpL_zero x y, u8_eq]; simp
theorem cmpL_tri : ∀ (x y z : List UInt8), Ord (cmpL x y) (cmpL y z) (cmpL x z)
  | [], [], [] => by constructor <;> simp [cmpL, Rng, Tri]
  | [], [], _ :: _ => by constructor <;> simp [cmpL, Rng, Tri]
  | [], _ :: _, [] => by constructor <;> simp [cmpL, Rng, Tri]
  | _ :: _, [], [] => by constructor <;> simp [cmpL, Rng, Tri]
  | [], b :: y, c :: z => by
    have h := cmpL_rng (b :: y) (c :: z)
    constructor
    · simp [cmpL, Rng]
    · exact h
    · simp [cmpL, Rng]
    · rw [show cmpL [] (b :: y) = -1 from rfl, show cmpL [] (c :: z) = -1 from rfl]; unfold Tri; omega
  | a :: x, [], c :: z => by
    have h := cmpL_rng (a :: x) (c :: z)
    constructor
    · simp [cmpL, Rng]
    · simp [cmpL, Rng]
    · exact h
    · rw [show cmpL (a :: x) [] = 1 from rfl, show cmpL [] (c :: z) = -1 from rfl]; unfold Tri; omega
  | a :: x, b :: y, [] => by
    have h := cmpL_rng (a :: x) (b :: y)
    constructor
    · exact h
    · simp [cmpL, Rng]
    · simp [cmpL, Rng]
    · rw [show cmpL (a :: x) [] = 1 from rfl, show cmpL (b :: y) [] = 1 from rfl]; unfold Tri; omega
  | a :: x, b :: y, c :: z => by
    rw [cmpL, cmpL, cmpL]
    exact (cmpI_ord _ _ _).lex (cmpL_tri x y z)
theorem less_cmpL : ∀ (x y : List UInt8), Op.bytesLess x y = decide (cmpL x y < 0)
  | [], [] => by simp [cmpL, Op.bytesLess]
  | [], _ :: _ => by simp [cmpL, Op.bytesLess]
  | _ :: _, [] => by simp [cmpL, Op.bytesLess]
  | a :: x, b :: y => by
    rw [cmpL, Op.bytesLess, less_cmpL x y]
    unfold lex
    by_cases h : a = b
    · subst h
      rw [if_pos (cmpI_zero.2 rfl)]
      simp
    · have hn : (a.toNat : Int) ≠ b.toNat := fun e => h (u8_eq.1 e)
      rw [if_neg (fun e => hn (cmpI_zero.1 e))]
      unfold cmpI
      have hl : a < b ↔ (a.toNat : Int) < b.toNat := by rw [UInt8.lt_iff_toNat_lt]; omega
      by_cases hlt : a < b
      · rw [if_pos (hl.1 hlt)]; simp [hlt]
      · have hlt' : ¬ (a.toNat : Int) < b.toNat := fun e => hlt (hl.2 e)
        rw [if_neg hlt', if_pos (by omega)]
        simp [hlt, h]
theorem cmpS_L (a b : ByteArray) : cmpS a b = cmpL a.toList b.toList := by
  have h := cmpL_rng a.toList b.toList
  have h0 := cmpL_zero a.toList b.toList
  unfold cmpS
  rw [less_cmpL]
  unfold Rng at h
  by_cases h1 : cmpL a.toList b.toList < 0
  · rw [if_pos (by simpa using h1)]; omega
  · rw [if_neg (by simpa using h1)]
    by_cases h2 : a.toList = b.toList
    · rw [if_pos (by simpa using h2)]; exact (h0.2 h2).symm
    · rw [if_neg (by simpa using h2)]
      have : cmpL a.toList b.toList ≠ 0 := fun e => h2 (h0.1 e)
      omega
theorem cmpS_ord (a b c : ByteArray) : Ord (cmpS a b) (cmpS b c) (cmpS a c) := by
  rw [cmpS_L, cmpS_L, cmpS_L]; exact cmpL_tri _ _ _
theorem cmpS_neg (a b : ByteArray) : cmpS a b = -cmpS b a := by rw [cmpS_L, cmpS_L]; exact cmpL_neg _ _
theorem cmpS_zero (a b : ByteArray) : cmpS a b = 0 ↔ a.toList = b.toList := by rw [cmpS_L]; exact cmpL_zero _ _
def cmpB (v v' : Bool) : Int := if v = v' then 0 else if v then -1 else 1
theorem cmpB_ord (a b c : Bool) : Ord (cmpB a b) (cmpB b c) (cmpB a c) := by
  constructor <;> revert a b c <;> simp only [cmpB, Rng, Tri] <;> decide
theorem cmpB_neg (a b : Bool) : cmpB a b = -cmpB b a := by revert a b; decide
theorem cmpB_zero (a b : Bool) : cmpB a b = 0 ↔ a = b := by revert a b; decide
theorem cmpT_lex (v v' : Bool) (n n' : ByteArray) (l l' : List Tm) : cmpT (.mk v n l) (.mk v' n' l') = lex (cmpB v v') (lex (cmpS n n') (lex (cmpI l.length l'.length) (cmpTL l l'))) := by
  rw [cmpT]
  unfold lex cmpB
  by_cases h : v = v'
  · rw [if_pos h, if_pos (if_pos h)]
  · rw [if_neg h, if_neg h]
    cases v
    · rfl
    · rfl
theorem cmpF_lex (o o' : Int) (n n' : ByteArray) (l l' : List Tm) (s s' : List Fo) : cmpF (.mk o n l s) (.mk o' n' l' s') =
    lex (cmpI o o') (lex (cmpS n n') (lex (lex (cmpI l.length l'.length) (cmpTL l l')) (lex (cmpI s.length s'.length) (cmpFL s s')))) := by
  rw [cmpF]
  rfl
theorem cmpTL_lex (x y : Tm) (xs ys : List Tm) : cmpTL (x :: xs) (y :: ys) = lex (cmpT x y) (cmpTL xs ys) := by rw [cmpTL]; rfl
theorem cmpFL_lex (x y : Fo) (xs ys : List Fo) : cmpFL (x :: xs) (y :: ys) = lex (cmpF x y) (cmpFL xs ys) := by rw [cmpFL]; rfl
theorem ord_len {a b c : Nat} {a' b' c' : Int} (h' : a = b → b = c → Ord a' b' c') (r1 : Rng a') (r2 : Rng b') (r3 : Rng c') : Ord (lex (cmpI a b) a') (lex (cmpI b c) b') (lex (cmpI a c) c') := by
  obtain ⟨q1, q2, q3, t⟩ := cmpI_ord (a : Int) b c
  refine ⟨lex_rng q1 r1, lex_rng q2 r2, lex_rng q3 r3, lex_tri q1 q2 q3 t (fun p q => (h' (by have := cmpI_zero.1 p; omega) (by have := cmpI_zero.1 q; omega)).tri) ?_ ?_⟩
  · intro p q; have := cmpI_zero.1 p; rw [this]
  · intro p q; have := cmpI_zero.1 p; rw [this]
mutual
theorem cmpT_rng : ∀ (t u : Tm), Rng (cmpT t u)
  | .mk v n l, .mk v' n' l' => by
    rw [cmpT_lex]
    exact lex_rng (cmpB_ord v v' v).rx (lex_rng (cmpS_ord n n' n).rx (lex_rng (cmpI_rng _ _) (cmpTL_rng l l')))
theorem cmpTL_rng : ∀ (t u : List Tm), Rng (cmpTL t u)
  | [], _ => by rw [cmpTL]; simp [Rng]
  | _ :: _, [] => by rw [cmpTL]; simp [Rng]
  | x :: xs, y :: ys => by rw [cmpTL_lex]; exact lex_rng (cmpT_rng x y) (cmpTL_rng xs ys)
end
mutual
theorem cmpT_ord : ∀ (t u s : Tm), Ord (cmpT t u) (cmpT u s) (cmpT t s)
  | .mk v n l, .mk v' n' l', .mk v'' n'' l'' => by
    rw [cmpT_lex, cmpT_lex, cmpT_lex]
    exact (cmpB_ord v v' v'').lex ((cmpS_ord n n' n'').lex (ord_len (fun h1 h2 => cmpTL_ord l l' l'' h1 h2) (cmpTL_rng _ _) (cmpTL_rng _ _) (cmpTL_rng _ _)))
theorem cmpTL_ord : ∀ (t u s : List Tm), t.length = u.length → u.length = s.length → Ord (cmpTL t u) (cmpTL u s) (cmpTL t s)
  | [], [], [], _, _ => by rw [cmpTL]; constructor <;> simp [Rng, Tri]
  | x :: xs, y :: ys, z :: zs, h1, h2 => by
    rw [cmpTL_lex, cmpTL_lex, cmpTL_lex]
    exact (cmpT_ord x y z).lex (cmpTL_ord xs ys zs (by simpa using h1) (by simpa using h2))
end
mutual
theorem cmpT_neg : ∀ (t u : Tm), cmpT t u = -cmpT u t
  | .mk v n l, .mk v' n' l' => by
    rw [cmpT_lex, cmpT_lex]
    refine lex_neg (cmpB_neg _ _) (lex_neg (cmpS_neg _ _) ?_)
    by_cases h : l.length = l'.length
    · exact lex_neg (cmpI_neg _ _) (cmpTL_neg l l' h)
    · have h1 : cmpI (l.length : Int) l'.length ≠ 0 := fun e => h (by have := cmpI_zero.1 e; omega)
      have h2 : cmpI (l'.length : Int) l.length ≠ 0 := fun e => h (by have := cmpI_zero.1 e; omega)
      unfold lex; rw [if_neg h1, if_neg h2]; exact cmpI_neg _ _
theorem cmpTL_neg : ∀ (t u : List Tm), t.length = u.length → cmpTL t u = -cmpTL u t
  | [], [], _ => by rw [cmpTL]; rfl
  | x :: xs, y :: ys, h => by
    rw [cmpTL_lex, cmpTL_lex]
    exact lex_neg (cmpT_neg x y) (cmpTL_neg xs ys (by simpa using h))
end
mutual
theorem cmpT_zero : ∀ (t u : Tm), cmpT t u = 0 ↔ eqT t u = true
  | .mk v n l, .mk v' n' l' => by
    rw [cmpT_lex, lex_zero, lex_zero, lex_zero, cmpB_zero, cmpS_zero, cmpI_zero, eqT]
    by_cases h : l.length = l'.length
    · have := cmpTL_zero l l' h
      simp [h, this, and_assoc]
    · simp [h, Int.ofNat_inj]
theorem cmpTL_zero : ∀ (t u : List Tm), t.length = u.length → (cmpTL t u = 0 ↔ eqTL t u = true)
  | [], [], _ => by rw [cmpTL, eqTL]; simp
  | x :: xs, y :: ys, h => by
    rw [cmpTL_lex, lex_zero, eqTL, cmpT_zero x y, cmpTL_zero xs ys (by simpa using h)]
    simp
end
mutual
theorem cmpF_rng : ∀ (t u : Fo), Rng (cmpF t u)
  | .mk o n l s, .mk o' n' l' s' => by
    rw [cmpF_lex]
    exact lex_rng (cmpI_rng _ _) (lex_rng (cmpS_ord n n' n).rx (lex_rng (lex_rng (cmpI_rng _ _) (cmpTL_rng l l')) (lex_rng (cmpI_rng _ _) (cmpFL_rng s s'))))
theorem cmpFL_rng : ∀ (t u : List Fo), Rng (cmpFL t u)
  | [], _ => by rw [cmpFL]; simp [Rng]
  | _ :: _, [] => by rw [cmpFL]; simp [Rng]
  | x :: xs, y :: ys => by rw [cmpFL_lex]; exact lex_rng (cmpF_rng x y) (cmpFL_rng xs ys)
end
mutual
theorem cmpF_ord : ∀ (t u s : Fo), Ord (cmpF t u) (cmpF u s) (cmpF t s)
  | .mk o n l s, .mk o' n' l' s', .mk o'' n'' l'' s'' => by
    rw [cmpF_lex, cmpF_lex, cmpF_lex]
    exact (cmpI_ord o o' o'').lex ((cmpS_ord n n' n'').lex ((ord_len (fun h1 h2 => cmpTL_ord l l' l'' h1 h2) (cmpTL_rng _ _) (cmpTL_rng _ _) (cmpTL_rng _ _)).lex
      (ord_len (fun h1 h2 => cmpFL_ord s s' s'' h1 h2) (cmpFL_rng _ _) (cmpFL_rng _ _) (cmpFL_rng _ _))))
theorem cmpFL_ord : ∀ (t u s : List Fo), t.length = u.length → u.length = s.length → Ord (cmpFL t u) (cmpFL u s) (cmpFL t s)
  | [], [], [], _, _ => by rw [cmpFL]; constructor <;> simp [Rng, Tri]
  | x :: xs, y :: ys, z :: zs, h1, h2 => by
    rw [cmpFL_lex, cmpFL_lex, cmpFL_lex]
    exact (cmpF_ord x y z).lex (cmpFL_ord xs ys zs (by simpa using h1) (by simpa using h2))
end
theorem cmpTs_neg (l l' : List Tm) : lex (cmpI l.length l'.length) (cmpTL l l') = -lex (cmpI l'.length l.length) (cmpTL l' l) := by
  by_cases h : l.length = l'.length
  · exact lex_neg (cmpI_neg _ _) (cmpTL_neg l l' h)
  · have h1 : cmpI (l.length : Int) l'.length ≠ 0 := fun e => h (by have := cmpI_zero.1 e; omega)
    have h2 : cmpI (l'.length : Int) l.length ≠ 0 := fun e => h (by have := cmpI_zero.1 e; omega)
    unfold lex; rw [if_neg h1, if_neg h2]; exact cmpI_neg _ _
mutual
theorem cmpF_neg : ∀ (t u : Fo), cmpF t u = -cmpF u t
  | .mk o n l s, .mk o' n' l' s' => by
    rw [cmpF_lex, cmpF_lex]
    refine lex_neg (cmpI_neg _ _) (lex_neg (cmpS_neg _ _) (lex_neg (cmpTs_neg l l') ?_))
    by_cases h : s.length = s'.length
    · exact lex_neg (cmpI_neg _ _) (cmpFL_neg s s' h)
    · have h1 : cmpI (s.length : Int) s'.length ≠ 0 := fun e => h (by have := cmpI_zero.1 e; omega)
      have h2 : cmpI (s'.length : Int) s.length ≠ 0 := fun e => h (by have := cmpI_zero.1 e; omega)
      unfold lex; rw [if_neg h1, if_neg h2]; exact cmpI_neg _ _
theorem cmpFL_neg : ∀ (t u : List Fo), t.length = u.length → cmpFL t u = -cmpFL u t
  | [], [], _ => by rw [cmpFL]; rfl
  | x :: xs, y :: ys, h => by
    rw [cmpFL_lex, cmpFL_lex]
    exact lex_neg (cmpF_neg x y) (cmpFL_neg xs ys (by simpa using h))
end
mutual
theorem cmpF_zero : ∀ (t u : Fo), cmpF t u = 0 ↔ eqF t u = true
  | .mk o n l s, .mk o' n' l' s' => by
    rw [cmpF_lex, lex_zero, lex_zero, lex_zero, lex_zero, lex_zero, cmpI_zero, cmpS_zero, cmpI_zero, cmpI_zero, eqF]
    by_cases h : l.length = l'.length
    · have h1 := cmpTL_zero l l' h
      by_cases hs : s.length = s'.length
      · have h2 := cmpFL_zero s s' hs
        simp [h, hs, h1, h2, and_assoc]
      · simp [hs, Int.ofNat_inj]
    · simp [h, Int.ofNat_inj]
theorem cmpFL_zero : ∀ (t u : List Fo), t.length = u.length → (cmpFL t u = 0 ↔ eqFL t u = true)
  | [], [], _ => by rw [cmpFL, eqFL]; simp
  | x :: xs, y :: ys, h => by
    rw [cmpFL_lex, lex_zero, eqFL, cmpF_zero x y, cmpFL_zero xs ys (by simpa using h)]
    simp
end
theorem cmpF_self (t : Fo) : cmpF t t = 0 := by have := cmpF_neg t t; omega
end Go.Proofs.YtnadjkofjgpabaaDoor.Fm
