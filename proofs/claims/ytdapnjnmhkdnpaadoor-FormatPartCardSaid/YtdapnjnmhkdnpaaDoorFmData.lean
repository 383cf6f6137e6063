/-
  Formulas and terms as they lie in memory.
-/
import Derived.Test.YtdapnjnmhkdnpaaDoorFmRange
namespace Go.Proofs.YtdapnjnmhkdnpaaDoor.Fm
open Go Go.RowKit
set_option linter.unusedVariables false
set_option linter.unusedSimpArgs false
inductive Tm where
  | mk (v : Bool) (n : ByteArray) (args : List Tm)
inductive Fo where
  | mk (op : Int) (n : ByteArray) (args : List Tm) (sub : List Fo)
def Tm.v : Tm → Bool | .mk v _ _ => v
def Tm.n : Tm → ByteArray | .mk _ n _ => n
def Tm.args : Tm → List Tm | .mk _ _ l => l
def Fo.op : Fo → Int | .mk o _ _ _ => o
def Fo.n : Fo → ByteArray | .mk _ n _ _ => n
def Fo.args : Fo → List Tm | .mk _ _ l _ => l
def Fo.sub : Fo → List Fo | .mk _ _ _ l => l
/-- What the fields of formulas and terms are in range. -/
def okStr (s : ByteArray) : Prop := s.size ≤ 9223372036854775807
/-- The terms l lie from offset o of block b on; what they lead to lies below n. -/
def TsAt (n : Nat) (w : World) (b o : Nat) : List Tm → Prop
  | [] => True
  | .mk v nm args :: r => (w.cell? ⟨b, o, none⟩ = some (.bool v) ∧ w.cell? ⟨b, o + 1, none⟩ = some (.string nm) ∧ okStr nm ∧
      ∃ a cap b' o', w.cell? ⟨b, o + 2, none⟩ = some (.slice a args.length cap) ∧ args.length ≤ 2932031007402 ∧ (args = [] ∨ (a = some ⟨b', o', none⟩ ∧ b' < n)) ∧ TsAt n w b' o' args) ∧ TsAt n w b (o + 3) r
def FsAt (n : Nat) (w : World) (b o : Nat) : List Fo → Prop
  | [] => True
  | .mk op nm args sub :: r => (w.cell? ⟨b, o, none⟩ = some (.int .u8 op) ∧ (0 ≤ op ∧ op ≤ 255) ∧ w.cell? ⟨b, o + 1, none⟩ = some (.string nm) ∧ okStr nm ∧
      (∃ a cap b' o', w.cell? ⟨b, o + 2, none⟩ = some (.slice a args.length cap) ∧ args.length ≤ 2932031007402 ∧ (args = [] ∨ (a = some ⟨b', o', none⟩ ∧ b' < n)) ∧ TsAt n w b' o' args) ∧
      ∃ a cap b' o', w.cell? ⟨b, o + 3, none⟩ = some (.slice a sub.length cap) ∧ sub.length ≤ 1954687338268 ∧ (sub = [] ∨ (a = some ⟨b', o', none⟩ ∧ b' < n)) ∧ FsAt n w b' o' sub) ∧ FsAt n w b (o + 4) r
/-- A slice of terms, of formulas. -/
def SlT (n : Nat) (w : World) (v : Value) (l : List Tm) : Prop :=
  ∃ a cap b o, v = .slice a l.length cap ∧ l.length ≤ 2932031007402 ∧ (l = [] ∨ (a = some ⟨b, o, none⟩ ∧ b < n)) ∧ TsAt n w b o l
def SlF (n : Nat) (w : World) (v : Value) (l : List Fo) : Prop :=
  ∃ a cap b o, v = .slice a l.length cap ∧ l.length ≤ 1954687338268 ∧ (l = [] ∨ (a = some ⟨b, o, none⟩ ∧ b < n)) ∧ FsAt n w b o l
/-- A term, a formula by their fields' values. -/
structure TmV (n : Nat) (w : World) (v0 v1 v2 : Value) (t : Tm) : Prop where
  v : v0 = .bool t.v
  nm : v1 = .string t.n
  ok : okStr t.n
  args : SlT n w v2 t.args
structure FoV (n : Nat) (w : World) (v0 v1 v2 v3 : Value) (f : Fo) : Prop where
  op : v0 = .int .u8 f.op
  bd : 0 ≤ f.op ∧ f.op ≤ 255
  nm : v1 = .string f.n
  ok : okStr f.n
  args : SlT n w v2 f.args
  sub : SlF n w v3 f.sub
theorem TsAt.below {n m : Nat} {w w' : World} (hb : Below m w w') (hn : n ≤ m) (l : List Tm) : ∀ {b o : Nat}, (l = [] ∨ b < n) → TsAt n w b o l → TsAt n w' b o l := by
  match l with
  | [] => exact fun _ _ => by simp [TsAt]
  | .mk v nm args :: r =>
    intro b o hlt h
    have hbn : b < n := hlt.resolve_left (by simp)
    simp only [TsAt] at h ⊢
    obtain ⟨⟨h0, h1, h2, a, cap, b', o', h3, h4, h5, h6⟩, h7⟩ := h
    have hc : ∀ q, w'.cell? ⟨b, q, none⟩ = w.cell? ⟨b, q, none⟩ := fun q => hb.cell (p := ⟨b, q, none⟩) (show b < m by omega)
    refine ⟨⟨by rw [hc]; exact h0, by rw [hc]; exact h1, h2, a, cap, b', o', by rw [hc]; exact h3, h4, h5, ?_⟩, TsAt.below hb hn r (.inr hbn) h7⟩
    exact TsAt.below hb hn args (h5.imp id fun h => h.2) h6
termination_by SizeOf.sizeOf l
theorem FsAt.below {n m : Nat} {w w' : World} (hb : Below m w w') (hn : n ≤ m) (l : List Fo) : ∀ {b o : Nat}, (l = [] ∨ b < n) → FsAt n w b o l → FsAt n w' b o l := by
  match l with
  | [] => exact fun _ _ => by simp [FsAt]
  | .mk op nm args sub :: r =>
    intro b o hlt h
    have hbn : b < n := hlt.resolve_left (by simp)
    simp only [FsAt] at h ⊢
    obtain ⟨⟨h0, hop, h1, h2, ⟨a, cap, b', o', h3, h4, h5, h6⟩, a2, cap2, b2, o2, g3, g4, g5, g6⟩, h7⟩ := h
    have hc : ∀ q, w'.cell? ⟨b, q, none⟩ = w.cell? ⟨b, q, none⟩ := fun q => hb.cell (p := ⟨b, q, none⟩) (show b < m by omega)
    refine ⟨⟨by rw [hc]; exact h0, hop, by rw [hc]; exact h1, h2, ⟨a, cap, b', o', by rw [hc]; exact h3, h4, h5, ?_⟩, a2, cap2, b2, o2, by rw [hc]; exact g3, g4, g5, ?_⟩, FsAt.below hb hn r (.inr hbn) h7⟩
    · exact TsAt.below hb hn args (h5.imp id fun h => h.2) h6
    · exact FsAt.below hb hn sub (g5.imp id fun h => h.2) g6
termination_by SizeOf.sizeOf l
theorem SlT.below {n m : Nat} {w w' : World} {v : Value} {l : List Tm} (h : SlT n w v l) (hb : Below m w w') (hn : n ≤ m) : SlT n w' v l := by
  obtain ⟨a, cap, b, o, h1, h2, h3, h4⟩ := h
  exact ⟨a, cap, b, o, h1, h2, h3, h4.below hb hn l (h3.imp id fun h => h.2)⟩
theorem SlF.below {n m : Nat} {w w' : World} {v : Value} {l : List Fo} (h : SlF n w v l) (hb : Below m w w') (hn : n ≤ m) : SlF n w' v l := by
  obtain ⟨a, cap, b, o, h1, h2, h3, h4⟩ := h
  exact ⟨a, cap, b, o, h1, h2, h3, h4.below hb hn l (h3.imp id fun h => h.2)⟩
theorem TmV.below {n m : Nat} {w w' : World} {v0 v1 v2 : Value} {t : Tm} (h : TmV n w v0 v1 v2 t) (hb : Below m w w') (hn : n ≤ m) : TmV n w' v0 v1 v2 t := ⟨h.v, h.nm, h.ok, h.args.below hb hn⟩
theorem FoV.below {n m : Nat} {w w' : World} {v0 v1 v2 v3 : Value} {f : Fo} (h : FoV n w v0 v1 v2 v3 f) (hb : Below m w w') (hn : n ≤ m) : FoV n w' v0 v1 v2 v3 f := ⟨h.op, h.bd, h.nm, h.ok, h.args.below hb hn, h.sub.below hb hn⟩
theorem TsAt.get {n : Nat} {w : World} : ∀ (l : List Tm) (b o i : Nat) (t : Tm), TsAt n w b o l → l[i]? = some t →
    ∃ v0 v1 v2, w.cell? ⟨b, o + i * 3, none⟩ = some v0 ∧ w.cell? ⟨b, o + i * 3 + 1, none⟩ = some v1 ∧ w.cell? ⟨b, o + i * 3 + 2, none⟩ = some v2 ∧ TmV n w v0 v1 v2 t
  | [], b, o, i, t, h, hi => by simp at hi
  | .mk v nm args :: r, b, o, 0, t, h, hi => by
    simp only [TsAt] at h
    simp only [List.getElem?_cons_zero, Option.some.injEq] at hi
    subst hi
    obtain ⟨⟨h0, h1, h2, a, cap, b', o', h3, h4, h5, h6⟩, _⟩ := h
    exact ⟨_, _, _, by rw [Nat.zero_mul, Nat.add_zero]; exact h0, by rw [Nat.zero_mul, Nat.add_zero]; exact h1, by rw [Nat.zero_mul, Nat.add_zero]; exact h3, rfl, rfl, h2, a, cap, b', o', rfl, h4, h5, h6⟩
  | .mk v nm args :: r, b, o, i + 1, t, h, hi => by
    simp only [TsAt] at h
    obtain ⟨v0, v1, v2, h0, h1, h2, h3⟩ := TsAt.get r b (o + 3) i t h.2 (by simpa using hi)
    exact ⟨v0, v1, v2, by rw [← h0]; congr 2; omega, by rw [← h1]; congr 2; omega, by rw [← h2]; congr 2; omega, h3⟩
theorem FsAt.get {n : Nat} {w : World} : ∀ (l : List Fo) (b o i : Nat) (t : Fo), FsAt n w b o l → l[i]? = some t →
    ∃ v0 v1 v2 v3, w.cell? ⟨b, o + i * 4, none⟩ = some v0 ∧ w.cell? ⟨b, o + i * 4 + 1, none⟩ = some v1 ∧ w.cell? ⟨b, o + i * 4 + 2, none⟩ = some v2 ∧ w.cell? ⟨b, o + i * 4 + 3, none⟩ = some v3 ∧ FoV n w v0 v1 v2 v3 t
  | [], b, o, i, t, h, hi => by simp at hi
  | .mk op nm args sub :: r, b, o, 0, t, h, hi => by
    simp only [FsAt] at h
    simp only [List.getElem?_cons_zero, Option.some.injEq] at hi
    subst hi
    obtain ⟨⟨h0, hop, h1, h2, ⟨a, cap, b', o', h3, h4, h5, h6⟩, a2, cap2, b2, o2, g3, g4, g5, g6⟩, _⟩ := h
    exact ⟨_, _, _, _, by rw [Nat.zero_mul, Nat.add_zero]; exact h0, by rw [Nat.zero_mul, Nat.add_zero]; exact h1, by rw [Nat.zero_mul, Nat.add_zero]; exact h3, by rw [Nat.zero_mul, Nat.add_zero]; exact g3, rfl, hop, rfl, h2, ⟨a, cap, b', o', rfl, h4, h5, h6⟩, a2, cap2, b2, o2, rfl, g4, g5, g6⟩
  | .mk op nm args sub :: r, b, o, i + 1, t, h, hi => by
    simp only [FsAt] at h
    obtain ⟨v0, v1, v2, v3, h0, h1, h2, h3, h4⟩ := FsAt.get r b (o + 4) i t h.2 (by simpa using hi)
    exact ⟨v0, v1, v2, v3, by rw [← h0]; congr 2; omega, by rw [← h1]; congr 2; omega, by rw [← h2]; congr 2; omega, by rw [← h3]; congr 2; omega, h4⟩
/-- Element i of a slice. -/
theorem SlT.get {n : Nat} {w : World} {a : Option Addr} {len cap i : Nat} {l : List Tm} (h : SlT n w (.slice a len cap) l) (hi : i < l.length) :
    len = l.length ∧ ∃ b o, a = some ⟨b, o, none⟩ ∧ b < n ∧ ∃ v0 v1 v2, w.cell? ⟨b, o + i * 3, none⟩ = some v0 ∧ w.cell? ⟨b, o + i * 3 + 1, none⟩ = some v1 ∧ w.cell? ⟨b, o + i * 3 + 2, none⟩ = some v2 ∧ TmV n w v0 v1 v2 l[i] := by
  obtain ⟨a', cap', b, o, h1, h2, h3, h4⟩ := h
  injection h1 with e1 e2 e3
  subst e1; subst e2
  obtain ⟨ha, hb⟩ := h3.resolve_left (by rintro rfl; simp at hi)
  exact ⟨rfl, b, o, ha, hb, TsAt.get l b o i l[i] h4 (List.getElem?_eq_getElem hi)⟩
theorem SlF.get {n : Nat} {w : World} {a : Option Addr} {len cap i : Nat} {l : List Fo} (h : SlF n w (.slice a len cap) l) (hi : i < l.length) :
    len = l.length ∧ ∃ b o, a = some ⟨b, o, none⟩ ∧ b < n ∧ ∃ v0 v1 v2 v3, w.cell? ⟨b, o + i * 4, none⟩ = some v0 ∧ w.cell? ⟨b, o + i * 4 + 1, none⟩ = some v1 ∧ w.cell? ⟨b, o + i * 4 + 2, none⟩ = some v2 ∧ w.cell? ⟨b, o + i * 4 + 3, none⟩ = some v3 ∧ FoV n w v0 v1 v2 v3 l[i] := by
  obtain ⟨a', cap', b, o, h1, h2, h3, h4⟩ := h
  injection h1 with e1 e2 e3
  subst e1; subst e2
  obtain ⟨ha, hb⟩ := h3.resolve_left (by rintro rfl; simp at hi)
  exact ⟨rfl, b, o, ha, hb, FsAt.get l b o i l[i] h4 (List.getElem?_eq_getElem hi)⟩
theorem SlT.form {n : Nat} {w : World} {v : Value} {l : List Tm} (h : SlT n w v l) : (∃ a cap, v = .slice a l.length cap) ∧ l.length ≤ 2932031007402 := by
  obtain ⟨a, cap, _, _, h1, h2, _⟩ := h
  exact ⟨⟨a, cap, h1⟩, h2⟩
theorem SlF.form {n : Nat} {w : World} {v : Value} {l : List Fo} (h : SlF n w v l) : (∃ a cap, v = .slice a l.length cap) ∧ l.length ≤ 1954687338268 := by
  obtain ⟨a, cap, _, _, h1, h2, _⟩ := h
  exact ⟨⟨a, cap, h1⟩, h2⟩
/-- A formula's own parts, with their levels; a term's; in their order. -/
def Tm.all (lv : Int) : Tm → List (Int × Tm)
  | .mk v n args => (lv, .mk v n args) :: args.attach.flatMap fun ⟨t, _⟩ => t.all (wrap64 (lv + 1))
def Fo.all (lv : Int) : Fo → List (Int × Fo)
  | .mk op n args sub => (lv, .mk op n args sub) :: sub.attach.flatMap fun ⟨f, _⟩ => f.all (wrap64 (lv + 1))
theorem Tm.all_eq (lv : Int) (t : Tm) : t.all lv = (lv, t) :: t.args.flatMap fun t => t.all (wrap64 (lv + 1)) := by
  obtain ⟨v, n, args⟩ := t
  rw [Tm.all]
  congr 1
  simp [Tm.args, List.flatMap_subtype]
theorem Fo.all_eq (lv : Int) (f : Fo) : f.all lv = (lv, f) :: f.sub.flatMap fun f => f.all (wrap64 (lv + 1)) := by
  obtain ⟨op, n, args, sub⟩ := f
  rw [Fo.all]
  congr 1
  simp [Fo.sub, List.flatMap_subtype]
end Go.Proofs.YtdapnjnmhkdnpaaDoor.Fm
