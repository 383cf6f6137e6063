/-
  A part's own place in a formula whose parts lie apart: what is stored there changes that part, and nothing else.
-/
import Derived.Test.YtnadjkofjgpabaaDoorFmCopyI
import Derived.Test.YtnadjkofjgpabaaDoorFmAt
namespace Go.Proofs.YtnadjkofjgpabaaDoor.Fm
open Go Go.RowKit Go.Shelf
set_option linter.unusedVariables false
set_option linter.unusedSimpArgs false
/-- The formula with another part at a place. -/
def withF : Fo → List Int → Fo → Fo
  | f, [], p => p
  | f, i :: r, p => match f.sub[i.toNat]? with | some g => .mk f.op f.n f.args (f.sub.set i.toNat (withF g r p)) | none => f
/-- A formula in four cells. -/
structure FoAt (D : Nat → Prop) (w : World) (b o : Nat) (t : Fo) (va vs : Value) : Prop where
  c0 : w.cell? ⟨b, o, none⟩ = some (.int .u8 t.op)
  bd : 0 ≤ t.op ∧ t.op ≤ 255
  c1 : w.cell? ⟨b, o + 1, none⟩ = some (.string t.n)
  ok : okStr t.n
  c2 : w.cell? ⟨b, o + 2, none⟩ = some va
  c3 : w.cell? ⟨b, o + 3, none⟩ = some vs
  args : SlTD D w va t.args
  sub : SlFD D w vs t.sub
theorem fsD_cons {D : Nat → Prop} {w : World} {b o : Nat} {t : Fo} {r : List Fo} {va vs : Value} (h : FoAt D w b o t va vs) (hr : FsD D w b (o + 4) r) : FsD D w b o (t :: r) := by
  obtain ⟨op, nm, args, sub⟩ := t
  obtain ⟨h0, hop, h1, h2, h3, h4, ⟨a, cap, b', o', rfl, k1, k2, k3⟩, a2, cap2, b2, o2, rfl, g1, g2, g3⟩ := h
  simp only [FsD]
  exact ⟨⟨h0, hop, h1, h2, ⟨a, cap, b', o', h3, k1, k2, k3⟩, a2, cap2, b2, o2, h4, g1, g2, g3⟩, hr⟩
/-- A formula in four cells, whose parts lie apart in the blocks from lo to hi. -/
structure FoI (w : World) (b o : Nat) (t : Fo) (va vs : Value) (lo m hi : Nat) : Prop where
  c0 : w.cell? ⟨b, o, none⟩ = some (.int .u8 t.op)
  bd : 0 ≤ t.op ∧ t.op ≤ 255
  c1 : w.cell? ⟨b, o + 1, none⟩ = some (.string t.n)
  ok : okStr t.n
  c2 : w.cell? ⟨b, o + 2, none⟩ = some va
  c3 : w.cell? ⟨b, o + 3, none⟩ = some vs
  fz : ∀ j, o ≤ j → j < o + 4 → w.frozen? ⟨b, j, none⟩ = false
  args : SlTD (fun x => lo ≤ x ∧ x < m) w va t.args
  sub : SlFI w vs m hi t.sub
  e1 : lo ≤ m
  e2 : m ≤ hi
/-- Elsewhere the worlds hold the same. -/
def Else (w w' : World) (lo hi b o x : Nat) : Prop := ∀ j, (x < lo ∨ hi ≤ x) → (x ≠ b ∨ j < o ∨ o + 4 ≤ j) → w'.cell? ⟨x, j, none⟩ = w.cell? ⟨x, j, none⟩
theorem FsI.get {w : World} : ∀ (l : List Fo) (b o lo hi i : Nat) (hi' : i < l.length), FsI w b o lo hi l → (b < lo ∨ hi ≤ b) → ∃ va vs lo' m' h', FoI w b (o + i * 4) l[i] va vs lo' m' h' ∧ lo ≤ lo' ∧ h' ≤ hi ∧
    ∀ (w' : World) (t : Fo) (D : Nat → Prop) (va' vs' : Value), (∀ x, lo ≤ x → x < hi → D x) → (∀ x, (lo ≤ x ∧ x < hi) ∨ x = b → Else w w' lo' h' b (o + i * 4) x) → FoAt D w' b (o + i * 4) t va' vs' → FsD D w' b o (l.set i t)
  | [], _, _, _, _, i, hi', _, _ => by simp at hi'
  | .mk op nm args sub :: r, b, o, lo, hi, 0, _, h, hb => by
    simp only [FsI] at h
    obtain ⟨m1, m2, va, vs, ⟨h0, hop, h1, h2, h3, h4, hfz⟩, hT, hF, e1, e2, e3, h5⟩ := h
    simp only [Nat.zero_mul, Nat.add_zero, List.getElem_cons_zero, List.set_cons_zero]
    refine ⟨va, vs, lo, m1, m2, ⟨h0, hop, h1, h2, h3, h4, hfz, hT, hF, e1, e2⟩, Nat.le_refl _, e3, fun w' t D va' vs' hD hE hA => fsD_cons hA ?_⟩
    exact FsD.keep (fun x hx j => hE x (.inl ⟨by omega, hx.2⟩) j (.inr (by omega)) (.inl (by omega))) (fun x hx => hD x (by omega) hx.2) r (fun j j1 j2 => hE b (.inr rfl) j (by omega) (.inr (.inr (by omega)))) (FsI.fsD r h5)
  | .mk op nm args sub :: r, b, o, lo, hi, i + 1, hi', h, hb => by
    simp only [FsI] at h
    obtain ⟨m1, m2, va, vs, ⟨h0, hop, h1, h2, h3, h4, hfz⟩, hT, hF, e1, e2, e3, h5⟩ := h
    obtain ⟨va0, vs0, lo', m', h', hI, g1, g2, g3⟩ := FsI.get r b (o + 4) m2 hi i (by simpa using hi') h5 (by omega)
    have ho : o + 4 + i * 4 = o + (i + 1) * 4 := by omega
    rw [ho] at hI g3
    have hle := hI.e1
    have hle2 := hI.e2
    simp only [List.getElem_cons_succ, List.set_cons_succ]
    refine ⟨va0, vs0, lo', m', h', hI, by omega, g2, fun w' t D va' vs' hD hE hA => fsD_cons (t := .mk op nm args sub) (va := va) (vs := vs) ⟨?_, hop, ?_, h2, ?_, ?_, ?_, ?_⟩ (g3 w' t D va' vs' (fun x h1 h2 => hD x (by omega) h2) (fun x hx => hE x (by omega)) hA)⟩
    · rw [hE b (.inr rfl) o (by omega) (by omega)]; exact h0
    · rw [hE b (.inr rfl) (o + 1) (by omega) (by omega)]; exact h1
    · rw [hE b (.inr rfl) (o + 2) (by omega) (by omega)]; exact h3
    · rw [hE b (.inr rfl) (o + 3) (by omega) (by omega)]; exact h4
    · exact hT.keep (fun x hx j => hE x (.inl ⟨hx.1, by omega⟩) j (.inl (by omega)) (.inl (by omega))) (fun x hx => hD x hx.1 (by omega))
    · exact SlFD.keep (SlFI.slFD (show SlFI w vs m1 m2 sub from hF)) (fun x hx j => hE x (.inl ⟨by omega, by omega⟩) j (.inl (by omega)) (.inl (by omega))) (fun x hx => hD x (by omega) (by omega))
/-- Where the walk stands: at part g of f, which lies at (b, o). -/
structure NodeW (w : World) (B N Z : Nat) (f : Fo) (is : List Int) (q : Nat) (g : Fo) (b o lo m hi : Nat) (va vs : Value) (F : Fo → Fo) : Prop where
  i : FoI w b o g va vs lo m hi
  out : b < lo ∨ hi ≤ b
  lb : B ≤ b
  ub : b < N
  ll : B ≤ lo
  uu : hi ≤ N
  hole : ∀ (w' : World) (t : Fo) (D : Nat → Prop) (va' vs' : Value), (∀ x, B ≤ x → x < N → D x) → (∀ x, B ≤ x → x < N → Else w w' lo hi b o x) → FoAt D w' b o t va' vs' → ∃ va vs, FoAt D w' Z 0 (F t) va vs
  hat : atF g (is.drop q) = atF f is
  hw : ∀ p, F (withF g (is.drop q) p) = withF f is p
theorem NodeW.step {w : World} {B N Z : Nat} {f : Fo} {is : List Int} {q : Nat} {g : Fo} {b o lo m hi : Nat} {va vs : Value} {F : Fo → Fo} (h : NodeW w B N Z f is q g b o lo m hi va vs F) {k : Nat} (hq : q < is.length) (hk : is[q] = (k : Int)) (hkl : k < g.sub.length) :
    ∃ R cap, vs = .slice (some ⟨R, 0, none⟩) g.sub.length cap ∧ R < N ∧ ∃ lo' m' hi' va' vs', NodeW w B N Z f is (q + 1) g.sub[k] R (k * 4) lo' m' hi' va' vs' (fun t => F (.mk g.op g.n g.args (g.sub.set k t))) := by
  have hi := h.i
  obtain ⟨a, cap, R, hv, hlen, hne, hFs⟩ := hi.sub
  obtain ⟨rfl, hR1, hR2⟩ := hne.resolve_left (by rintro he; rw [he] at hkl; simp at hkl)
  obtain ⟨va0, vs0, lo', m', h', hI, g1, g2, g3⟩ := FsI.get g.sub R 0 (R + 1) _ k hkl hFs (.inl (Nat.lt_succ_self _))
  rw [Nat.zero_add] at hI g3
  have hle := hI.e1
  have hle2 := hI.e2
  have hle3 := hi.e1
  have hout := h.out
  have hlb := h.lb
  have hub := h.ub
  have hll := h.ll
  have huu := h.uu
  have hd : is.drop q = (k : Int) :: is.drop (q + 1) := by rw [List.drop_eq_getElem_cons hq, hk]
  refine ⟨R, cap, hv, by omega, lo', m', h', va0, vs0, hI, .inl (by omega), by omega, by omega, by omega, by omega, ?_, ?_, ?_⟩
  · intro w' t D va' vs' hD hE hA
    refine h.hole w' _ D va vs hD (fun x h1 h2 j h3 h4 => hE x h1 h2 j (by omega) (.inl (by omega))) ⟨?_, hi.bd, ?_, hi.ok, ?_, ?_, ?_, ?_⟩
    · rw [hE b hlb hub o (by omega) (.inl (by omega))]; exact hi.c0
    · rw [hE b hlb hub (o + 1) (by omega) (.inl (by omega))]; exact hi.c1
    · rw [hE b hlb hub (o + 2) (by omega) (.inl (by omega))]; exact hi.c2
    · rw [hE b hlb hub (o + 3) (by omega) (.inl (by omega))]; exact hi.c3
    · exact hi.args.keep (fun x hx j => hE x (by omega) (by omega) j (.inl (by omega)) (.inl (by omega))) (fun x hx => hD x (by omega) (by omega))
    · refine ⟨some ⟨R, 0, none⟩, cap, R, 0, ?_, ?_, .inr ⟨rfl, hD R (by omega) (by omega)⟩, g3 w' t D va' vs' (fun x h1 h2 => hD x (by omega) (by omega)) (fun x hx => hE x (by omega) (by omega)) hA⟩
      · rw [hv]; simp [Fo.sub]
      · simpa [Fo.sub] using hlen
  · rw [← h.hat, hd, atF, if_pos (by omega), Int.toNat_natCast, List.getElem?_eq_getElem hkl]
  · intro p
    rw [← h.hw p, hd, withF, Int.toNat_natCast, List.getElem?_eq_getElem hkl]
end Go.Proofs.YtnadjkofjgpabaaDoor.Fm
