/-
  A formula in a block of its own, with all that it leads to.
-/
import Derived.Test.YtnadjkofjgpabaaDoorFmReplT
import Derived.Test.YtnadjkofjgpabaaDoorFmOwnF
import Derived.Test.YtnadjkofjgpabaaDoorFmMono
namespace Go.Proofs.YtnadjkofjgpabaaDoor.Fm
open Go Go.RowKit
set_option linter.unusedVariables false
set_option linter.unusedSimpArgs false
structure Bx (B : Nat) (x0 x1 x2 x3 : Value) (t : Fo) (W : World) : Prop where
  r : RegC B x0 x1 x2 x3 W
  v : FoV W.heap.size W x0 x1 x2 x3 t
  lt : B < W.heap.size
theorem Bx.below {B : Nat} {x0 x1 x2 x3 : Value} {t : Fo} {W W' : World} (h : Bx B x0 x1 x2 x3 t W) (hb : Below W.heap.size W W') : Bx B x0 x1 x2 x3 t W' :=
  ⟨h.r.below hb h.lt, (h.v.below hb (Nat.le_refl _)).mono hb.size, Nat.lt_of_lt_of_le h.lt hb.size⟩
theorem Bx.new {v0 v1 v2 v3 : Value} {t : Fo} {w : World} (hv : FoV w.heap.size w v0 v1 v2 v3 t) (T : TypeId) : Bx w.heap.size v0 v1 v2 v3 t (w.alloc (.cells #[v0, v1, v2, v3] T)) := by
  have hb : Below w.heap.size w (w.alloc (.cells #[v0, v1, v2, v3] T)) := (Below.refl _ _).alloc (Nat.le_refl _) _
  have hc : ∀ q, (w.alloc (.cells #[v0, v1, v2, v3] T)).cell? ⟨w.heap.size, q, none⟩ = (#[v0, v1, v2, v3] : Array Value)[q]? := fun q => by rw [World.cell?_alloc_at _ _ _ _ rfl]
  exact ⟨⟨hc 0, hc 1, hc 2, hc 3⟩, (hv.below hb (Nat.le_refl _)).mono hb.size, by simp⟩
/-- Bounds of an operator and a name. -/
def OkN (t : Fo) : Prop := (0 ≤ t.op ∧ t.op ≤ 255) ∧ okStr t.n
theorem foV_at {n : Nat} {w : World} : ∀ (is : List Int) (f t : Fo) (v0 v1 v2 v3 : Value), FoV n w v0 v1 v2 v3 f → atF f is = some t → OkN t
  | [], f, t, v0, v1, v2, v3, h, ha => by
    simp only [atF, Option.some.injEq] at ha
    subst ha
    exact ⟨h.bd, h.ok⟩
  | i :: r, f, t, v0, v1, v2, v3, h, ha => by
    obtain ⟨h0, g, hg, hr⟩ := atF_cons ha
    obtain ⟨hl, rfl⟩ := List.getElem?_eq_some_iff.1 hg
    have hs := h.sub
    obtain ⟨⟨a, c, rfl⟩, _⟩ := hs.form
    obtain ⟨_, b, o, rfl, hbn, u0, u1, u2, u3, c0, c1, c2, c3, hu⟩ := hs.get hl
    exact foV_at r _ t _ _ _ _ hu hr
theorem okN_with : ∀ (is : List Int) (f p : Fo), OkN f → OkN p → OkN (withF f is p)
  | [], f, p, hf, hp => hp
  | i :: r, f, p, hf, hp => by
    rw [withF]
    split
    · exact hf
    · exact hf
/-- What At and With give, as a formula in memory. -/
theorem atP_foV {t : Fo} {w w' : World} {a c a' c'} (hk : OkN t) (h1 : SlTD (fun b => w.heap.size ≤ b ∧ b < w'.heap.size) w' (.slice a t.args.length c) t.args) (h2 : SlFD (fun b => w.heap.size ≤ b ∧ b < w'.heap.size) w' (.slice a' t.sub.length c') t.sub) :
    FoV w'.heap.size w' (.int .u8 t.op) (.string t.n) (.slice a t.args.length c) (.slice a' t.sub.length c') t := ⟨rfl, hk.1, rfl, hk.2, h1.slT fun _ h => h.2, h2.slF fun _ h => h.2⟩
def zeroF : Fo := .mk 0 ByteArray.empty [] []
theorem zero_foV (n : Nat) (w : World) : FoV n w (.int .u8 0) (.string ByteArray.empty) (.slice none 0 0) (.slice none 0 0) zeroF :=
  ⟨rfl, by decide, rfl, by unfold okStr zeroF; decide, ⟨none, 0, 0, 0, rfl, by decide, .inl rfl, by simp [zeroF, Fo.args, TsAt]⟩, ⟨none, 0, 0, 0, rfl, by decide, .inl rfl, by simp [zeroF, Fo.sub, FsAt]⟩⟩
/-- The number of nodes, as the program counts. -/
def nd (t : Fo) : Int := wrap64 ((levelsL t).length : Int)
theorem nodes_nd {v0 v1 v2 v3 : Value} {f : Fo} {w : World} (hf : FoV w.heap.size w v0 v1 v2 v3 f) :
    Calls Tryd.prog 15 #[.agg #[v0, v1, v2, v3]] w fun e w' => e = .returned (.int .i64 (nd f)) ∧ Below w.heap.size w w' :=
  callsIn_wide.1 (nodes_w v0 v1 v2 v3 f w.heap.size w hf (Nat.le_refl _))
theorem nd_sum (a b c d : Nat) (h : d + b = a + c) : wrap64 (wrap64 (wrap64 (a : Int) - wrap64 (b : Int)) + wrap64 (c : Int)) = wrap64 (d : Int) := by
  unfold wrap64
  omega
theorem nd_with {is : List Int} {f p old : Fo} (h : atF f is = some old) : wrap64 (wrap64 (nd f - nd old) + nd p) = nd (withF f is p) := by
  have := with_nodes is f p old h
  unfold nd
  rw [len_levels, len_levels, len_levels, len_levels]
  exact nd_sum _ _ _ _ this
end Go.Proofs.YtnadjkofjgpabaaDoor.Fm
