/-
  Rows of terms and of formulas as they are appended.
-/
import Derived.Test.YtkeckecdhcknhaaDoorPsNest
import Derived.Test.YtkeckecdhcknhaaDoorLxRow
import Derived.Maps.AppendAt
import Derived.Deep.AppendLies
import Derived.Deep.RegionHeld3
namespace Go.Proofs.YtkeckecdhcknhaaDoor.Ps
open Go Go.RowKit Go.Shelf Go.Proofs.YtkeckecdhcknhaaDoor.Fm Go.Proofs.YtkeckecdhcknhaaDoor.Lx
set_option linter.unusedVariables false
set_option linter.unusedSimpArgs false
theorem infoT : (Tryd.prog.info? 44).map (fun i => (i.zero, i.size, i.bytes)) = some (some (.agg #[.bool false, .string ByteArray.empty, .slice none 0 0]), 3, 48) := by kernel_rfl
theorem infoF : (Tryd.prog.info? 25).map (fun i => (i.zero, i.size, i.bytes)) = some (some (.agg #[.int .u8 0, .string ByteArray.empty, .slice none 0 0, .slice none 0 0]), 4, 72) := by kernel_rfl
def RowT (D : Nat → Prop) (w : World) : List Value → List Tm → Prop
  | xs, [] => xs = []
  | xs, t :: r => ∃ v2 ys, xs = .bool t.v :: .string t.n :: v2 :: ys ∧ okStr t.n ∧ SlTD D w v2 t.args ∧ RowT D w ys r
theorem RowT.keep {D D' : Nat → Prop} {w w' : World} (hD : ∀ b, D b → ∀ q, w'.cell? ⟨b, q, none⟩ = w.cell? ⟨b, q, none⟩) (hm : ∀ b, D b → D' b) : ∀ {l : List Tm} {xs : List Value}, RowT D w xs l → RowT D' w' xs l
  | [], xs, h => h
  | t :: r, xs, ⟨v2, ys, h1, h2, h3, h4⟩ => ⟨v2, ys, h1, h2, h3.keep hD hm, RowT.keep hD hm h4⟩
theorem RowT.snoc {D : Nat → Prop} {w : World} {t : Tm} {v2 : Value} (h2 : okStr t.n) (h3 : SlTD D w v2 t.args) : ∀ {l : List Tm} {xs : List Value}, RowT D w xs l → RowT D w (xs ++ [.bool t.v, .string t.n, v2]) (l ++ [t])
  | [], xs, h => by
    have h : xs = [] := h
    subst h
    exact ⟨v2, [], rfl, h2, h3, rfl⟩
  | u :: r, xs, ⟨u2, ys, e1, e2, e3, e4⟩ => by
    subst e1
    exact ⟨u2, _, rfl, e2, e3, RowT.snoc h2 h3 e4⟩
theorem RowT.tsD {D : Nat → Prop} {w : World} {g : Nat} : ∀ {l : List Tm} {xs : List Value} {o : Nat}, RowT D w xs l → (∀ j u, xs[j]? = some u → w.cell? ⟨g, o + j, none⟩ = some u) → TsD D w g o l
  | [], xs, o, h, hc => by simp [TsD]
  | .mk v n args :: r, xs, o, ⟨v2, ys, e1, e2, e3, e4⟩, hc => by
    subst e1
    obtain ⟨a, cap, b', o', rfl, f2, f3, f4⟩ := e3
    simp only [TsD]
    exact ⟨⟨hc 0 _ rfl, hc 1 _ rfl, e2, a, cap, b', o', hc 2 _ rfl, f2, f3, f4⟩, RowT.tsD e4 fun j u hj => by rw [Nat.add_assoc, Nat.add_comm 3 j]; exact hc (j + 3) u (by simpa using hj)⟩
theorem own_cells {w : World} {base n size : Nat} {e : TypeId} {v : Value} {xs : List Value} (h : w.ownsRow base e size v n xs) :
    (v = .slice none 0 0 ∧ n = 0 ∧ xs = []) ∨ ∃ g cap, v = .slice (some ⟨g, 0, none⟩) n cap ∧ v.ownBlock = some g ∧ base ≤ g ∧ g < w.heap.size ∧ ∀ j u, xs[j]? = some u → w.cell? ⟨g, j, none⟩ = some u := by
  rcases h.2 with ⟨rfl, rfl⟩ | ⟨g, cap, cur, rfl, hb, hg, _⟩
  · exact .inl ⟨rfl, rfl, by have := h.1; rw [Nat.zero_mul] at this; exact List.eq_nil_of_length_eq_zero this⟩
  · refine .inr ⟨g, cap, rfl, rfl, hb, ?_, fun j u hj => ?_⟩
    · exact (h.lt g rfl).2
    · have hl : j < n * size := by rw [← h.1]; exact (List.getElem?_eq_some_iff.1 hj).1
      rw [h.cellAt j hl]; exact hj
theorem own_below {w w' : World} {base n size : Nat} {e : TypeId} {v : Value} {xs : List Value} (h : w.ownsRow base e size v n xs) (hb : Below w.heap.size w w') : w'.ownsRow base e size v n xs := by
  refine ⟨h.1, ?_⟩
  have hlt := h.lt
  rcases h.2 with h0 | ⟨g, cap, cur, rfl, hb0, hg, h3⟩
  · exact .inl h0
  · exact .inr ⟨g, cap, cur, rfl, hb0, by rw [hb.block g (hlt g rfl).2]; exact hg, h3⟩
theorem new_three (w : World) (x y z : Value) (t : TypeId) : ∀ j u, [x, y, z][j]? = some u → (w.alloc (.cells #[x, y, z] t)).cell? ((⟨w.heap.size, 0, none⟩ : Addr).add j) = some u := by
  intro j u h
  have e : (⟨w.heap.size, 0, none⟩ : Addr).add j = ⟨w.heap.size, j, none⟩ := by
    unfold Addr.add
    by_cases h0 : j = 0
    · rw [if_pos h0, h0]
    · rw [if_neg h0, Nat.zero_add]
  rw [e, World.cell?_alloc_at _ _ _ _ rfl, ← h]
  simp
def ApD (B : Nat) (w : World) (v : Value) (b : Nat) : Prop := B ≤ b ∧ b < w.heap.size ∧ v.ownBlock ≠ some b
def RowF (D : Nat → Prop) (w : World) : List Value → List Fo → Prop
  | xs, [] => xs = []
  | xs, t :: r => ∃ v2 v3 ys, xs = .int .u8 t.op :: .string t.n :: v2 :: v3 :: ys ∧ (0 ≤ t.op ∧ t.op ≤ 255) ∧ okStr t.n ∧ SlTD D w v2 t.args ∧ SlFD D w v3 t.sub ∧ RowF D w ys r
theorem RowF.keep {D D' : Nat → Prop} {w w' : World} (hD : ∀ b, D b → ∀ q, w'.cell? ⟨b, q, none⟩ = w.cell? ⟨b, q, none⟩) (hm : ∀ b, D b → D' b) : ∀ {l : List Fo} {xs : List Value}, RowF D w xs l → RowF D' w' xs l
  | [], xs, h => h
  | t :: r, xs, ⟨v2, v3, ys, h1, h0, h2, h3, h4, h5⟩ => ⟨v2, v3, ys, h1, h0, h2, h3.keep hD hm, h4.keep hD hm, RowF.keep hD hm h5⟩
theorem RowF.snoc {D : Nat → Prop} {w : World} {t : Fo} {v2 v3 : Value} (h0 : 0 ≤ t.op ∧ t.op ≤ 255) (h2 : okStr t.n) (h3 : SlTD D w v2 t.args) (h4 : SlFD D w v3 t.sub) : ∀ {l : List Fo} {xs : List Value}, RowF D w xs l → RowF D w (xs ++ [.int .u8 t.op, .string t.n, v2, v3]) (l ++ [t])
  | [], xs, h => by
    have h : xs = [] := h
    subst h
    exact ⟨v2, v3, [], rfl, h0, h2, h3, h4, rfl⟩
  | u :: r, xs, ⟨u2, u3, ys, e1, e0, e2, e3, e4, e5⟩ => by
    subst e1
    exact ⟨u2, u3, _, rfl, e0, e2, e3, e4, RowF.snoc h0 h2 h3 h4 e5⟩
theorem RowF.fsD {D : Nat → Prop} {w : World} {g : Nat} : ∀ {l : List Fo} {xs : List Value} {o : Nat}, RowF D w xs l → (∀ j u, xs[j]? = some u → w.cell? ⟨g, o + j, none⟩ = some u) → FsD D w g o l
  | [], xs, o, h, hc => by simp [FsD]
  | .mk op n args sub :: r, xs, o, ⟨v2, v3, ys, e1, e0, e2, e3, e4, e5⟩, hc => by
    subst e1
    obtain ⟨a, cap, b', o', rfl, f2, f3, f4⟩ := e3
    obtain ⟨a2, cap2, b2, o2, rfl, g2, g3, g4⟩ := e4
    simp only [FsD]
    exact ⟨⟨hc 0 _ rfl, e0, hc 1 _ rfl, e2, ⟨a, cap, b', o', hc 2 _ rfl, f2, f3, f4⟩, a2, cap2, b2, o2, hc 3 _ rfl, g2, g3, g4⟩, RowF.fsD e5 fun j u hj => by rw [Nat.add_assoc, Nat.add_comm 4 j]; exact hc (j + 4) u (by simpa using hj)⟩
theorem new_four (w : World) (x y z v : Value) (t : TypeId) : ∀ j u, [x, y, z, v][j]? = some u → (w.alloc (.cells #[x, y, z, v] t)).cell? ((⟨w.heap.size, 0, none⟩ : Addr).add j) = some u := by
  intro j u h
  have e : (⟨w.heap.size, 0, none⟩ : Addr).add j = ⟨w.heap.size, j, none⟩ := by
    unfold Addr.add
    by_cases h0 : j = 0
    · rw [if_pos h0, h0]
    · rw [if_neg h0, Nat.zero_add]
  rw [e, World.cell?_alloc_at _ _ _ _ rfl, ← h]
  simp
end Go.Proofs.YtkeckecdhcknhaaDoor.Ps
