/-
  Terms and formulas in memory of a call's own: D says in which blocks what they lead to lies.
-/
import Derived.Test.YtkeckecdhcknhaaDoorFmRight
namespace Go.Proofs.YtkeckecdhcknhaaDoor.Fm
open Go Go.RowKit
set_option linter.unusedVariables false
set_option linter.unusedSimpArgs false
def TsD (D : Nat → Prop) (w : World) (b o : Nat) : List Tm → Prop
  | [] => True
  | .mk v nm args :: r => (w.cell? ⟨b, o, none⟩ = some (.bool v) ∧ w.cell? ⟨b, o + 1, none⟩ = some (.string nm) ∧ okStr nm ∧
      ∃ a cap b' o', w.cell? ⟨b, o + 2, none⟩ = some (.slice a args.length cap) ∧ args.length ≤ 2932031007402 ∧ (args = [] ∨ (a = some ⟨b', o', none⟩ ∧ D b')) ∧ TsD D w b' o' args) ∧ TsD D w b (o + 3) r
def FsD (D : Nat → Prop) (w : World) (b o : Nat) : List Fo → Prop
  | [] => True
  | .mk op nm args sub :: r => (w.cell? ⟨b, o, none⟩ = some (.int .u8 op) ∧ (0 ≤ op ∧ op ≤ 255) ∧ w.cell? ⟨b, o + 1, none⟩ = some (.string nm) ∧ okStr nm ∧
      (∃ a cap b' o', w.cell? ⟨b, o + 2, none⟩ = some (.slice a args.length cap) ∧ args.length ≤ 2932031007402 ∧ (args = [] ∨ (a = some ⟨b', o', none⟩ ∧ D b')) ∧ TsD D w b' o' args) ∧
      ∃ a cap b' o', w.cell? ⟨b, o + 3, none⟩ = some (.slice a sub.length cap) ∧ sub.length ≤ 1954687338268 ∧ (sub = [] ∨ (a = some ⟨b', o', none⟩ ∧ D b')) ∧ FsD D w b' o' sub) ∧ FsD D w b (o + 4) r
def SlTD (D : Nat → Prop) (w : World) (v : Value) (l : List Tm) : Prop :=
  ∃ a cap b o, v = .slice a l.length cap ∧ l.length ≤ 2932031007402 ∧ (l = [] ∨ (a = some ⟨b, o, none⟩ ∧ D b)) ∧ TsD D w b o l
def SlFD (D : Nat → Prop) (w : World) (v : Value) (l : List Fo) : Prop :=
  ∃ a cap b o, v = .slice a l.length cap ∧ l.length ≤ 1954687338268 ∧ (l = [] ∨ (a = some ⟨b, o, none⟩ ∧ D b)) ∧ FsD D w b o l
theorem TsD.tsAt {D : Nat → Prop} {n : Nat} {w : World} (hD : ∀ b, D b → b < n) (l : List Tm) : ∀ {b o : Nat}, TsD D w b o l → TsAt n w b o l := by
  match l with
  | [] => exact fun _ => by simp [TsAt]
  | .mk v nm args :: r =>
    intro b o h
    simp only [TsD] at h
    simp only [TsAt]
    obtain ⟨⟨h0, h1, h2, a, cap, b', o', h3, h4, h5, h6⟩, h7⟩ := h
    exact ⟨⟨h0, h1, h2, a, cap, b', o', h3, h4, h5.imp id fun h => ⟨h.1, hD _ h.2⟩, TsD.tsAt hD args h6⟩, TsD.tsAt hD r h7⟩
termination_by SizeOf.sizeOf l
theorem FsD.fsAt {D : Nat → Prop} {n : Nat} {w : World} (hD : ∀ b, D b → b < n) (l : List Fo) : ∀ {b o : Nat}, FsD D w b o l → FsAt n w b o l := by
  match l with
  | [] => exact fun _ => by simp [FsAt]
  | .mk op nm args sub :: r =>
    intro b o h
    simp only [FsD] at h
    simp only [FsAt]
    obtain ⟨⟨h0, hop, h1, h2, ⟨a, cap, b', o', h3, h4, h5, h6⟩, a2, cap2, b2, o2, g3, g4, g5, g6⟩, h7⟩ := h
    exact ⟨⟨h0, hop, h1, h2, ⟨a, cap, b', o', h3, h4, h5.imp id fun h => ⟨h.1, hD _ h.2⟩, TsD.tsAt hD args h6⟩, a2, cap2, b2, o2, g3, g4, g5.imp id fun h => ⟨h.1, hD _ h.2⟩, FsD.fsAt hD sub g6⟩, FsD.fsAt hD r h7⟩
termination_by SizeOf.sizeOf l
/-- It lies on in a world that holds the same in the blocks of D, and at its own cells; and in more blocks. -/
theorem TsD.keep {D D' : Nat → Prop} {w w' : World} (hD : ∀ b, D b → ∀ q, w'.cell? ⟨b, q, none⟩ = w.cell? ⟨b, q, none⟩) (hm : ∀ b, D b → D' b) (l : List Tm) :
    ∀ {b o : Nat}, (∀ q, o ≤ q → q < o + l.length * 3 → w'.cell? ⟨b, q, none⟩ = w.cell? ⟨b, q, none⟩) → TsD D w b o l → TsD D' w' b o l := by
  match l with
  | [] => exact fun _ _ => by simp [TsD]
  | .mk v nm args :: r =>
    intro b o hc h
    simp only [TsD] at h ⊢
    simp only [List.length_cons] at hc
    obtain ⟨⟨h0, h1, h2, a, cap, b', o', h3, h4, h5, h6⟩, h7⟩ := h
    refine ⟨⟨by rw [hc o (by omega) (by omega)]; exact h0, by rw [hc (o + 1) (by omega) (by omega)]; exact h1, h2, a, cap, b', o', by rw [hc (o + 2) (by omega) (by omega)]; exact h3, h4, h5.imp id fun h => ⟨h.1, hm _ h.2⟩, ?_⟩,
      TsD.keep hD hm r (fun q h1 h2 => hc q (by omega) (by omega)) h7⟩
    rcases h5 with rfl | h5
    · simp [TsD]
    · exact TsD.keep hD hm args (fun q _ _ => hD _ h5.2 q) h6
termination_by SizeOf.sizeOf l
theorem FsD.keep {D D' : Nat → Prop} {w w' : World} (hD : ∀ b, D b → ∀ q, w'.cell? ⟨b, q, none⟩ = w.cell? ⟨b, q, none⟩) (hm : ∀ b, D b → D' b) (l : List Fo) :
    ∀ {b o : Nat}, (∀ q, o ≤ q → q < o + l.length * 4 → w'.cell? ⟨b, q, none⟩ = w.cell? ⟨b, q, none⟩) → FsD D w b o l → FsD D' w' b o l := by
  match l with
  | [] => exact fun _ _ => by simp [FsD]
  | .mk op nm args sub :: r =>
    intro b o hc h
    simp only [FsD] at h ⊢
    simp only [List.length_cons] at hc
    obtain ⟨⟨h0, hop, h1, h2, ⟨a, cap, b', o', h3, h4, h5, h6⟩, a2, cap2, b2, o2, g3, g4, g5, g6⟩, h7⟩ := h
    refine ⟨⟨by rw [hc o (by omega) (by omega)]; exact h0, hop, by rw [hc (o + 1) (by omega) (by omega)]; exact h1, h2, ⟨a, cap, b', o', by rw [hc (o + 2) (by omega) (by omega)]; exact h3, h4, h5.imp id fun h => ⟨h.1, hm _ h.2⟩, ?_⟩,
      a2, cap2, b2, o2, by rw [hc (o + 3) (by omega) (by omega)]; exact g3, g4, g5.imp id fun h => ⟨h.1, hm _ h.2⟩, ?_⟩, FsD.keep hD hm r (fun q h1 h2 => hc q (by omega) (by omega)) h7⟩
    · rcases h5 with rfl | h5
      · simp [TsD]
      · exact TsD.keep hD hm args (fun q _ _ => hD _ h5.2 q) h6
    · rcases g5 with rfl | g5
      · simp [FsD]
      · exact FsD.keep hD hm sub (fun q _ _ => hD _ g5.2 q) g6
termination_by SizeOf.sizeOf l
theorem TsD.snoc {D : Nat → Prop} {w : World} : ∀ (l : List Tm) (b o : Nat) (t : Tm) (v2 : Value), TsD D w b o l → w.cell? ⟨b, o + l.length * 3, none⟩ = some (.bool t.v) → w.cell? ⟨b, o + l.length * 3 + 1, none⟩ = some (.string t.n) → okStr t.n →
    w.cell? ⟨b, o + l.length * 3 + 2, none⟩ = some v2 → SlTD D w v2 t.args → TsD D w b o (l ++ [t])
  | [], b, o, .mk v n args, v2, _, h0, h1, h2, h3, ⟨a, cap, b', o', h4, h5, h6, h7⟩ => by
    simp only [List.length_nil, Nat.zero_mul, Nat.add_zero] at h0 h1 h3
    subst h4
    simp only [List.nil_append, TsD]
    exact ⟨⟨h0, h1, h2, a, cap, b', o', h3, h5, h6, h7⟩, trivial⟩
  | .mk v n args :: r, b, o, t, v2, h, h0, h1, h2, h3, h4 => by
    simp only [List.cons_append, TsD] at h ⊢
    simp only [List.length_cons] at h0 h1 h3
    exact ⟨h.1, TsD.snoc r b (o + 3) t v2 h.2 (by rw [← h0]; congr 2; omega) (by rw [← h1]; congr 2; omega) h2 (by rw [← h3]; congr 2; omega) h4⟩
theorem FsD.snoc {D : Nat → Prop} {w : World} : ∀ (l : List Fo) (b o : Nat) (t : Fo) (v2 v3 : Value), FsD D w b o l → w.cell? ⟨b, o + l.length * 4, none⟩ = some (.int .u8 t.op) → (0 ≤ t.op ∧ t.op ≤ 255) → w.cell? ⟨b, o + l.length * 4 + 1, none⟩ = some (.string t.n) → okStr t.n →
    w.cell? ⟨b, o + l.length * 4 + 2, none⟩ = some v2 → SlTD D w v2 t.args → w.cell? ⟨b, o + l.length * 4 + 3, none⟩ = some v3 → SlFD D w v3 t.sub → FsD D w b o (l ++ [t])
  | [], b, o, .mk op n args sub, v2, v3, _, h0, hop, h1, h2, h3, ⟨a, cap, b', o', h4, h5, h6, h7⟩, g3, ⟨a2, cap2, b2, o2, g4, g5, g6, g7⟩ => by
    simp only [List.length_nil, Nat.zero_mul, Nat.add_zero] at h0 h1 h3 g3
    subst h4 g4
    simp only [List.nil_append, FsD]
    exact ⟨⟨h0, hop, h1, h2, ⟨a, cap, b', o', h3, h5, h6, h7⟩, a2, cap2, b2, o2, g3, g5, g6, g7⟩, trivial⟩
  | .mk op n args sub :: r, b, o, t, v2, v3, h, h0, hop, h1, h2, h3, h4, g3, g4 => by
    simp only [List.cons_append, FsD] at h ⊢
    simp only [List.length_cons] at h0 h1 h3 g3
    exact ⟨h.1, FsD.snoc r b (o + 4) t v2 v3 h.2 (by rw [← h0]; congr 2; omega) hop (by rw [← h1]; congr 2; omega) h2 (by rw [← h3]; congr 2; omega) h4 (by rw [← g3]; congr 2; omega) g4⟩
theorem SlTD.slT {D : Nat → Prop} {n : Nat} {w : World} {v : Value} {l : List Tm} (h : SlTD D w v l) (hD : ∀ b, D b → b < n) : SlT n w v l := by
  obtain ⟨a, cap, b, o, h1, h2, h3, h4⟩ := h
  exact ⟨a, cap, b, o, h1, h2, h3.imp id fun h => ⟨h.1, hD _ h.2⟩, TsD.tsAt hD l h4⟩
theorem SlFD.slF {D : Nat → Prop} {n : Nat} {w : World} {v : Value} {l : List Fo} (h : SlFD D w v l) (hD : ∀ b, D b → b < n) : SlF n w v l := by
  obtain ⟨a, cap, b, o, h1, h2, h3, h4⟩ := h
  exact ⟨a, cap, b, o, h1, h2, h3.imp id fun h => ⟨h.1, hD _ h.2⟩, FsD.fsAt hD l h4⟩
theorem SlTD.keep {D D' : Nat → Prop} {w w' : World} {v : Value} {l : List Tm} (h : SlTD D w v l) (hD : ∀ b, D b → ∀ q, w'.cell? ⟨b, q, none⟩ = w.cell? ⟨b, q, none⟩) (hm : ∀ b, D b → D' b) : SlTD D' w' v l := by
  obtain ⟨a, cap, b, o, h1, h2, h3, h4⟩ := h
  refine ⟨a, cap, b, o, h1, h2, h3.imp id fun h => ⟨h.1, hm _ h.2⟩, ?_⟩
  rcases h3 with rfl | h3
  · simp [TsD]
  · exact TsD.keep hD hm l (fun q _ _ => hD _ h3.2 q) h4
theorem SlFD.keep {D D' : Nat → Prop} {w w' : World} {v : Value} {l : List Fo} (h : SlFD D w v l) (hD : ∀ b, D b → ∀ q, w'.cell? ⟨b, q, none⟩ = w.cell? ⟨b, q, none⟩) (hm : ∀ b, D b → D' b) : SlFD D' w' v l := by
  obtain ⟨a, cap, b, o, h1, h2, h3, h4⟩ := h
  refine ⟨a, cap, b, o, h1, h2, h3.imp id fun h => ⟨h.1, hm _ h.2⟩, ?_⟩
  rcases h3 with rfl | h3
  · simp [FsD]
  · exact FsD.keep hD hm l (fun q _ _ => hD _ h3.2 q) h4
/-- A row that has been made: m cells that may be written. -/
def Free (W : World) (R m : Nat) : Prop := R < W.heap.size ∧ ∀ j, j < m → (W.cell? ⟨R, j, none⟩).isSome = true ∧ W.frozen? ⟨R, j, none⟩ = false
theorem Free.below {W W' : World} {R m : Nat} (h : Free W R m) (hb : Below W.heap.size W W') : Free W' R m :=
  ⟨Nat.lt_of_lt_of_le h.1 hb.size, fun j hj => ⟨by rw [hb.cell (p := ⟨R, j, none⟩) h.1]; exact (h.2 j hj).1, by rw [hb.frozen (p := ⟨R, j, none⟩) h.1]; exact (h.2 j hj).2⟩⟩
theorem cell_set_other (W : World) (R i j : Nat) (v : Value) (h : j ≠ i) : (W.setCell ⟨R, i, none⟩ v).cell? ⟨R, j, none⟩ = W.cell? ⟨R, j, none⟩ := by
  rw [World.cell?_setCell_other]
  intro e
  injection e with _ e2
  exact h e2.symm
theorem Free.set {W : World} {R m : Nat} (h : Free W R m) (i : Nat) (v : Value) (hi : i < m) : Free (W.setCell ⟨R, i, none⟩ v) R m := by
  refine ⟨Nat.lt_of_lt_of_le h.1 ((Below.refl R W).setCell (p := ⟨R, i, none⟩) (Nat.le_refl _) v).size, fun j hj => ⟨?_, by rw [World.frozen?_setCell]; exact (h.2 j hj).2⟩⟩
  by_cases e : j = i
  · subst e
    rw [World.cell?_setCell_same' _ _ _ (h.2 j hj).1]
    rfl
  · rw [cell_set_other _ _ _ _ _ e]; exact (h.2 j hj).1
end Go.Proofs.YtkeckecdhcknhaaDoor.Fm
