/-
  Several texts in one: FmOwn, FmCopyT, FmCopyF, FmAt.
-/
import Derived.Test.YtdapnjnmhkdnpaaDoorFmRight

/-
  Terms and formulas in memory of a call's own: D says in which blocks what they lead to lies.
-/
namespace Go.Proofs.YtdapnjnmhkdnpaaDoor.Fm
open Go Go.RowKit
set_option linter.unusedVariables false
set_option linter.unusedSimpArgs false
def TsD (D : Nat → Prop) (w : World) (b o : Nat) : List Tm → Prop
  | [] => True
  | .mk v nm args :: r => (w.cell? ⟨b, o, none⟩ = some (.bool v) ∧ w.cell? ⟨b, o + 1, none⟩ = some (.string nm) ∧ okStr nm ∧
      ∃ a cap b' o', w.cell? ⟨b, o + 2, none⟩ = some (.slice a args.length cap) ∧ args.length ≤ 2932031007402 ∧ (args = [] ∨ (a = some ⟨b', o', none⟩ ∧ D b')) ∧ TsD D w b' o' args) ∧ TsD D w b (o + 3) r
def FsD (D : Nat → Prop) (w : World) (b o : Nat) : List Fo → Prop
  | [] => True
  | .mk op nm args sub :: r => (w.cell? ⟨b, o, none⟩ = some (.int .u8 op) ∧ (0 ≤ op ∧ op ≤ 255) ∧ w.cell? ⟨b, o + 1, none⟩ = some (.string nm) ∧ okStr nm ∧
      (∃ a cap b' o', w.cell? ⟨b, o + 2, none⟩ = some (.slice a args.length cap) ∧ args.length ≤ 2932031007402 ∧ (args = [] ∨ (a = some ⟨b', o', none⟩ ∧ D b')) ∧ TsD D w b' o' args) ∧
      ∃ a cap b' o', w.cell? ⟨b, o + 3, none⟩ = some (.slice a sub.length cap) ∧ sub.length ≤ 1954687338268 ∧ (sub = [] ∨ (a = some ⟨b', o', none⟩ ∧ D b')) ∧ FsD D w b' o' sub) ∧ FsD D w b (o + 4) r
def SlTD (D : Nat → Prop) (w : World) (v : Value) (l : List Tm) : Prop :=
  ∃ a cap b o, v = .slice a l.length cap ∧ l.length ≤ 2932031007402 ∧ (l = [] ∨ (a = some ⟨b, o, none⟩ ∧ D b)) ∧ TsD D w b o l
def SlFD (D : Nat → Prop) (w : World) (v : Value) (l : List Fo) : Prop :=
  ∃ a cap b o, v = .slice a l.length cap ∧ l.length ≤ 1954687338268 ∧ (l = [] ∨ (a = some ⟨b, o, none⟩ ∧ D b)) ∧ FsD D w b o l
theorem TsD.tsAt {D : Nat → Prop} {n : Nat} {w : World} (hD : ∀ b, D b → b < n) (l : List Tm) : ∀ {b o : Nat}, TsD D w b o l → TsAt n w b o l := by
  match l with
  | [] => exact fun _ => by simp [TsAt]
  | .mk v nm args :: r =>
    intro b o h
    simp only [TsD] at h
    simp only [TsAt]
    obtain ⟨⟨h0, h1, h2, a, cap, b', o', h3, h4, h5, h6⟩, h7⟩ := h
    exact ⟨⟨h0, h1, h2, a, cap, b', o', h3, h4, h5.imp id fun h => ⟨h.1, hD _ h.2⟩, TsD.tsAt hD args h6⟩, TsD.tsAt hD r h7⟩
termination_by SizeOf.sizeOf l
theorem FsD.fsAt {D : Nat → Prop} {n : Nat} {w : World} (hD : ∀ b, D b → b < n) (l : List Fo) : ∀ {b o : Nat}, FsD D w b o l → FsAt n w b o l := by
  match l with
  | [] => exact fun _ => by simp [FsAt]
  | .mk op nm args sub :: r =>
    intro b o h
    simp only [FsD] at h
    simp only [FsAt]
    obtain ⟨⟨h0, hop, h1, h2, ⟨a, cap, b', o', h3, h4, h5, h6⟩, a2, cap2, b2, o2, g3, g4, g5, g6⟩, h7⟩ := h
    exact ⟨⟨h0, hop, h1, h2, ⟨a, cap, b', o', h3, h4, h5.imp id fun h => ⟨h.1, hD _ h.2⟩, TsD.tsAt hD args h6⟩, a2, cap2, b2, o2, g3, g4, g5.imp id fun h => ⟨h.1, hD _ h.2⟩, FsD.fsAt hD sub g6⟩, FsD.fsAt hD r h7⟩
termination_by SizeOf.sizeOf l
/-- It lies on in a world that holds the same in the blocks of D, and at its own cells; and in more blocks. -/
theorem TsD.keep {D D' : Nat → Prop} {w w' : World} (hD : ∀ b, D b → ∀ q, w'.cell? ⟨b, q, none⟩ = w.cell? ⟨b, q, none⟩) (hm : ∀ b, D b → D' b) (l : List Tm) :
    ∀ {b o : Nat}, (∀ q, o ≤ q → q < o + l.length * 3 → w'.cell? ⟨b, q, none⟩ = w.cell? ⟨b, q, none⟩) → TsD D w b o l → TsD D' w' b o l := by
  match l with
  | [] => exact fun _ _ => by simp [TsD]
  | .mk v nm args :: r =>
    intro b o hc h
    simp only [TsD] at h ⊢
    simp only [List.length_cons] at hc
    obtain ⟨⟨h0, h1, h2, a, cap, b', o', h3, h4, h5, h6⟩, h7⟩ := h
    refine ⟨⟨by rw [hc o (by omega) (by omega)]; exact h0, by rw [hc (o + 1) (by omega) (by omega)]; exact h1, h2, a, cap, b', o', by rw [hc (o + 2) (by omega) (by omega)]; exact h3, h4, h5.imp id fun h => ⟨h.1, hm _ h.2⟩, ?_⟩,
      TsD.keep hD hm r (fun q h1 h2 => hc q (by omega) (by omega)) h7⟩
    rcases h5 with rfl | h5
    · simp [TsD]
    · exact TsD.keep hD hm args (fun q _ _ => hD _ h5.2 q) h6
termination_by SizeOf.sizeOf l
theorem FsD.keep {D D' : Nat → Prop} {w w' : World} (hD : ∀ b, D b → ∀ q, w'.cell? ⟨b, q, none⟩ = w.cell? ⟨b, q, none⟩) (hm : ∀ b, D b → D' b) (l : List Fo) :
    ∀ {b o : Nat}, (∀ q, o ≤ q → q < o + l.length * 4 → w'.cell? ⟨b, q, none⟩ = w.cell? ⟨b, q, none⟩) → FsD D w b o l → FsD D' w' b o l := by
  match l with
  | [] => exact fun _ _ => by simp [FsD]
  | .mk op nm args sub :: r =>
    intro b o hc h
    simp only [FsD] at h ⊢
    simp only [List.length_cons] at hc
    obtain ⟨⟨h0, hop, h1, h2, ⟨a, cap, b', o', h3, h4, h5, h6⟩, a2, cap2, b2, o2, g3, g4, g5, g6⟩, h7⟩ := h
    refine ⟨⟨by rw [hc o (by omega) (by omega)]; exact h0, hop, by rw [hc (o + 1) (by omega) (by omega)]; exact h1, h2, ⟨a, cap, b', o', by rw [hc (o + 2) (by omega) (by omega)]; exact h3, h4, h5.imp id fun h => ⟨h.1, hm _ h.2⟩, ?_⟩,
      a2, cap2, b2, o2, by rw [hc (o + 3) (by omega) (by omega)]; exact g3, g4, g5.imp id fun h => ⟨h.1, hm _ h.2⟩, ?_⟩, FsD.keep hD hm r (fun q h1 h2 => hc q (by omega) (by omega)) h7⟩
    · rcases h5 with rfl | h5
      · simp [TsD]
      · exact TsD.keep hD hm args (fun q _ _ => hD _ h5.2 q) h6
    · rcases g5 with rfl | g5
      · simp [FsD]
      · exact FsD.keep hD hm sub (fun q _ _ => hD _ g5.2 q) g6
termination_by SizeOf.sizeOf l
theorem TsD.snoc {D : Nat → Prop} {w : World} : ∀ (l : List Tm) (b o : Nat) (t : Tm) (v2 : Value), TsD D w b o l → w.cell? ⟨b, o + l.length * 3, none⟩ = some (.bool t.v) → w.cell? ⟨b, o + l.length * 3 + 1, none⟩ = some (.string t.n) → okStr t.n →
    w.cell? ⟨b, o + l.length * 3 + 2, none⟩ = some v2 → SlTD D w v2 t.args → TsD D w b o (l ++ [t])
  | [], b, o, .mk v n args, v2, _, h0, h1, h2, h3, ⟨a, cap, b', o', h4, h5, h6, h7⟩ => by
    simp only [List.length_nil, Nat.zero_mul, Nat.add_zero] at h0 h1 h3
    subst h4
    simp only [List.nil_append, TsD]
    exact ⟨⟨h0, h1, h2, a, cap, b', o', h3, h5, h6, h7⟩, trivial⟩
  | .mk v n args :: r, b, o, t, v2, h, h0, h1, h2, h3, h4 => by
    simp only [List.cons_append, TsD] at h ⊢
    simp only [List.length_cons] at h0 h1 h3
    exact ⟨h.1, TsD.snoc r b (o + 3) t v2 h.2 (by rw [← h0]; congr 2; omega) (by rw [← h1]; congr 2; omega) h2 (by rw [← h3]; congr 2; omega) h4⟩
theorem FsD.snoc {D : Nat → Prop} {w : World} : ∀ (l : List Fo) (b o : Nat) (t : Fo) (v2 v3 : Value), FsD D w b o l → w.cell? ⟨b, o + l.length * 4, none⟩ = some (.int .u8 t.op) → (0 ≤ t.op ∧ t.op ≤ 255) → w.cell? ⟨b, o + l.length * 4 + 1, none⟩ = some (.string t.n) → okStr t.n →
    w.cell? ⟨b, o + l.length * 4 + 2, none⟩ = some v2 → SlTD D w v2 t.args → w.cell? ⟨b, o + l.length * 4 + 3, none⟩ = some v3 → SlFD D w v3 t.sub → FsD D w b o (l ++ [t])
  | [], b, o, .mk op n args sub, v2, v3, _, h0, hop, h1, h2, h3, ⟨a, cap, b', o', h4, h5, h6, h7⟩, g3, ⟨a2, cap2, b2, o2, g4, g5, g6, g7⟩ => by
    simp only [List.length_nil, Nat.zero_mul, Nat.add_zero] at h0 h1 h3 g3
    subst h4 g4
    simp only [List.nil_append, FsD]
    exact ⟨⟨h0, hop, h1, h2, ⟨a, cap, b', o', h3, h5, h6, h7⟩, a2, cap2, b2, o2, g3, g5, g6, g7⟩, trivial⟩
  | .mk op n args sub :: r, b, o, t, v2, v3, h, h0, hop, h1, h2, h3, h4, g3, g4 => by
    simp only [List.cons_append, FsD] at h ⊢
    simp only [List.length_cons] at h0 h1 h3 g3
    exact ⟨h.1, FsD.snoc r b (o + 4) t v2 v3 h.2 (by rw [← h0]; congr 2; omega) hop (by rw [← h1]; congr 2; omega) h2 (by rw [← h3]; congr 2; omega) h4 (by rw [← g3]; congr 2; omega) g4⟩
theorem SlTD.slT {D : Nat → Prop} {n : Nat} {w : World} {v : Value} {l : List Tm} (h : SlTD D w v l) (hD : ∀ b, D b → b < n) : SlT n w v l := by
  obtain ⟨a, cap, b, o, h1, h2, h3, h4⟩ := h
  exact ⟨a, cap, b, o, h1, h2, h3.imp id fun h => ⟨h.1, hD _ h.2⟩, TsD.tsAt hD l h4⟩
theorem SlFD.slF {D : Nat → Prop} {n : Nat} {w : World} {v : Value} {l : List Fo} (h : SlFD D w v l) (hD : ∀ b, D b → b < n) : SlF n w v l := by
  obtain ⟨a, cap, b, o, h1, h2, h3, h4⟩ := h
  exact ⟨a, cap, b, o, h1, h2, h3.imp id fun h => ⟨h.1, hD _ h.2⟩, FsD.fsAt hD l h4⟩
theorem SlTD.keep {D D' : Nat → Prop} {w w' : World} {v : Value} {l : List Tm} (h : SlTD D w v l) (hD : ∀ b, D b → ∀ q, w'.cell? ⟨b, q, none⟩ = w.cell? ⟨b, q, none⟩) (hm : ∀ b, D b → D' b) : SlTD D' w' v l := by
  obtain ⟨a, cap, b, o, h1, h2, h3, h4⟩ := h
  refine ⟨a, cap, b, o, h1, h2, h3.imp id fun h => ⟨h.1, hm _ h.2⟩, ?_⟩
  rcases h3 with rfl | h3
  · simp [TsD]
  · exact TsD.keep hD hm l (fun q _ _ => hD _ h3.2 q) h4
theorem SlFD.keep {D D' : Nat → Prop} {w w' : World} {v : Value} {l : List Fo} (h : SlFD D w v l) (hD : ∀ b, D b → ∀ q, w'.cell? ⟨b, q, none⟩ = w.cell? ⟨b, q, none⟩) (hm : ∀ b, D b → D' b) : SlFD D' w' v l := by
  obtain ⟨a, cap, b, o, h1, h2, h3, h4⟩ := h
  refine ⟨a, cap, b, o, h1, h2, h3.imp id fun h => ⟨h.1, hm _ h.2⟩, ?_⟩
  rcases h3 with rfl | h3
  · simp [FsD]
  · exact FsD.keep hD hm l (fun q _ _ => hD _ h3.2 q) h4
/-- A row that has been made: m cells that may be written. -/
def Free (W : World) (R m : Nat) : Prop := R < W.heap.size ∧ ∀ j, j < m → (W.cell? ⟨R, j, none⟩).isSome = true ∧ W.frozen? ⟨R, j, none⟩ = false
theorem Free.below {W W' : World} {R m : Nat} (h : Free W R m) (hb : Below W.heap.size W W') : Free W' R m :=
  ⟨Nat.lt_of_lt_of_le h.1 hb.size, fun j hj => ⟨by rw [hb.cell (p := ⟨R, j, none⟩) h.1]; exact (h.2 j hj).1, by rw [hb.frozen (p := ⟨R, j, none⟩) h.1]; exact (h.2 j hj).2⟩⟩
theorem cell_set_other (W : World) (R i j : Nat) (v : Value) (h : j ≠ i) : (W.setCell ⟨R, i, none⟩ v).cell? ⟨R, j, none⟩ = W.cell? ⟨R, j, none⟩ := by
  rw [World.cell?_setCell_other]
  intro e
  injection e with _ e2
  exact h e2.symm
theorem Free.set {W : World} {R m : Nat} (h : Free W R m) (i : Nat) (v : Value) (hi : i < m) : Free (W.setCell ⟨R, i, none⟩ v) R m := by
  refine ⟨Nat.lt_of_lt_of_le h.1 ((Below.refl R W).setCell (p := ⟨R, i, none⟩) (Nat.le_refl _) v).size, fun j hj => ⟨?_, by rw [World.frozen?_setCell]; exact (h.2 j hj).2⟩⟩
  by_cases e : j = i
  · subst e
    rw [World.cell?_setCell_same' _ _ _ (h.2 j hj).1]
    rfl
  · rw [cell_set_other _ _ _ _ _ e]; exact (h.2 j hj).1
end Go.Proofs.YtdapnjnmhkdnpaaDoor.Fm

/-
  The contracts of copyList at terms and of copyTerm: a copy in memory of its own.
-/
namespace Go.Proofs.YtdapnjnmhkdnpaaDoor.Fm
open Go Go.RowKit Go.Shelf
set_option linter.unusedVariables false
set_option linter.unusedSimpArgs false
theorem infoT : (Tryd.prog.info? 39).map (fun i => (i.zero, i.size, i.bytes)) = some (some (.agg #[.bool false, .string ByteArray.empty, .slice none 0 0]), 3, 48) := by kernel_rfl
def zerT (n : Nat) : Array Value := madeCells #[.bool false, .string ByteArray.empty, .slice none 0 0] (n * 3)
theorem make_terms (n : Nat) (h : n ≤ 2932031007402) (w : World) :
    (Instr.makeSlice 22 (.int .i64 (n : Int)) (.int .i64 (n : Int))).run Tryd.prog w = .ok (.slice (some ⟨w.heap.size, 0, none⟩) n n) (w.alloc (.cells (zerT n) 39)) := by
  obtain ⟨i0, hi, hz0, hz1, hz2⟩ := info_parts infoT
  have := run_make w 22 39 i0 _ Tryd.underlying22 hi hz0 .i64 .i64 (n : Int) (n : Int) (by omega) (by omega) (by rw [hz2]; omega) (by omega)
  rw [this, hz1]
  simp [zerT, Value.cells]
theorem free_made (w : World) (z : Array Value) (hz : 0 < z.size) (m : Nat) (t : TypeId) : Free (w.alloc (.cells (madeCells z m) t)) w.heap.size m := by
  refine ⟨by simp, fun j hj => ⟨?_, by rw [World.frozen?_alloc_at _ _ _ _ rfl]⟩⟩
  rw [World.cell?_alloc_at _ _ _ _ rfl]
  simp [madeCells, hj]
theorem two_boxesT (w : World) (c d : Array Value) (t : TypeId) : (∀ q, ((w.alloc (.cells c t)).alloc (.cells d t)).cell? ⟨w.heap.size, q, none⟩ = c[q]?) ∧ (∀ q, ((w.alloc (.cells c t)).alloc (.cells d t)).cell? ⟨w.heap.size + 1, q, none⟩ = d[q]?) ∧
    (∀ q, ((w.alloc (.cells c t)).alloc (.cells d t)).frozen? ⟨w.heap.size, q, none⟩ = false) ∧ (∀ q, ((w.alloc (.cells c t)).alloc (.cells d t)).frozen? ⟨w.heap.size + 1, q, none⟩ = false) := by
  have h1 : (w.alloc (.cells c t)).heap.size = w.heap.size + 1 := by simp
  refine ⟨fun q => ?_, fun q => ?_, fun q => ?_, fun q => ?_⟩
  · rw [((Below.refl _ _).alloc (Nat.le_refl _) (.cells d t)).cell (p := ⟨w.heap.size, q, none⟩) (by rw [h1]; show w.heap.size < _; omega), World.cell?_alloc_at _ _ _ _ rfl]
  · rw [World.cell?_alloc_at _ _ _ _ h1.symm]
  · rw [((Below.refl _ _).alloc (Nat.le_refl _) (.cells d t)).frozen (p := ⟨w.heap.size, q, none⟩) (by rw [h1]; show w.heap.size < _; omega), World.frozen?_alloc_at _ _ _ _ rfl]
  · rw [World.frozen?_alloc_at _ _ _ _ h1.symm]
/-- What copying terms gives: the same terms in memory that was not there. -/
def CopTs (l : List Tm) (w : World) (e : Ending) (w' : World) : Prop := ∃ a c, e = .returned (.slice a l.length c) ∧ SlTD (fun b => w.heap.size ≤ b ∧ b < w'.heap.size) w' (.slice a l.length c) l ∧ Below w.heap.size w w'
def CopT (t : Tm) (w : World) (e : Ending) (w' : World) : Prop := ∃ a c, e = .returned (.agg #[.bool t.v, .string t.n, .slice a t.args.length c]) ∧ SlTD (fun b => w.heap.size ≤ b ∧ b < w'.heap.size) w' (.slice a t.args.length c) t.args ∧ Below w.heap.size w w'
def CopRel (l : List Tm) (R : Nat) (w : World) (i : Value) (wr : World) : Prop := ∃ q : Nat, i = .int .i64 (q : Int) ∧ q ≤ l.length ∧ Below R w wr ∧ Free wr R (l.length * 3) ∧ TsD (fun b => R < b ∧ b < wr.heap.size) wr R 0 (l.take q)
/-- Three cells of a row that has been made. -/
theorem set3 {W : World} {R m i : Nat} (h : Free W R m) (hi : i + 2 < m) (x y z : Value) :
    Free (((W.setCell ⟨R, i, none⟩ x).setCell ⟨R, i + 1, none⟩ y).setCell ⟨R, i + 2, none⟩ z) R m ∧ Below R W (((W.setCell ⟨R, i, none⟩ x).setCell ⟨R, i + 1, none⟩ y).setCell ⟨R, i + 2, none⟩ z) ∧
    (∀ b, b ≠ R → ∀ q, (((W.setCell ⟨R, i, none⟩ x).setCell ⟨R, i + 1, none⟩ y).setCell ⟨R, i + 2, none⟩ z).cell? ⟨b, q, none⟩ = W.cell? ⟨b, q, none⟩) ∧
    (∀ q, q < i → (((W.setCell ⟨R, i, none⟩ x).setCell ⟨R, i + 1, none⟩ y).setCell ⟨R, i + 2, none⟩ z).cell? ⟨R, q, none⟩ = W.cell? ⟨R, q, none⟩) ∧
    (((W.setCell ⟨R, i, none⟩ x).setCell ⟨R, i + 1, none⟩ y).setCell ⟨R, i + 2, none⟩ z).cell? ⟨R, i, none⟩ = some x ∧
    (((W.setCell ⟨R, i, none⟩ x).setCell ⟨R, i + 1, none⟩ y).setCell ⟨R, i + 2, none⟩ z).cell? ⟨R, i + 1, none⟩ = some y ∧
    (((W.setCell ⟨R, i, none⟩ x).setCell ⟨R, i + 1, none⟩ y).setCell ⟨R, i + 2, none⟩ z).cell? ⟨R, i + 2, none⟩ = some z := by
  have f1 := h.set i x (by omega)
  have f2 := f1.set (i + 1) y (by omega)
  have f3 := f2.set (i + 2) z (by omega)
  refine ⟨f3, (((Below.refl R W).setCell (p := ⟨R, i, none⟩) (Nat.le_refl _) x).setCell (p := ⟨R, i + 1, none⟩) (Nat.le_refl _) y).setCell (p := ⟨R, i + 2, none⟩) (Nat.le_refl _) z, fun b hb q => ?_, fun q hq => ?_, ?_, ?_, ?_⟩
  · rw [World.cell?_of_block (Below.heap_setCell _ ⟨R, i + 2, none⟩ z b hb), World.cell?_of_block (Below.heap_setCell _ ⟨R, i + 1, none⟩ y b hb), World.cell?_of_block (Below.heap_setCell _ ⟨R, i, none⟩ x b hb)]
  · rw [cell_set_other _ _ _ _ _ (by omega), cell_set_other _ _ _ _ _ (by omega), cell_set_other _ _ _ _ _ (by omega)]
  · rw [cell_set_other _ _ _ _ _ (by omega), cell_set_other _ _ _ _ _ (by omega), World.cell?_setCell_same' _ _ _ (h.2 i (by omega)).1]
  · rw [cell_set_other _ _ _ _ _ (by omega), World.cell?_setCell_same' _ _ _ (f1.2 (i + 1) (by omega)).1]
  · rw [World.cell?_setCell_same' _ _ _ (f2.2 (i + 2) (by omega)).1]
set_option maxHeartbeats 1000000 in
theorem copyLT_c (l : List Tm) (va : Value) (dn : Nat) (w : World) (ha : SlT dn w va l) (hd : dn ≤ w.heap.size)
    (hc : ∀ t ∈ l, ∀ (x0 x1 x2 : Value) (W : World), TmV dn W x0 x1 x2 t → dn ≤ W.heap.size → Calls Tryd.prog 56 #[.agg #[x0, x1, x2]] W (CopT t W)) :
    Calls Tryd.prog 55 #[va, .func (.func 56) #[] #[]] w (CopTs l w) := by
  obtain ⟨⟨sa, ka, rfl⟩, hla⟩ := ha.form
  have HC := Lib.hid hc
  clear hc
  by_cases h0 : l.length = 0
  · have hl : l = [] := List.eq_nil_of_length_eq_zero h0
    subst hl
    clear h0
    go_enter Tryd.func55, Tryd.ntmps55
    go_wp2_with fail
    go_ret
    exact ⟨none, 0, rfl, ⟨none, 0, 0, 0, rfl, by simp, .inl rfl, by simp [TsD]⟩, Below.refl _ _⟩
  · have hb0 : ((l.length : Int) == 0) = false := beq_eq_false_iff_ne.2 (by omega)
    have hmk := make_terms l.length hla
    have hfr := free_made w #[.bool false, .string ByteArray.empty, .slice none 0 0] (by simp) (l.length * 3) 39
    have hbm : Below w.heap.size w (w.alloc (.cells (zerT l.length) 39)) := (Below.refl _ _).alloc (Nat.le_refl _) _
    obtain ⟨R, hR⟩ : ∃ R, w.heap.size = R := ⟨_, rfl⟩
    have HRR := Lib.hid hR
    rw [hR] at hfr hbm hd
    go_enter Tryd.func55, Tryd.ntmps55
    go_wp2_with fail
    clear hb0 h0 hmk hR
    go_loopw [16] (fun i wr => CopRel l R w i wr) (fun i _ => l.length - (intOf i).toNat)
    case atStart => exact ⟨0, rfl, Nat.zero_le _, hbm, hfr, by simp [TsD]⟩
    case round =>
      clear hbm hfr
      obtain ⟨q, rfl, hq, hbq, hfq, htq⟩ := hrel
      have HTQ := Lib.hid htq
      clear htq
      by_cases hlt : q < l.length
      · obtain ⟨_, b, o, rfl, hbn, u0, u1, u2, c0, c1, c2, hu⟩ := (ha.below (hbq.mono hd) (Nat.le_refl _)).get hlt
        have hzr := hfq.1
        obtain ⟨⟨au, ku, hu2⟩, _⟩ := hu.args.form
        have z0 := hu.v
        have z1 := hu.nm
        have HOK := Lib.hid hu.ok
        subst hu2 z0 z1
        have hb3 : Below wr.heap.size wr (wr.alloc (.cells #[.bool l[q].v, .string l[q].n, .slice au l[q].args.length ku] 39)) := (Below.refl _ _).alloc (Nat.le_refl _) _
        have hcc := Lib.hid (HC.out l[q] (List.getElem_mem hlt) _ _ _ _ (hu.below hb3 (by omega)) (by simp; omega))
        have hfx := hfq.below hb3
        clear hu
        go_wp2_with fail
        refine hcc.out.mono ?_
        clear hcc
        rintro e w1 ⟨a2, k2, rfl, htd, hb4⟩
        have hf1 := hfx.below hb4
        have hs3 := set3 hf1 (show q * 3 + 2 < l.length * 3 by omega) (.bool l[q].v) (.string l[q].n) (.slice a2 l[q].args.length k2)
        obtain ⟨e0, g0⟩ := hf1.2 (q * 3) (by omega)
        obtain ⟨e1, g1⟩ := hf1.2 (q * 3 + 1) (by omega)
        obtain ⟨e2, g2⟩ := hf1.2 (q * 3 + 2) (by omega)
        obtain ⟨y0, e0⟩ := Option.isSome_iff_exists.1 e0
        obtain ⟨y1, e1⟩ := Option.isSome_iff_exists.1 e1
        obtain ⟨y2, e2⟩ := Option.isSome_iff_exists.1 e2
        have HS3 := Lib.hid hs3
        have HTD := Lib.hid htd
        have hz4 := hb4.size
        rw [World.size_alloc] at hz4
        clear hs3 htd
        have hz5 := HS3.out.2.1.size
        go_wp2_with fail
        refine ⟨⟨q + 1, by go_num, by omega, ((hbq.trans (hb3.mono (by omega))).trans (hb4.mono (by simp; omega))).trans HS3.out.2.1, HS3.out.1, ?_⟩, by simp [intOf]; omega⟩
        have hlen : (l.take q).length = q := by rw [List.length_take]; omega
        rw [List.take_succ_eq_append_getElem hlt]
        refine TsD.snoc (l.take q) R 0 l[q] (.slice a2 l[q].args.length k2) (TsD.keep (D := fun b => R < b ∧ b < wr.heap.size) (fun b hb j => ?_) (fun b hb => ⟨hb.1, by omega⟩) (l.take q) (fun j _ hj => ?_) HTQ.out) ?_ ?_ HOK.out ?_ (HTD.out.keep (fun b hb j => HS3.out.2.2.1 b (by have := hb.1; simp at this; omega) j) fun b hb => ⟨by have := hb.1; simp at this; omega, by have := hb.2; omega⟩)
        · rw [HS3.out.2.2.1 b (by omega) j, hb4.cell (p := ⟨b, j, none⟩) (by simp; omega), hb3.cell (p := ⟨b, j, none⟩) (show b < _ by omega)]
        · rw [hlen] at hj
          rw [HS3.out.2.2.2.1 j (by omega), hb4.cell (p := ⟨R, j, none⟩) (by simp; omega), hb3.cell (p := ⟨R, j, none⟩) (show R < _ by omega)]
        · rw [hlen, Nat.zero_add]; exact HS3.out.2.2.2.2.1
        · rw [hlen, Nat.zero_add]; exact HS3.out.2.2.2.2.2.1
        · rw [hlen, Nat.zero_add]; exact HS3.out.2.2.2.2.2.2
      · have e : q = l.length := by omega
        have hT := Lib.hid (show TsD (fun b => w.heap.size ≤ b ∧ b < wr.heap.size) wr R 0 l by
          have h := HTQ.out
          rw [e, List.take_length] at h
          exact TsD.keep (fun _ _ _ => rfl) (fun b hb => ⟨by have := HRR.out; omega, hb.2⟩) l (fun _ _ _ => rfl) h)
        have hRw := hfq.1
        clear e
        go_wp2_with fail
        go_ret
        exact ⟨some ⟨R, 0, none⟩, l.length, rfl, ⟨_, _, R, 0, rfl, hla, .inr ⟨rfl, by have := HRR.out; omega, hRw⟩, hT.out⟩, by rw [HRR.out]; exact hbq⟩
set_option maxHeartbeats 1000000 in
theorem copyT_c (N : Nat) : ∀ (t : Tm), SizeOf.sizeOf t < N → ∀ (x0 x1 x2 : Value) (dn : Nat) (w : World), TmV dn w x0 x1 x2 t → dn ≤ w.heap.size → Calls Tryd.prog 56 #[.agg #[x0, x1, x2]] w (CopT t w) := by
  induction N with
  | zero => exact fun t h => absurd h (Nat.not_lt_zero _)
  | succ N ih =>
    intro t hN x0 x1 x2 dn w ht hd
    obtain ⟨rfl, rfl, _, ha⟩ := ht
    obtain ⟨⟨sa, ka, rfl⟩, hla⟩ := ha.form
    have hb0 : Below w.heap.size w ((w.alloc (.cells #[.bool t.v, .string t.n, .slice sa t.args.length ka] 39)).alloc (.cells #[.bool false, .string ByteArray.empty, .slice none 0 0] 39)) := ((Below.refl _ _).alloc (Nat.le_refl _) _).alloc (by simp) _
    have H2 := Lib.hid (two_boxesT w #[.bool t.v, .string t.n, .slice sa t.args.length ka] #[.bool false, .string ByteArray.empty, .slice none 0 0] 39)
    have HL := Lib.hid (copyLT_c t.args _ dn _ (ha.below hb0 hd) (by simp; omega) fun t' ht' x0 x1 x2 W h1 h2 => by
      obtain ⟨q, hq, rfl⟩ := List.getElem_of_mem ht'
      exact ih _ (by have := size_arg t q hq; omega) x0 x1 x2 dn W h1 h2)
    clear ha ih
    go_enter Tryd.func56, Tryd.ntmps56
    go_wp2_with fail
    refine HL.out.mono ?_
    rintro e w1 ⟨a2, k2, rfl, htd, hb⟩
    have hzw := hb.size
    simp only [World.size_alloc] at hb htd hzw
    obtain ⟨p1, p2, p3, p4⟩ := H2.out
    have c0 := (hb.cell (p := ⟨w.heap.size, 0, none⟩) (show w.heap.size < w.heap.size + 1 + 1 by omega)).trans (p1 0)
    have c1 := (hb.cell (p := ⟨w.heap.size, 1, none⟩) (show w.heap.size < w.heap.size + 1 + 1 by omega)).trans (p1 1)
    have c2 := (hb.cell (p := ⟨w.heap.size, 2, none⟩) (show w.heap.size < w.heap.size + 1 + 1 by omega)).trans (p1 2)
    have d0 := (hb.cell (p := ⟨w.heap.size + 1, 0, none⟩) (show w.heap.size + 1 < w.heap.size + 1 + 1 by omega)).trans (p2 0)
    have d1 := (hb.cell (p := ⟨w.heap.size + 1, 1, none⟩) (show w.heap.size + 1 < w.heap.size + 1 + 1 by omega)).trans (p2 1)
    have d2 := (hb.cell (p := ⟨w.heap.size + 1, 2, none⟩) (show w.heap.size + 1 < w.heap.size + 1 + 1 by omega)).trans (p2 2)
    have f2 := (hb.frozen (p := ⟨w.heap.size, 2, none⟩) (show w.heap.size < w.heap.size + 1 + 1 by omega)).trans (p3 2)
    have h0 := (hb.frozen (p := ⟨w.heap.size + 1, 0, none⟩) (show w.heap.size + 1 < w.heap.size + 1 + 1 by omega)).trans (p4 0)
    have h1 := (hb.frozen (p := ⟨w.heap.size + 1, 1, none⟩) (show w.heap.size + 1 < w.heap.size + 1 + 1 by omega)).trans (p4 1)
    have h2 := (hb.frozen (p := ⟨w.heap.size + 1, 2, none⟩) (show w.heap.size + 1 < w.heap.size + 1 + 1 by omega)).trans (p4 2)
    simp only [List.getElem?_toArray, List.getElem?_cons_zero, List.getElem?_cons_succ] at c0 c1 c2 d0 d1 d2
    have hzF : w.heap.size + 1 < w1.heap.size := by omega
    have hzF2 : w.heap.size < w1.heap.size := by omega
    have HTD := Lib.hid htd
    have HB := Lib.hid (hb0.trans (hb.mono (by omega)))
    clear H2 p1 p2 p3 p4 htd hb HL hb0
    go_wp2_with fail
    refine bodyPost_ret (v := .agg #[.bool t.v, .string t.n, .slice a2 t.args.length k2]) (by simp [results, Tryd.results56, go_sem, d0, d1, d2]) rfl ?_
    refine ⟨a2, k2, rfl, HTD.out.keep (fun b hb j => ?_) (fun b hb => ⟨by omega, ?_⟩), (((HB.out.setCell (p := ⟨w.heap.size, 2, none⟩) (Nat.le_refl _) _).setCell (p := ⟨w.heap.size + 1, 0, none⟩) (Nat.le_succ _) _).setCell (p := ⟨w.heap.size + 1, 1, none⟩) (Nat.le_succ _) _).setCell (p := ⟨w.heap.size + 1, 2, none⟩) (Nat.le_succ _) _⟩
    · rw [World.cell?_of_block (Below.heap_setCell _ ⟨w.heap.size + 1, 2, none⟩ _ b (by show b ≠ w.heap.size + 1; omega)), World.cell?_of_block (Below.heap_setCell _ ⟨w.heap.size + 1, 1, none⟩ _ b (by show b ≠ w.heap.size + 1; omega)),
        World.cell?_of_block (Below.heap_setCell _ ⟨w.heap.size + 1, 0, none⟩ _ b (by show b ≠ w.heap.size + 1; omega)), World.cell?_of_block (Below.heap_setCell _ ⟨w.heap.size, 2, none⟩ _ b (by show b ≠ w.heap.size; omega))]
    · have := hb.2
      simp
      omega
end Go.Proofs.YtdapnjnmhkdnpaaDoor.Fm

/-
  The contracts of copyList at formulas and of Copy: a copy in memory of its own.
-/
namespace Go.Proofs.YtdapnjnmhkdnpaaDoor.Fm
open Go Go.RowKit Go.Shelf
set_option linter.unusedVariables false
set_option linter.unusedSimpArgs false
theorem infoF : (Tryd.prog.info? 25).map (fun i => (i.zero, i.size, i.bytes)) = some (some (.agg #[.int .u8 0, .string ByteArray.empty, .slice none 0 0, .slice none 0 0]), 4, 72) := by kernel_rfl
def zerF (n : Nat) : Array Value := madeCells #[.int .u8 0, .string ByteArray.empty, .slice none 0 0, .slice none 0 0] (n * 4)
theorem make_forms (n : Nat) (h : n ≤ 1954687338268) (w : World) :
    (Instr.makeSlice 23 (.int .i64 (n : Int)) (.int .i64 (n : Int))).run Tryd.prog w = .ok (.slice (some ⟨w.heap.size, 0, none⟩) n n) (w.alloc (.cells (zerF n) 25)) := by
  obtain ⟨i0, hi, hz0, hz1, hz2⟩ := info_parts infoF
  have := run_make w 23 25 i0 _ Tryd.underlying23 hi hz0 .i64 .i64 (n : Int) (n : Int) (by omega) (by omega) (by rw [hz2]; omega) (by omega)
  rw [this, hz1]
  simp [zerF, Value.cells]
/-- What copying formulas gives: the same formulas in memory that was not there. -/
def CopFs (l : List Fo) (w : World) (e : Ending) (w' : World) : Prop := ∃ a c, e = .returned (.slice a l.length c) ∧ SlFD (fun b => w.heap.size ≤ b ∧ b < w'.heap.size) w' (.slice a l.length c) l ∧ Below w.heap.size w w'
def CopF (t : Fo) (w : World) (e : Ending) (w' : World) : Prop := ∃ a c a' c', e = .returned (.agg #[.int .u8 t.op, .string t.n, .slice a t.args.length c, .slice a' t.sub.length c']) ∧ SlTD (fun b => w.heap.size ≤ b ∧ b < w'.heap.size) w' (.slice a t.args.length c) t.args ∧
  SlFD (fun b => w.heap.size ≤ b ∧ b < w'.heap.size) w' (.slice a' t.sub.length c') t.sub ∧ Below w.heap.size w w'
def CopRelF (l : List Fo) (R : Nat) (w : World) (i : Value) (wr : World) : Prop := ∃ q : Nat, i = .int .i64 (q : Int) ∧ q ≤ l.length ∧ Below R w wr ∧ Free wr R (l.length * 4) ∧ FsD (fun b => R < b ∧ b < wr.heap.size) wr R 0 (l.take q)
theorem set4 {W : World} {R m i : Nat} (h : Free W R m) (hi : i + 3 < m) (x y z u : Value) :
    Free ((((W.setCell ⟨R, i, none⟩ x).setCell ⟨R, i + 1, none⟩ y).setCell ⟨R, i + 2, none⟩ z).setCell ⟨R, i + 3, none⟩ u) R m ∧ Below R W ((((W.setCell ⟨R, i, none⟩ x).setCell ⟨R, i + 1, none⟩ y).setCell ⟨R, i + 2, none⟩ z).setCell ⟨R, i + 3, none⟩ u) ∧
    (∀ b, b ≠ R → ∀ q, ((((W.setCell ⟨R, i, none⟩ x).setCell ⟨R, i + 1, none⟩ y).setCell ⟨R, i + 2, none⟩ z).setCell ⟨R, i + 3, none⟩ u).cell? ⟨b, q, none⟩ = W.cell? ⟨b, q, none⟩) ∧
    (∀ q, q < i → ((((W.setCell ⟨R, i, none⟩ x).setCell ⟨R, i + 1, none⟩ y).setCell ⟨R, i + 2, none⟩ z).setCell ⟨R, i + 3, none⟩ u).cell? ⟨R, q, none⟩ = W.cell? ⟨R, q, none⟩) ∧
    ((((W.setCell ⟨R, i, none⟩ x).setCell ⟨R, i + 1, none⟩ y).setCell ⟨R, i + 2, none⟩ z).setCell ⟨R, i + 3, none⟩ u).cell? ⟨R, i, none⟩ = some x ∧
    ((((W.setCell ⟨R, i, none⟩ x).setCell ⟨R, i + 1, none⟩ y).setCell ⟨R, i + 2, none⟩ z).setCell ⟨R, i + 3, none⟩ u).cell? ⟨R, i + 1, none⟩ = some y ∧
    ((((W.setCell ⟨R, i, none⟩ x).setCell ⟨R, i + 1, none⟩ y).setCell ⟨R, i + 2, none⟩ z).setCell ⟨R, i + 3, none⟩ u).cell? ⟨R, i + 2, none⟩ = some z ∧
    ((((W.setCell ⟨R, i, none⟩ x).setCell ⟨R, i + 1, none⟩ y).setCell ⟨R, i + 2, none⟩ z).setCell ⟨R, i + 3, none⟩ u).cell? ⟨R, i + 3, none⟩ = some u := by
  obtain ⟨f3, b3, o3, l3, e0, e1, e2⟩ := set3 h (show i + 2 < m by omega) x y z
  have f4 := f3.set (i + 3) u (by omega)
  refine ⟨f4, b3.setCell (p := ⟨R, i + 3, none⟩) (Nat.le_refl _) u, fun b hb q => ?_, fun q hq => ?_, ?_, ?_, ?_, ?_⟩
  · rw [World.cell?_of_block (Below.heap_setCell _ ⟨R, i + 3, none⟩ u b hb)]; exact o3 b hb q
  · rw [cell_set_other _ _ _ _ _ (by omega)]; exact l3 q hq
  · rw [cell_set_other _ _ _ _ _ (by omega)]; exact e0
  · rw [cell_set_other _ _ _ _ _ (by omega)]; exact e1
  · rw [cell_set_other _ _ _ _ _ (by omega)]; exact e2
  · rw [World.cell?_setCell_same' _ _ _ (f3.2 (i + 3) (by omega)).1]
set_option maxHeartbeats 1000000 in
theorem copyLF_c (l : List Fo) (va : Value) (dn : Nat) (w : World) (ha : SlF dn w va l) (hd : dn ≤ w.heap.size)
    (hc : ∀ t ∈ l, ∀ (x0 x1 x2 x3 : Value) (W : World), FoV dn W x0 x1 x2 x3 t → dn ≤ W.heap.size → Calls Tryd.prog 34 #[.agg #[x0, x1, x2, x3]] W (CopF t W)) :
    Calls Tryd.prog 57 #[va, .func (.func 34) #[] #[]] w (CopFs l w) := by
  obtain ⟨⟨sa, ka, rfl⟩, hla⟩ := ha.form
  have HC := Lib.hid hc
  clear hc
  by_cases h0 : l.length = 0
  · have hl : l = [] := List.eq_nil_of_length_eq_zero h0
    subst hl
    clear h0
    go_enter Tryd.func57, Tryd.ntmps57
    go_wp2_with fail
    go_ret
    exact ⟨none, 0, rfl, ⟨none, 0, 0, 0, rfl, by simp, .inl rfl, by simp [FsD]⟩, Below.refl _ _⟩
  · have hb0 : ((l.length : Int) == 0) = false := beq_eq_false_iff_ne.2 (by omega)
    have hmk := make_forms l.length hla
    have hfr := free_made w #[.int .u8 0, .string ByteArray.empty, .slice none 0 0, .slice none 0 0] (by simp) (l.length * 4) 25
    have hbm : Below w.heap.size w (w.alloc (.cells (zerF l.length) 25)) := (Below.refl _ _).alloc (Nat.le_refl _) _
    obtain ⟨R, hR⟩ : ∃ R, w.heap.size = R := ⟨_, rfl⟩
    have HRR := Lib.hid hR
    rw [hR] at hfr hbm hd
    go_enter Tryd.func57, Tryd.ntmps57
    go_wp2_with fail
    clear hb0 h0 hmk hR
    go_loopw [16] (fun i wr => CopRelF l R w i wr) (fun i _ => l.length - (intOf i).toNat)
    case atStart => exact ⟨0, rfl, Nat.zero_le _, hbm, hfr, by simp [FsD]⟩
    case round =>
      clear hbm hfr
      obtain ⟨q, rfl, hq, hbq, hfq, htq⟩ := hrel
      have HTQ := Lib.hid htq
      clear htq
      by_cases hlt : q < l.length
      · obtain ⟨_, b, o, rfl, hbn, u0, u1, u2, u3, c0, c1, c2, c3, hu⟩ := (ha.below (hbq.mono hd) (Nat.le_refl _)).get hlt
        have hzr := hfq.1
        obtain ⟨⟨au, ku, hu2⟩, _⟩ := hu.args.form
        obtain ⟨⟨av, kv, hu3⟩, _⟩ := hu.sub.form
        have z0 := hu.op
        have z1 := hu.nm
        have HOK := Lib.hid hu.ok
        have hop := hu.bd
        subst hu2 hu3 z0 z1
        have hb3 : Below wr.heap.size wr (wr.alloc (.cells #[.int .u8 l[q].op, .string l[q].n, .slice au l[q].args.length ku, .slice av l[q].sub.length kv] 25)) := (Below.refl _ _).alloc (Nat.le_refl _) _
        have hcc := Lib.hid (HC.out l[q] (List.getElem_mem hlt) _ _ _ _ _ (hu.below hb3 (by omega)) (by simp; omega))
        have hfx := hfq.below hb3
        clear hu
        go_wp2_with fail
        refine hcc.out.mono ?_
        clear hcc
        rintro e w1 ⟨a2, k2, a3, k3, rfl, htd, hfd, hb4⟩
        have hf1 := hfx.below hb4
        have hs3 := set4 hf1 (show q * 4 + 3 < l.length * 4 by omega) (.int .u8 l[q].op) (.string l[q].n) (.slice a2 l[q].args.length k2) (.slice a3 l[q].sub.length k3)
        obtain ⟨e0, g0⟩ := hf1.2 (q * 4) (by omega)
        obtain ⟨e1, g1⟩ := hf1.2 (q * 4 + 1) (by omega)
        obtain ⟨e2, g2⟩ := hf1.2 (q * 4 + 2) (by omega)
        obtain ⟨y0, e0⟩ := Option.isSome_iff_exists.1 e0
        obtain ⟨y1, e1⟩ := Option.isSome_iff_exists.1 e1
        obtain ⟨y2, e2⟩ := Option.isSome_iff_exists.1 e2
        obtain ⟨e3, g3⟩ := hf1.2 (q * 4 + 3) (by omega)
        obtain ⟨y3, e3⟩ := Option.isSome_iff_exists.1 e3
        have HS3 := Lib.hid hs3
        have HTD := Lib.hid htd
        have HFD := Lib.hid hfd
        have hz4 := hb4.size
        rw [World.size_alloc] at hz4
        clear hs3 htd hfd
        have hz5 := HS3.out.2.1.size
        go_wp2_with fail
        refine ⟨⟨q + 1, by go_num, by omega, ((hbq.trans (hb3.mono (by omega))).trans (hb4.mono (by simp; omega))).trans HS3.out.2.1, HS3.out.1, ?_⟩, by simp [intOf]; omega⟩
        have hlen : (l.take q).length = q := by rw [List.length_take]; omega
        rw [List.take_succ_eq_append_getElem hlt]
        refine FsD.snoc (l.take q) R 0 l[q] (.slice a2 l[q].args.length k2) (.slice a3 l[q].sub.length k3) (FsD.keep (D := fun b => R < b ∧ b < wr.heap.size) (fun b hb j => ?_) (fun b hb => ⟨hb.1, by omega⟩) (l.take q) (fun j _ hj => ?_) HTQ.out) ?_ hop ?_ HOK.out ?_ (HTD.out.keep (fun b hb j => HS3.out.2.2.1 b (by have := hb.1; simp at this; omega) j) fun b hb => ⟨by have := hb.1; simp at this; omega, by have := hb.2; omega⟩) ?_ (HFD.out.keep (fun b hb j => HS3.out.2.2.1 b (by have := hb.1; simp at this; omega) j) fun b hb => ⟨by have := hb.1; simp at this; omega, by have := hb.2; omega⟩)
        · rw [HS3.out.2.2.1 b (by omega) j, hb4.cell (p := ⟨b, j, none⟩) (by simp; omega), hb3.cell (p := ⟨b, j, none⟩) (show b < _ by omega)]
        · rw [hlen] at hj
          rw [HS3.out.2.2.2.1 j (by omega), hb4.cell (p := ⟨R, j, none⟩) (by simp; omega), hb3.cell (p := ⟨R, j, none⟩) (show R < _ by omega)]
        · rw [hlen, Nat.zero_add]; exact HS3.out.2.2.2.2.1
        · rw [hlen, Nat.zero_add]; exact HS3.out.2.2.2.2.2.1
        · rw [hlen, Nat.zero_add]; exact HS3.out.2.2.2.2.2.2.1
        · rw [hlen, Nat.zero_add]; exact HS3.out.2.2.2.2.2.2.2
      · have e : q = l.length := by omega
        have hT := Lib.hid (show FsD (fun b => w.heap.size ≤ b ∧ b < wr.heap.size) wr R 0 l by
          have h := HTQ.out
          rw [e, List.take_length] at h
          exact FsD.keep (fun _ _ _ => rfl) (fun b hb => ⟨by have := HRR.out; omega, hb.2⟩) l (fun _ _ _ => rfl) h)
        have hRw := hfq.1
        clear e
        go_wp2_with fail
        go_ret
        exact ⟨some ⟨R, 0, none⟩, l.length, rfl, ⟨_, _, R, 0, rfl, hla, .inr ⟨rfl, by have := HRR.out; omega, hRw⟩, hT.out⟩, by rw [HRR.out]; exact hbq⟩
set_option maxHeartbeats 1000000 in
theorem copyF_c (N : Nat) : ∀ (t : Fo), SizeOf.sizeOf t < N → ∀ (x0 x1 x2 x3 : Value) (dn : Nat) (w : World), FoV dn w x0 x1 x2 x3 t → dn ≤ w.heap.size → Calls Tryd.prog 34 #[.agg #[x0, x1, x2, x3]] w (CopF t w) := by
  induction N with
  | zero => exact fun t h => absurd h (Nat.not_lt_zero _)
  | succ N ih =>
    intro t hN x0 x1 x2 x3 dn w ht hd
    obtain ⟨rfl, hop, rfl, _, ha, hs⟩ := ht
    obtain ⟨⟨sa, ka, rfl⟩, hla⟩ := ha.form
    obtain ⟨⟨sb, kb, rfl⟩, hlb⟩ := hs.form
    have hb0 : Below w.heap.size w ((w.alloc (.cells #[.int .u8 t.op, .string t.n, .slice sa t.args.length ka, .slice sb t.sub.length kb] 25)).alloc (.cells #[.int .u8 0, .string ByteArray.empty, .slice none 0 0, .slice none 0 0] 25)) := ((Below.refl _ _).alloc (Nat.le_refl _) _).alloc (by simp) _
    have H2 := Lib.hid (two_boxesT w #[.int .u8 t.op, .string t.n, .slice sa t.args.length ka, .slice sb t.sub.length kb] #[.int .u8 0, .string ByteArray.empty, .slice none 0 0, .slice none 0 0] 25)
    have HL := Lib.hid (copyLT_c t.args _ dn _ (ha.below hb0 hd) (by simp; omega) fun t' ht' x0 x1 x2 W h1 h2 => copyT_c (SizeOf.sizeOf t' + 1) t' (Nat.lt_succ_self _) x0 x1 x2 dn W h1 h2)
    have HM := Lib.hid (fun W (h : Below w.heap.size w W) => copyLF_c t.sub _ dn W (hs.below h hd) (Nat.le_trans hd h.size) fun t' ht' x0 x1 x2 x3 W h1 h2 => by
      obtain ⟨q, hq, rfl⟩ := List.getElem_of_mem ht'
      exact ih _ (by have := size_sub t q hq; omega) x0 x1 x2 x3 dn W h1 h2)
    clear ha hs ih
    go_enter Tryd.func34, Tryd.ntmps34
    go_wp2_with fail
    refine HL.out.mono ?_
    rintro e w1 ⟨a2, k2, rfl, htd, hb⟩
    have hzw := hb.size
    simp only [World.size_alloc] at hb htd hzw
    obtain ⟨p1, p2, p3, p4⟩ := H2.out
    have hF : ∀ j, w1.cell? ⟨w.heap.size, j, none⟩ = _ := fun j => (hb.cell (p := ⟨w.heap.size, j, none⟩) (show w.heap.size < w.heap.size + 1 + 1 by omega)).trans (p1 j)
    have hG : ∀ j, w1.cell? ⟨w.heap.size + 1, j, none⟩ = _ := fun j => (hb.cell (p := ⟨w.heap.size + 1, j, none⟩) (show w.heap.size + 1 < w.heap.size + 1 + 1 by omega)).trans (p2 j)
    have fF : ∀ j, w1.frozen? ⟨w.heap.size, j, none⟩ = false := fun j => (hb.frozen (p := ⟨w.heap.size, j, none⟩) (show w.heap.size < w.heap.size + 1 + 1 by omega)).trans (p3 j)
    have fG : ∀ j, w1.frozen? ⟨w.heap.size + 1, j, none⟩ = false := fun j => (hb.frozen (p := ⟨w.heap.size + 1, j, none⟩) (show w.heap.size + 1 < w.heap.size + 1 + 1 by omega)).trans (p4 j)
    have HHF := Lib.hid hF
    have HHG := Lib.hid hG
    have HFF := Lib.hid fF
    have HFG := Lib.hid fG
    have c2 := hF 2
    have c3 := hF 3
    have f2 := fF 2
    simp only [List.getElem?_toArray, List.getElem?_cons_zero, List.getElem?_cons_succ] at c2 c3
    have HTD := Lib.hid htd
    have HB := Lib.hid ((hb0.trans (hb.mono (by omega))).setCell (p := ⟨w.heap.size, 2, none⟩) (Nat.le_refl _) (.slice a2 t.args.length k2))
    have HM2 := Lib.hid (HM.out _ HB.out)
    clear H2 p1 p2 p3 p4 htd hb HL hb0 hF hG fF fG HM
    go_wp2_with fail
    refine HM2.out.mono ?_
    rintro e w2 ⟨a3, k3, rfl, hfd, hb2⟩
    have hzw2 := hb2.size
    have hzs : (w1.setCell ⟨w.heap.size, 2, none⟩ (.slice a2 t.args.length k2)).heap.size = w1.heap.size := by simp
    rw [hzs] at hb2 hfd hzw2
    have hF2 : ∀ j, w2.cell? ⟨w.heap.size, j, none⟩ = (w1.setCell ⟨w.heap.size, 2, none⟩ (.slice a2 t.args.length k2)).cell? ⟨w.heap.size, j, none⟩ := fun j => hb2.cell (p := ⟨w.heap.size, j, none⟩) (show w.heap.size < w1.heap.size by omega)
    have hG2 : ∀ j, w2.cell? ⟨w.heap.size + 1, j, none⟩ = _ := fun j => (hb2.cell (p := ⟨w.heap.size + 1, j, none⟩) (show w.heap.size + 1 < w1.heap.size by omega)).trans ((World.cell?_of_block (Below.heap_setCell w1 ⟨w.heap.size, 2, none⟩ _ _ (by show w.heap.size + 1 ≠ w.heap.size; omega))).trans (HHG.out j))
    have fF2 : ∀ j, w2.frozen? ⟨w.heap.size, j, none⟩ = false := fun j => (hb2.frozen (p := ⟨w.heap.size, j, none⟩) (show w.heap.size < w1.heap.size by omega)).trans (by rw [World.frozen?_setCell]; exact HFF.out j)
    have fG2 : ∀ j, w2.frozen? ⟨w.heap.size + 1, j, none⟩ = false := fun j => (hb2.frozen (p := ⟨w.heap.size + 1, j, none⟩) (show w.heap.size + 1 < w1.heap.size by omega)).trans (by rw [World.frozen?_setCell]; exact HFG.out j)
    have x0 := (hF2 0).trans ((cell_set_other w1 w.heap.size 2 0 _ (by omega)).trans (HHF.out 0))
    have x1 := (hF2 1).trans ((cell_set_other w1 w.heap.size 2 1 _ (by omega)).trans (HHF.out 1))
    have x2 := (hF2 2).trans (World.cell?_setCell_same' w1 ⟨w.heap.size, 2, none⟩ (.slice a2 t.args.length k2) (by rw [c2]; rfl))
    have x3 := (hF2 3).trans ((cell_set_other w1 w.heap.size 2 3 _ (by omega)).trans (HHF.out 3))
    have d0 := hG2 0
    have d1 := hG2 1
    have d2 := hG2 2
    have d3 := hG2 3
    simp only [List.getElem?_toArray, List.getElem?_cons_zero, List.getElem?_cons_succ] at x0 x1 x3 d0 d1 d2 d3
    have f3 := fF2 3
    have h0 := fG2 0
    have h1 := fG2 1
    have h2 := fG2 2
    have h3 := fG2 3
    have hzF : w.heap.size + 1 < w2.heap.size := by omega
    have hzF2 : w.heap.size < w2.heap.size := by omega
    have HFD := Lib.hid hfd
    have HTD2 := Lib.hid (HTD.out.keep (w' := w2) (D' := fun b => w.heap.size + 2 ≤ b ∧ b < w2.heap.size) (fun b hb j => by rw [hb2.cell (p := ⟨b, j, none⟩) hb.2, World.cell?_of_block (Below.heap_setCell w1 ⟨w.heap.size, 2, none⟩ _ b (by show b ≠ w.heap.size; omega))]) fun b hb => ⟨by omega, by omega⟩)
    have HB2 := Lib.hid (HB.out.trans (hb2.mono (by omega)))
    clear c2 c3 f2 hF2 hG2 fF2 fG2 hfd HB HM2 hb2 hzs
    go_wp2_with fail
    refine bodyPost_ret (v := .agg #[.int .u8 t.op, .string t.n, .slice a2 t.args.length k2, .slice a3 t.sub.length k3]) (by simp [results, Tryd.results34, go_sem, d0, d1, d2, d3]) rfl ?_
    have hkeep : ∀ (b : Nat), w.heap.size + 2 ≤ b → ∀ j, (((((w2.setCell ⟨w.heap.size, 3, none⟩ (.slice a3 t.sub.length k3)).setCell ⟨w.heap.size + 1, 0, none⟩ (.int .u8 t.op)).setCell ⟨w.heap.size + 1, 1, none⟩ (.string t.n)).setCell ⟨w.heap.size + 1, 2, none⟩ (.slice a2 t.args.length k2)).setCell ⟨w.heap.size + 1, 3, none⟩ (.slice a3 t.sub.length k3)).cell? ⟨b, j, none⟩ = w2.cell? ⟨b, j, none⟩ := by
      intro b hb j
      rw [World.cell?_of_block (Below.heap_setCell _ ⟨w.heap.size + 1, 3, none⟩ _ b (by show b ≠ w.heap.size + 1; omega)), World.cell?_of_block (Below.heap_setCell _ ⟨w.heap.size + 1, 2, none⟩ _ b (by show b ≠ w.heap.size + 1; omega)), World.cell?_of_block (Below.heap_setCell _ ⟨w.heap.size + 1, 1, none⟩ _ b (by show b ≠ w.heap.size + 1; omega)),
        World.cell?_of_block (Below.heap_setCell _ ⟨w.heap.size + 1, 0, none⟩ _ b (by show b ≠ w.heap.size + 1; omega)), World.cell?_of_block (Below.heap_setCell _ ⟨w.heap.size, 3, none⟩ _ b (by show b ≠ w.heap.size; omega))]
    refine ⟨a2, k2, a3, k3, rfl, HTD2.out.keep (fun b hb j => hkeep b hb.1 j) (fun b hb => ⟨by omega, ?_⟩), HFD.out.keep (fun b hb j => hkeep b (by omega) j) (fun b hb => ⟨by omega, ?_⟩),
      ((((HB2.out.setCell (p := ⟨w.heap.size, 3, none⟩) (Nat.le_refl _) _).setCell (p := ⟨w.heap.size + 1, 0, none⟩) (Nat.le_succ _) _).setCell (p := ⟨w.heap.size + 1, 1, none⟩) (Nat.le_succ _) _).setCell (p := ⟨w.heap.size + 1, 2, none⟩) (Nat.le_succ _) _).setCell (p := ⟨w.heap.size + 1, 3, none⟩) (Nat.le_succ _) _⟩
    · have := hb.2
      simp
      omega
    · have := hb.2
      simp
      omega
end Go.Proofs.YtdapnjnmhkdnpaaDoor.Fm

/-
  The contract of At.
-/
namespace Go.Proofs.YtdapnjnmhkdnpaaDoor.Fm
open Go Go.RowKit Go.Shelf
set_option linter.unusedVariables false
set_option linter.unusedSimpArgs false
theorem has_c (v0 v1 v2 v3 : Value) (f : Fo) (i : Int) (dn : Nat) (w : World) (hf : FoV dn w v0 v1 v2 v3 f) : Calls Tryd.prog 33 #[.agg #[v0, v1, v2, v3], .int .i64 i] w fun e w' => e = .returned (.bool (decide (0 ≤ i) && decide (i < (f.sub.length : Int)))) ∧ Below w.heap.size w w' := by
  obtain ⟨rfl, hop, rfl, _, ha, hs⟩ := hf
  obtain ⟨⟨sa, ka, rfl⟩, hla⟩ := ha.form
  obtain ⟨⟨sb, kb, rfl⟩, hlb⟩ := hs.form
  clear ha hs
  by_cases h1 : 0 ≤ i
  · go_enter Tryd.func33, Tryd.ntmps33
    go_wp2_with fail
    go_ret
    exact ⟨by simp [h1], (Below.refl _ _).alloc (Nat.le_refl _) _⟩
  · have d : decide (0 ≤ i) = false := decide_eq_false h1
    go_enter Tryd.func33, Tryd.ntmps33
    go_wp2_with fail
    go_ret
    exact ⟨by simp [d], (Below.refl _ _).alloc (Nat.le_refl _) _⟩
/-- The part at a place. -/
def atF : Fo → List Int → Option Fo
  | f, [] => some f
  | f, i :: r => if 0 ≤ i then (match f.sub[i.toNat]? with | some g => atF g r | none => none) else none
/-- A place as it lies in memory. -/
def PlV (n : Nat) (w : World) (v : Value) (is : List Int) : Prop :=
  ∃ a cap b o, v = .slice a is.length cap ∧ is.length ≤ 9223372036854775807 ∧ (is = [] ∨ (a = some ⟨b, o, none⟩ ∧ b < n)) ∧ ∀ q (h : q < is.length), w.cell? ⟨b, o + q, none⟩ = some (.int .i64 is[q])
theorem PlV.below {n m : Nat} {w w' : World} {v : Value} {is : List Int} (h : PlV n w v is) (hb : Below m w w') (hn : n ≤ m) : PlV n w' v is := by
  obtain ⟨a, cap, b, o, h1, h2, h3, h4⟩ := h
  refine ⟨a, cap, b, o, h1, h2, h3, fun q hq => ?_⟩
  have hb' := (h3.resolve_left (by rintro rfl; simp at hq)).2
  rw [hb.cell (p := ⟨b, o + q, none⟩) (show b < m by omega)]
  exact h4 q hq
/-- What At gives. -/
def AtP (r : Option Fo) (w : World) (e : Ending) (w' : World) : Prop :=
  match r with
  | none => e = .returned (.tuple #[.agg #[.int .u8 0, .string ByteArray.empty, .slice none 0 0, .slice none 0 0], .int .i64 6]) ∧ Below w.heap.size w w'
  | some t => ∃ a c a' c', e = .returned (.tuple #[.agg #[.int .u8 t.op, .string t.n, .slice a t.args.length c, .slice a' t.sub.length c'], .int .i64 0]) ∧ SlTD (fun b => w.heap.size ≤ b ∧ b < w'.heap.size) w' (.slice a t.args.length c) t.args ∧
      SlFD (fun b => w.heap.size ≤ b ∧ b < w'.heap.size) w' (.slice a' t.sub.length c') t.sub ∧ Below w.heap.size w w'
def AtRel (r : Option Fo) (is : List Int) (dn : Nat) (w : World) (i : Value) (wr : World) : Prop := ∃ (q : Nat) (g : Fo) (v0 v1 v2 v3 : Value), i = .int .i64 (q : Int) ∧ q ≤ is.length ∧ Below w.heap.size w wr ∧ w.heap.size + 1 < wr.heap.size ∧
  FoV dn wr v0 v1 v2 v3 g ∧ wr.cell? ⟨w.heap.size, 0, none⟩ = some v0 ∧ wr.cell? ⟨w.heap.size, 1, none⟩ = some v1 ∧ wr.cell? ⟨w.heap.size, 2, none⟩ = some v2 ∧ wr.cell? ⟨w.heap.size, 3, none⟩ = some v3 ∧
  (∀ j, wr.frozen? ⟨w.heap.size, j, none⟩ = false) ∧ (∀ j, wr.frozen? ⟨w.heap.size + 1, j, none⟩ = false) ∧
  (wr.cell? ⟨w.heap.size + 1, 0, none⟩ = some (.int .u8 0) ∧ wr.cell? ⟨w.heap.size + 1, 1, none⟩ = some (.string ByteArray.empty) ∧ wr.cell? ⟨w.heap.size + 1, 2, none⟩ = some (.slice none 0 0) ∧ wr.cell? ⟨w.heap.size + 1, 3, none⟩ = some (.slice none 0 0)) ∧ atF g (is.drop q) = r
set_option maxHeartbeats 1000000 in
theorem at_c (v0 v1 v2 v3 va : Value) (f : Fo) (is : List Int) (dn : Nat) (w : World) (hf : FoV dn w v0 v1 v2 v3 f) (hp : PlV dn w va is) (hd : dn ≤ w.heap.size) :
    Calls Tryd.prog 13 #[.agg #[v0, v1, v2, v3], va] w (AtP (atF f is) w) := by
  have hb0 : Below w.heap.size w ((w.alloc (.cells #[v0, v1, v2, v3] 25)).alloc (.cells #[.int .u8 0, .string ByteArray.empty, .slice none 0 0, .slice none 0 0] 25)) := ((Below.refl _ _).alloc (Nat.le_refl _) _).alloc (by simp) _
  have H2 := Lib.hid (two_boxesT w #[v0, v1, v2, v3] #[.int .u8 0, .string ByteArray.empty, .slice none 0 0, .slice none 0 0] 25)
  obtain ⟨r, hr⟩ : ∃ r, atF f is = r := ⟨_, rfl⟩
  rw [hr]
  have HR := Lib.hid hr
  have HF0 := Lib.hid (hf.below hb0 hd)
  obtain ⟨rfl, hop, rfl, _, ha, hs⟩ := hf
  obtain ⟨⟨sa, ka, rfl⟩, hla⟩ := ha.form
  obtain ⟨⟨sb, kb, rfl⟩, hlb⟩ := hs.form
  have HP := Lib.hid hp
  obtain ⟨sp, kp, pb, po, rfl, hpl, hp3, hp4⟩ := hp
  have HP3 := Lib.hid hp3
  have HP4 := Lib.hid hp4
  clear hr ha hs hp3 hp4
  go_enter Tryd.func13, Tryd.ntmps13
  go_wp2_with fail
  go_loopw [10] (fun i wr => AtRel r is dn w i wr) (fun i _ => is.length - (intOf i).toNat)
  case atStart =>
    obtain ⟨p1, p2, p3, p4⟩ := H2.out
    exact ⟨0, f, _, _, _, _, rfl, Nat.zero_le _, hb0, by simp, HF0.out, p1 0, p1 1, p1 2, p1 3, p3, p4, ⟨p2 0, p2 1, p2 2, p2 3⟩, by rw [List.drop_zero]; exact HR.out⟩
  case round =>
    clear hb0 H2
    obtain ⟨q, g, x0, x1, x2, x3, rfl, hq, hbq, hzq, hg, c0, c1, c2, c3, fF, fG, hG, hat⟩ := hrel
    have HAT := Lib.hid hat
    have HFF := Lib.hid fF
    have HFG := Lib.hid fG
    have HG := Lib.hid hG
    have HGV := Lib.hid hg
    have hdr : dn ≤ wr.heap.size := by omega
    obtain ⟨rfl, hgop, rfl, _, hga, hgs⟩ := hg
    obtain ⟨⟨ga, gk, rfl⟩, hgl⟩ := hga.form
    obtain ⟨⟨gb, gj, rfl⟩, hgm⟩ := hgs.form
    clear hat fF fG hG
    by_cases hlt : q < is.length
    · obtain ⟨rfl, hpb⟩ := HP3.out.resolve_left (by rintro rfl; simp at hlt)
      have hpc := HP4.out q hlt
      rw [← hbq.cell (p := ⟨pb, po + q, none⟩) (show pb < w.heap.size by omega)] at hpc
      have HD := Lib.hid (List.drop_eq_getElem_cons hlt)
      obtain ⟨i, hi⟩ : ∃ i, is[q] = i := ⟨_, rfl⟩
      rw [hi] at hpc HD
      clear hi
      have hh := has_c _ _ _ _ g i dn wr HGV.out
      have zF : ∀ j, wr.cell? ⟨w.heap.size, j, none⟩ = wr.cell? ⟨w.heap.size, j, none⟩ := fun _ => rfl
      by_cases hin : 0 ≤ i ∧ i < (g.sub.length : Int)
      · obtain ⟨k, rfl⟩ := Int.eq_ofNat_of_zero_le hin.1
        have hk : k < g.sub.length := by omega
        rw [decide_eq_true hin.1, decide_eq_true hin.2, Bool.true_and] at hh
        have HH := Lib.hid hh
        have hkI : (k : Int) < (g.sub.length : Int) := hin.2
        have HN := Lib.hid (show atF g.sub[k] (is.drop (q + 1)) = r by
          rw [← HAT.out, HD.out, atF, if_pos (by omega), Int.toNat_natCast, List.getElem?_eq_getElem hk])
        clear hh hin
        go_wp2_with fail
        refine HH.out.mono ?_
        rintro e w1 ⟨rfl, hb1⟩
        have e0 := (hb1.cell (p := ⟨w.heap.size, 0, none⟩) (show w.heap.size < wr.heap.size by omega)).trans c0
        have e1 := (hb1.cell (p := ⟨w.heap.size, 1, none⟩) (show w.heap.size < wr.heap.size by omega)).trans c1
        have e2 := (hb1.cell (p := ⟨w.heap.size, 2, none⟩) (show w.heap.size < wr.heap.size by omega)).trans c2
        have e3 := (hb1.cell (p := ⟨w.heap.size, 3, none⟩) (show w.heap.size < wr.heap.size by omega)).trans c3
        have fr : ∀ j, w1.frozen? ⟨w.heap.size, j, none⟩ = false := fun j => (hb1.frozen (p := ⟨w.heap.size, j, none⟩) (show w.heap.size < wr.heap.size by omega)).trans (HFF.out j)
        have fr0 := fr 0
        have fr1 := fr 1
        have fr2 := fr 2
        have fr3 := fr 3
        have HFR := Lib.hid fr
        have HGC : ∀ j, w1.cell? ⟨w.heap.size + 1, j, none⟩ = wr.cell? ⟨w.heap.size + 1, j, none⟩ := fun j => hb1.cell (p := ⟨w.heap.size + 1, j, none⟩) (show w.heap.size + 1 < wr.heap.size by omega)
        have HGC2 := Lib.hid HGC
        have HGF := Lib.hid (fun j => (hb1.frozen (p := ⟨w.heap.size + 1, j, none⟩) (show w.heap.size + 1 < wr.heap.size by omega)).trans (HFG.out j))
        obtain ⟨_, b, o, rfl, hbn, u0, u1, u2, u3, m0, m1, m2, m3, hu⟩ := (hgs.below hb1 hdr).get hk
        have hz1 := hb1.size
        have hbne : b ≠ w.heap.size := by omega
        have hfree : Free w1 w.heap.size 4 := ⟨by omega, fun j hj => ⟨by
          have : j = 0 ∨ j = 1 ∨ j = 2 ∨ j = 3 := by omega
          rcases this with rfl | rfl | rfl | rfl
          · rw [e0]; rfl
          · rw [e1]; rfl
          · rw [e2]; rfl
          · rw [e3]; rfl, HFR.out j⟩⟩
        have HU := Lib.hid hu
        obtain ⟨⟨ha', hk', hu2⟩, _⟩ := hu.args.form
        obtain ⟨⟨hb', hj', hu3⟩, _⟩ := hu.sub.form
        have z0 := hu.op
        have z1 := hu.nm
        subst hu2 hu3 z0 z1
        have HS4 := Lib.hid (set4 (i := 0) hfree (by omega) (.int .u8 g.sub[k].op) (.string g.sub[k].n) (.slice ha' g.sub[k].args.length hk') (.slice hb' g.sub[k].sub.length hj'))
        have HB1 := Lib.hid hb1
        clear hb1 fr HGC hu zF c0 c1 c2 c3 hga hgs hfree
        go_wp2_with fail
        refine ⟨⟨q + 1, g.sub[k], _, _, _, _, by go_num, by omega, (hbq.trans (HB1.out.mono (by omega))).trans HS4.out.2.1, by simp; omega, HU.out.below HS4.out.2.1 hd, HS4.out.2.2.2.2.1, HS4.out.2.2.2.2.2.1, HS4.out.2.2.2.2.2.2.1, HS4.out.2.2.2.2.2.2.2,
          fun j => by simp only [World.frozen?_setCell]; exact HFR.out j, fun j => by simp only [World.frozen?_setCell]; exact HGF.out j, ?_, HN.out⟩, by simp [intOf]; omega⟩
        have hx := fun j => (HS4.out.2.2.1 (w.heap.size + 1) (by omega) j).trans (HGC2.out j)
        exact ⟨(hx 0).trans HG.out.1, (hx 1).trans HG.out.2.1, (hx 2).trans HG.out.2.2.1, (hx 3).trans HG.out.2.2.2⟩
      · have hrn : r = none := by
          rw [← HAT.out, HD.out, atF]
          by_cases h0 : 0 ≤ i
          · rw [if_pos h0, List.getElem?_eq_none (by omega)]
          · rw [if_neg h0]
        subst hrn
        have hbf : (decide (0 ≤ i) && decide (i < (g.sub.length : Int))) = false := by
          cases h : (decide (0 ≤ i) && decide (i < (g.sub.length : Int)))
          · rfl
          · rw [Bool.and_eq_true] at h
            exact absurd ⟨of_decide_eq_true h.1, of_decide_eq_true h.2⟩ hin
        rw [hbf] at hh
        have HH := Lib.hid hh
        clear hh hin hbf
        go_wp2_with fail
        refine HH.out.mono ?_
        rintro e w1 ⟨rfl, hb1⟩
        have hz1 := hb1.size
        have g0 := (hb1.cell (p := ⟨w.heap.size + 1, 0, none⟩) (show w.heap.size + 1 < wr.heap.size by omega)).trans HG.out.1
        have g1 := (hb1.cell (p := ⟨w.heap.size + 1, 1, none⟩) (show w.heap.size + 1 < wr.heap.size by omega)).trans HG.out.2.1
        have g2 := (hb1.cell (p := ⟨w.heap.size + 1, 2, none⟩) (show w.heap.size + 1 < wr.heap.size by omega)).trans HG.out.2.2.1
        have g3 := (hb1.cell (p := ⟨w.heap.size + 1, 3, none⟩) (show w.heap.size + 1 < wr.heap.size by omega)).trans HG.out.2.2.2
        have fr : ∀ j, w1.frozen? ⟨w.heap.size + 1, j, none⟩ = false := fun j => (hb1.frozen (p := ⟨w.heap.size + 1, j, none⟩) (show w.heap.size + 1 < wr.heap.size by omega)).trans (HFG.out j)
        have fr0 := fr 0
        have fr1 := fr 1
        have fr2 := fr 2
        have fr3 := fr 3
        have hzz : w.heap.size + 1 < w1.heap.size := by omega
        have HB2 := Lib.hid (hbq.trans (hb1.mono (by omega)))
        clear fr hb1 c0 c1 c2 c3 hga hgs zF
        go_wp2_with fail
        refine bodyPost_ret (v := .tuple #[.agg #[.int .u8 0, .string ByteArray.empty, .slice none 0 0, .slice none 0 0], .int .i64 6]) (by simp [results, Tryd.results13, go_sem, g0, g1, g2, g3]; rfl) rfl ?_
        exact ⟨rfl, (((HB2.out.setCell (p := ⟨w.heap.size + 1, 0, none⟩) (Nat.le_succ _) _).setCell (p := ⟨w.heap.size + 1, 1, none⟩) (Nat.le_succ _) _).setCell (p := ⟨w.heap.size + 1, 2, none⟩) (Nat.le_succ _) _).setCell (p := ⟨w.heap.size + 1, 3, none⟩) (Nat.le_succ _) _⟩
    · have e : q = is.length := by omega
      have hrs : r = some g := by rw [← HAT.out, e, List.drop_length]; rfl
      subst hrs
      have HC := Lib.hid (copyF_c (SizeOf.sizeOf g + 1) g (Nat.lt_succ_self _) _ _ _ _ dn wr HGV.out hdr)
      clear e hga hgs
      go_wp2_with fail
      refine HC.out.mono ?_
      rintro e w1 ⟨a2, k2, a3, k3, rfl, htd, hfd, hb1⟩
      have hz1 := hb1.size
      have g0 := (hb1.cell (p := ⟨w.heap.size + 1, 0, none⟩) (show w.heap.size + 1 < wr.heap.size by omega)).trans HG.out.1
      have g1 := (hb1.cell (p := ⟨w.heap.size + 1, 1, none⟩) (show w.heap.size + 1 < wr.heap.size by omega)).trans HG.out.2.1
      have g2 := (hb1.cell (p := ⟨w.heap.size + 1, 2, none⟩) (show w.heap.size + 1 < wr.heap.size by omega)).trans HG.out.2.2.1
      have g3 := (hb1.cell (p := ⟨w.heap.size + 1, 3, none⟩) (show w.heap.size + 1 < wr.heap.size by omega)).trans HG.out.2.2.2
      have fr : ∀ j, w1.frozen? ⟨w.heap.size + 1, j, none⟩ = false := fun j => (hb1.frozen (p := ⟨w.heap.size + 1, j, none⟩) (show w.heap.size + 1 < wr.heap.size by omega)).trans (HFG.out j)
      have fr0 := fr 0
      have fr1 := fr 1
      have fr2 := fr 2
      have fr3 := fr 3
      have hzz : w.heap.size + 1 < w1.heap.size := by omega
      have HB2 := Lib.hid (hbq.trans (hb1.mono (by omega)))
      have HTD := Lib.hid htd
      have HFD := Lib.hid hfd
      clear fr hb1 c0 c1 c2 c3 htd hfd
      go_wp2_with fail
      refine bodyPost_ret (v := .tuple #[.agg #[.int .u8 g.op, .string g.n, .slice a2 g.args.length k2, .slice a3 g.sub.length k3], .int .i64 0]) (by simp [results, Tryd.results13, go_sem, g0, g1, g2, g3]) rfl ?_
      have hkeep : ∀ (b : Nat), w.heap.size + 2 ≤ b → ∀ j, ((((w1.setCell ⟨w.heap.size + 1, 0, none⟩ (.int .u8 g.op)).setCell ⟨w.heap.size + 1, 1, none⟩ (.string g.n)).setCell ⟨w.heap.size + 1, 2, none⟩ (.slice a2 g.args.length k2)).setCell ⟨w.heap.size + 1, 3, none⟩ (.slice a3 g.sub.length k3)).cell? ⟨b, j, none⟩ = w1.cell? ⟨b, j, none⟩ := by
        intro b hb j
        rw [World.cell?_of_block (Below.heap_setCell _ ⟨w.heap.size + 1, 3, none⟩ _ b (by show b ≠ w.heap.size + 1; omega)), World.cell?_of_block (Below.heap_setCell _ ⟨w.heap.size + 1, 2, none⟩ _ b (by show b ≠ w.heap.size + 1; omega)), World.cell?_of_block (Below.heap_setCell _ ⟨w.heap.size + 1, 1, none⟩ _ b (by show b ≠ w.heap.size + 1; omega)),
          World.cell?_of_block (Below.heap_setCell _ ⟨w.heap.size + 1, 0, none⟩ _ b (by show b ≠ w.heap.size + 1; omega))]
      refine ⟨a2, k2, a3, k3, rfl, HTD.out.keep (fun b hb j => hkeep b (by omega) j) (fun b hb => ⟨by omega, ?_⟩), HFD.out.keep (fun b hb j => hkeep b (by omega) j) (fun b hb => ⟨by omega, ?_⟩),
        (((HB2.out.setCell (p := ⟨w.heap.size + 1, 0, none⟩) (Nat.le_succ _) _).setCell (p := ⟨w.heap.size + 1, 1, none⟩) (Nat.le_succ _) _).setCell (p := ⟨w.heap.size + 1, 2, none⟩) (Nat.le_succ _) _).setCell (p := ⟨w.heap.size + 1, 3, none⟩) (Nat.le_succ _) _⟩
      · have := hb.2
        simp
        omega
      · have := hb.2
        simp
        omega
end Go.Proofs.YtdapnjnmhkdnpaaDoor.Fm
