/-
  nested, with each rule that it is given.
-/
import Derived.Test.YtkeckecdhcknhaaDoorPsMeta
import Derived.Test.YtkeckecdhcknhaaDoorFmOwn
namespace Go.Proofs.YtkeckecdhcknhaaDoor.Ps
open Go Go.RowKit Go.Shelf Go.Proofs.YtkeckecdhcknhaaDoor.Fm Go.Proofs.YtkeckecdhcknhaaDoor.Lx
set_option linter.unusedVariables false
set_option linter.unusedSimpArgs false
/-- A value that a rule returns, in memory that is new from lo on. -/
abbrev Own (lo : Nat) (w : World) (b : Nat) : Prop := lo ≤ b ∧ b < w.heap.size
def TsVal (lo : Nat) (w : World) (v : Value) (l : List Tm) : Prop := ∃ a c, v = .slice a l.length c ∧ SlTD (Own lo w) w (.slice a l.length c) l
def TVal (lo : Nat) (w : World) (v : Value) (t : Tm) : Prop := ∃ a c, v = .agg #[.bool t.v, .string t.n, .slice a t.args.length c] ∧ okStr t.n ∧ SlTD (Own lo w) w (.slice a t.args.length c) t.args
def FVal (lo : Nat) (w : World) (v : Value) (t : Fo) : Prop := ∃ a c a' c', v = .agg #[.int .u8 t.op, .string t.n, .slice a t.args.length c, .slice a' t.sub.length c'] ∧ (0 ≤ t.op ∧ t.op ≤ 255) ∧ okStr t.n ∧
  SlTD (Own lo w) w (.slice a t.args.length c) t.args ∧ SlFD (Own lo w) w (.slice a' t.sub.length c') t.sub
/-- How a rule ends: a value and the tokens that are left, or a wrong token. -/
def RuQ {α : Type} (V : Nat → World → Value → α → Prop) (W : World) (P n : Nat) (m : Bool) (x : R α) (e : Ending) (w' : World) : Prop :=
  match x with
  | .ok a r => ∃ v, e = .returned v ∧ V W.heap.size w' v a ∧ PSt w' P m n r ∧ GP P W w'
  | .er a e0 => e = wrongV a e0 ∧ GP P W w'
theorem PSt.setNest {W : World} {P n : Nat} {m : Bool} {ts : List Tg} (h : PSt W P m n ts) (k : Nat) (hk : k + ts.length ≤ 30000) {v : Value} (hv : v = .int .i64 (k : Int)) : PSt (W.setCell ⟨P, 1, none⟩ v) P m k ts := by
  subst hv
  have ho : ∀ i, i ≠ 1 → (⟨P, 1, none⟩ : Addr) ≠ ⟨P, i, none⟩ := fun i hi e => by injection e with _ e2 _; exact hi e2.symm
  obtain ⟨g, o, cap, h1, h2, h3, h5⟩ := h.tk
  obtain ⟨B, u1, u2, u3⟩ := h.un
  refine ⟨⟨g, o, cap, ?_, h2, h3, fun j u hj => ?_⟩, World.cell?_setCell_same _ _ _ h.ns, ?_, ⟨B, ?_, u2, ?_⟩, ?_, by simpa using h.lt, h.ok, hk, h.lv.keep (Below.heap_setCell _ _ _ _ (Nat.ne_of_lt h.lv.1))⟩
  · rw [World.cell?_setCell_other _ _ _ _ (ho 0 (by decide))]; exact h1
  · rw [World.cell?_setCell_other _ _ _ _ (fun e => by injection e with e1 _ _; omega)]; exact h5 j u hj
  · rw [World.cell?_setCell_other _ _ _ _ (ho 2 (by decide))]; exact h.me
  · rw [World.cell?_setCell_other _ _ _ _ (ho 3 (by decide))]; exact u1
  · exact (Below.heap_setCell _ _ _ _ (Nat.ne_of_lt u2)).trans u3
  · intro i hi; rw [World.frozen?_setCell]; exact h.fz i hi

theorem own_keep {P lo lo' : Nat} {w w' : World} (hg : GP P w w') (hP : P < lo) (hl : lo' ≤ lo) : (∀ b, Own lo w b → ∀ q, w'.cell? ⟨b, q, none⟩ = w.cell? ⟨b, q, none⟩) ∧ ∀ b, Own lo w b → Own lo' w' b :=
  ⟨fun b hb q => hg.cell (p := ⟨b, q, none⟩) hb.2 (fun e => by have e : b = P := e; have := hb.1; omega), fun b hb => ⟨Nat.le_trans hl hb.1, Nat.lt_of_lt_of_le hb.2 hg.size⟩⟩
theorem TsVal.keep {P lo lo' : Nat} {w w' : World} {v : Value} {l : List Tm} (h : TsVal lo w v l) (hg : GP P w w') (hP : P < lo) (hl : lo' ≤ lo) : TsVal lo' w' v l := by
  obtain ⟨a, c, h1, h2⟩ := h
  obtain ⟨k1, k2⟩ := own_keep hg hP hl
  exact ⟨a, c, h1, h2.keep k1 k2⟩
theorem TVal.keep {P lo lo' : Nat} {w w' : World} {v : Value} {l : Tm} (h : TVal lo w v l) (hg : GP P w w') (hP : P < lo) (hl : lo' ≤ lo) : TVal lo' w' v l := by
  obtain ⟨a, c, h1, h2, h3⟩ := h
  obtain ⟨k1, k2⟩ := own_keep hg hP hl
  exact ⟨a, c, h1, h2, h3.keep k1 k2⟩
theorem FVal.keep {P lo lo' : Nat} {w w' : World} {v : Value} {l : Fo} (h : FVal lo w v l) (hg : GP P w w') (hP : P < lo) (hl : lo' ≤ lo) : FVal lo' w' v l := by
  obtain ⟨a, c, a', c', h1, h2, h3, h4, h5⟩ := h
  obtain ⟨k1, k2⟩ := own_keep hg hP hl
  exact ⟨a, c, a', c', h1, h2, h3, h4.keep k1 k2, h5.keep k1 k2⟩

/-- A result's own variable is there behind a call. -/
theorem box4 {P : Nat} {W w1 : World} {x0 x1 x2 x3 : Value} {t : TypeId} (hP : P < W.heap.size) (hg : GP P (W.alloc (.cells #[x0, x1, x2, x3] t)) w1) :
    w1.cell? ⟨W.heap.size, 0, none⟩ = some x0 ∧ w1.cell? ⟨W.heap.size, 1, none⟩ = some x1 ∧ w1.cell? ⟨W.heap.size, 2, none⟩ = some x2 ∧ w1.cell? ⟨W.heap.size, 3, none⟩ = some x3 ∧
    w1.frozen? ⟨W.heap.size, 0, none⟩ = false ∧ w1.frozen? ⟨W.heap.size, 1, none⟩ = false ∧ w1.frozen? ⟨W.heap.size, 2, none⟩ = false ∧ w1.frozen? ⟨W.heap.size, 3, none⟩ = false ∧ W.heap.size < w1.heap.size := by
  have hz : W.heap.size < (W.alloc (.cells #[x0, x1, x2, x3] t)).heap.size := by simp
  have hc : ∀ j, w1.cell? ⟨W.heap.size, j, none⟩ = #[x0, x1, x2, x3][j]? := fun j => (hg.cell (p := ⟨W.heap.size, j, none⟩) hz (fun e => by have e : W.heap.size = P := e; omega)).trans (World.cell?_alloc_at _ _ _ _ rfl)
  have hf : ∀ j, w1.frozen? ⟨W.heap.size, j, none⟩ = false := fun j => (hg.frozen (p := ⟨W.heap.size, j, none⟩) hz (fun e => by have e : W.heap.size = P := e; omega)).trans (World.frozen?_alloc_at _ _ _ _ rfl)
  exact ⟨hc 0, hc 1, hc 2, hc 3, hf 0, hf 1, hf 2, hf 3, Nat.lt_of_lt_of_le hz hg.size⟩


/-- A result's own variable is set. -/
def put4 (w : World) (R : Nat) (x0 x1 x2 x3 : Value) : World := (((w.setCell ⟨R, 0, none⟩ x0).setCell ⟨R, 1, none⟩ x1).setCell ⟨R, 2, none⟩ x2).setCell ⟨R, 3, none⟩ x3
theorem put4_heap (w : World) (R : Nat) (x0 x1 x2 x3 : Value) (b : Nat) (h : b ≠ R) : (put4 w R x0 x1 x2 x3).heap[b]? = w.heap[b]? := by
  unfold put4
  rw [Below.heap_setCell _ _ _ _ h, Below.heap_setCell _ _ _ _ h, Below.heap_setCell _ _ _ _ h, Below.heap_setCell _ _ _ _ h]
theorem put4_size (w : World) (R : Nat) (x0 x1 x2 x3 : Value) : (put4 w R x0 x1 x2 x3).heap.size = w.heap.size := by unfold put4; simp
theorem put4_grow {P : Nat} {W w : World} (h : GP P W w) {R : Nat} (hR : W.heap.size ≤ R) (x0 x1 x2 x3 : Value) : GP P W (put4 w R x0 x1 x2 x3) := by
  have hb : Below W.heap.size w (put4 w R x0 x1 x2 x3) := ((((Below.refl _ w).setCell (p := ⟨R, 0, none⟩) hR x0).setCell (p := ⟨R, 1, none⟩) hR x1).setCell (p := ⟨R, 2, none⟩) hR x2).setCell (p := ⟨R, 3, none⟩) hR x3
  exact ⟨hb.os.trans h.os, hb.tape.trans h.tape, hb.output.trans h.output, Nat.le_trans h.size hb.size, fun k hk hn => (hb.block k hk).trans (h.block k hk hn)⟩
theorem PSt.put4 {w : World} {P n : Nat} {m : Bool} {ts : List Tg} (h : PSt w P m n ts) {R : Nat} (hR : P < R) (x0 x1 x2 x3 : Value) : PSt (put4 w R x0 x1 x2 x3) P m n ts :=
  h.keep (fun b hb => put4_heap _ _ _ _ _ _ b (by omega)) (by rw [put4_size]; exact h.lt)
theorem own_put {lo R : Nat} {w : World} (hR : R < lo) (x0 x1 x2 x3 : Value) : (∀ b, Own lo w b → ∀ q, (put4 w R x0 x1 x2 x3).cell? ⟨b, q, none⟩ = w.cell? ⟨b, q, none⟩) ∧ ∀ b, Own lo w b → Own lo (put4 w R x0 x1 x2 x3) b :=
  ⟨fun b hb q => World.cell?_of_block (put4_heap _ _ _ _ _ _ b (by have := hb.1; omega)), fun b hb => ⟨hb.1, by rw [put4_size]; exact hb.2⟩⟩
theorem FVal.put4 {lo R : Nat} {w : World} {v : Value} {l : Fo} (h : FVal lo w v l) (hR : R < lo) (x0 x1 x2 x3 : Value) : FVal lo (put4 w R x0 x1 x2 x3) v l := by
  obtain ⟨a, c, a', c', h1, h2, h3, h4, h5⟩ := h
  obtain ⟨k1, k2⟩ := own_put (w := w) hR x0 x1 x2 x3
  exact ⟨a, c, a', c', h1, h2, h3, h4.keep k1 k2, h5.keep k1 k2⟩

end Go.Proofs.YtkeckecdhcknhaaDoor.Ps
