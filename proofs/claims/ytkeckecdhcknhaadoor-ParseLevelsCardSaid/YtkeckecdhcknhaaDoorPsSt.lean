/-
  The parser in memory.
-/
import Derived.Test.YtkeckecdhcknhaaDoorPsPure
import Derived.Deep.QuietTactic
import Derived.BigQuiet
namespace Go.Proofs.YtkeckecdhcknhaaDoor.Ps
open Go Go.RowKit Go.Shelf Go.Proofs.YtkeckecdhcknhaaDoor.Fm Go.Proofs.YtkeckecdhcknhaaDoor.Lx
set_option linter.unusedVariables false
set_option linter.unusedSimpArgs false
/-- The tokens of a text: the last one is the end, and no other one is empty. -/
structure TOK (ts : List Tg) : Prop where
  h : ∃ pre a, ts = pre ++ [⟨5, ⟨#[]⟩, a⟩] ∧ ∀ t ∈ pre, t.t ≠ ⟨#[]⟩ ∧ t.k ≠ 5
  sz : ∀ t ∈ ts, t.t.size ≤ 20000
theorem TOK.ne {ts : List Tg} (h : TOK ts) : ts ≠ [] := by obtain ⟨pre, a, rfl, _⟩ := h.h; simp
theorem TOK.drop {ts : List Tg} (h : TOK ts) (ht : tx ts ≠ ⟨#[]⟩) : TOK (ts.drop 1) := by
  obtain ⟨pre, a, rfl, hp⟩ := h.h
  cases pre with
  | nil => exact absurd rfl ht
  | cons x r => exact ⟨⟨r, a, rfl, fun t m => hp t (List.mem_cons_of_mem _ m)⟩, fun t m => h.sz t (List.mem_of_mem_drop m)⟩
theorem TOK.size {ts : List Tg} (h : TOK ts) : (tx ts).size ≤ 20000 := by
  cases ts with
  | nil => exact absurd rfl h.ne
  | cons x r => exact h.sz x (List.mem_cons_self ..)
theorem TOK.kind {ts : List Tg} (h : TOK ts) : (hd ts).k = 5 ↔ tx ts = ⟨#[]⟩ := by
  obtain ⟨pre, a, rfl, hp⟩ := h.h
  cases pre with
  | nil => exact ⟨fun _ => rfl, fun _ => rfl⟩
  | cons x r => exact ⟨fun e => absurd e (hp x (List.mem_cons_self ..)).2, fun e => absurd e (hp x (List.mem_cons_self ..)).1⟩
/-- What the map of the unary operators gives for a string. -/
def UMap (W : World) (B : Nat) : Prop := W.heap[B]? = some (.map #[⟨.string ⟨#[126]⟩, .int .u8 3, 0⟩, ⟨.string ⟨#[91, 93]⟩, .int .u8 10, 1⟩, ⟨.string ⟨#[60, 62]⟩, .int .u8 11, 2⟩, ⟨.string ⟨#[110, 101, 120, 116]⟩, .int .u8 12, 3⟩,
  ⟨.string ⟨#[97, 108, 119, 97, 121, 115]⟩, .int .u8 13, 4⟩, ⟨.string ⟨#[97, 108, 108]⟩, .int .u8 8, 5⟩, ⟨.string ⟨#[115, 111, 109, 101]⟩, .int .u8 9, 6⟩] 7)
/-- The levels of binary signs. -/
def LTab (W : World) (P : Nat) : Prop := 0 < P ∧ ∀ i, i < 5 → W.cell? ⟨0, i * 3, none⟩ = some (.string (lvS i)) ∧ W.cell? ⟨0, i * 3 + 1, none⟩ = some (.int .u8 (lvO i)) ∧ W.cell? ⟨0, i * 3 + 2, none⟩ = some (.bool (lvR i))
theorem LTab.keep {W W' : World} {P : Nat} (h : LTab W P) (hb : W'.heap[0]? = W.heap[0]?) : LTab W' P :=
  ⟨h.1, fun i hi => by
    obtain ⟨h0, h1, h2⟩ := h.2 i hi
    exact ⟨(World.cell?_of_block (a := ⟨0, i * 3, none⟩) hb).trans h0, (World.cell?_of_block (a := ⟨0, i * 3 + 1, none⟩) hb).trans h1, (World.cell?_of_block (a := ⟨0, i * 3 + 2, none⟩) hb).trans h2⟩⟩
/-- The parser in block P: what it reads next is ts, within n nests. -/
structure PSt (W : World) (P : Nat) (m : Bool) (n : Nat) (ts : List Tg) : Prop where
  tk : ∃ g o cap, W.cell? ⟨P, 0, none⟩ = some (.slice (some ⟨g, o, none⟩) ts.length cap) ∧ ts.length ≤ cap ∧ g < P ∧ ∀ j u, (flatG ts)[j]? = some u → W.cell? ⟨g, o + j, none⟩ = some u
  ns : W.cell? ⟨P, 1, none⟩ = some (.int .i64 (n : Int))
  me : W.cell? ⟨P, 2, none⟩ = some (.bool m)
  un : ∃ B, W.cell? ⟨P, 3, none⟩ = some (.map (some B)) ∧ B < P ∧ UMap W B
  fz : ∀ i, i < 4 → W.frozen? ⟨P, i, none⟩ = false
  lt : P < W.heap.size
  ok : TOK ts
  bd : n + ts.length ≤ 30000
  lv : LTab W P
theorem UMap.lt {W : World} {B : Nat} (h : UMap W B) : B < W.heap.size := lt_of_heap h
/-- What does not touch the parser keeps it. -/
theorem PSt.keep {W W' : World} {P n : Nat} {m : Bool} {ts : List Tg} (h : PSt W P m n ts) (hb : ∀ b, b ≤ P → W'.heap[b]? = W.heap[b]?) (hz : P < W'.heap.size) : PSt W' P m n ts where
  tk := by
    obtain ⟨g, o, cap, h1, h2, h3, h5⟩ := h.tk
    exact ⟨g, o, cap, (World.cell?_of_block (a := ⟨P, 0, none⟩) (hb P (Nat.le_refl _))).trans h1, h2, h3, fun j u hj => (World.cell?_of_block (a := ⟨g, o + j, none⟩) (hb g (Nat.le_of_lt h3))).trans (h5 j u hj)⟩
  ns := (World.cell?_of_block (a := ⟨P, 1, none⟩) (hb P (Nat.le_refl _))).trans h.ns
  me := (World.cell?_of_block (a := ⟨P, 2, none⟩) (hb P (Nat.le_refl _))).trans h.me
  un := by
    obtain ⟨B, h1, h2, h3⟩ := h.un
    exact ⟨B, (World.cell?_of_block (a := ⟨P, 3, none⟩) (hb P (Nat.le_refl _))).trans h1, h2, (hb B (Nat.le_of_lt h2)).trans h3⟩
  fz i hi := (World.frozen?_of_block (a := ⟨P, i, none⟩) (hb P (Nat.le_refl _))).trans (h.fz i hi)
  lt := hz
  ok := h.ok
  bd := h.bd
  lv := h.lv.keep (hb _ (Nat.le_of_lt h.lv.1))
theorem PSt.grow {W W' : World} {P n : Nat} {m : Bool} {ts : List Tg} (h : PSt W P m n ts) (hb : Below W.heap.size W W') : PSt W' P m n ts :=
  h.keep (fun b hb' => hb.block b (Nat.lt_of_le_of_lt hb' h.lt)) (Nat.lt_of_lt_of_le h.lt hb.size)
theorem PSt.drewN {W : World} {P n : Nat} {m : Bool} {ts : List Tg} (h : PSt W P m n ts) (k : Nat) : PSt (W.drewN k) P m n ts := h.grow (Below.drewN (Below.refl _ _) k)
/-- The first token's cells. -/
theorem PSt.head {W : World} {P n : Nat} {m : Bool} {ts : List Tg} (h : PSt W P m n ts) : ∃ g o cap, W.cell? ⟨P, 0, none⟩ = some (.slice (some ⟨g, o, none⟩) ts.length cap) ∧ 0 < ts.length ∧ ts.length ≤ cap ∧
    W.cell? ⟨g, o, none⟩ = some (.int .u8 (hd ts).k) ∧ W.cell? ⟨g, o + 1, none⟩ = some (.string (tx ts)) ∧ W.cell? ⟨g, o + 2, none⟩ = some (.int .i64 (hd ts).a) := by
  obtain ⟨g, o, cap, h1, h2, _, h5⟩ := h.tk
  have hn := h.ok.ne
  cases ts with
  | nil => exact absurd rfl hn
  | cons x r => exact ⟨g, o, cap, h1, by simp, h2, h5 0 _ rfl, h5 1 _ rfl, h5 2 _ rfl⟩
/-- The parser is set to other tokens, to other nests. -/
theorem PSt.setTok {W : World} {P n : Nat} {m : Bool} {ts : List Tg} (h : PSt W P m n ts) (hne : tx ts ≠ ⟨#[]⟩) {g o cap : Nat} (hc : W.cell? ⟨P, 0, none⟩ = some (.slice (some ⟨g, o, none⟩) ts.length cap)) {v : Value}
    (hv : v = .slice (some ⟨g, o + 3, none⟩) (ts.drop 1).length (cap - 1)) : PSt (W.setCell ⟨P, 0, none⟩ v) P m n (ts.drop 1) := by
  obtain ⟨g', o', cap', h1, h2, h3, h5⟩ := h.tk
  rw [hc] at h1
  injection h1 with h1
  injection h1 with h1 _ h1c
  injection h1 with h1
  injection h1 with e1 e2 _
  subst e1; subst e2; subst h1c; subst hv
  have ho : ∀ i, i ≠ 0 → (⟨P, 0, none⟩ : Addr) ≠ ⟨P, i, none⟩ := fun i hi e => by injection e with _ e2 _; exact hi e2.symm
  obtain ⟨B, u1, u2, u3⟩ := h.un
  refine ⟨⟨g, o + 3, cap - 1, World.cell?_setCell_same _ _ _ hc, by simp; omega, h3, fun j u hj => ?_⟩, ?_, ?_, ⟨B, ?_, u2, ?_⟩, ?_, by simpa using h.lt, h.ok.drop hne, by have := h.bd; simp; omega, h.lv.keep (Below.heap_setCell _ _ _ _ (Nat.ne_of_lt h.lv.1))⟩
  · rw [World.cell?_setCell_other _ _ _ _ (fun e => by injection e with e1 _ _; omega)]
    cases ts with
    | nil => simp [flatG] at hj
    | cons x r =>
      have := h5 (j + 3) u (by simpa [flatG, encG] using hj)
      rw [Nat.add_assoc, Nat.add_comm 3 j]
      exact this
  · rw [World.cell?_setCell_other _ _ _ _ (ho 1 (by decide))]; exact h.ns
  · rw [World.cell?_setCell_other _ _ _ _ (ho 2 (by decide))]; exact h.me
  · rw [World.cell?_setCell_other _ _ _ _ (ho 3 (by decide))]; exact u1
  · exact (Below.heap_setCell _ _ _ _ (Nat.ne_of_lt u2)).trans u3
  · intro i hi; rw [World.frozen?_setCell]; exact h.fz i hi
end Go.Proofs.YtkeckecdhcknhaaDoor.Ps
