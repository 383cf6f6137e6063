/-
  Tokens and how they lie in memory.
-/
import Derived.Test.YtkeckecdhcknhaaDoorLxNames
import Derived.Below
namespace Go.Proofs.YtkeckecdhcknhaaDoor.Lx
open Go Go.RowKit Go.Shelf Go.Proofs.YtkeckecdhcknhaaDoor.Fm
set_option linter.unusedVariables false
set_option linter.unusedSimpArgs false
/-- Any tokens: kind, text, place. -/
structure Tg where
  k : Int
  t : ByteArray
  a : Int
def toG (t : Tk) : Tg := ⟨t.k, bs t.t, t.a⟩
def encG (t : Tg) : List Value := [.int .u8 t.k, .string t.t, .int .i64 t.a]
def flatG (ts : List Tg) : List Value := ts.flatMap encG
theorem flatG_get : ∀ (ts : List Tg) (i : Nat) (t : Tg), ts[i]? = some t → (flatG ts)[i * 3]? = some (.int .u8 t.k) ∧ (flatG ts)[i * 3 + 1]? = some (.string t.t) ∧ (flatG ts)[i * 3 + 2]? = some (.int .i64 t.a)
  | [], i, t, h => by simp at h
  | u :: r, 0, t, h => by
    obtain rfl : u = t := by simpa using h
    exact ⟨rfl, rfl, rfl⟩
  | u :: r, i + 1, t, h => by
    obtain ⟨h1, h2, h3⟩ := flatG_get r i t (by simpa using h)
    have e : (i + 1) * 3 = i * 3 + 3 := by omega
    rw [e]
    exact ⟨h1, h2, h3⟩
/-- A slice of tokens. -/
structure TsV (w : World) (a : Option Addr) (ts : List Tg) : Prop where
  h : ts = [] ∨ ∃ g o, a = some ⟨g, o, none⟩ ∧ g < w.heap.size ∧ ∀ j u, (flatG ts)[j]? = some u → w.cell? ⟨g, o + j, none⟩ = some u
theorem TsV.below {w w' : World} {a : Option Addr} {ts : List Tg} (h : TsV w a ts) {n : Nat} (hb : Below n w w') (hn : ∀ g o, a = some ⟨g, o, none⟩ → g < n) : TsV w' a ts := by
  rcases h.h with h | ⟨g, o, rfl, h1, h2⟩
  · exact ⟨.inl h⟩
  · exact ⟨.inr ⟨g, o, rfl, Nat.lt_of_lt_of_le h1 hb.size, fun j u hj => (hb.cell (p := ⟨g, o + j, none⟩) (hn g o rfl)).trans (h2 j u hj)⟩⟩
theorem TsV.grow {w w' : World} {a : Option Addr} {ts : List Tg} (h : TsV w a ts) (hb : Below w.heap.size w w') : TsV w' a ts := by
  rcases h.h with h | ⟨g, o, rfl, h1, h2⟩
  · exact ⟨.inl h⟩
  · exact ⟨.inr ⟨g, o, rfl, Nat.lt_of_lt_of_le h1 hb.size, fun j u hj => (hb.cell (p := ⟨g, o + j, none⟩) h1).trans (h2 j u hj)⟩⟩
theorem TsV.get {w : World} {a : Option Addr} {ts : List Tg} (h : TsV w a ts) {i : Nat} (hi : i < ts.length) : ∃ g o, a = some ⟨g, o, none⟩ ∧ g < w.heap.size ∧ w.cell? ⟨g, o + i * 3, none⟩ = some (.int .u8 ts[i].k) ∧ w.cell? ⟨g, o + i * 3 + 1, none⟩ = some (.string ts[i].t) ∧ w.cell? ⟨g, o + i * 3 + 2, none⟩ = some (.int .i64 ts[i].a) := by
  rcases h.h with rfl | ⟨g, o, h0, h1, h2⟩
  · simp at hi
  · obtain ⟨a1, a2, a3⟩ := flatG_get ts i _ (List.getElem?_eq_getElem hi)
    exact ⟨g, o, h0, h1, h2 _ _ a1, h2 _ _ a2, h2 _ _ a3⟩
end Go.Proofs.YtkeckecdhcknhaaDoor.Lx
