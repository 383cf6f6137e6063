/-
  A builder with its bytes, what is written into it, and what a writer leaves as it was.
-/
import Derived.Test.YtdapnjnmhkdnpaaDoorFtBuild
import Derived.Test.YtdapnjnmhkdnpaaDoorMgText
import Derived.Test.YtdapnjnmhkdnpaaDoorFtShelf
namespace Go.Proofs.YtdapnjnmhkdnpaaDoor.Fb
open Go Go.RowKit Go.Shelf Go.Proofs.YtdapnjnmhkdnpaaDoor.Fm Go.Proofs.YtdapnjnmhkdnpaaDoor.Lx Go.Proofs.YtdapnjnmhkdnpaaDoor.Ft
set_option linter.unusedVariables false
set_option linter.unusedSimpArgs false
/-- A builder in block b with its bytes. -/
abbrev Bw (w : World) (B b : Nat) (v : Value) (l : Bs) : Prop := Bd w B b v (Lib.byteCells l)
/-- What was written. -/
def Wr (B b : Nat) (v : Value) (l : Bs) (w w' : World) (x : Bs) : Prop := ∃ v', Bw w' B b v' (l ++ x) ∧ Grow (Ob b v) w w' ∧ Sub (Ob b v) w.heap.size (Ob b v')
theorem Bw.len {w : World} {B b : Nat} {v : Value} {l : Bs} (h : Bw w B b v l) : w.ownsRow B 5 1 v l.length (Lib.byteCells l) := by
  have := h.own
  rwa [Lib.byteCells_length] at this
theorem Bd.lt {w : World} {B b : Nat} {v : Value} {l : List Value} (h : Bd w B b v l) : ∀ k, Ob b v k → k < w.heap.size := by
  rintro k (rfl | hk)
  · obtain ⟨p, _, hb⟩ := h.p
    exact heap_lt hb
  · exact (h.own.lt k hk).2
theorem Bd.ge {w : World} {B b : Nat} {v : Value} {l : List Value} (h : Bd w B b v l) : ∀ k, Ob b v k → B ≤ k := by
  rintro k (rfl | hk)
  · exact h.hb
  · exact (h.own.lt k hk).1
theorem own_hp {w w' : World} {base n size : Nat} {e : TypeId} {v : Value} {xs : List Value} (h : w.ownsRow base e size v n xs) (hh : ∀ g, v.ownBlock = some g → w'.heap[g]? = w.heap[g]?) : w'.ownsRow base e size v n xs := by
  refine ⟨h.1, ?_⟩
  rcases h.2 with h0 | ⟨g, cap, cur, rfl, hb0, hg, h3⟩
  · exact .inl h0
  · exact .inr ⟨g, cap, cur, rfl, hb0, (hh g rfl).trans hg, h3⟩
theorem Bd.keep {w w' : World} {B b : Nat} {v : Value} {l : List Value} (h : Bd w B b v l) (hk : ∀ k, Ob b v k → w'.heap[k]? = w.heap[k]?) : Bd w' B b v l := by
  obtain ⟨hB, ⟨p, hp, hb⟩, ho, hn⟩ := h
  exact ⟨hB, ⟨p, hp, (hk b (.inl rfl)).trans hb⟩, own_hp ho fun g hg => hk g (.inr hg), hn⟩
theorem Bd.below {w w' : World} {B b n : Nat} {v : Value} {l : List Value} (h : Bd w B b v l) (hb : Below n w w') (hn : w.heap.size ≤ n) : Bd w' B b v l := h.keep fun k hk => hb.block k (by have := h.lt k hk; omega)
theorem Wr.mk' {B b : Nat} {v v' : Value} {l x : Bs} {w w' : World} (h1 : Bd w' B b v' (Lib.byteCells l ++ Lib.byteCells x)) (h2 : Grow (Ob b v) w w') (h3 : Sub (Ob b v) w.heap.size (Ob b v')) : Wr B b v l w w' x :=
  ⟨v', by unfold Bw; rw [Lib.byteCells_append]; exact h1, h2, h3⟩
/-- One after the other. -/
theorem Wr.trans {B b : Nat} {v v1 : Value} {l x y : Bs} {w w1 w2 : World} (h2 : Grow (Ob b v) w w1) (h3 : Sub (Ob b v) w.heap.size (Ob b v1)) (k : Wr B b v1 (l ++ x) w1 w2 y) : Wr B b v l w w2 (x ++ y) := by
  obtain ⟨v2, k1, k2, k3⟩ := k
  exact ⟨v2, by rw [← List.append_assoc]; exact k1, h2.trans k2 h3, h3.trans k3 h2.size⟩
/-- New blocks ahead. -/
theorem Wr.ahead {B b n : Nat} {v : Value} {l x : Bs} {w w1 w2 : World} (hb : Below n w w1) (hn : w.heap.size ≤ n) (k : Wr B b v l w1 w2 x) : Wr B b v l w w2 x := by
  obtain ⟨v2, k1, k2, k3⟩ := k
  have hb := hb.mono hn
  exact ⟨v2, k1, (Grow.of_below hb).trans k2 (Sub.refl _ _), (Sub.refl _ _).trans k3 hb.size⟩
/-- New blocks behind. -/
theorem Wr.behind {B b n : Nat} {v : Value} {l x : Bs} {w w1 w2 : World} (k : Wr B b v l w w1 x) (hb : Below n w1 w2) (hn : w1.heap.size ≤ n) : Wr B b v l w w2 x := by
  obtain ⟨v2, k1, k2, k3⟩ := k
  exact ⟨v2, k1.below hb hn, k2.trans (Grow.of_below (hb.mono hn)) (Sub.refl _ _), k3⟩
theorem Wr.none {B b : Nat} {v : Value} {l : Bs} {w w2 : World} (h : Bw w B b v l) (hb : Below w.heap.size w w2) : Wr B b v l w w2 [] :=
  ⟨v, by rw [List.append_nil]; exact h.below hb (Nat.le_refl _), Grow.of_below hb, Sub.refl _ _⟩
theorem Grow.size' {O : Nat → Prop} {W W' : World} (h : Grow O W W') : W.heap.size ≤ W'.heap.size := h.size
/-- Strings and bytes are written. -/
theorem wrS {w : World} {B b : Nat} {v : Value} {l : Bs} (h : Bw w B b v l) (s : ByteArray) (hlen : l.length + s.size ≤ 140737488355328) (hBw : B ≤ w.heap.size) :
    Calls Tryd.prog 30 #[.pointer (some ⟨b, 0, none⟩), .string s] w fun e w' => e = .returned (.tuple #[.int .i64 s.size, .nilIface]) ∧ Wr B b v l w w' s.data.toList := by
  refine (wrStr_c h s (by rw [Lib.byteCells_length]; exact hlen) hBw).mono ?_
  rintro e w' ⟨he, v', h1, h2, h3⟩
  exact ⟨he, Wr.mk' h1 h2 h3⟩
theorem wrB {w : World} {B b : Nat} {v : Value} {l : Bs} (h : Bw w B b v l) (c : UInt8) (hlen : l.length + 1 ≤ 140737488355328) (hBw : B ≤ w.heap.size) :
    Calls Tryd.prog 48 #[.pointer (some ⟨b, 0, none⟩), .int .u8 c.toNat] w fun e w' => e = .returned .nilIface ∧ Wr B b v l w w' [c] := by
  refine (wrByte_c h c.toNat (by rw [Lib.byteCells_length]; exact hlen) hBw).mono ?_
  rintro e w' ⟨he, v', h1, h2, h3⟩
  exact ⟨he, Wr.mk' (x := [c]) h1 h2 h3⟩
/-- The text of a builder. -/
theorem str_c {w : World} {B b : Nat} {v : Value} {l : Bs} (h : Bw w B b v l) (hBw : B ≤ w.heap.size) : Calls Tryd.prog 26 #[.pointer (some ⟨b, 0, none⟩)] w fun e w' => e = .returned (.string (bs l)) ∧ Below B w w' := by
  obtain ⟨hB, ⟨p, hp, hb⟩, ho, hn⟩ := h
  have hI : Lib.IsBuilder 53 5 B b (Lib.byteCells l) w := by
    rcases hp with rfl | rfl
    · exact .inl ⟨hB, v, hb, ho, hn⟩
    · exact .inr ⟨hB, v, hb, ho, hn⟩
  exact Builder_String_any B b l w hI hBw
/-- A new builder. -/
theorem Bw.new {w : World} {B b : Nat} (hB : B ≤ b) (h : w.heap[b]? = some (.cells #[.pointer none, .slice none 0 0] 53 (0, 0))) : Bw w B b (.slice none 0 0) [] :=
  ⟨hB, ⟨_, .inl rfl, h⟩, World.ownsRow_nil _ _ _ _, by simp [Value.ownBlock]⟩
theorem ob_nil (b k : Nat) : Ob b (.slice none 0 0) k ↔ k = b := by simp [Ob, Value.ownBlock]
end Go.Proofs.YtdapnjnmhkdnpaaDoor.Fb
