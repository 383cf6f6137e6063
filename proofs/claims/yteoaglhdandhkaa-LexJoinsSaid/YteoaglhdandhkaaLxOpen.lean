/-
  An argument that is a slice of tokens: what lies in memory.
-/
import Derived.Test.YteoaglhdandhkaaLxJoins
import Derived.ProofKit
import Derived.OpenShut
import Derived.Deep.DeepHandedRow
import Derived.SizedLaws
namespace Go.Proofs.Yteoaglhdandhkaa.Lx
open Go Go.RowKit Go.ChangeShapes Go.WideShapes Go.ChangeAt Go.WideMaps Go.WideElems
set_option linter.unusedVariables false
set_option linter.unusedSimpArgs false
theorem cellsTok : Try.prog.cellsOf 26 = 3 := by kernel_rfl
theorem cells1 : Try.prog.cellsOf 5 = 1 ∧ Try.prog.cellsOf 9 = 1 ∧ Try.prog.cellsOf 3 = 1 := by refine ⟨?_, ?_, ?_⟩ <;> kernel_rfl
theorem bytesTok : Try.prog.bytesOf 26 = 32 := by kernel_rfl
theorem tokAt_of {w : World} {b : Nat} : ∀ (len o : Nat), (∀ i, i < len → ∃ t : Tg, w.cell? ⟨b, o + i * 3, none⟩ = some (.int .u8 t.k) ∧ w.cell? ⟨b, o + i * 3 + 1, none⟩ = some (.string t.t) ∧ w.cell? ⟨b, o + i * 3 + 2, none⟩ = some (.int .i64 t.a)) →
    ∃ ts : List Tg, ts.length = len ∧ ∀ j u, (flatG ts)[j]? = some u → w.cell? ⟨b, o + j, none⟩ = some u
  | 0, o, h => ⟨[], rfl, fun j u hj => by simp [flatG] at hj⟩
  | len + 1, o, h => by
    obtain ⟨t, c0, c1, c2⟩ := h 0 (by omega)
    obtain ⟨ts, hl, ht⟩ := tokAt_of len (o + 3) (fun i hi => by
      obtain ⟨t, d0, d1, d2⟩ := h (i + 1) (by omega)
      exact ⟨t, by rw [← d0]; congr 2; omega, by rw [← d1]; congr 2; omega, by rw [← d2]; congr 2; omega⟩)
    simp only [Nat.zero_mul, Nat.add_zero] at c0 c1 c2
    refine ⟨t :: ts, by simp [hl], fun j u hj => ?_⟩
    have e : flatG (t :: ts) = .int .u8 t.k :: .string t.t :: .int .i64 t.a :: flatG ts := rfl
    rw [e] at hj
    match j, hj with
    | 0, hj => simp only [List.getElem?_cons_zero, Option.some.injEq] at hj; rw [← hj]; exact c0
    | 1, hj => simp only [List.getElem?_cons_succ, List.getElem?_cons_zero, Option.some.injEq] at hj; rw [← hj]; exact c1
    | 2, hj => simp only [List.getElem?_cons_succ, List.getElem?_cons_zero, Option.some.injEq] at hj; rw [← hj]; exact c2
    | j + 3, hj =>
      simp only [List.getElem?_cons_succ] at hj
      have := ht j u hj
      rw [show o + (j + 3) = o + 3 + j by omega]
      exact this
section
variable {H : Type} {enc : TypeId × Value → H} {W : World} {base : Nat} {sp : Nat → Bool} {held : Bool}
theorem elem_spot {a : Addr} {k : Nat} {cs : List Value} (hk : 0 < k) (h : W.cells? base (a.add (0 * k)) k = some cs) : ∃ b o, a = ⟨b, o, none⟩ ∧ b < W.heap.size := by
  obtain ⟨_, hl, hc⟩ := World.cells?_some h
  have h0 := hc 0 hk
  obtain ⟨u, hu⟩ : ∃ u, cs[0]? = some u := ⟨cs[0], List.getElem?_eq_getElem (by omega)⟩
  rw [hu, Nat.zero_mul] at h0
  have e : (a.add 0).add 0 = a := by simp [Addr.add]
  rw [e] at h0
  have hs := World.cell?_spot h0
  have hb := World.block_lt_of_cell? W a h0
  obtain ⟨b, o, spt⟩ := a
  simp only at hs
  subst hs
  exact ⟨b, o, rfl, hb⟩
theorem elem_cells {b o i k : Nat} {cs : List Value} (h : W.cells? base ((⟨b, o, none⟩ : Addr).add (i * k)) k = some cs) : ∀ j, j < k → W.cell? ⟨b, o + i * k + j, none⟩ = cs[j]? := fun j hj => by
  have := (World.cells?_some h).2.2 j hj
  rwa [Addr.add_lit, Addr.add_lit] at this
set_option maxRecDepth 20000 in
theorem open_token (n : Nat) {cs : List Value} {x : DataW H × List MemPlace} (h : DataW.trod enc Try.prog W base sp held n 26 cs = some x) : ∃ t : Tg, cs = [.int .u8 t.k, .string t.t, .int .i64 t.a] := by
  obtain ⟨xs, m, hm, hx, hl, hlen, hf⟩ := DataW.trod_struct Try.underlying26 h
  subst hx
  rw [cellsTok] at hl
  match cs, hl with
  | [c0, c1, c2], _ =>
  match xs, hlen with
  | [x0, x1, x2], _ =>
  have f0 : DataW.trod enc Try.prog W base sp held m 5 (([c0, c1, c2].drop 0).take (Try.prog.cellsOf 5)) = some x0 := hf 0 _ rfl
  have f1 : DataW.trod enc Try.prog W base sp held m 9 (([c0, c1, c2].drop 1).take (Try.prog.cellsOf 9)) = some x1 := hf 1 _ rfl
  have f2 : DataW.trod enc Try.prog W base sp held m 3 (([c0, c1, c2].drop 2).take (Try.prog.cellsOf 3)) = some x2 := hf 2 _ rfl
  rw [cells1.1] at f0
  rw [cells1.2.1] at f1
  rw [cells1.2.2] at f2
  simp only [List.drop_zero, List.drop_succ_cons, List.take_succ_cons, List.take_zero] at f0 f1 f2
  obtain ⟨bo, h0, d0, _⟩ := DataW.trod_int Try.underlying5 f0
  obtain ⟨st, h1, d1, _⟩ := DataW.trod_string Try.underlying9 f1
  obtain ⟨at', h2, d2, _⟩ := DataW.trod_int Try.underlying3 f2
  simp only [List.cons.injEq, and_true] at h0 h1 h2
  subst h0 h1 h2
  exact ⟨⟨bo, st, at'⟩, rfl⟩
set_option maxRecDepth 20000 in
theorem open_tokens {v : Value} {d : DataW H} {p : List MemPlace} (hval : Value.okWide Try.prog W .any base 22 v) (h : DataW.Trod enc Try.prog W 0 (fun _ => true) true 22 v d p)
    (hw : ∀ m ∈ d.weights Try.prog 22, m ≤ reachBytes) : ∃ a len cap, ∃ ts : List Tg, v = .slice a len cap ∧ len = ts.length ∧ len ≤ 140737488351232 ∧ TsV W a ts := by
  obtain ⟨sa, ln, cp, rfl⟩ := okWide_slice Try.underlying22 hval
  obtain ⟨fuel, hf⟩ := h
  rcases DataW.trod_slice Try.underlying22 hf with ⟨hcs, hx⟩ | ⟨a, len, cap, elems, rest, m, hm, hcs, hx, _, hlc, hcap, hel, hg, _, _⟩
  · simp [Value.cells] at hcs
    obtain ⟨rfl, rfl, rfl⟩ := hcs
    exact ⟨none, 0, 0, [], rfl, rfl, by omega, ⟨.inl rfl⟩⟩
  · simp [Value.cells] at hcs
    obtain ⟨rfl, rfl, rfl⟩ := hcs
    simp only [Prod.mk.injEq] at hx
    obtain ⟨rfl, rfl⟩ := hx
    rw [cellsTok] at hg
    have hlen : ln * 32 ≤ reachBytes := by
      have := hw ((elems.length + rest.length) * Try.prog.bytesOf 26) (by simp [DataW.weights, Try.underlying22])
      rw [bytesTok] at this
      rw [hel] at this
      omega
    by_cases h0 : ln = 0
    · subst h0
      exact ⟨some a, 0, cp, [], rfl, rfl, by omega, ⟨.inl rfl⟩⟩
    have hg0 := hg 0 (by omega)
    rw [List.getElem?_eq_getElem (by omega)] at hg0
    obtain ⟨cs0, hcs0, _⟩ := Option.bind_eq_some_iff.1 hg0
    obtain ⟨b, o, rfl, hb⟩ := elem_spot (by decide) hcs0
    obtain ⟨ts, hl, hT⟩ := tokAt_of (w := W) (b := b) ln o fun i hi => by
      have hgi := hg i hi
      rw [List.getElem?_eq_getElem (by omega)] at hgi
      obtain ⟨cs, hcs, htr⟩ := Option.bind_eq_some_iff.1 hgi
      obtain ⟨t, rfl⟩ := open_token m htr
      have hc := elem_cells hcs
      exact ⟨t, hc 0 (by decide), hc 1 (by decide), hc 2 (by decide)⟩
    exact ⟨_, ln, cp, ts, rfl, hl.symm, by unfold reachBytes at hlen; omega, ⟨.inr ⟨b, o, rfl, hb, hT⟩⟩⟩
end
end Go.Proofs.Yteoaglhdandhkaa.Lx
