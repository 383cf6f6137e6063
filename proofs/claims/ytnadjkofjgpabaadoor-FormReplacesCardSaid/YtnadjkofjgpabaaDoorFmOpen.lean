/-
  Arguments that are formulas, terms, places: what lies in memory where a reading of them is given. And the table of rows.
-/
import Derived.Test.YtnadjkofjgpabaaDoorCards
import Derived.Test.YtnadjkofjgpabaaDoorTie
import Derived.Test.YtnadjkofjgpabaaDoorFmMono
import Derived.Test.YtnadjkofjgpabaaDoorFmAt
import Derived.Test.YtnadjkofjgpabaaDoorFmRow
import Derived.ProofKit
import Derived.OpenShut
import Derived.Deep.DeepHandedRow
import Derived.Lib.LaidTab
import Derived.SizedLaws
namespace Go.Proofs.YtnadjkofjgpabaaDoor.Fm
open Go Go.RowKit Go.ChangeShapes Go.WideShapes Go.ChangeAt Go.WideMaps Go.WideElems
set_option linter.unusedVariables false
set_option linter.unusedSimpArgs false
theorem cellsForm : Tryd.prog.cellsOf 25 = 4 := by kernel_rfl
theorem cellsTerm : Tryd.prog.cellsOf 50 = 3 := by kernel_rfl
theorem cells1 : Tryd.prog.cellsOf 4 = 1 ∧ Tryd.prog.cellsOf 5 = 1 ∧ Tryd.prog.cellsOf 9 = 1 ∧ Tryd.prog.cellsOf 22 = 1 ∧ Tryd.prog.cellsOf 23 = 1 := by refine ⟨?_, ?_, ?_, ?_, ?_⟩ <;> kernel_rfl
theorem cellsI : Tryd.prog.cellsOf 3 = 1 := by kernel_rfl
theorem bytesForm : Tryd.prog.bytesOf 25 = 72 := by kernel_rfl
theorem bytesTerm : Tryd.prog.bytesOf 50 = 48 := by kernel_rfl
theorem weights_mem_all {H : Type} {P : Program} {e : TypeId} : ∀ {ds : List (DataW H)} {d : DataW H}, d ∈ ds → ∀ n ∈ d.weights P e, n ∈ DataW.weightsAll P e ds
  | x :: r, d, hd, n, hn => by
    rw [DataW.weightsAll]
    rcases List.mem_cons.1 hd with rfl | hd
    · exact List.mem_append_left _ hn
    · exact List.mem_append_right _ (weights_mem_all hd n hn)
theorem tsAt_of {n : Nat} {w : World} {b : Nat} : ∀ (len o : Nat), (∀ i, i < len → ∃ t v0 v1 v2, w.cell? ⟨b, o + i * 3, none⟩ = some v0 ∧ w.cell? ⟨b, o + i * 3 + 1, none⟩ = some v1 ∧ w.cell? ⟨b, o + i * 3 + 2, none⟩ = some v2 ∧ TmV n w v0 v1 v2 t) → ∃ l : List Tm, l.length = len ∧ TsAt n w b o l
  | 0, o, h => ⟨[], rfl, by simp [TsAt]⟩
  | len + 1, o, h => by
    obtain ⟨t, v0, v1, v2, c0, c1, c2, hv, hn, hok, a, cap, b', o', rfl, g1, g2, g3⟩ := h 0 (by omega)
    obtain ⟨v, nm, args⟩ := t
    obtain ⟨l, hl, ht⟩ := tsAt_of len (o + 3) (fun i hi => by
      obtain ⟨t, u0, u1, u2, d0, d1, d2, d3⟩ := h (i + 1) (by omega)
      exact ⟨t, u0, u1, u2, by rw [← d0]; congr 2; omega, by rw [← d1]; congr 2; omega, by rw [← d2]; congr 2; omega, d3⟩)
    simp only [Nat.zero_mul, Nat.add_zero] at c0 c1 c2
    refine ⟨.mk v nm args :: l, by simp [hl], ?_⟩
    simp only [TsAt]
    exact ⟨⟨by rw [c0, hv]; rfl, by rw [c1, hn]; rfl, hok, a, cap, b', o', c2, g1, g2, g3⟩, ht⟩
theorem fsAt_of {n : Nat} {w : World} {b : Nat} : ∀ (len o : Nat), (∀ i, i < len → ∃ t v0 v1 v2 v3, w.cell? ⟨b, o + i * 4, none⟩ = some v0 ∧ w.cell? ⟨b, o + i * 4 + 1, none⟩ = some v1 ∧ w.cell? ⟨b, o + i * 4 + 2, none⟩ = some v2 ∧ w.cell? ⟨b, o + i * 4 + 3, none⟩ = some v3 ∧ FoV n w v0 v1 v2 v3 t) → ∃ l : List Fo, l.length = len ∧ FsAt n w b o l
  | 0, o, h => ⟨[], rfl, by simp [FsAt]⟩
  | len + 1, o, h => by
    obtain ⟨t, v0, v1, v2, v3, c0, c1, c2, c3, hv, hbd, hn, hok, ⟨a, cap, b', o', rfl, g1, g2, g3⟩, a2, cap2, b2, o2, rfl, k1, k2, k3⟩ := h 0 (by omega)
    obtain ⟨op, nm, args, sub⟩ := t
    obtain ⟨l, hl, ht⟩ := fsAt_of len (o + 4) (fun i hi => by
      obtain ⟨t, u0, u1, u2, u3, d0, d1, d2, d3, d4⟩ := h (i + 1) (by omega)
      exact ⟨t, u0, u1, u2, u3, by rw [← d0]; congr 2; omega, by rw [← d1]; congr 2; omega, by rw [← d2]; congr 2; omega, by rw [← d3]; congr 2; omega, d4⟩)
    simp only [Nat.zero_mul, Nat.add_zero] at c0 c1 c2 c3
    refine ⟨.mk op nm args sub :: l, by simp [hl], ?_⟩
    simp only [FsAt]
    exact ⟨⟨by rw [c0, hv]; rfl, hbd, by rw [c1, hn]; rfl, hok, ⟨a, cap, b', o', c2, g1, g2, g3⟩, a2, cap2, b2, o2, c3, k1, k2, k3⟩, ht⟩
section
variable {H : Type} {enc : TypeId × Value → H} {W : World} {base : Nat} {sp : Nat → Bool} {held : Bool}
/-- The first element tells that a slice begins in a block. -/
theorem elem_spot {a : Addr} {k : Nat} {cs : List Value} (hk : 0 < k) (h : W.cells? base (a.add (0 * k)) k = some cs) : ∃ b o, a = ⟨b, o, none⟩ ∧ b < W.heap.size := by
  obtain ⟨_, hl, hc⟩ := World.cells?_some h
  have h0 := hc 0 hk
  obtain ⟨u, hu⟩ : ∃ u, cs[0]? = some u := ⟨cs[0], List.getElem?_eq_getElem (by omega)⟩
  rw [hu, Nat.zero_mul] at h0
  have e : (a.add 0).add 0 = a := by simp [Addr.add]
  rw [e] at h0
  have hs := World.cell?_spot h0
  have hb := World.block_lt_of_cell? W a h0
  obtain ⟨b, o, spt⟩ := a
  simp only at hs
  subst hs
  exact ⟨b, o, rfl, hb⟩
/-- A slice's elements, each k cells. -/
theorem elem_cells {b o i k : Nat} {cs : List Value} (h : W.cells? base ((⟨b, o, none⟩ : Addr).add (i * k)) k = some cs) : ∀ j, j < k → W.cell? ⟨b, o + i * k + j, none⟩ = cs[j]? := fun j hj => by
  have := (World.cells?_some h).2.2 j hj
  rwa [Addr.add_lit, Addr.add_lit] at this
theorem open_terms_at (n : Nat) (ih : ∀ {cs : List Value} {x : DataW H × List MemPlace}, DataW.trod enc Tryd.prog W base sp held n 50 cs = some x → (∀ m ∈ x.1.weights Tryd.prog 50, m ≤ reachBytes) → ∃ t v0 v1 v2, cs = [v0, v1, v2] ∧ TmV W.heap.size W v0 v1 v2 t)
    {cs : List Value} {x : DataW H × List MemPlace} (h : DataW.trod enc Tryd.prog W base sp held (n + 1) 22 cs = some x) (hw : ∀ m ∈ x.1.weights Tryd.prog 22, m ≤ reachBytes) : ∃ v l, cs = [v] ∧ SlT W.heap.size W v l := by
  rcases DataW.trod_slice Tryd.underlying22 h with ⟨rfl, rfl⟩ | ⟨a, len, cap, elems, rest, m, hm, rfl, rfl, _, hlc, hcap, hel, hg, _, _⟩
  · exact ⟨_, [], rfl, none, 0, 0, 0, rfl, by simp, .inl rfl, by simp [TsAt]⟩
  · obtain rfl : n = m := by omega
    rw [cellsTerm] at hg
    have hlen : len * 48 ≤ reachBytes := by
      have := hw ((elems.length + rest.length) * Tryd.prog.bytesOf 50) (by simp [DataW.weights, Tryd.underlying22])
      rw [bytesTerm] at this
      rw [hel] at this
      omega
    by_cases h0 : len = 0
    · subst h0
      exact ⟨_, [], rfl, some a, cap, 0, 0, rfl, by simp, .inl rfl, by simp [TsAt]⟩
    have hg0 := hg 0 (by omega)
    rw [List.getElem?_eq_getElem (by omega)] at hg0
    obtain ⟨cs0, hcs0, _⟩ := Option.bind_eq_some_iff.1 hg0
    obtain ⟨b, o, rfl, hb⟩ := elem_spot (by decide) hcs0
    have hE : ∀ i, i < len → ∃ t v0 v1 v2, W.cell? ⟨b, o + i * 3, none⟩ = some v0 ∧ W.cell? ⟨b, o + i * 3 + 1, none⟩ = some v1 ∧ W.cell? ⟨b, o + i * 3 + 2, none⟩ = some v2 ∧ TmV W.heap.size W v0 v1 v2 t := by
      intro i hi
      have hgi := hg i hi
      rw [List.getElem?_eq_getElem (by omega)] at hgi
      obtain ⟨cs, hcs, htr⟩ := Option.bind_eq_some_iff.1 hgi
      obtain ⟨t, v0, v1, v2, rfl, ht⟩ := ih htr (fun m hm => hw m (by
        simp only [DataW.weights, Tryd.underlying22, List.mem_cons, List.mem_append]
        exact .inr (.inl (weights_mem_all (List.mem_map_of_mem (List.getElem_mem (by omega))) m hm))))
      have hc := elem_cells hcs
      exact ⟨t, v0, v1, v2, hc 0 (by decide), hc 1 (by decide), hc 2 (by decide), ht⟩
    obtain ⟨l, hl, hT⟩ := tsAt_of len o hE
    exact ⟨_, l, rfl, some ⟨b, o, none⟩, cap, b, o, by rw [hl], by rw [hl]; unfold reachBytes at hlen; omega, .inr ⟨rfl, hb⟩, hT⟩
set_option maxRecDepth 20000 in
theorem open_term : ∀ (n : Nat) {cs : List Value} {x : DataW H × List MemPlace}, DataW.trod enc Tryd.prog W base sp held n 50 cs = some x → (∀ m ∈ x.1.weights Tryd.prog 50, m ≤ reachBytes) → ∃ t v0 v1 v2, cs = [v0, v1, v2] ∧ TmV W.heap.size W v0 v1 v2 t := by
  intro n
  induction n using Nat.strongRecOn with
  | ind n ih =>
    intro cs x h hw
    obtain ⟨xs, m, hm, hx, hl, hlen, hf⟩ := DataW.trod_struct Tryd.underlying50 h
    subst hx
    rw [cellsTerm] at hl
    match cs, hl with
    | [c0, c1, c2], _ =>
    match xs, hlen with
    | [x0, x1, x2], _ =>
    have f0 : DataW.trod enc Tryd.prog W base sp held m 4 (([c0, c1, c2].drop 0).take (Tryd.prog.cellsOf 4)) = some x0 := hf 0 _ rfl
    have f1 : DataW.trod enc Tryd.prog W base sp held m 9 (([c0, c1, c2].drop 1).take (Tryd.prog.cellsOf 9)) = some x1 := hf 1 _ rfl
    have f2 : DataW.trod enc Tryd.prog W base sp held m 22 (([c0, c1, c2].drop 2).take (Tryd.prog.cellsOf 22)) = some x2 := hf 2 _ rfl
    rw [cells1.1] at f0
    rw [cells1.2.2.1] at f1
    rw [cells1.2.2.2.1] at f2
    simp only [List.drop_zero, List.drop_succ_cons, List.take_succ_cons, List.take_zero] at f0 f1 f2
    obtain ⟨bo, h0, d0⟩ := DataW.trod_bool Tryd.underlying4 f0
    obtain ⟨st, h1, d1, hst⟩ := DataW.trod_string Tryd.underlying9 f1
    have hw2 : ∀ k ∈ x2.1.weights Tryd.prog 22, k ≤ reachBytes := fun k hk => hw k (by
      simp only [DataW.weights, Tryd.underlying50]
      exact DataW.weights_mem_each (j := 2) (t := 22) (d := x2.1) rfl rfl k hk)
    match m, hm, f2 with
    | 0, _, f2 => simp [DataW.trod] at f2
    | k + 1, hm, f2 =>
    obtain ⟨v, l, hv, hsl⟩ := open_terms_at k (fun h1 h2 => ih k (by omega) h1 h2) f2 hw2
    simp only [List.cons.injEq, and_true] at h0 h1 hv
    subst h0 h1 hv
    exact ⟨.mk bo st l, _, _, _, rfl, rfl, rfl, by unfold okStr; unfold maxLen at hst; exact hst, hsl⟩
theorem open_forms_at (n : Nat) (ih : ∀ {cs : List Value} {x : DataW H × List MemPlace}, DataW.trod enc Tryd.prog W base sp held n 25 cs = some x → (∀ m ∈ x.1.weights Tryd.prog 25, m ≤ reachBytes) → ∃ t v0 v1 v2 v3, cs = [v0, v1, v2, v3] ∧ FoV W.heap.size W v0 v1 v2 v3 t)
    {cs : List Value} {x : DataW H × List MemPlace} (h : DataW.trod enc Tryd.prog W base sp held (n + 1) 23 cs = some x) (hw : ∀ m ∈ x.1.weights Tryd.prog 23, m ≤ reachBytes) : ∃ v l, cs = [v] ∧ SlF W.heap.size W v l := by
  rcases DataW.trod_slice Tryd.underlying23 h with ⟨rfl, rfl⟩ | ⟨a, len, cap, elems, rest, m, hm, rfl, rfl, _, hlc, hcap, hel, hg, _, _⟩
  · exact ⟨_, [], rfl, none, 0, 0, 0, rfl, by simp, .inl rfl, by simp [FsAt]⟩
  · obtain rfl : n = m := by omega
    rw [cellsForm] at hg
    have hlen : len * 72 ≤ reachBytes := by
      have := hw ((elems.length + rest.length) * Tryd.prog.bytesOf 25) (by simp [DataW.weights, Tryd.underlying23])
      rw [bytesForm] at this
      rw [hel] at this
      omega
    by_cases h0 : len = 0
    · subst h0
      exact ⟨_, [], rfl, some a, cap, 0, 0, rfl, by simp, .inl rfl, by simp [FsAt]⟩
    have hg0 := hg 0 (by omega)
    rw [List.getElem?_eq_getElem (by omega)] at hg0
    obtain ⟨cs0, hcs0, _⟩ := Option.bind_eq_some_iff.1 hg0
    obtain ⟨b, o, rfl, hb⟩ := elem_spot (by decide) hcs0
    have hE : ∀ i, i < len → ∃ t v0 v1 v2 v3, W.cell? ⟨b, o + i * 4, none⟩ = some v0 ∧ W.cell? ⟨b, o + i * 4 + 1, none⟩ = some v1 ∧ W.cell? ⟨b, o + i * 4 + 2, none⟩ = some v2 ∧ W.cell? ⟨b, o + i * 4 + 3, none⟩ = some v3 ∧ FoV W.heap.size W v0 v1 v2 v3 t := by
      intro i hi
      have hgi := hg i hi
      rw [List.getElem?_eq_getElem (by omega)] at hgi
      obtain ⟨cs, hcs, htr⟩ := Option.bind_eq_some_iff.1 hgi
      obtain ⟨t, v0, v1, v2, v3, rfl, ht⟩ := ih htr (fun m hm => hw m (by
        simp only [DataW.weights, Tryd.underlying23, List.mem_cons, List.mem_append]
        exact .inr (.inl (weights_mem_all (List.mem_map_of_mem (List.getElem_mem (by omega))) m hm))))
      have hc := elem_cells hcs
      exact ⟨t, v0, v1, v2, v3, hc 0 (by decide), hc 1 (by decide), hc 2 (by decide), hc 3 (by decide), ht⟩
    obtain ⟨l, hl, hT⟩ := fsAt_of len o hE
    exact ⟨_, l, rfl, some ⟨b, o, none⟩, cap, b, o, by rw [hl], by rw [hl]; unfold reachBytes at hlen; omega, .inr ⟨rfl, hb⟩, hT⟩
set_option maxRecDepth 20000 in
theorem open_form : ∀ (n : Nat) {cs : List Value} {x : DataW H × List MemPlace}, DataW.trod enc Tryd.prog W base sp held n 25 cs = some x → (∀ m ∈ x.1.weights Tryd.prog 25, m ≤ reachBytes) → ∃ t v0 v1 v2 v3, cs = [v0, v1, v2, v3] ∧ FoV W.heap.size W v0 v1 v2 v3 t := by
  intro n
  induction n using Nat.strongRecOn with
  | ind n ih =>
    intro cs x h hw
    obtain ⟨xs, m, hm, hx, hl, hlen, hf⟩ := DataW.trod_struct Tryd.underlying25 h
    subst hx
    rw [cellsForm] at hl
    match cs, hl with
    | [c0, c1, c2, c3], _ =>
    match xs, hlen with
    | [x0, x1, x2, x3], _ =>
    have f0 : DataW.trod enc Tryd.prog W base sp held m 5 (([c0, c1, c2, c3].drop 0).take (Tryd.prog.cellsOf 5)) = some x0 := hf 0 _ rfl
    have f1 : DataW.trod enc Tryd.prog W base sp held m 9 (([c0, c1, c2, c3].drop 1).take (Tryd.prog.cellsOf 9)) = some x1 := hf 1 _ rfl
    have f2 : DataW.trod enc Tryd.prog W base sp held m 22 (([c0, c1, c2, c3].drop 2).take (Tryd.prog.cellsOf 22)) = some x2 := hf 2 _ rfl
    have f3 : DataW.trod enc Tryd.prog W base sp held m 23 (([c0, c1, c2, c3].drop 3).take (Tryd.prog.cellsOf 23)) = some x3 := hf 3 _ rfl
    rw [cells1.2.1] at f0
    rw [cells1.2.2.1] at f1
    rw [cells1.2.2.2.1] at f2
    rw [cells1.2.2.2.2] at f3
    simp only [List.drop_zero, List.drop_succ_cons, List.take_succ_cons, List.take_zero] at f0 f1 f2 f3
    obtain ⟨bo, h0, d0, hwf⟩ := DataW.trod_int Tryd.underlying5 f0
    obtain ⟨st, h1, d1, hst⟩ := DataW.trod_string Tryd.underlying9 f1
    have hw2 : ∀ k ∈ x2.1.weights Tryd.prog 22, k ≤ reachBytes := fun k hk => hw k (by
      simp only [DataW.weights, Tryd.underlying25]
      exact DataW.weights_mem_each (j := 2) (t := 22) (d := x2.1) rfl rfl k hk)
    have hw3 : ∀ k ∈ x3.1.weights Tryd.prog 23, k ≤ reachBytes := fun k hk => hw k (by
      simp only [DataW.weights, Tryd.underlying25]
      exact DataW.weights_mem_each (j := 3) (t := 23) (d := x3.1) rfl rfl k hk)
    match m, hm, f2, f3 with
    | 0, _, f2, _ => simp [DataW.trod] at f2
    | k + 1, hm, f2, f3 =>
    obtain ⟨v, l, hv, hsl⟩ := open_terms_at k (fun h1 h2 => open_term k h1 h2) f2 hw2
    obtain ⟨v', l', hv', hsl'⟩ := open_forms_at k (fun h1 h2 => ih k (by omega) h1 h2) f3 hw3
    have hbd : 0 ≤ bo ∧ bo ≤ 255 := by simpa [Lit.wf, IntKind.min, IntKind.max, IntKind.signed, IntKind.bits] using hwf
    simp only [List.cons.injEq, and_true] at h0 h1 hv hv'
    subst h0 h1 hv hv'
    exact ⟨.mk bo st l l', _, _, _, _, rfl, rfl, hbd, rfl, by unfold okStr; unfold maxLen at hst; exact hst, hsl, hsl'⟩
end
set_option maxRecDepth 20000 in
theorem open_places {H : Type} {enc : TypeId × Value → H} {W : World} {base : Nat} {v : Value} {d : DataW H} {p : List MemPlace} (hval : Value.okWide Tryd.prog W .any base 32 v) (h : DataW.Trod enc Tryd.prog W 0 (fun _ => true) true 32 v d p)
    (hlt : ∀ x ∈ p, x.block < W.heap.size) (hwt : ∀ m ∈ d.weights Tryd.prog 32, m ≤ reachBytes) : ∃ l, PlV W.heap.size W v l := by
  obtain ⟨sa, len, cap, rfl⟩ := okWide_slice Tryd.underlying32 hval
  obtain ⟨fuel, hf⟩ := h
  rcases open_ints Tryd.underlying32 Tryd.underlying3 cellsI hf with ⟨hcs, hx⟩ | ⟨a, len', cap', zs, hcs, _, hl, hm, hz, hx, hcell, hwz⟩
  · simp [Value.cells] at hcs
    obtain ⟨rfl, rfl, rfl⟩ := hcs
    exact ⟨[], none, 0, 0, 0, rfl, by simp, .inl rfl, by simp⟩
  · simp [Value.cells] at hcs
    obtain ⟨rfl, rfl, rfl⟩ := hcs
    simp only [Prod.mk.injEq] at hx
    obtain ⟨rfl, rfl⟩ := hx
    simp only [if_true] at hz
    have hlen : (zs.take len).length = len := by rw [List.length_take]; omega
    have hreach : len ≤ 140737488351232 := by
      have := hwt _ (by simp only [DataW.weights, Tryd.underlying32]; exact List.mem_cons_self ..)
      rw [show Tryd.prog.bytesOf 3 = 8 by kernel_rfl] at this
      simp only [lits, List.length_map, List.length_take, List.length_drop, reachBytes] at this
      omega
    refine ⟨zs.take len, some a, cap, a.block, a.off, by rw [hlen], by omega, ?_, fun q hq => ?_⟩
    · by_cases he : len = 0
      · exact .inl (List.eq_nil_of_length_eq_zero (by rw [hlen]; exact he))
      · have hsp : a.spot = none := by simpa [Addr.add] using World.cell?_spot (hcell 0 (by omega))
        have hb : a.block < W.heap.size := hlt (.cell a.block (a.off + 0)) (MemPlace.mem_row.2 ⟨0, by omega, by simp⟩)
        obtain ⟨b, o, sp⟩ := a
        simp only at hsp
        subst hsp
        exact .inr ⟨rfl, hb⟩
    · rw [hlen] at hq
      have hc := hcell q (by omega)
      have hsp : a.spot = none := by simpa [Addr.add] using World.cell?_spot (hcell 0 (by omega))
      obtain ⟨b, o, sp⟩ := a
      simp only at hsp
      subst hsp
      rw [Addr.add_lit] at hc
      rw [hc]
      congr 2
      have hzl : q < zs.length := by rw [List.length_take] at hlen; omega
      simp [List.getD_eq_getElem?_getD, List.getElem?_take, hq, List.getElem?_eq_getElem hzl]
theorem agg_of_cells {v a b c d : Value} (h : v.cells.toList = [a, b, c, d]) : v = .agg #[a, b, c, d] := by
  cases v <;> simp [Value.cells] at h
  rename_i cs
  cases cs
  simp_all
theorem own : ownKnob Tryd.prog.godebug = none := by kernel_rfl
theorem gRows : Tryd.prog.globalNamed "lyceum/syntax.rows" = some 0 := by kernel_rfl
theorem gRowsType : (Tryd.prog.globals[0]?).map (·.type) = some 111 := by kernel_rfl
theorem cellsRows : Tryd.prog.cellsOf 111 = 85 := by kernel_rfl
theorem cellsRow : Tryd.prog.cellsOf 101 = 5 := by kernel_rfl
set_option maxRecDepth 20000 in
theorem row_cells {H : Type} {enc : TypeId × Value → H} {w : World} {base : Nat} {sp : Nat → Bool} {held : Bool} {fuel : Nat} {cs : List Value} {a b c d : Int} {e : Bool} {p : List MemPlace}
    (h : DataW.trod enc Tryd.prog w base sp held fuel 101 cs = some (.agg [.lit (.int .u8 a), .lit (.int .i64 b), .lit (.int .i64 c), .lit (.int .i64 d), .lit (.bool e)], p)) : cs = [.int .u8 a, .int .i64 b, .int .i64 c, .int .i64 d, .bool e] := by
  obtain ⟨xs, n, _, hx, hl, hlen, hf⟩ := DataW.trod_struct Tryd.underlying101 h
  rw [cellsRow] at hl
  have e1 : (xs.map (·.1)) = _ := (DataW.agg.inj (Prod.mk.inj hx).1).symm
  match cs, hl with
  | [c0, c1, c2, c3, c4], _ =>
  match xs, e1 with
  | [x0, x1, x2, x3, x4], e1 =>
    simp only [List.map_cons, List.map_nil, List.cons.injEq, and_true] at e1
    obtain ⟨k0, k1, k2, k3, k4⟩ := e1
    have f0 : DataW.trod enc Tryd.prog w base sp held n 5 (([c0, c1, c2, c3, c4].drop 0).take (Tryd.prog.cellsOf 5)) = some x0 := hf 0 _ rfl
    have f1 : DataW.trod enc Tryd.prog w base sp held n 3 (([c0, c1, c2, c3, c4].drop 1).take (Tryd.prog.cellsOf 3)) = some x1 := hf 1 _ rfl
    have f2 : DataW.trod enc Tryd.prog w base sp held n 3 (([c0, c1, c2, c3, c4].drop 2).take (Tryd.prog.cellsOf 3)) = some x2 := hf 2 _ rfl
    have f3 : DataW.trod enc Tryd.prog w base sp held n 3 (([c0, c1, c2, c3, c4].drop 3).take (Tryd.prog.cellsOf 3)) = some x3 := hf 3 _ rfl
    have f4 : DataW.trod enc Tryd.prog w base sp held n 4 (([c0, c1, c2, c3, c4].drop 4).take (Tryd.prog.cellsOf 4)) = some x4 := hf 4 _ rfl
    rw [cells1.2.1] at f0
    rw [cellsI] at f1 f2 f3
    rw [cells1.1] at f4
    simp only [List.drop_zero, List.drop_succ_cons, List.take_succ_cons, List.take_zero] at f0 f1 f2 f3 f4
    obtain ⟨z0, h0, d0, _⟩ := DataW.trod_int Tryd.underlying5 f0
    obtain ⟨z1, h1, d1, _⟩ := DataW.trod_int Tryd.underlying3 f1
    obtain ⟨z2, h2, d2, _⟩ := DataW.trod_int Tryd.underlying3 f2
    obtain ⟨z3, h3, d3, _⟩ := DataW.trod_int Tryd.underlying3 f3
    obtain ⟨z4, h4, d4⟩ := DataW.trod_bool Tryd.underlying4 f4
    subst d0 d1 d2 d3 d4
    simp only [DataW.lit.injEq, Lit.int.injEq, Lit.bool.injEq, true_and] at k0 k1 k2 k3 k4
    subst k0 k1 k2 k3 k4
    simp only [List.cons.injEq, and_true] at h0 h1 h2 h3 h4
    rw [h0, h1, h2, h3, h4]
def rowD (r : RowD) {H : Type} : DataW H := .agg [.lit (.int .u8 r.name), .lit (.int .i64 r.least), .lit (.int .i64 r.most), .lit (.int .i64 r.sub), .lit (.bool r.schema)]
theorem rows_datum {H : Type} : Rows.laid_lyceum_syntax_rows = DataW.agg (H := H) (rowsL.map fun r => rowD r) := rfl
set_option maxRecDepth 20000 in
theorem rtab_of_laid {W : World} (h : laidMetH Tryd.prog [("lyceum/syntax.rows", Rows.laid_lyceum_syntax_rows)] W) : RTab W := by
  rw [MakeChecks.laidMetH_plain _ _ _ (by kernel_rfl)] at h
  obtain ⟨ps, ⟨g, t, cs, fuel, p, q, hg, ht, hv, hd, _, _⟩, _, _⟩ := h
  obtain rfl := Option.some.inj (gRows.symm.trans hg)
  obtain rfl := Option.some.inj (gRowsType.symm.trans ht)
  obtain ⟨xs, m, _, ex, hl, hlen, hel⟩ := DataW.trod_array Tryd.underlying111 hd
  rw [rows_datum] at ex
  have e3 : (xs.map (·.1)) = _ := (DataW.agg.inj (Prod.mk.inj ex).1).symm
  have hc := fun i => World.var?_cell hg hv i
  have key : ∀ k r, rowsL[k]? = some r → W.cell? ⟨0, k * 5, none⟩ = some (.int .u8 r.name) ∧ W.cell? ⟨0, k * 5 + 1, none⟩ = some (.int .i64 r.least) ∧ W.cell? ⟨0, k * 5 + 2, none⟩ = some (.int .i64 r.most) ∧
      W.cell? ⟨0, k * 5 + 3, none⟩ = some (.int .i64 r.sub) ∧ W.cell? ⟨0, k * 5 + 4, none⟩ = some (.bool r.schema) := by
    intro k r hr
    have hk : k < 17 := (List.getElem?_eq_some_iff.1 hr).1
    have hx : (xs.map (·.1))[k]? = some (rowD r) := by rw [e3, List.getElem?_map, hr]; rfl
    rw [List.getElem?_map] at hx
    obtain ⟨⟨y, p'⟩, hy, hy2⟩ := Option.map_eq_some_iff.1 hx
    simp only at hy2
    subst hy2
    have hr5 := row_cells ((hel k hk).trans hy)
    rw [cellsRow] at hr5
    have hget : ∀ j, j < 5 → cs[k * 5 + j]? = ([Value.int .u8 r.name, .int .i64 r.least, .int .i64 r.most, .int .i64 r.sub, .bool r.schema] : List Value)[j]? := by
      intro j hj
      have h1 : ((cs.toList.drop (k * 5)).take 5)[j]? = cs[k * 5 + j]? := by
        rw [List.getElem?_take_of_lt hj, List.getElem?_drop]
        simp
      rw [← h1, hr5]
    exact ⟨(hc _).trans (hget 0 (by decide)), (hc _).trans (hget 1 (by decide)), (hc _).trans (hget 2 (by decide)), (hc _).trans (hget 3 (by decide)), (hc _).trans (hget 4 (by decide))⟩
  refine ⟨?_, key⟩
  have h00 := (key 0 _ rfl).1
  exact World.block_lt_of_cell? W ⟨0, 0 * 5, none⟩ h00
end Go.Proofs.YtnadjkofjgpabaaDoor.Fm
