/-
  FormatPart returns true for every formula and place: the text of a part of a right schema stands in the text of the schema; so it is with the full texts.
  The condition of the row: the tables of forms and of signs hold what the program's text lays in them (tied by the card).
-/
/-
  Several texts in one: FtOpen, FmOpenF, FmOpenP, FormatPartCard.
-/
import Derived.Test.YtdapnjnmhkdnpaaDoorCards
import Derived.Test.YtdapnjnmhkdnpaaDoorTie
import Derived.Test.YtdapnjnmhkdnpaaDoorFtSigns
import Derived.Test.YtdapnjnmhkdnpaaDoorFmRow
import Derived.ProofKit
import Derived.OpenShut
import Derived.Deep.DeepHandedRow
import Derived.Lib.LaidTab
import Derived.SizedLaws
import Derived.Test.YtdapnjnmhkdnpaaDoorFmMono
import Derived.Test.YtdapnjnmhkdnpaaDoorMgAt
import Derived.Test.YtdapnjnmhkdnpaaDoorMgIn
import Derived.Test.YtdapnjnmhkdnpaaDoorFtAwk

/-
  The two laid tables of layer 6.
-/
namespace Go.Proofs.YtdapnjnmhkdnpaaDoor.Fb
open Go Go.RowKit Go.ChangeShapes Go.WideShapes Go.ChangeAt Go.WideMaps Go.WideElems Go.Proofs.YtdapnjnmhkdnpaaDoor.Fm Go.Proofs.YtdapnjnmhkdnpaaDoor.Ft
set_option linter.unusedVariables false
set_option linter.unusedSimpArgs false
theorem cells1 : Tryd.prog.cellsOf 4 = 1 ∧ Tryd.prog.cellsOf 5 = 1 ∧ Tryd.prog.cellsOf 9 = 1 := by refine ⟨?_, ?_, ?_⟩ <;> kernel_rfl
theorem cellsI : Tryd.prog.cellsOf 3 = 1 := by kernel_rfl
theorem own : ownKnob Tryd.prog.godebug = none := by kernel_rfl
theorem gRows : Tryd.prog.globalNamed "lyceum/syntax.rows" = some 2 := by kernel_rfl
theorem gRowsType : (Tryd.prog.globals[2]?).map (·.type) = some 125 := by kernel_rfl
theorem cellsRows : Tryd.prog.cellsOf 125 = 85 := by kernel_rfl
theorem cellsRow : Tryd.prog.cellsOf 109 = 5 := by kernel_rfl
set_option maxRecDepth 20000 in
theorem row_cells {H : Type} {enc : TypeId × Value → H} {w : World} {base : Nat} {sp : Nat → Bool} {held : Bool} {fuel : Nat} {cs : List Value} {a b c d : Int} {e : Bool} {p : List MemPlace}
    (h : DataW.trod enc Tryd.prog w base sp held fuel 109 cs = some (.agg [.lit (.int .u8 a), .lit (.int .i64 b), .lit (.int .i64 c), .lit (.int .i64 d), .lit (.bool e)], p)) : cs = [.int .u8 a, .int .i64 b, .int .i64 c, .int .i64 d, .bool e] := by
  obtain ⟨xs, n, _, hx, hl, hlen, hf⟩ := DataW.trod_struct Tryd.underlying109 h
  rw [cellsRow] at hl
  have e1 : (xs.map (·.1)) = _ := (DataW.agg.inj (Prod.mk.inj hx).1).symm
  match cs, hl with
  | [c0, c1, c2, c3, c4], _ =>
  match xs, e1 with
  | [x0, x1, x2, x3, x4], e1 =>
    simp only [List.map_cons, List.map_nil, List.cons.injEq, and_true] at e1
    obtain ⟨k0, k1, k2, k3, k4⟩ := e1
    have f0 : DataW.trod enc Tryd.prog w base sp held n 5 (([c0, c1, c2, c3, c4].drop 0).take (Tryd.prog.cellsOf 5)) = some x0 := hf 0 _ rfl
    have f1 : DataW.trod enc Tryd.prog w base sp held n 3 (([c0, c1, c2, c3, c4].drop 1).take (Tryd.prog.cellsOf 3)) = some x1 := hf 1 _ rfl
    have f2 : DataW.trod enc Tryd.prog w base sp held n 3 (([c0, c1, c2, c3, c4].drop 2).take (Tryd.prog.cellsOf 3)) = some x2 := hf 2 _ rfl
    have f3 : DataW.trod enc Tryd.prog w base sp held n 3 (([c0, c1, c2, c3, c4].drop 3).take (Tryd.prog.cellsOf 3)) = some x3 := hf 3 _ rfl
    have f4 : DataW.trod enc Tryd.prog w base sp held n 4 (([c0, c1, c2, c3, c4].drop 4).take (Tryd.prog.cellsOf 4)) = some x4 := hf 4 _ rfl
    rw [cells1.2.1] at f0
    rw [cellsI] at f1 f2 f3
    rw [cells1.1] at f4
    simp only [List.drop_zero, List.drop_succ_cons, List.take_succ_cons, List.take_zero] at f0 f1 f2 f3 f4
    obtain ⟨z0, h0, d0, _⟩ := DataW.trod_int Tryd.underlying5 f0
    obtain ⟨z1, h1, d1, _⟩ := DataW.trod_int Tryd.underlying3 f1
    obtain ⟨z2, h2, d2, _⟩ := DataW.trod_int Tryd.underlying3 f2
    obtain ⟨z3, h3, d3, _⟩ := DataW.trod_int Tryd.underlying3 f3
    obtain ⟨z4, h4, d4⟩ := DataW.trod_bool Tryd.underlying4 f4
    subst d0 d1 d2 d3 d4
    simp only [DataW.lit.injEq, Lit.int.injEq, Lit.bool.injEq, true_and] at k0 k1 k2 k3 k4
    subst k0 k1 k2 k3 k4
    simp only [List.cons.injEq, and_true] at h0 h1 h2 h3 h4
    rw [h0, h1, h2, h3, h4]
def rowD (r : RowD) {H : Type} : DataW H := .agg [.lit (.int .u8 r.name), .lit (.int .i64 r.least), .lit (.int .i64 r.most), .lit (.int .i64 r.sub), .lit (.bool r.schema)]
theorem rows_datum {H : Type} : Rows.laid_lyceum_syntax_rows = DataW.agg (H := H) (rowsL.map fun r => rowD r) := rfl
set_option maxRecDepth 20000 in
theorem rows_of {W : World} {g : Nat} {t : TypeId} {cs : Array Value} {fuel : Nat} {p : List MemPlace} (hg : Tryd.prog.globalNamed "lyceum/syntax.rows" = some g) (ht : (Tryd.prog.globals[g]?).map (·.type) = some t) (hv : W.var? Tryd.prog "lyceum/syntax.rows" = some cs)
    (hd : DataW.trod (fun _ => ()) Tryd.prog W 0 (fun _ => true) false fuel t cs.toList = some (Rows.laid_lyceum_syntax_rows, p)) : RTab W := by
  obtain rfl := Option.some.inj (gRows.symm.trans hg)
  obtain rfl := Option.some.inj (gRowsType.symm.trans ht)
  obtain ⟨xs, m, _, ex, hl, hlen, hel⟩ := DataW.trod_array Tryd.underlying125 hd
  rw [rows_datum] at ex
  have e3 : (xs.map (·.1)) = _ := (DataW.agg.inj (Prod.mk.inj ex).1).symm
  have hc := fun i => World.var?_cell hg hv i
  have key : ∀ k r, rowsL[k]? = some r → W.cell? ⟨2, k * 5, none⟩ = some (.int .u8 r.name) ∧ W.cell? ⟨2, k * 5 + 1, none⟩ = some (.int .i64 r.least) ∧ W.cell? ⟨2, k * 5 + 2, none⟩ = some (.int .i64 r.most) ∧
      W.cell? ⟨2, k * 5 + 3, none⟩ = some (.int .i64 r.sub) ∧ W.cell? ⟨2, k * 5 + 4, none⟩ = some (.bool r.schema) := by
    intro k r hr
    have hk : k < 17 := (List.getElem?_eq_some_iff.1 hr).1
    have hx : (xs.map (·.1))[k]? = some (rowD r) := by rw [e3, List.getElem?_map, hr]; rfl
    rw [List.getElem?_map] at hx
    obtain ⟨⟨y, p'⟩, hy, hy2⟩ := Option.map_eq_some_iff.1 hx
    simp only at hy2
    subst hy2
    have hr5 := row_cells ((hel k hk).trans hy)
    rw [cellsRow] at hr5
    have hget : ∀ j, j < 5 → cs[k * 5 + j]? = ([Value.int .u8 r.name, .int .i64 r.least, .int .i64 r.most, .int .i64 r.sub, .bool r.schema] : List Value)[j]? := by
      intro j hj
      have h1 : ((cs.toList.drop (k * 5)).take 5)[j]? = cs[k * 5 + j]? := by
        rw [List.getElem?_take_of_lt hj, List.getElem?_drop]
        simp
      rw [← h1, hr5]
    exact ⟨(hc _).trans (hget 0 (by decide)), (hc _).trans (hget 1 (by decide)), (hc _).trans (hget 2 (by decide)), (hc _).trans (hget 3 (by decide)), (hc _).trans (hget 4 (by decide))⟩
  refine ⟨?_, key⟩
  have h00 := (key 0 _ rfl).1
  exact World.block_lt_of_cell? W ⟨2, 0 * 5, none⟩ h00
theorem gSig : Tryd.prog.globalNamed "lyceum/format.signs" = some 0 := by kernel_rfl
theorem gSigType : (Tryd.prog.globals[0]?).map (·.type) = some 89 := by kernel_rfl
theorem cellsSig : Tryd.prog.cellsOf 88 = 4 := by kernel_rfl
set_option maxRecDepth 20000 in
theorem sig_cells {H : Type} {enc : TypeId × Value → H} {w : World} {base : Nat} {sp : Nat → Bool} {held : Bool} {fuel : Nat} {cs : List Value} {a : List UInt8} {b : Bool} {c : Int} {e : Bool} {p : List MemPlace}
    (h : DataW.trod enc Tryd.prog w base sp held fuel 88 cs = some (.agg [.lit (.string a), .lit (.bool b), .lit (.int .i64 c), .lit (.bool e)], p)) : ∃ s : ByteArray, s.data.toList = a ∧ cs = [.string s, .bool b, .int .i64 c, .bool e] := by
  obtain ⟨xs, n, _, hx, hl, hlen, hf⟩ := DataW.trod_struct Tryd.underlying88 h
  rw [cellsSig] at hl
  have e1 : (xs.map (·.1)) = _ := (DataW.agg.inj (Prod.mk.inj hx).1).symm
  match cs, hl with
  | [c0, c1, c2, c3], _ =>
  match xs, e1 with
  | [x0, x1, x2, x3], e1 =>
    simp only [List.map_cons, List.map_nil, List.cons.injEq, and_true] at e1
    obtain ⟨k0, k1, k2, k3⟩ := e1
    have f0 : DataW.trod enc Tryd.prog w base sp held n 9 (([c0, c1, c2, c3].drop 0).take (Tryd.prog.cellsOf 9)) = some x0 := hf 0 _ rfl
    have f1 : DataW.trod enc Tryd.prog w base sp held n 4 (([c0, c1, c2, c3].drop 1).take (Tryd.prog.cellsOf 4)) = some x1 := hf 1 _ rfl
    have f2 : DataW.trod enc Tryd.prog w base sp held n 3 (([c0, c1, c2, c3].drop 2).take (Tryd.prog.cellsOf 3)) = some x2 := hf 2 _ rfl
    have f3 : DataW.trod enc Tryd.prog w base sp held n 4 (([c0, c1, c2, c3].drop 3).take (Tryd.prog.cellsOf 4)) = some x3 := hf 3 _ rfl
    rw [cells1.2.2] at f0
    rw [cells1.1] at f1 f3
    rw [cellsI] at f2
    simp only [List.drop_zero, List.drop_succ_cons, List.take_succ_cons, List.take_zero] at f0 f1 f2 f3
    obtain ⟨z0, h0, d0, _⟩ := DataW.trod_string Tryd.underlying9 f0
    obtain ⟨z1, h1, d1⟩ := DataW.trod_bool Tryd.underlying4 f1
    obtain ⟨z2, h2, d2, _⟩ := DataW.trod_int Tryd.underlying3 f2
    obtain ⟨z3, h3, d3⟩ := DataW.trod_bool Tryd.underlying4 f3
    subst d0 d1 d2 d3
    simp only [DataW.lit.injEq, Lit.int.injEq, Lit.string.injEq, Lit.bool.injEq, true_and] at k0 k1 k2 k3
    subst k1 k2 k3
    simp only [List.cons.injEq, and_true] at h0 h1 h2 h3
    exact ⟨z0, k0, by rw [h0, h1, h2, h3]⟩
def sigD {H : Type} (k : Nat) : DataW H := .agg [.lit (.string (sgT k).data.toList), .lit (.bool (spW k)), .lit (.int .i64 (str k : Nat)), .lit (.bool (frR k))]
theorem sig_datum {H : Type} : Rows.laid_lyceum_format_signs = DataW.agg (H := H) (.agg [.lit (.string []), .lit (.bool false), .lit (.int .i64 0), .lit (.bool false)] :: (List.range 16).map fun k => sigD (k + 1)) := rfl
set_option maxRecDepth 20000 in
theorem sigs_of {W : World} {g : Nat} {t : TypeId} {cs : Array Value} {fuel : Nat} {p : List MemPlace} (hg : Tryd.prog.globalNamed "lyceum/format.signs" = some g) (ht : (Tryd.prog.globals[g]?).map (·.type) = some t) (hv : W.var? Tryd.prog "lyceum/format.signs" = some cs)
    (hd : DataW.trod (fun _ => ()) Tryd.prog W 0 (fun _ => true) false fuel t cs.toList = some (Rows.laid_lyceum_format_signs, p)) : STab W := by
  obtain rfl := Option.some.inj (gSig.symm.trans hg)
  obtain rfl := Option.some.inj (gSigType.symm.trans ht)
  obtain ⟨xs, m, _, ex, hl, hlen, hel⟩ := DataW.trod_array Tryd.underlying89 hd
  rw [sig_datum] at ex
  have e3 : (xs.map (·.1)) = _ := (DataW.agg.inj (Prod.mk.inj ex).1).symm
  have hc := fun i => World.var?_cell hg hv i
  have key : ∀ k : Nat, 1 ≤ k → k < 17 → W.cell? ⟨0, k * 4, none⟩ = some (.string (sgT k)) ∧ W.cell? ⟨0, k * 4 + 1, none⟩ = some (.bool (spW k)) ∧ W.cell? ⟨0, k * 4 + 2, none⟩ = some (.int .i64 (str k : Nat)) ∧ W.cell? ⟨0, k * 4 + 3, none⟩ = some (.bool (frR k)) := by
    intro k h1 hk
    obtain ⟨j, rfl⟩ : ∃ j, k = j + 1 := ⟨k - 1, by omega⟩
    have hx : (xs.map (·.1))[j + 1]? = some (sigD (j + 1)) := by rw [e3, List.getElem?_cons_succ, List.getElem?_map, List.getElem?_range (by omega)]; rfl
    rw [List.getElem?_map] at hx
    obtain ⟨⟨y, p'⟩, hy, hy2⟩ := Option.map_eq_some_iff.1 hx
    simp only at hy2
    subst hy2
    obtain ⟨z, hz, hr5⟩ := sig_cells ((hel (j + 1) hk).trans hy)
    generalize j + 1 = k at hz hr5 hk ⊢
    obtain rfl : z = sgT k := by
      cases z
      rename_i d
      have : d = (sgT k).data := Array.toList_inj.1 hz
      rw [this]
    rw [cellsSig] at hr5
    have hget : ∀ j, j < 4 → cs[k * 4 + j]? = ([Value.string (sgT k), .bool (spW k), .int .i64 (str k : Nat), .bool (frR k)] : List Value)[j]? := by
      intro j hj
      have h1 : ((cs.toList.drop (k * 4)).take 4)[j]? = cs[k * 4 + j]? := by
        rw [List.getElem?_take_of_lt hj, List.getElem?_drop]
        simp
      rw [← h1, hr5]
    exact ⟨(hc _).trans (hget 0 (by decide)), (hc _).trans (hget 1 (by decide)), (hc _).trans (hget 2 (by decide)), (hc _).trans (hget 3 (by decide))⟩
  refine ⟨?_, key⟩
  have h00 := (key 1 (by omega) (by omega)).1
  exact World.block_lt_of_cell? W ⟨0, 1 * 4, none⟩ h00
set_option maxRecDepth 20000 in
theorem tabs_of_laid {W : World} (h : laidMetH Tryd.prog [("lyceum/syntax.rows", Rows.laid_lyceum_syntax_rows), ("lyceum/format.signs", Rows.laid_lyceum_format_signs)] W) : RTab W ∧ STab W := by
  rw [MakeChecks.laidMetH_plain _ _ _ (by kernel_rfl)] at h
  obtain ⟨ps, ⟨g, t, cs, fuel, p, q, hg, ht, hv, hd, ⟨g', t', cs', fuel', p', q', hg', ht', hv', hd', _, _⟩, _⟩, _, _⟩ := h
  exact ⟨rows_of hg ht hv hd, sigs_of hg' ht' hv' hd'⟩
end Go.Proofs.YtdapnjnmhkdnpaaDoor.Fb

/-
  Arguments that are formulas, terms, places: what lies in memory where a reading of them is given. And the table of rows.
-/
namespace Go.Proofs.YtdapnjnmhkdnpaaDoor.Fm
open Go Go.RowKit Go.ChangeShapes Go.WideShapes Go.ChangeAt Go.WideMaps Go.WideElems
set_option linter.unusedVariables false
set_option linter.unusedSimpArgs false
theorem cellsForm : Tryd.prog.cellsOf 25 = 4 := by kernel_rfl
theorem cellsTerm : Tryd.prog.cellsOf 39 = 3 := by kernel_rfl
theorem cells1 : Tryd.prog.cellsOf 4 = 1 ∧ Tryd.prog.cellsOf 5 = 1 ∧ Tryd.prog.cellsOf 9 = 1 ∧ Tryd.prog.cellsOf 22 = 1 ∧ Tryd.prog.cellsOf 23 = 1 := by refine ⟨?_, ?_, ?_, ?_, ?_⟩ <;> kernel_rfl
theorem cellsI : Tryd.prog.cellsOf 3 = 1 := by kernel_rfl
theorem bytesForm : Tryd.prog.bytesOf 25 = 72 := by kernel_rfl
theorem bytesTerm : Tryd.prog.bytesOf 39 = 48 := by kernel_rfl
theorem weights_mem_all {H : Type} {P : Program} {e : TypeId} : ∀ {ds : List (DataW H)} {d : DataW H}, d ∈ ds → ∀ n ∈ d.weights P e, n ∈ DataW.weightsAll P e ds
  | x :: r, d, hd, n, hn => by
    rw [DataW.weightsAll]
    rcases List.mem_cons.1 hd with rfl | hd
    · exact List.mem_append_left _ hn
    · exact List.mem_append_right _ (weights_mem_all hd n hn)
theorem tsAt_of {n : Nat} {w : World} {b : Nat} : ∀ (len o : Nat), (∀ i, i < len → ∃ t v0 v1 v2, w.cell? ⟨b, o + i * 3, none⟩ = some v0 ∧ w.cell? ⟨b, o + i * 3 + 1, none⟩ = some v1 ∧ w.cell? ⟨b, o + i * 3 + 2, none⟩ = some v2 ∧ TmV n w v0 v1 v2 t) → ∃ l : List Tm, l.length = len ∧ TsAt n w b o l
  | 0, o, h => ⟨[], rfl, by simp [TsAt]⟩
  | len + 1, o, h => by
    obtain ⟨t, v0, v1, v2, c0, c1, c2, hv, hn, hok, a, cap, b', o', rfl, g1, g2, g3⟩ := h 0 (by omega)
    obtain ⟨v, nm, args⟩ := t
    obtain ⟨l, hl, ht⟩ := tsAt_of len (o + 3) (fun i hi => by
      obtain ⟨t, u0, u1, u2, d0, d1, d2, d3⟩ := h (i + 1) (by omega)
      exact ⟨t, u0, u1, u2, by rw [← d0]; congr 2; omega, by rw [← d1]; congr 2; omega, by rw [← d2]; congr 2; omega, d3⟩)
    simp only [Nat.zero_mul, Nat.add_zero] at c0 c1 c2
    refine ⟨.mk v nm args :: l, by simp [hl], ?_⟩
    simp only [TsAt]
    exact ⟨⟨by rw [c0, hv]; rfl, by rw [c1, hn]; rfl, hok, a, cap, b', o', c2, g1, g2, g3⟩, ht⟩
theorem fsAt_of {n : Nat} {w : World} {b : Nat} : ∀ (len o : Nat), (∀ i, i < len → ∃ t v0 v1 v2 v3, w.cell? ⟨b, o + i * 4, none⟩ = some v0 ∧ w.cell? ⟨b, o + i * 4 + 1, none⟩ = some v1 ∧ w.cell? ⟨b, o + i * 4 + 2, none⟩ = some v2 ∧ w.cell? ⟨b, o + i * 4 + 3, none⟩ = some v3 ∧ FoV n w v0 v1 v2 v3 t) → ∃ l : List Fo, l.length = len ∧ FsAt n w b o l
  | 0, o, h => ⟨[], rfl, by simp [FsAt]⟩
  | len + 1, o, h => by
    obtain ⟨t, v0, v1, v2, v3, c0, c1, c2, c3, hv, hbd, hn, hok, ⟨a, cap, b', o', rfl, g1, g2, g3⟩, a2, cap2, b2, o2, rfl, k1, k2, k3⟩ := h 0 (by omega)
    obtain ⟨op, nm, args, sub⟩ := t
    obtain ⟨l, hl, ht⟩ := fsAt_of len (o + 4) (fun i hi => by
      obtain ⟨t, u0, u1, u2, u3, d0, d1, d2, d3, d4⟩ := h (i + 1) (by omega)
      exact ⟨t, u0, u1, u2, u3, by rw [← d0]; congr 2; omega, by rw [← d1]; congr 2; omega, by rw [← d2]; congr 2; omega, by rw [← d3]; congr 2; omega, d4⟩)
    simp only [Nat.zero_mul, Nat.add_zero] at c0 c1 c2 c3
    refine ⟨.mk op nm args sub :: l, by simp [hl], ?_⟩
    simp only [FsAt]
    exact ⟨⟨by rw [c0, hv]; rfl, hbd, by rw [c1, hn]; rfl, hok, ⟨a, cap, b', o', c2, g1, g2, g3⟩, a2, cap2, b2, o2, c3, k1, k2, k3⟩, ht⟩
section
variable {H : Type} {enc : TypeId × Value → H} {W : World} {base : Nat} {sp : Nat → Bool} {held : Bool}
/-- The first element tells that a slice begins in a block. -/
theorem elem_spot {a : Addr} {k : Nat} {cs : List Value} (hk : 0 < k) (h : W.cells? base (a.add (0 * k)) k = some cs) : ∃ b o, a = ⟨b, o, none⟩ ∧ b < W.heap.size := by
  obtain ⟨_, hl, hc⟩ := World.cells?_some h
  have h0 := hc 0 hk
  obtain ⟨u, hu⟩ : ∃ u, cs[0]? = some u := ⟨cs[0], List.getElem?_eq_getElem (by omega)⟩
  rw [hu, Nat.zero_mul] at h0
  have e : (a.add 0).add 0 = a := by simp [Addr.add]
  rw [e] at h0
  have hs := World.cell?_spot h0
  have hb := World.block_lt_of_cell? W a h0
  obtain ⟨b, o, spt⟩ := a
  simp only at hs
  subst hs
  exact ⟨b, o, rfl, hb⟩
/-- A slice's elements, each k cells. -/
theorem elem_cells {b o i k : Nat} {cs : List Value} (h : W.cells? base ((⟨b, o, none⟩ : Addr).add (i * k)) k = some cs) : ∀ j, j < k → W.cell? ⟨b, o + i * k + j, none⟩ = cs[j]? := fun j hj => by
  have := (World.cells?_some h).2.2 j hj
  rwa [Addr.add_lit, Addr.add_lit] at this
theorem open_terms_at (n : Nat) (ih : ∀ {cs : List Value} {x : DataW H × List MemPlace}, DataW.trod enc Tryd.prog W base sp held n 39 cs = some x → (∀ m ∈ x.1.weights Tryd.prog 39, m ≤ reachBytes) → ∃ t v0 v1 v2, cs = [v0, v1, v2] ∧ TmV W.heap.size W v0 v1 v2 t)
    {cs : List Value} {x : DataW H × List MemPlace} (h : DataW.trod enc Tryd.prog W base sp held (n + 1) 22 cs = some x) (hw : ∀ m ∈ x.1.weights Tryd.prog 22, m ≤ reachBytes) : ∃ v l, cs = [v] ∧ SlT W.heap.size W v l := by
  rcases DataW.trod_slice Tryd.underlying22 h with ⟨rfl, rfl⟩ | ⟨a, len, cap, elems, rest, m, hm, rfl, rfl, _, hlc, hcap, hel, hg, _, _⟩
  · exact ⟨_, [], rfl, none, 0, 0, 0, rfl, by simp, .inl rfl, by simp [TsAt]⟩
  · obtain rfl : n = m := by omega
    rw [cellsTerm] at hg
    have hlen : len * 48 ≤ reachBytes := by
      have := hw ((elems.length + rest.length) * Tryd.prog.bytesOf 39) (by simp [DataW.weights, Tryd.underlying22])
      rw [bytesTerm] at this
      rw [hel] at this
      omega
    by_cases h0 : len = 0
    · subst h0
      exact ⟨_, [], rfl, some a, cap, 0, 0, rfl, by simp, .inl rfl, by simp [TsAt]⟩
    have hg0 := hg 0 (by omega)
    rw [List.getElem?_eq_getElem (by omega)] at hg0
    obtain ⟨cs0, hcs0, _⟩ := Option.bind_eq_some_iff.1 hg0
    obtain ⟨b, o, rfl, hb⟩ := elem_spot (by decide) hcs0
    have hE : ∀ i, i < len → ∃ t v0 v1 v2, W.cell? ⟨b, o + i * 3, none⟩ = some v0 ∧ W.cell? ⟨b, o + i * 3 + 1, none⟩ = some v1 ∧ W.cell? ⟨b, o + i * 3 + 2, none⟩ = some v2 ∧ TmV W.heap.size W v0 v1 v2 t := by
      intro i hi
      have hgi := hg i hi
      rw [List.getElem?_eq_getElem (by omega)] at hgi
      obtain ⟨cs, hcs, htr⟩ := Option.bind_eq_some_iff.1 hgi
      obtain ⟨t, v0, v1, v2, rfl, ht⟩ := ih htr (fun m hm => hw m (by
        simp only [DataW.weights, Tryd.underlying22, List.mem_cons, List.mem_append]
        exact .inr (.inl (weights_mem_all (List.mem_map_of_mem (List.getElem_mem (by omega))) m hm))))
      have hc := elem_cells hcs
      exact ⟨t, v0, v1, v2, hc 0 (by decide), hc 1 (by decide), hc 2 (by decide), ht⟩
    obtain ⟨l, hl, hT⟩ := tsAt_of len o hE
    exact ⟨_, l, rfl, some ⟨b, o, none⟩, cap, b, o, by rw [hl], by rw [hl]; unfold reachBytes at hlen; omega, .inr ⟨rfl, hb⟩, hT⟩
set_option maxRecDepth 20000 in
theorem open_term : ∀ (n : Nat) {cs : List Value} {x : DataW H × List MemPlace}, DataW.trod enc Tryd.prog W base sp held n 39 cs = some x → (∀ m ∈ x.1.weights Tryd.prog 39, m ≤ reachBytes) → ∃ t v0 v1 v2, cs = [v0, v1, v2] ∧ TmV W.heap.size W v0 v1 v2 t := by
  intro n
  induction n using Nat.strongRecOn with
  | ind n ih =>
    intro cs x h hw
    obtain ⟨xs, m, hm, hx, hl, hlen, hf⟩ := DataW.trod_struct Tryd.underlying39 h
    subst hx
    rw [cellsTerm] at hl
    match cs, hl with
    | [c0, c1, c2], _ =>
    match xs, hlen with
    | [x0, x1, x2], _ =>
    have f0 : DataW.trod enc Tryd.prog W base sp held m 4 (([c0, c1, c2].drop 0).take (Tryd.prog.cellsOf 4)) = some x0 := hf 0 _ rfl
    have f1 : DataW.trod enc Tryd.prog W base sp held m 9 (([c0, c1, c2].drop 1).take (Tryd.prog.cellsOf 9)) = some x1 := hf 1 _ rfl
    have f2 : DataW.trod enc Tryd.prog W base sp held m 22 (([c0, c1, c2].drop 2).take (Tryd.prog.cellsOf 22)) = some x2 := hf 2 _ rfl
    rw [cells1.1] at f0
    rw [cells1.2.2.1] at f1
    rw [cells1.2.2.2.1] at f2
    simp only [List.drop_zero, List.drop_succ_cons, List.take_succ_cons, List.take_zero] at f0 f1 f2
    obtain ⟨bo, h0, d0⟩ := DataW.trod_bool Tryd.underlying4 f0
    obtain ⟨st, h1, d1, hst⟩ := DataW.trod_string Tryd.underlying9 f1
    have hw2 : ∀ k ∈ x2.1.weights Tryd.prog 22, k ≤ reachBytes := fun k hk => hw k (by
      simp only [DataW.weights, Tryd.underlying39]
      exact DataW.weights_mem_each (j := 2) (t := 22) (d := x2.1) rfl rfl k hk)
    match m, hm, f2 with
    | 0, _, f2 => simp [DataW.trod] at f2
    | k + 1, hm, f2 =>
    obtain ⟨v, l, hv, hsl⟩ := open_terms_at k (fun h1 h2 => ih k (by omega) h1 h2) f2 hw2
    simp only [List.cons.injEq, and_true] at h0 h1 hv
    subst h0 h1 hv
    exact ⟨.mk bo st l, _, _, _, rfl, rfl, rfl, by unfold okStr; unfold maxLen at hst; exact hst, hsl⟩
theorem open_forms_at (n : Nat) (ih : ∀ {cs : List Value} {x : DataW H × List MemPlace}, DataW.trod enc Tryd.prog W base sp held n 25 cs = some x → (∀ m ∈ x.1.weights Tryd.prog 25, m ≤ reachBytes) → ∃ t v0 v1 v2 v3, cs = [v0, v1, v2, v3] ∧ FoV W.heap.size W v0 v1 v2 v3 t)
    {cs : List Value} {x : DataW H × List MemPlace} (h : DataW.trod enc Tryd.prog W base sp held (n + 1) 23 cs = some x) (hw : ∀ m ∈ x.1.weights Tryd.prog 23, m ≤ reachBytes) : ∃ v l, cs = [v] ∧ SlF W.heap.size W v l := by
  rcases DataW.trod_slice Tryd.underlying23 h with ⟨rfl, rfl⟩ | ⟨a, len, cap, elems, rest, m, hm, rfl, rfl, _, hlc, hcap, hel, hg, _, _⟩
  · exact ⟨_, [], rfl, none, 0, 0, 0, rfl, by simp, .inl rfl, by simp [FsAt]⟩
  · obtain rfl : n = m := by omega
    rw [cellsForm] at hg
    have hlen : len * 72 ≤ reachBytes := by
      have := hw ((elems.length + rest.length) * Tryd.prog.bytesOf 25) (by simp [DataW.weights, Tryd.underlying23])
      rw [bytesForm] at this
      rw [hel] at this
      omega
    by_cases h0 : len = 0
    · subst h0
      exact ⟨_, [], rfl, some a, cap, 0, 0, rfl, by simp, .inl rfl, by simp [FsAt]⟩
    have hg0 := hg 0 (by omega)
    rw [List.getElem?_eq_getElem (by omega)] at hg0
    obtain ⟨cs0, hcs0, _⟩ := Option.bind_eq_some_iff.1 hg0
    obtain ⟨b, o, rfl, hb⟩ := elem_spot (by decide) hcs0
    have hE : ∀ i, i < len → ∃ t v0 v1 v2 v3, W.cell? ⟨b, o + i * 4, none⟩ = some v0 ∧ W.cell? ⟨b, o + i * 4 + 1, none⟩ = some v1 ∧ W.cell? ⟨b, o + i * 4 + 2, none⟩ = some v2 ∧ W.cell? ⟨b, o + i * 4 + 3, none⟩ = some v3 ∧ FoV W.heap.size W v0 v1 v2 v3 t := by
      intro i hi
      have hgi := hg i hi
      rw [List.getElem?_eq_getElem (by omega)] at hgi
      obtain ⟨cs, hcs, htr⟩ := Option.bind_eq_some_iff.1 hgi
      obtain ⟨t, v0, v1, v2, v3, rfl, ht⟩ := ih htr (fun m hm => hw m (by
        simp only [DataW.weights, Tryd.underlying23, List.mem_cons, List.mem_append]
        exact .inr (.inl (weights_mem_all (List.mem_map_of_mem (List.getElem_mem (by omega))) m hm))))
      have hc := elem_cells hcs
      exact ⟨t, v0, v1, v2, v3, hc 0 (by decide), hc 1 (by decide), hc 2 (by decide), hc 3 (by decide), ht⟩
    obtain ⟨l, hl, hT⟩ := fsAt_of len o hE
    exact ⟨_, l, rfl, some ⟨b, o, none⟩, cap, b, o, by rw [hl], by rw [hl]; unfold reachBytes at hlen; omega, .inr ⟨rfl, hb⟩, hT⟩
set_option maxRecDepth 20000 in
theorem open_form : ∀ (n : Nat) {cs : List Value} {x : DataW H × List MemPlace}, DataW.trod enc Tryd.prog W base sp held n 25 cs = some x → (∀ m ∈ x.1.weights Tryd.prog 25, m ≤ reachBytes) → ∃ t v0 v1 v2 v3, cs = [v0, v1, v2, v3] ∧ FoV W.heap.size W v0 v1 v2 v3 t := by
  intro n
  induction n using Nat.strongRecOn with
  | ind n ih =>
    intro cs x h hw
    obtain ⟨xs, m, hm, hx, hl, hlen, hf⟩ := DataW.trod_struct Tryd.underlying25 h
    subst hx
    rw [cellsForm] at hl
    match cs, hl with
    | [c0, c1, c2, c3], _ =>
    match xs, hlen with
    | [x0, x1, x2, x3], _ =>
    have f0 : DataW.trod enc Tryd.prog W base sp held m 5 (([c0, c1, c2, c3].drop 0).take (Tryd.prog.cellsOf 5)) = some x0 := hf 0 _ rfl
    have f1 : DataW.trod enc Tryd.prog W base sp held m 9 (([c0, c1, c2, c3].drop 1).take (Tryd.prog.cellsOf 9)) = some x1 := hf 1 _ rfl
    have f2 : DataW.trod enc Tryd.prog W base sp held m 22 (([c0, c1, c2, c3].drop 2).take (Tryd.prog.cellsOf 22)) = some x2 := hf 2 _ rfl
    have f3 : DataW.trod enc Tryd.prog W base sp held m 23 (([c0, c1, c2, c3].drop 3).take (Tryd.prog.cellsOf 23)) = some x3 := hf 3 _ rfl
    rw [cells1.2.1] at f0
    rw [cells1.2.2.1] at f1
    rw [cells1.2.2.2.1] at f2
    rw [cells1.2.2.2.2] at f3
    simp only [List.drop_zero, List.drop_succ_cons, List.take_succ_cons, List.take_zero] at f0 f1 f2 f3
    obtain ⟨bo, h0, d0, hwf⟩ := DataW.trod_int Tryd.underlying5 f0
    obtain ⟨st, h1, d1, hst⟩ := DataW.trod_string Tryd.underlying9 f1
    have hw2 : ∀ k ∈ x2.1.weights Tryd.prog 22, k ≤ reachBytes := fun k hk => hw k (by
      simp only [DataW.weights, Tryd.underlying25]
      exact DataW.weights_mem_each (j := 2) (t := 22) (d := x2.1) rfl rfl k hk)
    have hw3 : ∀ k ∈ x3.1.weights Tryd.prog 23, k ≤ reachBytes := fun k hk => hw k (by
      simp only [DataW.weights, Tryd.underlying25]
      exact DataW.weights_mem_each (j := 3) (t := 23) (d := x3.1) rfl rfl k hk)
    match m, hm, f2, f3 with
    | 0, _, f2, _ => simp [DataW.trod] at f2
    | k + 1, hm, f2, f3 =>
    obtain ⟨v, l, hv, hsl⟩ := open_terms_at k (fun h1 h2 => open_term k h1 h2) f2 hw2
    obtain ⟨v', l', hv', hsl'⟩ := open_forms_at k (fun h1 h2 => ih k (by omega) h1 h2) f3 hw3
    have hbd : 0 ≤ bo ∧ bo ≤ 255 := by simpa [Lit.wf, IntKind.min, IntKind.max, IntKind.signed, IntKind.bits] using hwf
    simp only [List.cons.injEq, and_true] at h0 h1 hv hv'
    subst h0 h1 hv hv'
    exact ⟨.mk bo st l l', _, _, _, _, rfl, rfl, hbd, rfl, by unfold okStr; unfold maxLen at hst; exact hst, hsl, hsl'⟩
end
theorem agg_of_cells {v a b c d : Value} (h : v.cells.toList = [a, b, c, d]) : v = .agg #[a, b, c, d] := by
  cases v <;> simp [Value.cells] at h
  rename_i cs
  cases cs
  simp_all
end Go.Proofs.YtdapnjnmhkdnpaaDoor.Fm

/-
  Arguments that are places, as they lie in memory.
-/
namespace Go.Proofs.YtdapnjnmhkdnpaaDoor.Fm
open Go Go.RowKit Go.ChangeShapes Go.WideShapes Go.ChangeAt Go.WideMaps Go.WideElems
set_option linter.unusedVariables false
set_option linter.unusedSimpArgs false
set_option maxRecDepth 20000 in
theorem open_places {H : Type} {enc : TypeId × Value → H} {W : World} {base : Nat} {v : Value} {d : DataW H} {p : List MemPlace} (hval : Value.okWide Tryd.prog W .any base 33 v) (h : DataW.Trod enc Tryd.prog W 0 (fun _ => true) true 33 v d p)
    (hlt : ∀ x ∈ p, x.block < W.heap.size) (hwt : ∀ m ∈ d.weights Tryd.prog 33, m ≤ reachBytes) : ∃ l, PlV W.heap.size W v l := by
  obtain ⟨sa, len, cap, rfl⟩ := okWide_slice Tryd.underlying33 hval
  obtain ⟨fuel, hf⟩ := h
  rcases open_ints Tryd.underlying33 Tryd.underlying3 cellsI hf with ⟨hcs, hx⟩ | ⟨a, len', cap', zs, hcs, _, hl, hm, hz, hx, hcell, hwz⟩
  · simp [Value.cells] at hcs
    obtain ⟨rfl, rfl, rfl⟩ := hcs
    exact ⟨[], none, 0, 0, 0, rfl, by simp, .inl rfl, by simp⟩
  · simp [Value.cells] at hcs
    obtain ⟨rfl, rfl, rfl⟩ := hcs
    simp only [Prod.mk.injEq] at hx
    obtain ⟨rfl, rfl⟩ := hx
    simp only [if_true] at hz
    have hlen : (zs.take len).length = len := by rw [List.length_take]; omega
    have hreach : len ≤ 140737488351232 := by
      have := hwt _ (by simp only [DataW.weights, Tryd.underlying33]; exact List.mem_cons_self ..)
      rw [show Tryd.prog.bytesOf 3 = 8 by kernel_rfl] at this
      simp only [lits, List.length_map, List.length_take, List.length_drop, reachBytes] at this
      omega
    refine ⟨zs.take len, some a, cap, a.block, a.off, by rw [hlen], by omega, ?_, fun q hq => ?_⟩
    · by_cases he : len = 0
      · exact .inl (List.eq_nil_of_length_eq_zero (by rw [hlen]; exact he))
      · have hsp : a.spot = none := by simpa [Addr.add] using World.cell?_spot (hcell 0 (by omega))
        have hb : a.block < W.heap.size := hlt (.cell a.block (a.off + 0)) (MemPlace.mem_row.2 ⟨0, by omega, by simp⟩)
        obtain ⟨b, o, sp⟩ := a
        simp only at hsp
        subst hsp
        exact .inr ⟨rfl, hb⟩
    · rw [hlen] at hq
      have hc := hcell q (by omega)
      have hsp : a.spot = none := by simpa [Addr.add] using World.cell?_spot (hcell 0 (by omega))
      obtain ⟨b, o, sp⟩ := a
      simp only at hsp
      subst hsp
      rw [Addr.add_lit] at hc
      rw [hc]
      congr 2
      have hzl : q < zs.length := by rw [List.length_take] at hlen; omega
      simp [List.getD_eq_getElem?_getD, List.getElem?_take, hq, List.getElem?_eq_getElem hzl]
end Go.Proofs.YtdapnjnmhkdnpaaDoor.Fm

/-
  FormatPart returns true for every formula and place: the text of a part of a right schema stands in the text of the schema; so it is with the full texts.
  The condition of the row: the tables of forms and of signs hold what the program's text lays in them (tied by the card).
-/
namespace Go.Proofs.YtdapnjnmhkdnpaaDoor.FormatPartP
open Go Go.RowKit Go.ChangeShapes Go.WideShapes Go.ChangeAt Go.Proofs.YtdapnjnmhkdnpaaDoor.Fm Go.Proofs.YtdapnjnmhkdnpaaDoor.Fb Go.Proofs.YtdapnjnmhkdnpaaDoor.Ft Go.WideMaps Go.WideElems
open Go.ChangeMaps (open_string shut_string)
set_option linter.unusedVariables false
set_option linter.unusedSimpArgs false

set_option maxRecDepth 20000 in
theorem contract (H : Type) (enc : TypeId × Value → H) (W : World) (base : Nat) (args : Array Value) (ds gs : List (DataW H)) (before : List MemPlace)
    (hval : ∀ (j : Nat) t v, Tryd.f4.params[j]? = some t → args[j]? = some v → Value.okWide Tryd.prog W .any base t v)
    (hW : DataW.Whole enc Tryd.prog Tryd.f4.params.toList Rows.formatPartSpec.vars false W args.toList ds gs before) (hsz : (DataW.weightsEach Tryd.prog (Tryd.f4.params.toList ++ (OpenSpec.ofChange Rows.formatPartSpec).bare.plain.varTypes Tryd.prog) (ds ++ gs)).all (· ≤ reachBytes) = true) (hL : laidMetH Tryd.prog Rows.formatPartRow.laid W) (hsh : W.ShapedOpen Tryd.prog) :
    Calls Tryd.prog 4 args W fun e W' => ∃ v, e = .returned v ∧ Rows.formatPartSpec.post enc Tryd.prog Tryd.f4 false true false false W args v W' := by
  obtain ⟨hT, hST⟩ := tabs_of_laid hL
  have hM := max_of_shape hsh
  have hW' := hW
  obtain ⟨p, q, hA0, hV, rfl, hfz, hnd⟩ := hW
  have hA : DataW.TrodAll enc Tryd.prog W 0 (fun _ => true) true Tryd.f4.params.toList args.toList ds p := hA0
  rw [Tryd.params4] at hA hval hsz
  obtain ⟨v0, vs0, d0, ds0, p0, q0, hargs, rfl, rfl, h0, r0⟩ := trodAll_cons hA
  obtain ⟨v1, vs1, d1, ds1, p1, q1, rfl, rfl, rfl, h1, r1⟩ := trodAll_cons r0
  obtain ⟨rfl, rfl, rfl⟩ := trodAll_nil r1
  obtain rfl : args = #[v0, v1] := by cases args; simp_all
  obtain ⟨rfl, rfl⟩ := trodVars_none hV
  simp only [List.append_nil] at hW'
  have k0 := h0
  have hlt0 : ∀ x ∈ p0, x.block < W.heap.size := fun x hx => hW'.lt x (by simp [hx])
  have hwt0 : ∀ m ∈ d0.weights Tryd.prog 25, m ≤ reachBytes := fun m hm => by
    have := List.all_eq_true.1 hsz m (DataW.weights_mem_each (j := 0) (t := 25) (d := d0) rfl rfl m hm)
    simpa using this
  obtain ⟨fu0, hf0⟩ := h0
  obtain ⟨f0, u00, u01, u02, u03, hc0, hF0⟩ := open_form fu0 hf0 hwt0
  obtain rfl : v0 = .agg #[u00, u01, u02, u03] := agg_of_cells hc0
  have k1 := h1
  have hlt1 : ∀ x ∈ p1, x.block < W.heap.size := fun x hx => hW'.lt x (by simp [hx])
  have hwt1 : ∀ m ∈ d1.weights Tryd.prog 33, m ≤ reachBytes := fun m hm => by
    have := List.all_eq_true.1 hsz m (DataW.weights_mem_each (j := 1) (t := 33) (d := d1) rfl rfl m hm)
    simpa using this
  obtain ⟨l1, hI1⟩ := open_places (hval 1 33 v1 rfl rfl) h1 hlt1 hwt1
  clear hA0
  refine (show Calls Tryd.prog 4 #[.agg #[u00, u01, u02, u03], v1] W fun e w' => e = .returned (.bool true) ∧ Below W.heap.size W w' from inside_c f0 l1 _ _ _ _ _ W hT hST hM awake_c hF0 hI1).mono fun e W' ⟨he, hg⟩ => ?_
  subst he
  exact ⟨_, rfl, _, _, _, [], _, [], hW', trodAll_cons_mk (shut_bool Tryd.underlying4 _) trodAll_mk0, (trodAll_cons_mk (Below.trod (show laidOutB Tryd.prog = true by kernel_rfl) (by kernel_rfl) (of_decide_eq_true (by kernel_rfl)) k0 hg hlt0) (trodAll_cons_mk (Below.trod (show laidOutB Tryd.prog = true by kernel_rfl) (by kernel_rfl) (of_decide_eq_true (by kernel_rfl)) k1 hg hlt1) trodAll_mk0)), rfl, hg.frame _, fun h => by cases h⟩

def putCells (cs : List Value) : Obj → Obj
  | .cells _ t frozen => .cells cs.toArray t frozen
  | o => o
noncomputable def laidWorld (os : Os) : World :=
  { World.holding Tryd.prog os ⟨#[], #[], []⟩ with heap := ((World.holding Tryd.prog os ⟨#[], #[], []⟩).heap.modify 2 (putCells (rowsL.flatMap fun r => [Value.int .u8 r.name, .int .i64 r.least, .int .i64 r.most, .int .i64 r.sub, .bool r.schema]))).modify 0 (putCells ([Value.string ⟨#[]⟩, .bool false, .int .i64 0, .bool false] ++ (List.range 16).flatMap fun k => [Value.string (sgT (k + 1 : Nat)), .bool (spW (k + 1 : Nat)), .int .i64 (str (k + 1 : Nat) : Nat), .bool (frR (k + 1 : Nat))])) }
set_option maxRecDepth 20000 in
theorem laid_met (os : Os) : laidMet Tryd.prog Rows.formatPartRow.laid ((laidWorld os).forCall (fun _ _ => 0) ⟨#[], #[.agg #[.int .u8 0, .string ⟨#[]⟩, .slice none 0 0, .slice none 0 0], .slice none 0 0], []⟩).memory :=
  laidMet_of_run' 10 (by kernel_rfl) (by kernel_rfl)
theorem reads (os : Os) {H : Type} (enc : TypeId × Value → H) : ∃ places, DataW.whole enc Tryd.prog ((laidWorld os).forCall (fun _ _ => 0) ⟨#[], #[.agg #[.int .u8 0, .string ⟨#[]⟩, .slice none 0 0, .slice none 0 0], .slice none 0 0], []⟩).memory Tryd.f4.params.toList Rows.formatPartSpec.vars false (#[.agg #[.int .u8 0, .string ⟨#[]⟩, .slice none 0 0, .slice none 0 0], .slice none 0 0] : Array Value).toList 8 = some ([.agg [.lit (.int .u8 0), .lit (.string []), .nil, .nil], .nil], [], places) :=
  ⟨[], by kernel_rfl⟩

set_option maxRecDepth 100000 in
theorem lifted (os : Os) (started : os.Started) (H : Type) (enc : TypeId × Value → H) (F : Stop.Interp) :
    ReturnsInHanded {} Tryd.checked os 4 .any ((OpenSpec.ofChange Rows.formatPartSpec).preRow enc Tryd.prog Tryd.f4 Rows.formatPartRow.domain false Rows.formatPartRow.laid) (((OpenSpec.ofChange Rows.formatPartSpec).at F).post enc Tryd.prog Tryd.f4 false true false false) := by
  obtain ⟨places, hx⟩ := reads os enc
  refine returnsInHanded_of_row (C := Tryd.checked) (s := OpenSpec.ofChange Rows.formatPartSpec) Go.Proofs.YtdapnjnmhkdnpaaDoor.Fb.own started (by kernel_rfl) Tryd.func4
    (witness_row_at (enc := enc) (C := Tryd.checked) false (laidWorld os) #[.agg #[.int .u8 0, .string ⟨#[]⟩, .slice none 0 0, .slice none 0 0], .slice none 0 0] rfl (by kernel_rfl) (by kernel_rfl) (by kernel_rfl)
      (OpenSpec.preRow_of_cond 8 hx (by kernel_rfl) (fun k hk => by cases hk) (by kernel_rfl) (laid_met os))) ?_
  intro W base args ds gs before hval hW _ _ hsz hL hsh _
  exact contract H enc W base args ds gs before hval hW hsz hL hsh

theorem said : Rows.FormatPartSaid :=
  OpenClaim.holds_of_cond 4 Tryd.f4 rfl rfl rfl rfl rfl rfl rfl ⟨rfl, rfl, rfl, rfl, rfl⟩ rfl rfl rfl rfl rfl (by kernel_rfl) Tryd.func4 (by kernel_rfl)
    (of_decide_eq_true (by kernel_rfl)) (by unfold Func.isWrapper; first | (rw [if_pos (by decide +kernel)]; kernel_rfl) | (rw [if_neg (by decide +kernel)]; exact ⟨rfl, rfl⟩))
    (fun os started H enc _ F => by rw [OpenClaim.pre_eq_preRow]; exact lifted os started H enc F)

theorem plain (f : FuncId) (fn : Func) (hf : Tryd.pinned.checked.prog.funcNamed "lyceum/lyceumlaw06.FormatPart" = some f) (hfn : Tryd.pinned.checked.prog.funcs[f]? = some fn) :
    false = Tryd.pinned.checked.prog.looks [] ∧ ∀ (j : Nat) t, fn.params[j]? = some t → Tryd.pinned.checked.prog.wantsStandIn t = false := by
  obtain rfl : f = 4 := Option.some.inj ((show Tryd.prog.funcNamed "lyceum/lyceumlaw06.FormatPart" = some 4 by kernel_rfl).symm.trans hf) |>.symm
  obtain rfl : fn = Tryd.f4 := (Option.some.inj (Tryd.func4.symm.trans hfn)).symm
  refine ⟨by kernel_rfl, fun j t ht => ?_⟩
  rw [Tryd.params4] at ht
  have hm : t ∈ [25, 33] := by simpa using Array.mem_of_getElem? ht
  have hall : ([25, 33].all fun u => !Tryd.prog.wantsStandIn u) = true := by kernel_rfl
  exact (show Tryd.prog.wantsStandIn t = false by simpa using List.all_eq_true.1 hall t hm)

theorem card : Rows.FormatPartCardSaid :=
  Claim7.holds_tied_plain_at .later [] _ _ _ _ said (fun _ h => by cases h) (by kernel_rfl) (fun _ h => by cases h) formatPart_row_tie rfl ⟨rfl, rfl⟩ (by kernel_rfl) rfl plain (by kernel_rfl)
#print axioms card
end Go.Proofs.YtdapnjnmhkdnpaaDoor.FormatPartP
