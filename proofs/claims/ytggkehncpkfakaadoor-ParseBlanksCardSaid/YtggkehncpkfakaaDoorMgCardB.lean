/-
  ParseBlanks returns true for every string: blanks between tokens change nothing in what is parsed, and nothing in the error or its token.
  The condition of the row: the tables of forms and of levels hold what the program's text lays in them (tied by the card).
-/
/-
  Several texts in one: PsOpen, ParseBlanksCard.
-/
import Derived.Test.YtggkehncpkfakaaDoorCards
import Derived.Test.YtggkehncpkfakaaDoorTie
import Derived.Test.YtggkehncpkfakaaDoorPsFirst
import Derived.ProofKit
import Derived.OpenShut
import Derived.Deep.DeepHandedRow
import Derived.Lib.LaidTab
import Derived.SizedLaws
import Derived.Test.YtggkehncpkfakaaDoorMgBlank
import Derived.Test.YtggkehncpkfakaaDoorPsAwk

/-
  The two laid tables.
-/
namespace Go.Proofs.YtggkehncpkfakaaDoor.Ps
open Go Go.RowKit Go.ChangeShapes Go.WideShapes Go.ChangeAt Go.WideMaps Go.WideElems Go.Proofs.YtggkehncpkfakaaDoor.Fm
set_option linter.unusedVariables false
set_option linter.unusedSimpArgs false
theorem cells1 : Tryd.prog.cellsOf 4 = 1 ∧ Tryd.prog.cellsOf 5 = 1 ∧ Tryd.prog.cellsOf 9 = 1 := by refine ⟨?_, ?_, ?_⟩ <;> kernel_rfl
theorem cellsI : Tryd.prog.cellsOf 3 = 1 := by kernel_rfl
theorem own : ownKnob Tryd.prog.godebug = none := by kernel_rfl
theorem gRows : Tryd.prog.globalNamed "lyceum/syntax.rows" = some 1 := by kernel_rfl
theorem gRowsType : (Tryd.prog.globals[1]?).map (·.type) = some 142 := by kernel_rfl
theorem cellsRows : Tryd.prog.cellsOf 142 = 85 := by kernel_rfl
theorem cellsRow : Tryd.prog.cellsOf 118 = 5 := by kernel_rfl
set_option maxRecDepth 20000 in
theorem row_cells {H : Type} {enc : TypeId × Value → H} {w : World} {base : Nat} {sp : Nat → Bool} {held : Bool} {fuel : Nat} {cs : List Value} {a b c d : Int} {e : Bool} {p : List MemPlace}
    (h : DataW.trod enc Tryd.prog w base sp held fuel 118 cs = some (.agg [.lit (.int .u8 a), .lit (.int .i64 b), .lit (.int .i64 c), .lit (.int .i64 d), .lit (.bool e)], p)) : cs = [.int .u8 a, .int .i64 b, .int .i64 c, .int .i64 d, .bool e] := by
  obtain ⟨xs, n, _, hx, hl, hlen, hf⟩ := DataW.trod_struct Tryd.underlying118 h
  rw [cellsRow] at hl
  have e1 : (xs.map (·.1)) = _ := (DataW.agg.inj (Prod.mk.inj hx).1).symm
  match cs, hl with
  | [c0, c1, c2, c3, c4], _ =>
  match xs, e1 with
  | [x0, x1, x2, x3, x4], e1 =>
    simp only [List.map_cons, List.map_nil, List.cons.injEq, and_true] at e1
    obtain ⟨k0, k1, k2, k3, k4⟩ := e1
    have f0 : DataW.trod enc Tryd.prog w base sp held n 5 (([c0, c1, c2, c3, c4].drop 0).take (Tryd.prog.cellsOf 5)) = some x0 := hf 0 _ rfl
    have f1 : DataW.trod enc Tryd.prog w base sp held n 3 (([c0, c1, c2, c3, c4].drop 1).take (Tryd.prog.cellsOf 3)) = some x1 := hf 1 _ rfl
    have f2 : DataW.trod enc Tryd.prog w base sp held n 3 (([c0, c1, c2, c3, c4].drop 2).take (Tryd.prog.cellsOf 3)) = some x2 := hf 2 _ rfl
    have f3 : DataW.trod enc Tryd.prog w base sp held n 3 (([c0, c1, c2, c3, c4].drop 3).take (Tryd.prog.cellsOf 3)) = some x3 := hf 3 _ rfl
    have f4 : DataW.trod enc Tryd.prog w base sp held n 4 (([c0, c1, c2, c3, c4].drop 4).take (Tryd.prog.cellsOf 4)) = some x4 := hf 4 _ rfl
    rw [cells1.2.1] at f0
    rw [cellsI] at f1 f2 f3
    rw [cells1.1] at f4
    simp only [List.drop_zero, List.drop_succ_cons, List.take_succ_cons, List.take_zero] at f0 f1 f2 f3 f4
    obtain ⟨z0, h0, d0, _⟩ := DataW.trod_int Tryd.underlying5 f0
    obtain ⟨z1, h1, d1, _⟩ := DataW.trod_int Tryd.underlying3 f1
    obtain ⟨z2, h2, d2, _⟩ := DataW.trod_int Tryd.underlying3 f2
    obtain ⟨z3, h3, d3, _⟩ := DataW.trod_int Tryd.underlying3 f3
    obtain ⟨z4, h4, d4⟩ := DataW.trod_bool Tryd.underlying4 f4
    subst d0 d1 d2 d3 d4
    simp only [DataW.lit.injEq, Lit.int.injEq, Lit.bool.injEq, true_and] at k0 k1 k2 k3 k4
    subst k0 k1 k2 k3 k4
    simp only [List.cons.injEq, and_true] at h0 h1 h2 h3 h4
    rw [h0, h1, h2, h3, h4]
def rowD (r : RowD) {H : Type} : DataW H := .agg [.lit (.int .u8 r.name), .lit (.int .i64 r.least), .lit (.int .i64 r.most), .lit (.int .i64 r.sub), .lit (.bool r.schema)]
theorem rows_datum {H : Type} : Rows.laid_lyceum_syntax_rows = DataW.agg (H := H) (rowsL.map fun r => rowD r) := rfl
set_option maxRecDepth 20000 in
theorem rows_of {W : World} {g : Nat} {t : TypeId} {cs : Array Value} {fuel : Nat} {p : List MemPlace} (hg : Tryd.prog.globalNamed "lyceum/syntax.rows" = some g) (ht : (Tryd.prog.globals[g]?).map (·.type) = some t) (hv : W.var? Tryd.prog "lyceum/syntax.rows" = some cs)
    (hd : DataW.trod (fun _ => ()) Tryd.prog W 0 (fun _ => true) false fuel t cs.toList = some (Rows.laid_lyceum_syntax_rows, p)) : RTab W := by
  obtain rfl := Option.some.inj (gRows.symm.trans hg)
  obtain rfl := Option.some.inj (gRowsType.symm.trans ht)
  obtain ⟨xs, m, _, ex, hl, hlen, hel⟩ := DataW.trod_array Tryd.underlying142 hd
  rw [rows_datum] at ex
  have e3 : (xs.map (·.1)) = _ := (DataW.agg.inj (Prod.mk.inj ex).1).symm
  have hc := fun i => World.var?_cell hg hv i
  have key : ∀ k r, rowsL[k]? = some r → W.cell? ⟨1, k * 5, none⟩ = some (.int .u8 r.name) ∧ W.cell? ⟨1, k * 5 + 1, none⟩ = some (.int .i64 r.least) ∧ W.cell? ⟨1, k * 5 + 2, none⟩ = some (.int .i64 r.most) ∧
      W.cell? ⟨1, k * 5 + 3, none⟩ = some (.int .i64 r.sub) ∧ W.cell? ⟨1, k * 5 + 4, none⟩ = some (.bool r.schema) := by
    intro k r hr
    have hk : k < 17 := (List.getElem?_eq_some_iff.1 hr).1
    have hx : (xs.map (·.1))[k]? = some (rowD r) := by rw [e3, List.getElem?_map, hr]; rfl
    rw [List.getElem?_map] at hx
    obtain ⟨⟨y, p'⟩, hy, hy2⟩ := Option.map_eq_some_iff.1 hx
    simp only at hy2
    subst hy2
    have hr5 := row_cells ((hel k hk).trans hy)
    rw [cellsRow] at hr5
    have hget : ∀ j, j < 5 → cs[k * 5 + j]? = ([Value.int .u8 r.name, .int .i64 r.least, .int .i64 r.most, .int .i64 r.sub, .bool r.schema] : List Value)[j]? := by
      intro j hj
      have h1 : ((cs.toList.drop (k * 5)).take 5)[j]? = cs[k * 5 + j]? := by
        rw [List.getElem?_take_of_lt hj, List.getElem?_drop]
        simp
      rw [← h1, hr5]
    exact ⟨(hc _).trans (hget 0 (by decide)), (hc _).trans (hget 1 (by decide)), (hc _).trans (hget 2 (by decide)), (hc _).trans (hget 3 (by decide)), (hc _).trans (hget 4 (by decide))⟩
  refine ⟨?_, key⟩
  have h00 := (key 0 _ rfl).1
  exact World.block_lt_of_cell? W ⟨1, 0 * 5, none⟩ h00
theorem gLev : Tryd.prog.globalNamed "lyceum/parse.levels" = some 0 := by kernel_rfl
theorem gLevType : (Tryd.prog.globals[0]?).map (·.type) = some 123 := by kernel_rfl
theorem cellsLev : Tryd.prog.cellsOf 122 = 3 := by kernel_rfl
set_option maxRecDepth 20000 in
theorem lev_cells {H : Type} {enc : TypeId × Value → H} {w : World} {base : Nat} {sp : Nat → Bool} {held : Bool} {fuel : Nat} {cs : List Value} {a : List UInt8} {b : Int} {e : Bool} {p : List MemPlace}
    (h : DataW.trod enc Tryd.prog w base sp held fuel 122 cs = some (.agg [.lit (.string a), .lit (.int .u8 b), .lit (.bool e)], p)) : ∃ s : ByteArray, s.data.toList = a ∧ cs = [.string s, .int .u8 b, .bool e] := by
  obtain ⟨xs, n, _, hx, hl, hlen, hf⟩ := DataW.trod_struct Tryd.underlying122 h
  rw [cellsLev] at hl
  have e1 : (xs.map (·.1)) = _ := (DataW.agg.inj (Prod.mk.inj hx).1).symm
  match cs, hl with
  | [c0, c1, c2], _ =>
  match xs, e1 with
  | [x0, x1, x2], e1 =>
    simp only [List.map_cons, List.map_nil, List.cons.injEq, and_true] at e1
    obtain ⟨k0, k1, k2⟩ := e1
    have f0 : DataW.trod enc Tryd.prog w base sp held n 9 (([c0, c1, c2].drop 0).take (Tryd.prog.cellsOf 9)) = some x0 := hf 0 _ rfl
    have f1 : DataW.trod enc Tryd.prog w base sp held n 5 (([c0, c1, c2].drop 1).take (Tryd.prog.cellsOf 5)) = some x1 := hf 1 _ rfl
    have f2 : DataW.trod enc Tryd.prog w base sp held n 4 (([c0, c1, c2].drop 2).take (Tryd.prog.cellsOf 4)) = some x2 := hf 2 _ rfl
    rw [cells1.2.2] at f0
    rw [cells1.2.1] at f1
    rw [cells1.1] at f2
    simp only [List.drop_zero, List.drop_succ_cons, List.take_succ_cons, List.take_zero] at f0 f1 f2
    obtain ⟨z0, h0, d0, _⟩ := DataW.trod_string Tryd.underlying9 f0
    obtain ⟨z1, h1, d1, _⟩ := DataW.trod_int Tryd.underlying5 f1
    obtain ⟨z2, h2, d2⟩ := DataW.trod_bool Tryd.underlying4 f2
    subst d0 d1 d2
    simp only [DataW.lit.injEq, Lit.int.injEq, Lit.string.injEq, Lit.bool.injEq, true_and] at k0 k1 k2
    subst k1 k2
    simp only [List.cons.injEq, and_true] at h0 h1 h2
    exact ⟨z0, k0, by rw [h0, h1, h2]⟩
def levD {H : Type} (i : Nat) : DataW H := .agg [.lit (.string (lvS i).data.toList), .lit (.int .u8 (lvO i)), .lit (.bool (lvR i))]
theorem lev_datum {H : Type} : Rows.laid_lyceum_parse_levels = DataW.agg (H := H) ((List.range 5).map levD) := rfl
set_option maxRecDepth 20000 in
theorem levs_of {W : World} {g : Nat} {t : TypeId} {cs : Array Value} {fuel : Nat} {p : List MemPlace} (hg : Tryd.prog.globalNamed "lyceum/parse.levels" = some g) (ht : (Tryd.prog.globals[g]?).map (·.type) = some t) (hv : W.var? Tryd.prog "lyceum/parse.levels" = some cs)
    (hd : DataW.trod (fun _ => ()) Tryd.prog W 0 (fun _ => true) false fuel t cs.toList = some (Rows.laid_lyceum_parse_levels, p)) : LTab W W.heap.size := by
  obtain rfl := Option.some.inj (gLev.symm.trans hg)
  obtain rfl := Option.some.inj (gLevType.symm.trans ht)
  obtain ⟨xs, m, _, ex, hl, hlen, hel⟩ := DataW.trod_array Tryd.underlying123 hd
  rw [lev_datum] at ex
  have e3 : (xs.map (·.1)) = _ := (DataW.agg.inj (Prod.mk.inj ex).1).symm
  have hc := fun i => World.var?_cell hg hv i
  have key : ∀ i, i < 5 → W.cell? ⟨0, i * 3, none⟩ = some (.string (lvS i)) ∧ W.cell? ⟨0, i * 3 + 1, none⟩ = some (.int .u8 (lvO i)) ∧ W.cell? ⟨0, i * 3 + 2, none⟩ = some (.bool (lvR i)) := by
    intro k hk
    have hx : (xs.map (·.1))[k]? = some (levD k) := by rw [e3, List.getElem?_map, List.getElem?_range hk]; rfl
    rw [List.getElem?_map] at hx
    obtain ⟨⟨y, p'⟩, hy, hy2⟩ := Option.map_eq_some_iff.1 hx
    simp only at hy2
    subst hy2
    obtain ⟨z, hz, hr5⟩ := lev_cells ((hel k hk).trans hy)
    obtain rfl : z = lvS k := by
      cases z
      rename_i d
      have : d = (lvS k).data := Array.toList_inj.1 hz
      rw [this]
    rw [cellsLev] at hr5
    have hget : ∀ j, j < 3 → cs[k * 3 + j]? = ([Value.string (lvS k), .int .u8 (lvO k), .bool (lvR k)] : List Value)[j]? := by
      intro j hj
      have h1 : ((cs.toList.drop (k * 3)).take 3)[j]? = cs[k * 3 + j]? := by
        rw [List.getElem?_take_of_lt hj, List.getElem?_drop]
        simp
      rw [← h1, hr5]
    exact ⟨(hc _).trans (hget 0 (by decide)), (hc _).trans (hget 1 (by decide)), (hc _).trans (hget 2 (by decide))⟩
  refine ⟨?_, key⟩
  have h00 := (key 0 (by omega)).1
  exact World.block_lt_of_cell? W ⟨0, 0 * 3, none⟩ h00
set_option maxRecDepth 20000 in
theorem tabs_of_laid {W : World} (h : laidMetH Tryd.prog [("lyceum/syntax.rows", Rows.laid_lyceum_syntax_rows), ("lyceum/parse.levels", Rows.laid_lyceum_parse_levels)] W) : RTab W ∧ LTab W W.heap.size := by
  rw [MakeChecks.laidMetH_plain _ _ _ (by kernel_rfl)] at h
  obtain ⟨ps, ⟨g, t, cs, fuel, p, q, hg, ht, hv, hd, ⟨g', t', cs', fuel', p', q', hg', ht', hv', hd', _, _⟩, _⟩, _, _⟩ := h
  exact ⟨rows_of hg ht hv hd, levs_of hg' ht' hv' hd'⟩
end Go.Proofs.YtggkehncpkfakaaDoor.Ps

/-
  ParseBlanks returns true for every string: blanks between tokens change nothing in what is parsed, and nothing in the error or its token.
  The condition of the row: the tables of forms and of levels hold what the program's text lays in them (tied by the card).
-/
namespace Go.Proofs.YtggkehncpkfakaaDoor.ParseBlanksP
open Go Go.RowKit Go.ChangeShapes Go.WideShapes Go.ChangeAt Go.Proofs.YtggkehncpkfakaaDoor.Fm Go.Proofs.YtggkehncpkfakaaDoor.Ps Go.WideMaps Go.WideElems
open Go.ChangeMaps (open_string shut_string)
set_option linter.unusedVariables false
set_option linter.unusedSimpArgs false

set_option maxRecDepth 20000 in
theorem contract (H : Type) (enc : TypeId × Value → H) (W : World) (base : Nat) (args : Array Value) (ds gs : List (DataW H)) (before : List MemPlace)
    (hval : ∀ (j : Nat) t v, Tryd.f5.params[j]? = some t → args[j]? = some v → Value.okWide Tryd.prog W .any base t v)
    (hW : DataW.Whole enc Tryd.prog Tryd.f5.params.toList Rows.parseBlanksSpec.vars false W args.toList ds gs before) (hsz : (DataW.weightsEach Tryd.prog (Tryd.f5.params.toList ++ (OpenSpec.ofChange Rows.parseBlanksSpec).bare.plain.varTypes Tryd.prog) (ds ++ gs)).all (· ≤ reachBytes) = true) (hL : laidMetH Tryd.prog Rows.parseBlanksRow.laid W) :
    Calls Tryd.prog 5 args W fun e W' => ∃ v, e = .returned v ∧ Rows.parseBlanksSpec.post enc Tryd.prog Tryd.f5 false true false false W args v W' := by
  obtain ⟨hT, hLT⟩ := tabs_of_laid hL
  have hW' := hW
  obtain ⟨p, q, hA0, hV, rfl, hfz, hnd⟩ := hW
  have hA : DataW.TrodAll enc Tryd.prog W 0 (fun _ => true) true Tryd.f5.params.toList args.toList ds p := hA0
  rw [Tryd.params5] at hA hval hsz
  obtain ⟨v0, vs0, d0, ds0, p0, q0, hargs, rfl, rfl, h0, r0⟩ := trodAll_cons hA
  obtain ⟨rfl, rfl, rfl⟩ := trodAll_nil r0
  obtain rfl : args = #[v0] := by cases args; simp_all
  obtain ⟨rfl, rfl⟩ := trodVars_none hV
  simp only [List.append_nil] at hW'
  obtain ⟨x0, rfl, rfl, rfl, hs0⟩ := open_string Tryd.underlying9 (hval 0 9 v0 rfl rfl) h0
  clear hA0
  refine (show Calls Tryd.prog 5 #[.string x0] W fun e w' => e = .returned (.bool true) ∧ Below W.heap.size W w' from blanks_c x0 W hT hLT (awake_c W hT hLT)).mono fun e W' ⟨he, hg⟩ => ?_
  subst he
  exact ⟨_, rfl, _, _, _, [], _, [], hW', trodAll_cons_mk (shut_bool Tryd.underlying4 _) trodAll_mk0, (trodAll_cons_mk (shut_string Tryd.underlying9 hs0) trodAll_mk0), rfl, hg.frame _, fun h => by cases h⟩

def putCells (cs : List Value) : Obj → Obj
  | .cells _ t frozen => .cells cs.toArray t frozen
  | o => o
noncomputable def laidWorld (os : Os) : World :=
  { World.holding Tryd.prog os ⟨#[], #[], []⟩ with heap := ((World.holding Tryd.prog os ⟨#[], #[], []⟩).heap.modify 1 (putCells (rowsL.flatMap fun r => [Value.int .u8 r.name, .int .i64 r.least, .int .i64 r.most, .int .i64 r.sub, .bool r.schema]))).modify 0 (putCells ((List.range 5).flatMap fun i => [Value.string (lvS i), .int .u8 (lvO i), .bool (lvR i)])) }
set_option maxRecDepth 20000 in
theorem laid_met (os : Os) : laidMet Tryd.prog Rows.parseBlanksRow.laid ((laidWorld os).forCall (fun _ _ => 0) ⟨#[], #[.string ⟨#[]⟩], []⟩).memory :=
  laidMet_of_run' 10 (by kernel_rfl) (by kernel_rfl)
theorem reads (os : Os) {H : Type} (enc : TypeId × Value → H) : ∃ places, DataW.whole enc Tryd.prog ((laidWorld os).forCall (fun _ _ => 0) ⟨#[], #[.string ⟨#[]⟩], []⟩).memory Tryd.f5.params.toList Rows.parseBlanksSpec.vars false (#[.string ⟨#[]⟩] : Array Value).toList 8 = some ([.lit (.string [])], [], places) :=
  ⟨[], by kernel_rfl⟩

set_option maxRecDepth 100000 in
theorem lifted (os : Os) (started : os.Started) (H : Type) (enc : TypeId × Value → H) (F : Stop.Interp) :
    ReturnsInHanded {} Tryd.checked os 5 .any ((OpenSpec.ofChange Rows.parseBlanksSpec).preRow enc Tryd.prog Tryd.f5 Rows.parseBlanksRow.domain false Rows.parseBlanksRow.laid) (((OpenSpec.ofChange Rows.parseBlanksSpec).at F).post enc Tryd.prog Tryd.f5 false true false false) := by
  obtain ⟨places, hx⟩ := reads os enc
  refine returnsInHanded_of_row (C := Tryd.checked) (s := OpenSpec.ofChange Rows.parseBlanksSpec) own started (by kernel_rfl) Tryd.func5
    (witness_row_at (enc := enc) (C := Tryd.checked) false (laidWorld os) #[.string ⟨#[]⟩] rfl (by kernel_rfl) (by kernel_rfl) (by kernel_rfl)
      (OpenSpec.preRow_of_cond 8 hx (by kernel_rfl) (fun k hk => by cases hk) (by kernel_rfl) (laid_met os))) ?_
  intro W base args ds gs before hval hW _ _ hsz hL _ _
  exact contract H enc W base args ds gs before hval hW hsz hL

theorem said : Rows.ParseBlanksSaid :=
  OpenClaim.holds_of_cond 5 Tryd.f5 rfl rfl rfl rfl rfl rfl rfl ⟨rfl, rfl, rfl, rfl, rfl⟩ rfl rfl rfl rfl rfl (by kernel_rfl) Tryd.func5 (by kernel_rfl)
    (of_decide_eq_true (by kernel_rfl)) (by unfold Func.isWrapper; first | (rw [if_pos (by decide +kernel)]; kernel_rfl) | (rw [if_neg (by decide +kernel)]; exact ⟨rfl, rfl⟩))
    (fun os started H enc _ F => by rw [OpenClaim.pre_eq_preRow]; exact lifted os started H enc F)

theorem plain (f : FuncId) (fn : Func) (hf : Tryd.pinned.checked.prog.funcNamed "lyceum/lyceumlaw05.ParseBlanks" = some f) (hfn : Tryd.pinned.checked.prog.funcs[f]? = some fn) :
    true = Tryd.pinned.checked.prog.looks [] ∧ ∀ (j : Nat) t, fn.params[j]? = some t → Tryd.pinned.checked.prog.wantsStandIn t = false := by
  obtain rfl : f = 5 := Option.some.inj ((show Tryd.prog.funcNamed "lyceum/lyceumlaw05.ParseBlanks" = some 5 by kernel_rfl).symm.trans hf) |>.symm
  obtain rfl : fn = Tryd.f5 := (Option.some.inj (Tryd.func5.symm.trans hfn)).symm
  refine ⟨by kernel_rfl, fun j t ht => ?_⟩
  rw [Tryd.params5] at ht
  have hm : t ∈ [9] := by simpa using Array.mem_of_getElem? ht
  have hall : ([9].all fun u => !Tryd.prog.wantsStandIn u) = true := by kernel_rfl
  exact (show Tryd.prog.wantsStandIn t = false by simpa using List.all_eq_true.1 hall t hm)

theorem card : Rows.ParseBlanksCardSaid :=
  Claim7.holds_tied_plain_at .later [] _ _ _ _ said (fun _ h => by cases h) (by kernel_rfl) (fun _ h => by cases h) parseBlanks_row_tie rfl ⟨rfl, rfl⟩ (by kernel_rfl) rfl plain (by kernel_rfl)
#print axioms card
end Go.Proofs.YtggkehncpkfakaaDoor.ParseBlanksP
