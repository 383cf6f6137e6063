/-
  The contracts of copyList at terms and of copyTerm: a copy in memory of its own.
-/
import Derived.Test.YtnadjkofjgpabaaDoorFmOwn
namespace Go.Proofs.YtnadjkofjgpabaaDoor.Fm
open Go Go.RowKit Go.Shelf
set_option linter.unusedVariables false
set_option linter.unusedSimpArgs false
theorem infoT : (Tryd.prog.info? 50).map (fun i => (i.zero, i.size, i.bytes)) = some (some (.agg #[.bool false, .string ByteArray.empty, .slice none 0 0]), 3, 48) := by kernel_rfl
def zerT (n : Nat) : Array Value := madeCells #[.bool false, .string ByteArray.empty, .slice none 0 0] (n * 3)
theorem make_terms (n : Nat) (h : n ≤ 2932031007402) (w : World) :
    (Instr.makeSlice 22 (.int .i64 (n : Int)) (.int .i64 (n : Int))).run Tryd.prog w = .ok (.slice (some ⟨w.heap.size, 0, none⟩) n n) (w.alloc (.cells (zerT n) 50)) := by
  obtain ⟨i0, hi, hz0, hz1, hz2⟩ := info_parts infoT
  have := run_make w 22 50 i0 _ Tryd.underlying22 hi hz0 .i64 .i64 (n : Int) (n : Int) (by omega) (by omega) (by rw [hz2]; omega) (by omega)
  rw [this, hz1]
  simp [zerT, Value.cells]
theorem free_made (w : World) (z : Array Value) (hz : 0 < z.size) (m : Nat) (t : TypeId) : Free (w.alloc (.cells (madeCells z m) t)) w.heap.size m := by
  refine ⟨by simp, fun j hj => ⟨?_, by rw [World.frozen?_alloc_at _ _ _ _ rfl]⟩⟩
  rw [World.cell?_alloc_at _ _ _ _ rfl]
  simp [madeCells, hj]
theorem two_boxesT (w : World) (c d : Array Value) (t : TypeId) : (∀ q, ((w.alloc (.cells c t)).alloc (.cells d t)).cell? ⟨w.heap.size, q, none⟩ = c[q]?) ∧ (∀ q, ((w.alloc (.cells c t)).alloc (.cells d t)).cell? ⟨w.heap.size + 1, q, none⟩ = d[q]?) ∧
    (∀ q, ((w.alloc (.cells c t)).alloc (.cells d t)).frozen? ⟨w.heap.size, q, none⟩ = false) ∧ (∀ q, ((w.alloc (.cells c t)).alloc (.cells d t)).frozen? ⟨w.heap.size + 1, q, none⟩ = false) := by
  have h1 : (w.alloc (.cells c t)).heap.size = w.heap.size + 1 := by simp
  refine ⟨fun q => ?_, fun q => ?_, fun q => ?_, fun q => ?_⟩
  · rw [((Below.refl _ _).alloc (Nat.le_refl _) (.cells d t)).cell (p := ⟨w.heap.size, q, none⟩) (by rw [h1]; show w.heap.size < _; omega), World.cell?_alloc_at _ _ _ _ rfl]
  · rw [World.cell?_alloc_at _ _ _ _ h1.symm]
  · rw [((Below.refl _ _).alloc (Nat.le_refl _) (.cells d t)).frozen (p := ⟨w.heap.size, q, none⟩) (by rw [h1]; show w.heap.size < _; omega), World.frozen?_alloc_at _ _ _ _ rfl]
  · rw [World.frozen?_alloc_at _ _ _ _ h1.symm]
/-- What copying terms gives: the same terms in memory that was not there. -/
def CopTs (l : List Tm) (w : World) (e : Ending) (w' : World) : Prop := ∃ a c, e = .returned (.slice a l.length c) ∧ SlTD (fun b => w.heap.size ≤ b ∧ b < w'.heap.size) w' (.slice a l.length c) l ∧ Below w.heap.size w w'
def CopT (t : Tm) (w : World) (e : Ending) (w' : World) : Prop := ∃ a c, e = .returned (.agg #[.bool t.v, .string t.n, .slice a t.args.length c]) ∧ SlTD (fun b => w.heap.size ≤ b ∧ b < w'.heap.size) w' (.slice a t.args.length c) t.args ∧ Below w.heap.size w w'
def CopRel (l : List Tm) (R : Nat) (w : World) (i : Value) (wr : World) : Prop := ∃ q : Nat, i = .int .i64 (q : Int) ∧ q ≤ l.length ∧ Below R w wr ∧ Free wr R (l.length * 3) ∧ TsD (fun b => R < b ∧ b < wr.heap.size) wr R 0 (l.take q)
/-- Three cells of a row that has been made. -/
theorem set3 {W : World} {R m i : Nat} (h : Free W R m) (hi : i + 2 < m) (x y z : Value) :
    Free (((W.setCell ⟨R, i, none⟩ x).setCell ⟨R, i + 1, none⟩ y).setCell ⟨R, i + 2, none⟩ z) R m ∧ Below R W (((W.setCell ⟨R, i, none⟩ x).setCell ⟨R, i + 1, none⟩ y).setCell ⟨R, i + 2, none⟩ z) ∧
    (∀ b, b ≠ R → ∀ q, (((W.setCell ⟨R, i, none⟩ x).setCell ⟨R, i + 1, none⟩ y).setCell ⟨R, i + 2, none⟩ z).cell? ⟨b, q, none⟩ = W.cell? ⟨b, q, none⟩) ∧
    (∀ q, q < i → (((W.setCell ⟨R, i, none⟩ x).setCell ⟨R, i + 1, none⟩ y).setCell ⟨R, i + 2, none⟩ z).cell? ⟨R, q, none⟩ = W.cell? ⟨R, q, none⟩) ∧
    (((W.setCell ⟨R, i, none⟩ x).setCell ⟨R, i + 1, none⟩ y).setCell ⟨R, i + 2, none⟩ z).cell? ⟨R, i, none⟩ = some x ∧
    (((W.setCell ⟨R, i, none⟩ x).setCell ⟨R, i + 1, none⟩ y).setCell ⟨R, i + 2, none⟩ z).cell? ⟨R, i + 1, none⟩ = some y ∧
    (((W.setCell ⟨R, i, none⟩ x).setCell ⟨R, i + 1, none⟩ y).setCell ⟨R, i + 2, none⟩ z).cell? ⟨R, i + 2, none⟩ = some z := by
  have f1 := h.set i x (by omega)
  have f2 := f1.set (i + 1) y (by omega)
  have f3 := f2.set (i + 2) z (by omega)
  refine ⟨f3, (((Below.refl R W).setCell (p := ⟨R, i, none⟩) (Nat.le_refl _) x).setCell (p := ⟨R, i + 1, none⟩) (Nat.le_refl _) y).setCell (p := ⟨R, i + 2, none⟩) (Nat.le_refl _) z, fun b hb q => ?_, fun q hq => ?_, ?_, ?_, ?_⟩
  · rw [World.cell?_of_block (Below.heap_setCell _ ⟨R, i + 2, none⟩ z b hb), World.cell?_of_block (Below.heap_setCell _ ⟨R, i + 1, none⟩ y b hb), World.cell?_of_block (Below.heap_setCell _ ⟨R, i, none⟩ x b hb)]
  · rw [cell_set_other _ _ _ _ _ (by omega), cell_set_other _ _ _ _ _ (by omega), cell_set_other _ _ _ _ _ (by omega)]
  · rw [cell_set_other _ _ _ _ _ (by omega), cell_set_other _ _ _ _ _ (by omega), World.cell?_setCell_same' _ _ _ (h.2 i (by omega)).1]
  · rw [cell_set_other _ _ _ _ _ (by omega), World.cell?_setCell_same' _ _ _ (f1.2 (i + 1) (by omega)).1]
  · rw [World.cell?_setCell_same' _ _ _ (f2.2 (i + 2) (by omega)).1]
set_option maxHeartbeats 1000000 in
theorem copyLT_c (l : List Tm) (va : Value) (dn : Nat) (w : World) (ha : SlT dn w va l) (hd : dn ≤ w.heap.size)
    (hc : ∀ t ∈ l, ∀ (x0 x1 x2 : Value) (W : World), TmV dn W x0 x1 x2 t → dn ≤ W.heap.size → Calls Tryd.prog 63 #[.agg #[x0, x1, x2]] W (CopT t W)) :
    Calls Tryd.prog 62 #[va, .func (.func 63) #[] #[]] w (CopTs l w) := by
  obtain ⟨⟨sa, ka, rfl⟩, hla⟩ := ha.form
  have HC := Lib.hid hc
  clear hc
  by_cases h0 : l.length = 0
  · have hl : l = [] := List.eq_nil_of_length_eq_zero h0
    subst hl
    clear h0
    go_enter Tryd.func62, Tryd.ntmps62
    go_wp2_with fail
    go_ret
    exact ⟨none, 0, rfl, ⟨none, 0, 0, 0, rfl, by simp, .inl rfl, by simp [TsD]⟩, Below.refl _ _⟩
  · have hb0 : ((l.length : Int) == 0) = false := beq_eq_false_iff_ne.2 (by omega)
    have hmk := make_terms l.length hla
    have hfr := free_made w #[.bool false, .string ByteArray.empty, .slice none 0 0] (by simp) (l.length * 3) 50
    have hbm : Below w.heap.size w (w.alloc (.cells (zerT l.length) 50)) := (Below.refl _ _).alloc (Nat.le_refl _) _
    obtain ⟨R, hR⟩ : ∃ R, w.heap.size = R := ⟨_, rfl⟩
    have HRR := Lib.hid hR
    rw [hR] at hfr hbm hd
    go_enter Tryd.func62, Tryd.ntmps62
    go_wp2_with fail
    clear hb0 h0 hmk hR
    go_loopw [16] (fun i wr => CopRel l R w i wr) (fun i _ => l.length - (intOf i).toNat)
    case atStart => exact ⟨0, rfl, Nat.zero_le _, hbm, hfr, by simp [TsD]⟩
    case round =>
      clear hbm hfr
      obtain ⟨q, rfl, hq, hbq, hfq, htq⟩ := hrel
      have HTQ := Lib.hid htq
      clear htq
      by_cases hlt : q < l.length
      · obtain ⟨_, b, o, rfl, hbn, u0, u1, u2, c0, c1, c2, hu⟩ := (ha.below (hbq.mono hd) (Nat.le_refl _)).get hlt
        have hzr := hfq.1
        obtain ⟨⟨au, ku, hu2⟩, _⟩ := hu.args.form
        have z0 := hu.v
        have z1 := hu.nm
        have HOK := Lib.hid hu.ok
        subst hu2 z0 z1
        have hb3 : Below wr.heap.size wr (wr.alloc (.cells #[.bool l[q].v, .string l[q].n, .slice au l[q].args.length ku] 50)) := (Below.refl _ _).alloc (Nat.le_refl _) _
        have hcc := Lib.hid (HC.out l[q] (List.getElem_mem hlt) _ _ _ _ (hu.below hb3 (by omega)) (by simp; omega))
        have hfx := hfq.below hb3
        clear hu
        go_wp2_with fail
        refine hcc.out.mono ?_
        clear hcc
        rintro e w1 ⟨a2, k2, rfl, htd, hb4⟩
        have hf1 := hfx.below hb4
        have hs3 := set3 hf1 (show q * 3 + 2 < l.length * 3 by omega) (.bool l[q].v) (.string l[q].n) (.slice a2 l[q].args.length k2)
        obtain ⟨e0, g0⟩ := hf1.2 (q * 3) (by omega)
        obtain ⟨e1, g1⟩ := hf1.2 (q * 3 + 1) (by omega)
        obtain ⟨e2, g2⟩ := hf1.2 (q * 3 + 2) (by omega)
        obtain ⟨y0, e0⟩ := Option.isSome_iff_exists.1 e0
        obtain ⟨y1, e1⟩ := Option.isSome_iff_exists.1 e1
        obtain ⟨y2, e2⟩ := Option.isSome_iff_exists.1 e2
        have HS3 := Lib.hid hs3
        have HTD := Lib.hid htd
        have hz4 := hb4.size
        rw [World.size_alloc] at hz4
        clear hs3 htd
        have hz5 := HS3.out.2.1.size
        go_wp2_with fail
        refine ⟨⟨q + 1, by go_num, by omega, ((hbq.trans (hb3.mono (by omega))).trans (hb4.mono (by simp; omega))).trans HS3.out.2.1, HS3.out.1, ?_⟩, by simp [intOf]; omega⟩
        have hlen : (l.take q).length = q := by rw [List.length_take]; omega
        rw [List.take_succ_eq_append_getElem hlt]
        refine TsD.snoc (l.take q) R 0 l[q] (.slice a2 l[q].args.length k2) (TsD.keep (D := fun b => R < b ∧ b < wr.heap.size) (fun b hb j => ?_) (fun b hb => ⟨hb.1, by omega⟩) (l.take q) (fun j _ hj => ?_) HTQ.out) ?_ ?_ HOK.out ?_ (HTD.out.keep (fun b hb j => HS3.out.2.2.1 b (by have := hb.1; simp at this; omega) j) fun b hb => ⟨by have := hb.1; simp at this; omega, by have := hb.2; omega⟩)
        · rw [HS3.out.2.2.1 b (by omega) j, hb4.cell (p := ⟨b, j, none⟩) (by simp; omega), hb3.cell (p := ⟨b, j, none⟩) (show b < _ by omega)]
        · rw [hlen] at hj
          rw [HS3.out.2.2.2.1 j (by omega), hb4.cell (p := ⟨R, j, none⟩) (by simp; omega), hb3.cell (p := ⟨R, j, none⟩) (show R < _ by omega)]
        · rw [hlen, Nat.zero_add]; exact HS3.out.2.2.2.2.1
        · rw [hlen, Nat.zero_add]; exact HS3.out.2.2.2.2.2.1
        · rw [hlen, Nat.zero_add]; exact HS3.out.2.2.2.2.2.2
      · have e : q = l.length := by omega
        have hT := Lib.hid (show TsD (fun b => w.heap.size ≤ b ∧ b < wr.heap.size) wr R 0 l by
          have h := HTQ.out
          rw [e, List.take_length] at h
          exact TsD.keep (fun _ _ _ => rfl) (fun b hb => ⟨by have := HRR.out; omega, hb.2⟩) l (fun _ _ _ => rfl) h)
        have hRw := hfq.1
        clear e
        go_wp2_with fail
        go_ret
        exact ⟨some ⟨R, 0, none⟩, l.length, rfl, ⟨_, _, R, 0, rfl, hla, .inr ⟨rfl, by have := HRR.out; omega, hRw⟩, hT.out⟩, by rw [HRR.out]; exact hbq⟩
set_option maxHeartbeats 1000000 in
theorem copyT_c (N : Nat) : ∀ (t : Tm), SizeOf.sizeOf t < N → ∀ (x0 x1 x2 : Value) (dn : Nat) (w : World), TmV dn w x0 x1 x2 t → dn ≤ w.heap.size → Calls Tryd.prog 63 #[.agg #[x0, x1, x2]] w (CopT t w) := by
  induction N with
  | zero => exact fun t h => absurd h (Nat.not_lt_zero _)
  | succ N ih =>
    intro t hN x0 x1 x2 dn w ht hd
    obtain ⟨rfl, rfl, _, ha⟩ := ht
    obtain ⟨⟨sa, ka, rfl⟩, hla⟩ := ha.form
    have hb0 : Below w.heap.size w ((w.alloc (.cells #[.bool t.v, .string t.n, .slice sa t.args.length ka] 50)).alloc (.cells #[.bool false, .string ByteArray.empty, .slice none 0 0] 50)) := ((Below.refl _ _).alloc (Nat.le_refl _) _).alloc (by simp) _
    have H2 := Lib.hid (two_boxesT w #[.bool t.v, .string t.n, .slice sa t.args.length ka] #[.bool false, .string ByteArray.empty, .slice none 0 0] 50)
    have HL := Lib.hid (copyLT_c t.args _ dn _ (ha.below hb0 hd) (by simp; omega) fun t' ht' x0 x1 x2 W h1 h2 => by
      obtain ⟨q, hq, rfl⟩ := List.getElem_of_mem ht'
      exact ih _ (by have := size_arg t q hq; omega) x0 x1 x2 dn W h1 h2)
    clear ha ih
    go_enter Tryd.func63, Tryd.ntmps63
    go_wp2_with fail
    refine HL.out.mono ?_
    rintro e w1 ⟨a2, k2, rfl, htd, hb⟩
    have hzw := hb.size
    simp only [World.size_alloc] at hb htd hzw
    obtain ⟨p1, p2, p3, p4⟩ := H2.out
    have c0 := (hb.cell (p := ⟨w.heap.size, 0, none⟩) (show w.heap.size < w.heap.size + 1 + 1 by omega)).trans (p1 0)
    have c1 := (hb.cell (p := ⟨w.heap.size, 1, none⟩) (show w.heap.size < w.heap.size + 1 + 1 by omega)).trans (p1 1)
    have c2 := (hb.cell (p := ⟨w.heap.size, 2, none⟩) (show w.heap.size < w.heap.size + 1 + 1 by omega)).trans (p1 2)
    have d0 := (hb.cell (p := ⟨w.heap.size + 1, 0, none⟩) (show w.heap.size + 1 < w.heap.size + 1 + 1 by omega)).trans (p2 0)
    have d1 := (hb.cell (p := ⟨w.heap.size + 1, 1, none⟩) (show w.heap.size + 1 < w.heap.size + 1 + 1 by omega)).trans (p2 1)
    have d2 := (hb.cell (p := ⟨w.heap.size + 1, 2, none⟩) (show w.heap.size + 1 < w.heap.size + 1 + 1 by omega)).trans (p2 2)
    have f2 := (hb.frozen (p := ⟨w.heap.size, 2, none⟩) (show w.heap.size < w.heap.size + 1 + 1 by omega)).trans (p3 2)
    have h0 := (hb.frozen (p := ⟨w.heap.size + 1, 0, none⟩) (show w.heap.size + 1 < w.heap.size + 1 + 1 by omega)).trans (p4 0)
    have h1 := (hb.frozen (p := ⟨w.heap.size + 1, 1, none⟩) (show w.heap.size + 1 < w.heap.size + 1 + 1 by omega)).trans (p4 1)
    have h2 := (hb.frozen (p := ⟨w.heap.size + 1, 2, none⟩) (show w.heap.size + 1 < w.heap.size + 1 + 1 by omega)).trans (p4 2)
    simp only [List.getElem?_toArray, List.getElem?_cons_zero, List.getElem?_cons_succ] at c0 c1 c2 d0 d1 d2
    have hzF : w.heap.size + 1 < w1.heap.size := by omega
    have hzF2 : w.heap.size < w1.heap.size := by omega
    have HTD := Lib.hid htd
    have HB := Lib.hid (hb0.trans (hb.mono (by omega)))
    clear H2 p1 p2 p3 p4 htd hb HL hb0
    go_wp2_with fail
    refine bodyPost_ret (v := .agg #[.bool t.v, .string t.n, .slice a2 t.args.length k2]) (by simp [results, Tryd.results63, go_sem, d0, d1, d2]) rfl ?_
    refine ⟨a2, k2, rfl, HTD.out.keep (fun b hb j => ?_) (fun b hb => ⟨by omega, ?_⟩), (((HB.out.setCell (p := ⟨w.heap.size, 2, none⟩) (Nat.le_refl _) _).setCell (p := ⟨w.heap.size + 1, 0, none⟩) (Nat.le_succ _) _).setCell (p := ⟨w.heap.size + 1, 1, none⟩) (Nat.le_succ _) _).setCell (p := ⟨w.heap.size + 1, 2, none⟩) (Nat.le_succ _) _⟩
    · rw [World.cell?_of_block (Below.heap_setCell _ ⟨w.heap.size + 1, 2, none⟩ _ b (by show b ≠ w.heap.size + 1; omega)), World.cell?_of_block (Below.heap_setCell _ ⟨w.heap.size + 1, 1, none⟩ _ b (by show b ≠ w.heap.size + 1; omega)),
        World.cell?_of_block (Below.heap_setCell _ ⟨w.heap.size + 1, 0, none⟩ _ b (by show b ≠ w.heap.size + 1; omega)), World.cell?_of_block (Below.heap_setCell _ ⟨w.heap.size, 2, none⟩ _ b (by show b ≠ w.heap.size; omega))]
    · have := hb.2
      simp
      omega
end Go.Proofs.YtnadjkofjgpabaaDoor.Fm
