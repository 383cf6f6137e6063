/-
  The contracts of copyList at formulas and of Copy: a copy in memory of its own.
-/
import Derived.Test.YtnadjkofjgpabaaDoorFmCopyT
namespace Go.Proofs.YtnadjkofjgpabaaDoor.Fm
open Go Go.RowKit Go.Shelf
set_option linter.unusedVariables false
set_option linter.unusedSimpArgs false
theorem infoF : (Tryd.prog.info? 25).map (fun i => (i.zero, i.size, i.bytes)) = some (some (.agg #[.int .u8 0, .string ByteArray.empty, .slice none 0 0, .slice none 0 0]), 4, 72) := by kernel_rfl
def zerF (n : Nat) : Array Value := madeCells #[.int .u8 0, .string ByteArray.empty, .slice none 0 0, .slice none 0 0] (n * 4)
theorem make_forms (n : Nat) (h : n ≤ 1954687338268) (w : World) :
    (Instr.makeSlice 23 (.int .i64 (n : Int)) (.int .i64 (n : Int))).run Tryd.prog w = .ok (.slice (some ⟨w.heap.size, 0, none⟩) n n) (w.alloc (.cells (zerF n) 25)) := by
  obtain ⟨i0, hi, hz0, hz1, hz2⟩ := info_parts infoF
  have := run_make w 23 25 i0 _ Tryd.underlying23 hi hz0 .i64 .i64 (n : Int) (n : Int) (by omega) (by omega) (by rw [hz2]; omega) (by omega)
  rw [this, hz1]
  simp [zerF, Value.cells]
/-- What copying formulas gives: the same formulas in memory that was not there. -/
def CopFs (l : List Fo) (w : World) (e : Ending) (w' : World) : Prop := ∃ a c, e = .returned (.slice a l.length c) ∧ SlFD (fun b => w.heap.size ≤ b ∧ b < w'.heap.size) w' (.slice a l.length c) l ∧ Below w.heap.size w w'
def CopF (t : Fo) (w : World) (e : Ending) (w' : World) : Prop := ∃ a c a' c', e = .returned (.agg #[.int .u8 t.op, .string t.n, .slice a t.args.length c, .slice a' t.sub.length c']) ∧ SlTD (fun b => w.heap.size ≤ b ∧ b < w'.heap.size) w' (.slice a t.args.length c) t.args ∧
  SlFD (fun b => w.heap.size ≤ b ∧ b < w'.heap.size) w' (.slice a' t.sub.length c') t.sub ∧ Below w.heap.size w w'
def CopRelF (l : List Fo) (R : Nat) (w : World) (i : Value) (wr : World) : Prop := ∃ q : Nat, i = .int .i64 (q : Int) ∧ q ≤ l.length ∧ Below R w wr ∧ Free wr R (l.length * 4) ∧ FsD (fun b => R < b ∧ b < wr.heap.size) wr R 0 (l.take q)
theorem set4 {W : World} {R m i : Nat} (h : Free W R m) (hi : i + 3 < m) (x y z u : Value) :
    Free ((((W.setCell ⟨R, i, none⟩ x).setCell ⟨R, i + 1, none⟩ y).setCell ⟨R, i + 2, none⟩ z).setCell ⟨R, i + 3, none⟩ u) R m ∧ Below R W ((((W.setCell ⟨R, i, none⟩ x).setCell ⟨R, i + 1, none⟩ y).setCell ⟨R, i + 2, none⟩ z).setCell ⟨R, i + 3, none⟩ u) ∧
    (∀ b, b ≠ R → ∀ q, ((((W.setCell ⟨R, i, none⟩ x).setCell ⟨R, i + 1, none⟩ y).setCell ⟨R, i + 2, none⟩ z).setCell ⟨R, i + 3, none⟩ u).cell? ⟨b, q, none⟩ = W.cell? ⟨b, q, none⟩) ∧
    (∀ q, q < i → ((((W.setCell ⟨R, i, none⟩ x).setCell ⟨R, i + 1, none⟩ y).setCell ⟨R, i + 2, none⟩ z).setCell ⟨R, i + 3, none⟩ u).cell? ⟨R, q, none⟩ = W.cell? ⟨R, q, none⟩) ∧
    ((((W.setCell ⟨R, i, none⟩ x).setCell ⟨R, i + 1, none⟩ y).setCell ⟨R, i + 2, none⟩ z).setCell ⟨R, i + 3, none⟩ u).cell? ⟨R, i, none⟩ = some x ∧
    ((((W.setCell ⟨R, i, none⟩ x).setCell ⟨R, i + 1, none⟩ y).setCell ⟨R, i + 2, none⟩ z).setCell ⟨R, i + 3, none⟩ u).cell? ⟨R, i + 1, none⟩ = some y ∧
    ((((W.setCell ⟨R, i, none⟩ x).setCell ⟨R, i + 1, none⟩ y).setCell ⟨R, i + 2, none⟩ z).setCell ⟨R, i + 3, none⟩ u).cell? ⟨R, i + 2, none⟩ = some z ∧
    ((((W.setCell ⟨R, i, none⟩ x).setCell ⟨R, i + 1, none⟩ y).setCell ⟨R, i + 2, none⟩ z).setCell ⟨R, i + 3, none⟩ u).cell? ⟨R, i + 3, none⟩ = some u := by
  obtain ⟨f3, b3, o3, l3, e0, e1, e2⟩ := set3 h (show i + 2 < m by omega) x y z
  have f4 := f3.set (i + 3) u (by omega)
  refine ⟨f4, b3.setCell (p := ⟨R, i + 3, none⟩) (Nat.le_refl _) u, fun b hb q => ?_, fun q hq => ?_, ?_, ?_, ?_, ?_⟩
  · rw [World.cell?_of_block (Below.heap_setCell _ ⟨R, i + 3, none⟩ u b hb)]; exact o3 b hb q
  · rw [cell_set_other _ _ _ _ _ (by omega)]; exact l3 q hq
  · rw [cell_set_other _ _ _ _ _ (by omega)]; exact e0
  · rw [cell_set_other _ _ _ _ _ (by omega)]; exact e1
  · rw [cell_set_other _ _ _ _ _ (by omega)]; exact e2
  · rw [World.cell?_setCell_same' _ _ _ (f3.2 (i + 3) (by omega)).1]
set_option maxHeartbeats 1000000 in
theorem copyLF_c (l : List Fo) (va : Value) (dn : Nat) (w : World) (ha : SlF dn w va l) (hd : dn ≤ w.heap.size)
    (hc : ∀ t ∈ l, ∀ (x0 x1 x2 x3 : Value) (W : World), FoV dn W x0 x1 x2 x3 t → dn ≤ W.heap.size → Calls Tryd.prog 42 #[.agg #[x0, x1, x2, x3]] W (CopF t W)) :
    Calls Tryd.prog 64 #[va, .func (.func 42) #[] #[]] w (CopFs l w) := by
  obtain ⟨⟨sa, ka, rfl⟩, hla⟩ := ha.form
  have HC := Lib.hid hc
  clear hc
  by_cases h0 : l.length = 0
  · have hl : l = [] := List.eq_nil_of_length_eq_zero h0
    subst hl
    clear h0
    go_enter Tryd.func64, Tryd.ntmps64
    go_wp2_with fail
    go_ret
    exact ⟨none, 0, rfl, ⟨none, 0, 0, 0, rfl, by simp, .inl rfl, by simp [FsD]⟩, Below.refl _ _⟩
  · have hb0 : ((l.length : Int) == 0) = false := beq_eq_false_iff_ne.2 (by omega)
    have hmk := make_forms l.length hla
    have hfr := free_made w #[.int .u8 0, .string ByteArray.empty, .slice none 0 0, .slice none 0 0] (by simp) (l.length * 4) 25
    have hbm : Below w.heap.size w (w.alloc (.cells (zerF l.length) 25)) := (Below.refl _ _).alloc (Nat.le_refl _) _
    obtain ⟨R, hR⟩ : ∃ R, w.heap.size = R := ⟨_, rfl⟩
    have HRR := Lib.hid hR
    rw [hR] at hfr hbm hd
    go_enter Tryd.func64, Tryd.ntmps64
    go_wp2_with fail
    clear hb0 h0 hmk hR
    go_loopw [16] (fun i wr => CopRelF l R w i wr) (fun i _ => l.length - (intOf i).toNat)
    case atStart => exact ⟨0, rfl, Nat.zero_le _, hbm, hfr, by simp [FsD]⟩
    case round =>
      clear hbm hfr
      obtain ⟨q, rfl, hq, hbq, hfq, htq⟩ := hrel
      have HTQ := Lib.hid htq
      clear htq
      by_cases hlt : q < l.length
      · obtain ⟨_, b, o, rfl, hbn, u0, u1, u2, u3, c0, c1, c2, c3, hu⟩ := (ha.below (hbq.mono hd) (Nat.le_refl _)).get hlt
        have hzr := hfq.1
        obtain ⟨⟨au, ku, hu2⟩, _⟩ := hu.args.form
        obtain ⟨⟨av, kv, hu3⟩, _⟩ := hu.sub.form
        have z0 := hu.op
        have z1 := hu.nm
        have HOK := Lib.hid hu.ok
        have hop := hu.bd
        subst hu2 hu3 z0 z1
        have hb3 : Below wr.heap.size wr (wr.alloc (.cells #[.int .u8 l[q].op, .string l[q].n, .slice au l[q].args.length ku, .slice av l[q].sub.length kv] 25)) := (Below.refl _ _).alloc (Nat.le_refl _) _
        have hcc := Lib.hid (HC.out l[q] (List.getElem_mem hlt) _ _ _ _ _ (hu.below hb3 (by omega)) (by simp; omega))
        have hfx := hfq.below hb3
        clear hu
        go_wp2_with fail
        refine hcc.out.mono ?_
        clear hcc
        rintro e w1 ⟨a2, k2, a3, k3, rfl, htd, hfd, hb4⟩
        have hf1 := hfx.below hb4
        have hs3 := set4 hf1 (show q * 4 + 3 < l.length * 4 by omega) (.int .u8 l[q].op) (.string l[q].n) (.slice a2 l[q].args.length k2) (.slice a3 l[q].sub.length k3)
        obtain ⟨e0, g0⟩ := hf1.2 (q * 4) (by omega)
        obtain ⟨e1, g1⟩ := hf1.2 (q * 4 + 1) (by omega)
        obtain ⟨e2, g2⟩ := hf1.2 (q * 4 + 2) (by omega)
        obtain ⟨y0, e0⟩ := Option.isSome_iff_exists.1 e0
        obtain ⟨y1, e1⟩ := Option.isSome_iff_exists.1 e1
        obtain ⟨y2, e2⟩ := Option.isSome_iff_exists.1 e2
        obtain ⟨e3, g3⟩ := hf1.2 (q * 4 + 3) (by omega)
        obtain ⟨y3, e3⟩ := Option.isSome_iff_exists.1 e3
        have HS3 := Lib.hid hs3
        have HTD := Lib.hid htd
        have HFD := Lib.hid hfd
        have hz4 := hb4.size
        rw [World.size_alloc] at hz4
        clear hs3 htd hfd
        have hz5 := HS3.out.2.1.size
        go_wp2_with fail
        refine ⟨⟨q + 1, by go_num, by omega, ((hbq.trans (hb3.mono (by omega))).trans (hb4.mono (by simp; omega))).trans HS3.out.2.1, HS3.out.1, ?_⟩, by simp [intOf]; omega⟩
        have hlen : (l.take q).length = q := by rw [List.length_take]; omega
        rw [List.take_succ_eq_append_getElem hlt]
        refine FsD.snoc (l.take q) R 0 l[q] (.slice a2 l[q].args.length k2) (.slice a3 l[q].sub.length k3) (FsD.keep (D := fun b => R < b ∧ b < wr.heap.size) (fun b hb j => ?_) (fun b hb => ⟨hb.1, by omega⟩) (l.take q) (fun j _ hj => ?_) HTQ.out) ?_ hop ?_ HOK.out ?_ (HTD.out.keep (fun b hb j => HS3.out.2.2.1 b (by have := hb.1; simp at this; omega) j) fun b hb => ⟨by have := hb.1; simp at this; omega, by have := hb.2; omega⟩) ?_ (HFD.out.keep (fun b hb j => HS3.out.2.2.1 b (by have := hb.1; simp at this; omega) j) fun b hb => ⟨by have := hb.1; simp at this; omega, by have := hb.2; omega⟩)
        · rw [HS3.out.2.2.1 b (by omega) j, hb4.cell (p := ⟨b, j, none⟩) (by simp; omega), hb3.cell (p := ⟨b, j, none⟩) (show b < _ by omega)]
        · rw [hlen] at hj
          rw [HS3.out.2.2.2.1 j (by omega), hb4.cell (p := ⟨R, j, none⟩) (by simp; omega), hb3.cell (p := ⟨R, j, none⟩) (show R < _ by omega)]
        · rw [hlen, Nat.zero_add]; exact HS3.out.2.2.2.2.1
        · rw [hlen, Nat.zero_add]; exact HS3.out.2.2.2.2.2.1
        · rw [hlen, Nat.zero_add]; exact HS3.out.2.2.2.2.2.2.1
        · rw [hlen, Nat.zero_add]; exact HS3.out.2.2.2.2.2.2.2
      · have e : q = l.length := by omega
        have hT := Lib.hid (show FsD (fun b => w.heap.size ≤ b ∧ b < wr.heap.size) wr R 0 l by
          have h := HTQ.out
          rw [e, List.take_length] at h
          exact FsD.keep (fun _ _ _ => rfl) (fun b hb => ⟨by have := HRR.out; omega, hb.2⟩) l (fun _ _ _ => rfl) h)
        have hRw := hfq.1
        clear e
        go_wp2_with fail
        go_ret
        exact ⟨some ⟨R, 0, none⟩, l.length, rfl, ⟨_, _, R, 0, rfl, hla, .inr ⟨rfl, by have := HRR.out; omega, hRw⟩, hT.out⟩, by rw [HRR.out]; exact hbq⟩
set_option maxHeartbeats 1000000 in
theorem copyF_c (N : Nat) : ∀ (t : Fo), SizeOf.sizeOf t < N → ∀ (x0 x1 x2 x3 : Value) (dn : Nat) (w : World), FoV dn w x0 x1 x2 x3 t → dn ≤ w.heap.size → Calls Tryd.prog 42 #[.agg #[x0, x1, x2, x3]] w (CopF t w) := by
  induction N with
  | zero => exact fun t h => absurd h (Nat.not_lt_zero _)
  | succ N ih =>
    intro t hN x0 x1 x2 x3 dn w ht hd
    obtain ⟨rfl, hop, rfl, _, ha, hs⟩ := ht
    obtain ⟨⟨sa, ka, rfl⟩, hla⟩ := ha.form
    obtain ⟨⟨sb, kb, rfl⟩, hlb⟩ := hs.form
    have hb0 : Below w.heap.size w ((w.alloc (.cells #[.int .u8 t.op, .string t.n, .slice sa t.args.length ka, .slice sb t.sub.length kb] 25)).alloc (.cells #[.int .u8 0, .string ByteArray.empty, .slice none 0 0, .slice none 0 0] 25)) := ((Below.refl _ _).alloc (Nat.le_refl _) _).alloc (by simp) _
    have H2 := Lib.hid (two_boxesT w #[.int .u8 t.op, .string t.n, .slice sa t.args.length ka, .slice sb t.sub.length kb] #[.int .u8 0, .string ByteArray.empty, .slice none 0 0, .slice none 0 0] 25)
    have HL := Lib.hid (copyLT_c t.args _ dn _ (ha.below hb0 hd) (by simp; omega) fun t' ht' x0 x1 x2 W h1 h2 => copyT_c (SizeOf.sizeOf t' + 1) t' (Nat.lt_succ_self _) x0 x1 x2 dn W h1 h2)
    have HM := Lib.hid (fun W (h : Below w.heap.size w W) => copyLF_c t.sub _ dn W (hs.below h hd) (Nat.le_trans hd h.size) fun t' ht' x0 x1 x2 x3 W h1 h2 => by
      obtain ⟨q, hq, rfl⟩ := List.getElem_of_mem ht'
      exact ih _ (by have := size_sub t q hq; omega) x0 x1 x2 x3 dn W h1 h2)
    clear ha hs ih
    go_enter Tryd.func42, Tryd.ntmps42
    go_wp2_with fail
    refine HL.out.mono ?_
    rintro e w1 ⟨a2, k2, rfl, htd, hb⟩
    have hzw := hb.size
    simp only [World.size_alloc] at hb htd hzw
    obtain ⟨p1, p2, p3, p4⟩ := H2.out
    have hF : ∀ j, w1.cell? ⟨w.heap.size, j, none⟩ = _ := fun j => (hb.cell (p := ⟨w.heap.size, j, none⟩) (show w.heap.size < w.heap.size + 1 + 1 by omega)).trans (p1 j)
    have hG : ∀ j, w1.cell? ⟨w.heap.size + 1, j, none⟩ = _ := fun j => (hb.cell (p := ⟨w.heap.size + 1, j, none⟩) (show w.heap.size + 1 < w.heap.size + 1 + 1 by omega)).trans (p2 j)
    have fF : ∀ j, w1.frozen? ⟨w.heap.size, j, none⟩ = false := fun j => (hb.frozen (p := ⟨w.heap.size, j, none⟩) (show w.heap.size < w.heap.size + 1 + 1 by omega)).trans (p3 j)
    have fG : ∀ j, w1.frozen? ⟨w.heap.size + 1, j, none⟩ = false := fun j => (hb.frozen (p := ⟨w.heap.size + 1, j, none⟩) (show w.heap.size + 1 < w.heap.size + 1 + 1 by omega)).trans (p4 j)
    have HHF := Lib.hid hF
    have HHG := Lib.hid hG
    have HFF := Lib.hid fF
    have HFG := Lib.hid fG
    have c2 := hF 2
    have c3 := hF 3
    have f2 := fF 2
    simp only [List.getElem?_toArray, List.getElem?_cons_zero, List.getElem?_cons_succ] at c2 c3
    have HTD := Lib.hid htd
    have HB := Lib.hid ((hb0.trans (hb.mono (by omega))).setCell (p := ⟨w.heap.size, 2, none⟩) (Nat.le_refl _) (.slice a2 t.args.length k2))
    have HM2 := Lib.hid (HM.out _ HB.out)
    clear H2 p1 p2 p3 p4 htd hb HL hb0 hF hG fF fG HM
    go_wp2_with fail
    refine HM2.out.mono ?_
    rintro e w2 ⟨a3, k3, rfl, hfd, hb2⟩
    have hzw2 := hb2.size
    have hzs : (w1.setCell ⟨w.heap.size, 2, none⟩ (.slice a2 t.args.length k2)).heap.size = w1.heap.size := by simp
    rw [hzs] at hb2 hfd hzw2
    have hF2 : ∀ j, w2.cell? ⟨w.heap.size, j, none⟩ = (w1.setCell ⟨w.heap.size, 2, none⟩ (.slice a2 t.args.length k2)).cell? ⟨w.heap.size, j, none⟩ := fun j => hb2.cell (p := ⟨w.heap.size, j, none⟩) (show w.heap.size < w1.heap.size by omega)
    have hG2 : ∀ j, w2.cell? ⟨w.heap.size + 1, j, none⟩ = _ := fun j => (hb2.cell (p := ⟨w.heap.size + 1, j, none⟩) (show w.heap.size + 1 < w1.heap.size by omega)).trans ((World.cell?_of_block (Below.heap_setCell w1 ⟨w.heap.size, 2, none⟩ _ _ (by show w.heap.size + 1 ≠ w.heap.size; omega))).trans (HHG.out j))
    have fF2 : ∀ j, w2.frozen? ⟨w.heap.size, j, none⟩ = false := fun j => (hb2.frozen (p := ⟨w.heap.size, j, none⟩) (show w.heap.size < w1.heap.size by omega)).trans (by rw [World.frozen?_setCell]; exact HFF.out j)
    have fG2 : ∀ j, w2.frozen? ⟨w.heap.size + 1, j, none⟩ = false := fun j => (hb2.frozen (p := ⟨w.heap.size + 1, j, none⟩) (show w.heap.size + 1 < w1.heap.size by omega)).trans (by rw [World.frozen?_setCell]; exact HFG.out j)
    have x0 := (hF2 0).trans ((cell_set_other w1 w.heap.size 2 0 _ (by omega)).trans (HHF.out 0))
    have x1 := (hF2 1).trans ((cell_set_other w1 w.heap.size 2 1 _ (by omega)).trans (HHF.out 1))
    have x2 := (hF2 2).trans (World.cell?_setCell_same' w1 ⟨w.heap.size, 2, none⟩ (.slice a2 t.args.length k2) (by rw [c2]; rfl))
    have x3 := (hF2 3).trans ((cell_set_other w1 w.heap.size 2 3 _ (by omega)).trans (HHF.out 3))
    have d0 := hG2 0
    have d1 := hG2 1
    have d2 := hG2 2
    have d3 := hG2 3
    simp only [List.getElem?_toArray, List.getElem?_cons_zero, List.getElem?_cons_succ] at x0 x1 x3 d0 d1 d2 d3
    have f3 := fF2 3
    have h0 := fG2 0
    have h1 := fG2 1
    have h2 := fG2 2
    have h3 := fG2 3
    have hzF : w.heap.size + 1 < w2.heap.size := by omega
    have hzF2 : w.heap.size < w2.heap.size := by omega
    have HFD := Lib.hid hfd
    have HTD2 := Lib.hid (HTD.out.keep (w' := w2) (D' := fun b => w.heap.size + 2 ≤ b ∧ b < w2.heap.size) (fun b hb j => by rw [hb2.cell (p := ⟨b, j, none⟩) hb.2, World.cell?_of_block (Below.heap_setCell w1 ⟨w.heap.size, 2, none⟩ _ b (by show b ≠ w.heap.size; omega))]) fun b hb => ⟨by omega, by omega⟩)
    have HB2 := Lib.hid (HB.out.trans (hb2.mono (by omega)))
    clear c2 c3 f2 hF2 hG2 fF2 fG2 hfd HB HM2 hb2 hzs
    go_wp2_with fail
    refine bodyPost_ret (v := .agg #[.int .u8 t.op, .string t.n, .slice a2 t.args.length k2, .slice a3 t.sub.length k3]) (by simp [results, Tryd.results42, go_sem, d0, d1, d2, d3]) rfl ?_
    have hkeep : ∀ (b : Nat), w.heap.size + 2 ≤ b → ∀ j, (((((w2.setCell ⟨w.heap.size, 3, none⟩ (.slice a3 t.sub.length k3)).setCell ⟨w.heap.size + 1, 0, none⟩ (.int .u8 t.op)).setCell ⟨w.heap.size + 1, 1, none⟩ (.string t.n)).setCell ⟨w.heap.size + 1, 2, none⟩ (.slice a2 t.args.length k2)).setCell ⟨w.heap.size + 1, 3, none⟩ (.slice a3 t.sub.length k3)).cell? ⟨b, j, none⟩ = w2.cell? ⟨b, j, none⟩ := by
      intro b hb j
      rw [World.cell?_of_block (Below.heap_setCell _ ⟨w.heap.size + 1, 3, none⟩ _ b (by show b ≠ w.heap.size + 1; omega)), World.cell?_of_block (Below.heap_setCell _ ⟨w.heap.size + 1, 2, none⟩ _ b (by show b ≠ w.heap.size + 1; omega)), World.cell?_of_block (Below.heap_setCell _ ⟨w.heap.size + 1, 1, none⟩ _ b (by show b ≠ w.heap.size + 1; omega)),
        World.cell?_of_block (Below.heap_setCell _ ⟨w.heap.size + 1, 0, none⟩ _ b (by show b ≠ w.heap.size + 1; omega)), World.cell?_of_block (Below.heap_setCell _ ⟨w.heap.size, 3, none⟩ _ b (by show b ≠ w.heap.size; omega))]
    refine ⟨a2, k2, a3, k3, rfl, HTD2.out.keep (fun b hb j => hkeep b hb.1 j) (fun b hb => ⟨by omega, ?_⟩), HFD.out.keep (fun b hb j => hkeep b (by omega) j) (fun b hb => ⟨by omega, ?_⟩),
      ((((HB2.out.setCell (p := ⟨w.heap.size, 3, none⟩) (Nat.le_refl _) _).setCell (p := ⟨w.heap.size + 1, 0, none⟩) (Nat.le_succ _) _).setCell (p := ⟨w.heap.size + 1, 1, none⟩) (Nat.le_succ _) _).setCell (p := ⟨w.heap.size + 1, 2, none⟩) (Nat.le_succ _) _).setCell (p := ⟨w.heap.size + 1, 3, none⟩) (Nat.le_succ _) _⟩
    · have := hb.2
      simp
      omega
    · have := hb.2
      simp
      omega
end Go.Proofs.YtnadjkofjgpabaaDoor.Fm
