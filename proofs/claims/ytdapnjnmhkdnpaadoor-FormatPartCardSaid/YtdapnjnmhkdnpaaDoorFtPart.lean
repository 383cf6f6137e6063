/-
  The closures of texts: part writes a part in brackets or not, given what write does.
-/
import Derived.Test.YtdapnjnmhkdnpaaDoorFtAhead
import Derived.Test.YtdapnjnmhkdnpaaDoorFtNeed
namespace Go.Proofs.YtdapnjnmhkdnpaaDoor.Fb
open Go Go.RowKit Go.Shelf Go.Proofs.YtdapnjnmhkdnpaaDoor.Fm Go.Proofs.YtdapnjnmhkdnpaaDoor.Lx Go.Proofs.YtdapnjnmhkdnpaaDoor.Ps Go.Proofs.YtdapnjnmhkdnpaaDoor.Ft
set_option linter.unusedVariables false
set_option linter.unusedSimpArgs false
/-- The two closures, with the boxes from H on. -/
def wrF (H : Nat) : Value := .func (.func 49) #[] #[.pointer (some ⟨H, 0, none⟩), .pointer (some ⟨H + 3, 0, none⟩)]
def paF (H : Nat) : Value := .func (.func 47) #[] #[.pointer (some ⟨H + 1, 0, none⟩), .pointer (some ⟨H + 2, 0, none⟩), .pointer (some ⟨H, 0, none⟩)]
structure TxS (b H bk : Nat) (W : World) : Prop where
  c0 : W.cell? ⟨H, 0, none⟩ = some (.pointer (some ⟨b, 0, none⟩))
  c1 : W.cell? ⟨H + 1, 0, none⟩ = some (.func (.func bk) #[] #[])
  c2 : W.cell? ⟨H + 2, 0, none⟩ = some (wrF H)
  c3 : W.cell? ⟨H + 3, 0, none⟩ = some (paF H)
  lt : H + 3 < W.heap.size
  st : STab W
/-- The builder owns none of what the closures read. -/
def TxN (b H : Nat) (v : Value) : Prop := ∀ q, Ob b v q → q ≠ H ∧ q ≠ H + 1 ∧ q ≠ H + 2 ∧ q ≠ H + 3 ∧ q ≠ 0
theorem TxS.grow {b H bk : Nat} {v : Value} {W W' : World} (h : TxS b H bk W) (hn : TxN b H v) (hg : Grow (Ob b v) W W') : TxS b H bk W' := by
  have hl := h.lt
  refine ⟨(hg.cell (p := ⟨H, 0, none⟩) (by show H < _; omega) fun k => (hn _ k).1 rfl).trans h.c0, (hg.cell (p := ⟨H + 1, 0, none⟩) (by show H + 1 < _; omega) fun k => (hn _ k).2.1 rfl).trans h.c1, (hg.cell (p := ⟨H + 2, 0, none⟩) (by show H + 2 < _; omega) fun k => (hn _ k).2.2.1 rfl).trans h.c2,
    (hg.cell (p := ⟨H + 3, 0, none⟩) (by show H + 3 < _; omega) fun k => (hn _ k).2.2.2.1 rfl).trans h.c3, Nat.lt_of_lt_of_le hl hg.size, h.st.keep (hg.block _ h.st.1 fun k => (hn _ k).2.2.2.2 rfl) hg.size⟩
theorem TxS.below {b H bk n : Nat} {W W' : World} (h : TxS b H bk W) (hb : Below n W W') (hn : W.heap.size ≤ n) : TxS b H bk W' := by
  have hl := h.lt
  have hs := h.st.1
  exact ⟨(hb.cell (p := ⟨H, 0, none⟩) (by show H < _; omega)).trans h.c0, (hb.cell (p := ⟨H + 1, 0, none⟩) (by show H + 1 < _; omega)).trans h.c1, (hb.cell (p := ⟨H + 2, 0, none⟩) (by show H + 2 < _; omega)).trans h.c2,
    (hb.cell (p := ⟨H + 3, 0, none⟩) (by show H + 3 < _; omega)).trans h.c3, Nat.lt_of_lt_of_le hl hb.size, h.st.keep (hb.block _ (by omega)) hb.size⟩
theorem TxN.step {b H bk : Nat} {v v' : Value} {W : World} (h : TxN b H v) (hs : TxS b H bk W) (hk : Sub (Ob b v) W.heap.size (Ob b v')) : TxN b H v' := fun q hq => by
  have hl := hs.lt
  have hz := hs.st.1
  exact (hk q hq).elim (h q) fun h => by omega
/-- What is said of the function that tells which parts are in brackets. -/
def BrOk (bk : Nat) (br : Fo → Nat → Bool) : Prop := (∀ args w, (callFunc bk args).run Tryd.prog w = .ok (.enter bk args) w) ∧ ∀ (f : Fo) (v0 v1 v2 v3 : Value) (dn i : Nat) (w : World), FoV dn w v0 v1 v2 v3 f → dn ≤ w.heap.size → STab w → (hi : i < f.sub.length) → 1 ≤ f.op → f.op < 17 → 1 ≤ f.sub[i].op → f.sub[i].op < 17 →
  Calls Tryd.prog bk #[.agg #[v0, v1, v2, v3], .int .i64 (i : Int)] w fun e w' => e = .returned (.bool (br f i)) ∧ Below w.heap.size w w'
theorem needed_ok : BrOk 41 brN := by
  refine ⟨enters_of Tryd.func41 (by kernel_rfl) rfl, fun f v0 v1 v2 v3 dn i w hf hd hT hi h1 h2 h3 h4 => ?_⟩
  obtain ⟨j, hj⟩ := Int.eq_ofNat_of_zero_le (show 0 ≤ f.op by omega)
  obtain ⟨k, hk⟩ := Int.eq_ofNat_of_zero_le (show 0 ≤ f.sub[i].op by omega)
  have h := needed_c f v0 v1 v2 v3 dn i w hf hd hT hi k j hk (by omega) (by omega) hj (by omega) (by omega)
  have e : brN f i = needB f i f.sub[i] := by unfold brN; rw [List.getElem?_eq_getElem hi]
  rw [e]
  exact h
theorem binary_ok : BrOk 25 brB := by
  refine ⟨enters_of Tryd.func25 (by kernel_rfl) rfl, fun f v0 v1 v2 v3 dn i w hf hd hT hi h1 h2 h3 h4 => ?_⟩
  obtain ⟨k, hk⟩ := Int.eq_ofNat_of_zero_le (show 0 ≤ f.sub[i].op by omega)
  have h := binary_c f v0 v1 v2 v3 dn i w hf hd hT hi k hk (by omega) (by omega)
  have e : brB f i = decide (str f.sub[i].op < 6) := by unfold brB; rw [List.getElem?_eq_getElem hi]
  rw [e]
  exact h
/-- What is said of write, at a formula. -/
def WriteAt (br : Fo → Nat → Bool) (bk : Nat) (f : Fo) : Prop := ∀ (w : World) (B b dn H : Nat) (v v0 v1 v2 v3 : Value) (l : Bs), Bw w B b v l → FoV dn w v0 v1 v2 v3 f → TxS b H bk w → TxN b H v → dn ≤ B → B ≤ w.heap.size → l.length + (foB br f).length ≤ 140737488355200 →
  Calls Tryd.prog 49 #[.agg #[v0, v1, v2, v3], .pointer (some ⟨H, 0, none⟩), .pointer (some ⟨H + 3, 0, none⟩)] w fun e w' => e = .returned (.tuple #[]) ∧ Wr B b v l w w' (foB br f)
theorem foV_grow {dn : Nat} {O : Nat → Prop} {W W' : World} {v0 v1 v2 v3 : Value} {x : Fo} (h : FoV dn W v0 v1 v2 v3 x) (hg : Grow O W W') (hO : ∀ q, O q → dn ≤ q) (hd : dn ≤ W.heap.size) : FoV dn W' v0 v1 v2 v3 x := h.below (hg.below hd hO) (Nat.le_refl _)
/-- What part's region reads. -/
structure PaS (H P q o : Nat) (sl x0 x1 x2 x3 : Value) (w' : World) : Prop where
  c2 : w'.cell? ⟨H + 2, 0, none⟩ = some (wrF H)
  p3 : w'.cell? ⟨P, 3, none⟩ = some sl
  d0 : w'.cell? ⟨q, o, none⟩ = some x0
  d1 : w'.cell? ⟨q, o + 1, none⟩ = some x1
  d2 : w'.cell? ⟨q, o + 2, none⟩ = some x2
  d3 : w'.cell? ⟨q, o + 3, none⟩ = some x3
theorem PaS.grow {H P q o : Nat} {sl x0 x1 x2 x3 : Value} {O : Nat → Prop} {W W' : World} (h : PaS H P q o sl x0 x1 x2 x3 W) (hg : Grow O W W') (h1 : H + 2 < W.heap.size) (h2 : P < W.heap.size) (h3 : q < W.heap.size) (n1 : ¬ O (H + 2)) (n2 : ¬ O P) (n3 : ¬ O q) : PaS H P q o sl x0 x1 x2 x3 W' :=
  ⟨(hg.cell (p := ⟨H + 2, 0, none⟩) h1 n1).trans h.c2, (hg.cell (p := ⟨P, 3, none⟩) h2 n2).trans h.p3, (hg.cell (p := ⟨q, o, none⟩) h3 n3).trans h.d0, (hg.cell (p := ⟨q, o + 1, none⟩) h3 n3).trans h.d1, (hg.cell (p := ⟨q, o + 2, none⟩) h3 n3).trans h.d2, (hg.cell (p := ⟨q, o + 3, none⟩) h3 n3).trans h.d3⟩
set_option maxHeartbeats 4000000 in
set_option maxRecDepth 20000 in
theorem part_c (br : Fo → Nat → Bool) (bk : Nat) (hbk : BrOk bk br) (f : Fo) (i : Nat) (hi : i < f.sub.length) (hwr : WriteAt br bk f.sub[i]) (w : World) (B b dn H : Nat) (v v0 v1 v2 v3 : Value) (l : Bs) (hbd : Bw w B b v l) (hf : FoV dn w v0 v1 v2 v3 f) (hT : TxS b H bk w) (hN : TxN b H v) (hd : dn ≤ B) (hBw : B ≤ w.heap.size)
    (h1 : 1 ≤ f.op) (h2 : f.op < 17) (h3 : 1 ≤ f.sub[i].op) (h4 : f.sub[i].op < 17) (hlen : l.length + (parB (br f i) (foB br f.sub[i])).length ≤ 140737488355200) :
    Calls Tryd.prog 47 #[.agg #[v0, v1, v2, v3], .int .i64 (i : Int), .pointer (some ⟨H + 1, 0, none⟩), .pointer (some ⟨H + 2, 0, none⟩), .pointer (some ⟨H, 0, none⟩)] w fun e w' => e = .returned (.tuple #[]) ∧ Wr B b v l w w' (parB (br f i) (foB br f.sub[i])) := by
  obtain ⟨p0, p1, p2, p3, pz⟩ := box4 w v0 v1 v2 v3 25
  have hb0 : Below w.heap.size w (w.alloc (.cells #[v0, v1, v2, v3] 25)) := (Below.refl _ _).alloc (Nat.le_refl _) _
  have hT0 := hT.below hb0 (Nat.le_refl _)
  have hbr := hbk.2 f v0 v1 v2 v3 dn i _ (hf.below hb0 (by omega)) (by simp; omega) hT0.st hi h1 h2 h3 h4
  have ebk := hbk.1
  have hbdX := hbd.below hb0 (Nat.le_refl _)
  have hfX := hf.below hb0 (by omega)
  have HLT := Lib.hid hbd.lt
  have HGE := Lib.hid hbd.ge
  have HN := Lib.hid hN
  have HLEN := Lib.hid hlen
  obtain ⟨rfl, _, rfl, _, hA, hS⟩ := hf
  obtain ⟨⟨a1, k1, rfl⟩, _⟩ := hA.form
  obtain ⟨⟨a2, k2, rfl⟩, _⟩ := hS.form
  obtain ⟨t0, t1, t2, t3, tl, ts⟩ := id hT0
  have HALL := Lib.hid (⟨hbr, hbdX, hfX, hT0, p3, pz, hb0⟩ : _ ∧ _ ∧ _ ∧ _ ∧ _ ∧ _ ∧ _)
  obtain ⟨PB, hPB⟩ : ∃ x, parB (br f i) (foB br f.sub[i]) = x := ⟨_, rfl⟩
  rw [hPB]
  have HPB := Lib.hid hPB
  clear hb0 hbd hA hS hT hN hlen t0 t2 t3 ts hT0 hbr hbdX hfX p0 p1 p2 p3 pz hPB
  go_enter Tryd.func47, Tryd.ntmps47
  go_wp2_with fail
  have hall := HALL.out
  clear HALL t1 tl
  generalize (w.alloc (.cells #[.int .u8 f.op, .string f.n, .slice a1 f.args.length k1, .slice a2 f.sub.length k2] 25)) = X at hall ⊢
  obtain ⟨hbr, hbdX, hfX, hTX, p3, pz, hb0⟩ := hall
  refine hbr.mono ?_
  rintro e w1 ⟨rfl, hb1⟩
  have hzX := hb0.size
  obtain ⟨_, q, o, hq, hqn, u0, u1, u2, u3, d0, d1, d2, d3, hu⟩ := (hfX.below hb1 (by omega)).sub.get hi
  subst hq
  have hz1 := hb1.size
  have hT1 := hTX.below hb1 (Nat.le_refl _)
  have hd1 := hbdX.below hb1 (Nat.le_refl _)
  obtain ⟨⟨a3, k3, e3⟩, _⟩ := hu.args.form
  obtain ⟨⟨a4, k4, e4⟩, _⟩ := hu.sub.form
  have e1 := hu.op
  have e2 := hu.nm
  subst e1 e2 e3 e4
  have hP : PaS H w.heap.size q (o + i * 4) (.slice (some ⟨q, o, none⟩) f.sub.length k2) (.int .u8 f.sub[i].op) (.string f.sub[i].n) (.slice a3 f.sub[i].args.length k3) (.slice a4 f.sub[i].sub.length k4) w1 :=
    ⟨hT1.c2, (hb1.cell (p := ⟨w.heap.size, 3, none⟩) pz).trans p3, d0, d1, d2, d3⟩
  have n0 : (0 : Int) ≤ (i : Int) := by omega
  have n1 : (i : Int) < (f.sub.length : Int) := by omega
  have HU := Lib.hid hu
  have HB1 := Lib.hid (hb0.trans (hb1.mono hb0.size))
  have HT1 := Lib.hid hT1
  have HD1 := Lib.hid hd1
  have HP := Lib.hid hP
  have hHl := hT1.lt
  clear hu hbr hbdX hfX hTX p3 hb0 hb1 hT1 hd1 d0 d1 d2 d3
  have hlen := HLEN.out
  have hpb := HPB.out
  clear HLEN HPB
  generalize br f i = bb at *
  have HLEN := Lib.hid hlen
  have HPB := Lib.hid hpb
  clear hlen hpb
  cases bb with
  | false =>
    go_wp2_with fail
    refine wp_region_S (PaS H w.heap.size q (o + i * 4) (.slice (some ⟨q, o, none⟩) f.sub.length k2) (.int .u8 f.sub[i].op) (.string f.sub[i].n) (.slice a3 f.sub[i].args.length k3) (.slice a4 f.sub[i].sub.length k4)) [] 7 #[false, false, false, false, false, false, false] (by kernel_rfl) (by kernel_rfl) (by kernel_rfl) ⟨hP.c2, hP.p3, hP.d0, hP.d1, hP.d2, hP.d3⟩ (fun hHeld => ?_)
    refine wpAnyS_take (i := 0) (oi := ⟨some 12, _, _, _, _, _⟩) (v := wrF H) rfl (by kernel_rfl) (by kernel_rfl) (by kernel_rfl) (by kernel_rfl) (fun _ _ _ h => Norm.panic h) (Or.inl ⟨by rfl, ?_⟩) (by assumption) ?_
    · intro w' hSw
      obtain ⟨t0, t1, t2, t3, t4, t5⟩ := hSw
      go_simp
    simp only [Act.put, List.setIfInBounds_toArray, List.set_cons_zero, List.set_cons_succ]
    refine wpAnyS_take (i := 1) (oi := ⟨some 13, _, _, _, _, _⟩) (v := .pointer (some ⟨w.heap.size, 3, none⟩)) rfl (by kernel_rfl) (by kernel_rfl) (by kernel_rfl) (by kernel_rfl) (fun _ _ _ h => Norm.panic h) (Or.inl ⟨by rfl, ?_⟩) (by assumption) ?_
    · intro w' hSw
      obtain ⟨t0, t1, t2, t3, t4, t5⟩ := hSw
      go_simp
    simp only [Act.put, List.setIfInBounds_toArray, List.set_cons_zero, List.set_cons_succ]
    refine wpAnyS_take (i := 3) (oi := ⟨some 15, _, _, _, _, _⟩) (v := .int .i64 (i : Int)) rfl (by kernel_rfl) (by kernel_rfl) (by kernel_rfl) (by kernel_rfl) (fun _ _ _ h => Norm.panic h) (Or.inl ⟨by rfl, ?_⟩) (by assumption) ?_
    · intro w' hSw
      obtain ⟨t0, t1, t2, t3, t4, t5⟩ := hSw
      go_simp
    simp only [Act.put, List.setIfInBounds_toArray, List.set_cons_zero, List.set_cons_succ]
    refine wpAnyS_take (i := 2) (oi := ⟨some 14, _, _, _, _, _⟩) (v := .slice (some ⟨q, o, none⟩) f.sub.length k2) rfl (by kernel_rfl) (by kernel_rfl) (by kernel_rfl) (by kernel_rfl) (fun _ _ _ h => Norm.panic h) (Or.inl ⟨by rfl, ?_⟩) (by assumption) ?_
    · intro w' hSw
      obtain ⟨t0, t1, t2, t3, t4, t5⟩ := hSw
      go_simp
    simp only [Act.put, List.setIfInBounds_toArray, List.set_cons_zero, List.set_cons_succ]
    refine wpAnyS_take (i := 4) (oi := ⟨some 16, _, _, _, _, _⟩) (v := .pointer (some ⟨q, o + i * 4, none⟩)) rfl (by kernel_rfl) (by kernel_rfl) (by kernel_rfl) (by kernel_rfl) (fun _ _ _ h => Norm.panic h) (Or.inl ⟨by rfl, ?_⟩) (by assumption) ?_
    · intro w' hSw
      obtain ⟨t0, t1, t2, t3, t4, t5⟩ := hSw
      go_simp
    simp only [Act.put, List.setIfInBounds_toArray, List.set_cons_zero, List.set_cons_succ]
    refine wpAnyS_take (i := 5) (oi := ⟨some 17, _, _, _, _, _⟩) (v := .agg #[.int .u8 f.sub[i].op, .string f.sub[i].n, .slice a3 f.sub[i].args.length k3, .slice a4 f.sub[i].sub.length k4]) rfl (by kernel_rfl) (by kernel_rfl) (by kernel_rfl) (by kernel_rfl) (fun _ _ _ h => Norm.panic h) (Or.inl ⟨by rfl, ?_⟩) (by assumption) ?_
    · intro w' hSw
      obtain ⟨t0, t1, t2, t3, t4, t5⟩ := hSw
      go_simp
    simp only [Act.put, List.setIfInBounds_toArray, List.set_cons_zero, List.set_cons_succ]
    refine wpAnyS_one (i := 6) (oi := ⟨some 18, _, _, _, _, _⟩) rfl (by kernel_rfl) (by rfl) (fun K hK => ?_)
    go_simp
    have hwc := hwr w1.drew B b dn H v _ _ _ _ l (HD1.out.below (n := w1.heap.size) (Below.refl _ _).drew (Nat.le_refl _)) (HU.out.below (Below.refl w1.heap.size w1).drew (by omega)) (HT1.out.below (n := w1.heap.size) (Below.refl _ _).drew (Nat.le_refl _)) HN.out hd (by show B ≤ w1.heap.size; omega) (by have := HLEN.out; unfold parB at this; simpa using this)
    refine hwc.mono ?_
    rintro e w2 ⟨rfl, v2, f1, f2, f3⟩
    clear hwc
    have hHeld := hHeld.grow f2 (by show H + 2 < w1.heap.size; omega) (by show w.heap.size < w1.heap.size; omega) (by show q < w1.heap.size; omega) (fun h => (HN.out _ h).2.2.1 rfl) (fun h => absurd (HLT.out _ h) (Nat.lt_irrefl _)) (fun h => by have := HGE.out q h; omega)
    refine hK _ _ (fun _ => hHeld) ?_
    clear hK K
    simp only [Act.put, List.setIfInBounds_toArray, List.set_cons_zero, List.set_cons_succ]
    refine wpAnyS_done (by kernel_rfl) ?_
    refine Norm.normal ?_
    have hF := Lib.hid (show Wr B b v l w w2 PB from by
      rw [← HPB.out]
      exact Wr.ahead HB1.out (Nat.le_refl _) (Wr.ahead (n := w1.heap.size) (Below.refl w1.heap.size w1).drew (Nat.le_refl _) ⟨v2, f1, f2, f3⟩))
    clear f1 f2 f3 hHeld hP
    go_wp2_with fail
    (try simp only [Exit.inBlock, Exit.then])
    refine bodyPost_ret (results_none rfl _ _ _) rfl ?_
    exact ⟨rfl, hF.out⟩
  | true =>
    have hl2 : l.length + ((foB br f.sub[i]).length + 2) ≤ 140737488355200 := by
      have := HLEN.out
      unfold parB at this
      simp only [if_true, List.length_cons, List.length_append, List.length_nil] at this
      omega
    have HL2 := Lib.hid hl2
    have hcb := Lib.hid (wrB HD1.out 40 (by omega) (by omega))
    have hc0 := HT1.out.c0
    clear hl2
    go_wp2_with fail
    refine hcb.out.mono ?_
    rintro e w2 ⟨rfl, v2, f1, f2, f3⟩
    clear hcb
    have hz2 := f2.size
    have hP := hP.grow f2 (by omega) (by omega) (by omega) (fun h => (HN.out _ h).2.2.1 rfl) (fun h => absurd (HLT.out _ h) (Nat.lt_irrefl _)) (fun h => by have := HGE.out q h; omega)
    have HT2 := Lib.hid (HT1.out.grow HN.out f2)
    have HN2 := Lib.hid (HN.out.step HT1.out f3)
    have HU2 := Lib.hid (foV_grow HU.out f2 (fun q hq => by have := HGE.out q hq; omega) (by omega))
    have HD2 := Lib.hid f1
    have HG2 := Lib.hid (⟨f2, f3⟩ : _ ∧ _)
    have HLT2 := Lib.hid (show ∀ k, Ob b v2 k → k ≠ w.heap.size from fun k hk => (f3 k hk).elim (fun h => by have := HLT.out k h; omega) fun h => by omega)
    have HGE2 := Lib.hid f1.ge
    clear f1 f2 f3 hc0
    go_wp2_with fail
    refine wp_region_S (PaS H w.heap.size q (o + i * 4) (.slice (some ⟨q, o, none⟩) f.sub.length k2) (.int .u8 f.sub[i].op) (.string f.sub[i].n) (.slice a3 f.sub[i].args.length k3) (.slice a4 f.sub[i].sub.length k4)) [] 7 #[false, false, false, false, false, false, false] (by kernel_rfl) (by kernel_rfl) (by kernel_rfl) ⟨hP.c2, hP.p3, hP.d0, hP.d1, hP.d2, hP.d3⟩ (fun hHeld => ?_)
    refine wpAnyS_take (i := 0) (oi := ⟨some 21, _, _, _, _, _⟩) (v := wrF H) rfl (by kernel_rfl) (by kernel_rfl) (by kernel_rfl) (by kernel_rfl) (fun _ _ _ h => Norm.panic h) (Or.inl ⟨by rfl, ?_⟩) (by assumption) ?_
    · intro w' hSw
      obtain ⟨t0, t1, t2, t3, t4, t5⟩ := hSw
      go_simp
    simp only [Act.put, List.setIfInBounds_toArray, List.set_cons_zero, List.set_cons_succ]
    refine wpAnyS_take (i := 1) (oi := ⟨some 22, _, _, _, _, _⟩) (v := .pointer (some ⟨w.heap.size, 3, none⟩)) rfl (by kernel_rfl) (by kernel_rfl) (by kernel_rfl) (by kernel_rfl) (fun _ _ _ h => Norm.panic h) (Or.inl ⟨by rfl, ?_⟩) (by assumption) ?_
    · intro w' hSw
      obtain ⟨t0, t1, t2, t3, t4, t5⟩ := hSw
      go_simp
    simp only [Act.put, List.setIfInBounds_toArray, List.set_cons_zero, List.set_cons_succ]
    refine wpAnyS_take (i := 3) (oi := ⟨some 24, _, _, _, _, _⟩) (v := .int .i64 (i : Int)) rfl (by kernel_rfl) (by kernel_rfl) (by kernel_rfl) (by kernel_rfl) (fun _ _ _ h => Norm.panic h) (Or.inl ⟨by rfl, ?_⟩) (by assumption) ?_
    · intro w' hSw
      obtain ⟨t0, t1, t2, t3, t4, t5⟩ := hSw
      go_simp
    simp only [Act.put, List.setIfInBounds_toArray, List.set_cons_zero, List.set_cons_succ]
    refine wpAnyS_take (i := 2) (oi := ⟨some 23, _, _, _, _, _⟩) (v := .slice (some ⟨q, o, none⟩) f.sub.length k2) rfl (by kernel_rfl) (by kernel_rfl) (by kernel_rfl) (by kernel_rfl) (fun _ _ _ h => Norm.panic h) (Or.inl ⟨by rfl, ?_⟩) (by assumption) ?_
    · intro w' hSw
      obtain ⟨t0, t1, t2, t3, t4, t5⟩ := hSw
      go_simp
    simp only [Act.put, List.setIfInBounds_toArray, List.set_cons_zero, List.set_cons_succ]
    refine wpAnyS_take (i := 4) (oi := ⟨some 25, _, _, _, _, _⟩) (v := .pointer (some ⟨q, o + i * 4, none⟩)) rfl (by kernel_rfl) (by kernel_rfl) (by kernel_rfl) (by kernel_rfl) (fun _ _ _ h => Norm.panic h) (Or.inl ⟨by rfl, ?_⟩) (by assumption) ?_
    · intro w' hSw
      obtain ⟨t0, t1, t2, t3, t4, t5⟩ := hSw
      go_simp
    simp only [Act.put, List.setIfInBounds_toArray, List.set_cons_zero, List.set_cons_succ]
    refine wpAnyS_take (i := 5) (oi := ⟨some 26, _, _, _, _, _⟩) (v := .agg #[.int .u8 f.sub[i].op, .string f.sub[i].n, .slice a3 f.sub[i].args.length k3, .slice a4 f.sub[i].sub.length k4]) rfl (by kernel_rfl) (by kernel_rfl) (by kernel_rfl) (by kernel_rfl) (fun _ _ _ h => Norm.panic h) (Or.inl ⟨by rfl, ?_⟩) (by assumption) ?_
    · intro w' hSw
      obtain ⟨t0, t1, t2, t3, t4, t5⟩ := hSw
      go_simp
    simp only [Act.put, List.setIfInBounds_toArray, List.set_cons_zero, List.set_cons_succ]
    refine wpAnyS_one (i := 6) (oi := ⟨some 27, _, _, _, _, _⟩) rfl (by kernel_rfl) (by rfl) (fun K hK => ?_)
    go_simp
    have hwc := hwr w2.drew B b dn H v2 _ _ _ _ (l ++ [40]) (HD2.out.below (n := w2.heap.size) (Below.refl _ _).drew (Nat.le_refl _)) (HU2.out.below (Below.refl w2.heap.size w2).drew (by omega)) (HT2.out.below (n := w2.heap.size) (Below.refl _ _).drew (Nat.le_refl _)) HN2.out hd (by show B ≤ w2.heap.size; omega) (by have := HL2.out; simp only [List.length_append, List.length_cons, List.length_nil]; omega)
    refine hwc.mono ?_
    rintro e w3 ⟨rfl, v3, f1, f2, f3⟩
    clear hwc
    have hz3 : w2.heap.size ≤ w3.heap.size := f2.size
    have hHeld := hHeld.grow f2 (by show H + 2 < w2.heap.size; omega) (by show w.heap.size < w2.heap.size; omega) (by show q < w2.heap.size; omega) (fun h => (HN2.out _ h).2.2.1 rfl) (fun h => HLT2.out _ h rfl) (fun h => by have := HGE2.out q h; omega)
    refine hK _ _ (fun _ => hHeld) ?_
    clear hK K
    simp only [Act.put, List.setIfInBounds_toArray, List.set_cons_zero, List.set_cons_succ]
    refine wpAnyS_done (by kernel_rfl) ?_
    refine Norm.normal ?_
    have hc0 := ((HT2.out.below (n := w2.heap.size) (Below.refl w2.heap.size w2).drew (Nat.le_refl _)).grow HN2.out f2).c0
    have hcb := Lib.hid (wrB f1 41 (by have := HL2.out; simp only [List.length_append, List.length_cons, List.length_nil]; omega) (by omega))
    have HG3 := Lib.hid (show Grow (Ob b v) w1 w3 ∧ Sub (Ob b v) w1.heap.size (Ob b v3) from ⟨HG2.out.1.trans ((Grow.of_below (Below.refl w2.heap.size w2).drew).trans f2 (Sub.refl _ _)) HG2.out.2, HG2.out.2.trans f3 hz2⟩)
    clear f1 f2 f3 hHeld hP
    go_wp2_with fail
    refine hcb.out.mono ?_
    rintro e w4 ⟨rfl, hw⟩
    have hF := Lib.hid (show Wr B b v l w w4 PB from by
      rw [← HPB.out]
      have h := Wr.ahead HB1.out (Nat.le_refl _) (Wr.trans (x := 40 :: foB br f.sub[i]) (l := l) HG3.out.1 HG3.out.2 (by simpa using hw))
      unfold parB
      simpa using h)
    clear hw hcb
    go_wp2_with fail
    go_end0
    exact ⟨rfl, hF.out⟩
end Go.Proofs.YtdapnjnmhkdnpaaDoor.Fb
