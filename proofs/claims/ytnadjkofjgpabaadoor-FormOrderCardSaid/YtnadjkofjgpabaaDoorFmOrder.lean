/-
  FormOrder: the walk.
-/
import Derived.Test.YtnadjkofjgpabaaDoorFmAwk
import Derived.Test.YtnadjkofjgpabaaDoorFmSize
import Derived.Test.YtnadjkofjgpabaaDoorFmOwnF
namespace Go.Proofs.YtnadjkofjgpabaaDoor.Fm
open Go Go.RowKit Go.Shelf
set_option linter.unusedVariables false
set_option linter.unusedSimpArgs false
structure OrS (B : Nat) (x0 x1 x2 x3 y0 y1 y2 y3 z0 z1 z2 z3 : Value) (W' : World) : Prop where
  a : RegC B x0 x1 x2 x3 W'
  b : RegC (B + 1) y0 y1 y2 y3 W'
  c : RegC (B + 1 + 1) z0 z1 z2 z3 W'
theorem fsAt_cons {n b o : Nat} {w : World} {v0 v1 v2 v3 : Value} {t : Fo} {l : List Fo} (c0 : w.cell? ⟨b, o, none⟩ = some v0) (c1 : w.cell? ⟨b, o + 1, none⟩ = some v1) (c2 : w.cell? ⟨b, o + 2, none⟩ = some v2) (c3 : w.cell? ⟨b, o + 3, none⟩ = some v3)
    (hv : FoV n w v0 v1 v2 v3 t) (h : FsAt n w b (o + 4) l) : FsAt n w b o (t :: l) := by
  obtain ⟨op, nm, args, sub⟩ := t
  obtain ⟨rfl, hbd, rfl, hok, ⟨a, cap, b', o', rfl, g1, g2, g3⟩, a2, cap2, b2, o2, rfl, k1, k2, k3⟩ := hv
  simp only [FsAt]
  exact ⟨⟨c0, hbd, c1, hok, ⟨a, cap, b', o', c2, g1, g2, g3⟩, a2, cap2, b2, o2, c3, k1, k2, k3⟩, h⟩
set_option maxHeartbeats 4000000 in
set_option maxRecDepth 100000 in
theorem form_order_c (f g h : Fo) (x0 x1 x2 x3 y0 y1 y2 y3 z0 z1 z2 z3 : Value) (w : World) (hT : RTab w) (hf : FoV w.heap.size w x0 x1 x2 x3 f) (hg : FoV w.heap.size w y0 y1 y2 y3 g) (hh : FoV w.heap.size w z0 z1 z2 z3 h) :
    Calls Tryd.prog 3 #[.agg #[x0, x1, x2, x3], .agg #[y0, y1, y2, y3], .agg #[z0, z1, z2, z3]] w fun e w' => e = .returned (.bool true) ∧ Below w.heap.size w w' := by
  have HF := Lib.hid hf
  have HG := Lib.hid hg
  have HH := Lib.hid hh
  obtain ⟨rfl, bF, rfl, oF, hA, hS⟩ := hf
  obtain ⟨⟨a1, k1, rfl⟩, _⟩ := hA.form
  obtain ⟨⟨a2, k2, rfl⟩, _⟩ := hS.form
  clear hA hS
  obtain ⟨rfl, _, rfl, _, hA, hS⟩ := hg
  obtain ⟨⟨a3, k3, rfl⟩, _⟩ := hA.form
  obtain ⟨⟨a4, k4, rfl⟩, _⟩ := hS.form
  clear hA hS
  obtain ⟨rfl, _, rfl, _, hA, hS⟩ := hh
  obtain ⟨⟨a5, k5, rfl⟩, _⟩ := hA.form
  obtain ⟨⟨a6, k6, rfl⟩, _⟩ := hS.form
  clear hA hS
  go_enter Tryd.func3, Tryd.ntmps3
  go_wp2_with fail
  have l1 := Lay.new w ((#[.int .u8 f.op, .string f.n, .slice a1 f.args.length k1, .slice a2 f.sub.length k2] : Array Value).toList) 25
  have l2 := Lay.new (w.alloc (.cells #[.int .u8 f.op, .string f.n, .slice a1 f.args.length k1, .slice a2 f.sub.length k2] 25)) ((#[.int .u8 g.op, .string g.n, .slice a3 g.args.length k3, .slice a4 g.sub.length k4] : Array Value).toList) 25
  have l3 := Lay.new ((w.alloc (.cells #[.int .u8 f.op, .string f.n, .slice a1 f.args.length k1, .slice a2 f.sub.length k2] 25)).alloc (.cells #[.int .u8 g.op, .string g.n, .slice a3 g.args.length k3, .slice a4 g.sub.length k4] 25)) ((#[.int .u8 h.op, .string h.n, .slice a5 h.args.length k5, .slice a6 h.sub.length k6] : Array Value).toList) 25
  have hbp : Below w.heap.size w (((w.alloc (.cells #[.int .u8 f.op, .string f.n, .slice a1 f.args.length k1, .slice a2 f.sub.length k2] 25)).alloc (.cells #[.int .u8 g.op, .string g.n, .slice a3 g.args.length k3, .slice a4 g.sub.length k4] 25)).alloc (.cells #[.int .u8 h.op, .string h.n, .slice a5 h.args.length k5, .slice a6 h.sub.length k6] 25)) := (((Below.refl _ w).alloc (Nat.le_refl _) _).alloc (by simp) _).alloc (by simp; omega) _
  have l1' := (l1.below ((Below.refl (w.heap.size + 1) _).alloc (by simp) (.cells #[.int .u8 g.op, .string g.n, .slice a3 g.args.length k3, .slice a4 g.sub.length k4] 25)) (by omega)).below ((Below.refl (w.heap.size + 1) _).alloc (by simp) (.cells #[.int .u8 h.op, .string h.n, .slice a5 h.args.length k5, .slice a6 h.sub.length k6] 25)) (by omega)
  have l2' := l2.below ((Below.refl (w.heap.size + 2) _).alloc (by simp) (.cells #[.int .u8 h.op, .string h.n, .slice a5 h.args.length k5, .slice a6 h.sub.length k6] 25)) (by simp)
  rw [World.size_alloc] at l2'
  rw [World.size_alloc, World.size_alloc] at l3
  have hWz : w.heap.size + 3 ≤ (((w.alloc (.cells #[.int .u8 f.op, .string f.n, .slice a1 f.args.length k1, .slice a2 f.sub.length k2] 25)).alloc (.cells #[.int .u8 g.op, .string g.n, .slice a3 g.args.length k3, .slice a4 g.sub.length k4] 25)).alloc (.cells #[.int .u8 h.op, .string h.n, .slice a5 h.args.length k5, .slice a6 h.sub.length k6] 25)).heap.size := by simp
  generalize (((w.alloc (.cells #[.int .u8 f.op, .string f.n, .slice a1 f.args.length k1, .slice a2 f.sub.length k2] 25)).alloc (.cells #[.int .u8 g.op, .string g.n, .slice a3 g.args.length k3, .slice a4 g.sub.length k4] 25)).alloc (.cells #[.int .u8 h.op, .string h.n, .slice a5 h.args.length k5, .slice a6 h.sub.length k6] 25)) = W at *
  clear l1 l2
  have hW : OrS w.heap.size (.int .u8 f.op) (.string f.n) (.slice a1 f.args.length k1) (.slice a2 f.sub.length k2) (.int .u8 g.op) (.string g.n) (.slice a3 g.args.length k3) (.slice a4 g.sub.length k4) (.int .u8 h.op) (.string h.n) (.slice a5 h.args.length k5) (.slice a6 h.sub.length k6) W := ⟨⟨l1' 0 _ rfl, l1' 1 _ rfl, l1' 2 _ rfl, l1' 3 _ rfl⟩, ⟨l2' 0 _ rfl, l2' 1 _ rfl, l2' 2 _ rfl, l2' 3 _ rfl⟩, ⟨l3 0 _ rfl, l3 1 _ rfl, l3 2 _ rfl, l3 3 _ rfl⟩⟩
  clear l1' l2' l3
  have HS := Lib.hid (fun W' (hb : Below W.heap.size W W') => show OrS w.heap.size (.int .u8 f.op) (.string f.n) (.slice a1 f.args.length k1) (.slice a2 f.sub.length k2) (.int .u8 g.op) (.string g.n) (.slice a3 g.args.length k3) (.slice a4 g.sub.length k4) (.int .u8 h.op) (.string h.n) (.slice a5 h.args.length k5) (.slice a6 h.sub.length k6) W' from ⟨hW.a.below hb (by omega), hW.b.below hb (by omega), hW.c.below hb (by omega)⟩)
  have HF' := Lib.hid (fun W' (hb : Below W.heap.size W W') => HF.out.below (hbp.trans (hb.mono hbp.size)) (Nat.le_refl _))
  have HG' := Lib.hid (fun W' (hb : Below W.heap.size W W') => HG.out.below (hbp.trans (hb.mono hbp.size)) (Nat.le_refl _))
  have HH' := Lib.hid (fun W' (hb : Below W.heap.size W W') => HH.out.below (hbp.trans (hb.mono hbp.size)) (Nat.le_refl _))
  have hTW := hT.below hbp hT.1
  have HP := Lib.hid hbp
  clear HF HG HH hW hbp
  refine (awake_c _ hTW).mono ?_
  rintro e w2 ⟨rfl, hb2⟩
  obtain ⟨⟨c0, c1, c2, c3⟩, ⟨c4, c5, c6, c7⟩, c8, c9, c10, c11⟩ := HS.out _ hb2
  go_wp2_with fail
  have hw2 := hb2.size
  have l3 := Lay.new w2 [.int .u8 f.op, .string f.n, .slice a1 f.args.length k1, .slice a2 f.sub.length k2, .int .u8 g.op, .string g.n, .slice a3 g.args.length k3, .slice a4 g.sub.length k4, .int .u8 h.op, .string h.n, .slice a5 h.args.length k5, .slice a6 h.sub.length k6] 25
  have HBk := hb2.alloc hb2.size (.cells #[.int .u8 f.op, .string f.n, .slice a1 f.args.length k1, .slice a2 f.sub.length k2, .int .u8 g.op, .string g.n, .slice a3 g.args.length k3, .slice a4 g.sub.length k4, .int .u8 h.op, .string h.n, .slice a5 h.args.length k5, .slice a6 h.sub.length k6] 25)
  have hz3 : w2.heap.size < (w2.alloc (.cells #[.int .u8 f.op, .string f.n, .slice a1 f.args.length k1, .slice a2 f.sub.length k2, .int .u8 g.op, .string g.n, .slice a3 g.args.length k3, .slice a4 g.sub.length k4, .int .u8 h.op, .string h.n, .slice a5 h.args.length k5, .slice a6 h.sub.length k6] 25)).heap.size := by simp
  clear hb2 c0 c1 c2 c3 c4 c5 c6 c7 c8 c9 c10 c11
  generalize (w2.alloc (.cells #[.int .u8 f.op, .string f.n, .slice a1 f.args.length k1, .slice a2 f.sub.length k2, .int .u8 g.op, .string g.n, .slice a3 g.args.length k3, .slice a4 g.sub.length k4, .int .u8 h.op, .string h.n, .slice a5 h.args.length k5, .slice a6 h.sub.length k6] 25)) = W3 at *
  have hws : w.heap.size ≤ W3.heap.size := by omega
  have hsl : SlF W3.heap.size W3 (.slice (some ⟨w2.heap.size, 0, none⟩) 3 3) [f, g, h] :=
    ⟨some ⟨w2.heap.size, 0, none⟩, 3, w2.heap.size, 0, rfl, by simp, .inr ⟨rfl, hz3⟩, fsAt_cons (l3 0 _ rfl) (l3 1 _ rfl) (l3 2 _ rfl) (l3 3 _ rfl) ((HF'.out _ HBk).mono hws)
      (fsAt_cons (l3 4 _ rfl) (l3 5 _ rfl) (l3 6 _ rfl) (l3 7 _ rfl) ((HG'.out _ HBk).mono hws) (fsAt_cons (l3 8 _ rfl) (l3 9 _ rfl) (l3 10 _ rfl) (l3 11 _ rfl) ((HH'.out _ HBk).mono hws) (by simp [FsAt])))⟩
  have hsm := small_c [f, g, h] _ _ _ hsl (Nat.le_refl _)
  clear hsl l3 hz3 hw2 hws
  refine hsm.mono ?_
  rintro e w4 ⟨rfl, hb4⟩
  have HBn := HBk.trans (hb4.mono HBk.size)
  clear HBk hb4 hsm
  have HBk := HBn
  clear HBn
  by_cases hsmall : szS 0 [f, g, h] ≤ 500
  rotate_left
  · rw [decide_eq_false hsmall]
    go_wp2_with fail
    go_ret
    exact ⟨rfl, HP.out.trans (HBk.mono HP.out.size)⟩
  rw [decide_eq_true hsmall]
  go_wp2_with fail
  have HBd := HBk.trans ((Below.drew (Below.refl _ _)).mono HBk.size)
  refine wp_region_S (OrS w.heap.size (.int .u8 f.op) (.string f.n) (.slice a1 f.args.length k1) (.slice a2 f.sub.length k2) (.int .u8 g.op) (.string g.n) (.slice a3 g.args.length k3) (.slice a4 g.sub.length k4) (.int .u8 h.op) (.string h.n) (.slice a5 h.args.length k5) (.slice a6 h.sub.length k6)) [] 12 #[false, false, false, false, false, false, false, false, false, false, false, false] (by kernel_rfl) (by kernel_rfl) (by kernel_rfl) (HS.out _ HBd) (fun hHeld => ?_)
  clear HBk
  have HBk := HBd
  clear HBd
  refine wpAnyS_take (i := 0) (oi := ⟨some 18, _, _, _, _, _⟩) (v := .agg #[.int .u8 f.op, .string f.n, .slice a1 f.args.length k1, .slice a2 f.sub.length k2]) rfl (by kernel_rfl) (by kernel_rfl) (by kernel_rfl) (by kernel_rfl) (fun _ _ _ h => Norm.panic h) (Or.inl ⟨by rfl, ?_⟩) (by assumption) ?_
  · intro w' hSw
    obtain ⟨⟨t0, t1, t2, t3⟩, ⟨t4, t5, t6, t7⟩, t8, t9, t10, t11⟩ := hSw
    go_simp
  simp only [Act.put, List.setIfInBounds_toArray, List.set_cons_zero, List.set_cons_succ]
  refine wpAnyS_take (i := 1) (oi := ⟨some 19, _, _, _, _, _⟩) (v := .agg #[.int .u8 g.op, .string g.n, .slice a3 g.args.length k3, .slice a4 g.sub.length k4]) rfl (by kernel_rfl) (by kernel_rfl) (by kernel_rfl) (by kernel_rfl) (fun _ _ _ h => Norm.panic h) (Or.inl ⟨by rfl, ?_⟩) (by assumption) ?_
  · intro w' hSw
    obtain ⟨⟨t0, t1, t2, t3⟩, ⟨t4, t5, t6, t7⟩, t8, t9, t10, t11⟩ := hSw
    go_simp
  simp only [Act.put, List.setIfInBounds_toArray, List.set_cons_zero, List.set_cons_succ]
  refine wpAnyS_take (i := 3) (oi := ⟨some 21, _, _, _, _, _⟩) (v := .agg #[.int .u8 g.op, .string g.n, .slice a3 g.args.length k3, .slice a4 g.sub.length k4]) rfl (by kernel_rfl) (by kernel_rfl) (by kernel_rfl) (by kernel_rfl) (fun _ _ _ h => Norm.panic h) (Or.inl ⟨by rfl, ?_⟩) (by assumption) ?_
  · intro w' hSw
    obtain ⟨⟨t0, t1, t2, t3⟩, ⟨t4, t5, t6, t7⟩, t8, t9, t10, t11⟩ := hSw
    go_simp
  simp only [Act.put, List.setIfInBounds_toArray, List.set_cons_zero, List.set_cons_succ]
  refine wpAnyS_take (i := 4) (oi := ⟨some 22, _, _, _, _, _⟩) (v := .agg #[.int .u8 h.op, .string h.n, .slice a5 h.args.length k5, .slice a6 h.sub.length k6]) rfl (by kernel_rfl) (by kernel_rfl) (by kernel_rfl) (by kernel_rfl) (fun _ _ _ h => Norm.panic h) (Or.inl ⟨by rfl, ?_⟩) (by assumption) ?_
  · intro w' hSw
    obtain ⟨⟨t0, t1, t2, t3⟩, ⟨t4, t5, t6, t7⟩, t8, t9, t10, t11⟩ := hSw
    go_simp
  simp only [Act.put, List.setIfInBounds_toArray, List.set_cons_zero, List.set_cons_succ]
  refine wpAnyS_take (i := 6) (oi := ⟨some 24, _, _, _, _, _⟩) (v := .agg #[.int .u8 f.op, .string f.n, .slice a1 f.args.length k1, .slice a2 f.sub.length k2]) rfl (by kernel_rfl) (by kernel_rfl) (by kernel_rfl) (by kernel_rfl) (fun _ _ _ h => Norm.panic h) (Or.inl ⟨by rfl, ?_⟩) (by assumption) ?_
  · intro w' hSw
    obtain ⟨⟨t0, t1, t2, t3⟩, ⟨t4, t5, t6, t7⟩, t8, t9, t10, t11⟩ := hSw
    go_simp
  simp only [Act.put, List.setIfInBounds_toArray, List.set_cons_zero, List.set_cons_succ]
  refine wpAnyS_take (i := 7) (oi := ⟨some 25, _, _, _, _, _⟩) (v := .agg #[.int .u8 h.op, .string h.n, .slice a5 h.args.length k5, .slice a6 h.sub.length k6]) rfl (by kernel_rfl) (by kernel_rfl) (by kernel_rfl) (by kernel_rfl) (fun _ _ _ h => Norm.panic h) (Or.inl ⟨by rfl, ?_⟩) (by assumption) ?_
  · intro w' hSw
    obtain ⟨⟨t0, t1, t2, t3⟩, ⟨t4, t5, t6, t7⟩, t8, t9, t10, t11⟩ := hSw
    go_simp
  simp only [Act.put, List.setIfInBounds_toArray, List.set_cons_zero, List.set_cons_succ]
  refine wpAnyS_one (i := 2) (oi := ⟨some 20, _, _, _, _, _⟩) rfl (by kernel_rfl) (by rfl) (fun K hK => ?_)
  go_simp
  refine (compare_c f g _ _ _ _ _ _ _ _ w.heap.size _ (HF'.out _ HBk) (HG'.out _ HBk) (Nat.le_trans HP.out.size HBk.size)).mono ?_
  rintro e wn ⟨rfl, hbn⟩
  have HBn := HBk.trans (hbn.mono HBk.size)
  clear HBk hbn
  have HBk := HBn
  clear HBn
  have hHeld := HS.out _ HBk
  refine hK _ _ (fun _ => hHeld) ?_
  clear hK K
  simp only [Act.put, List.setIfInBounds_toArray, List.set_cons_zero, List.set_cons_succ]
  refine wpAnyS_one (i := 5) (oi := ⟨some 23, _, _, _, _, _⟩) rfl (by kernel_rfl) (by rfl) (fun K hK => ?_)
  go_simp
  refine (compare_c g h _ _ _ _ _ _ _ _ w.heap.size _ (HG'.out _ HBk) (HH'.out _ HBk) (Nat.le_trans HP.out.size HBk.size)).mono ?_
  rintro e wn ⟨rfl, hbn⟩
  have HBn := HBk.trans (hbn.mono HBk.size)
  clear HBk hbn
  have HBk := HBn
  clear HBn
  have hHeld := HS.out _ HBk
  refine hK _ _ (fun _ => hHeld) ?_
  clear hK K
  simp only [Act.put, List.setIfInBounds_toArray, List.set_cons_zero, List.set_cons_succ]
  refine wpAnyS_one (i := 8) (oi := ⟨some 26, _, _, _, _, _⟩) rfl (by kernel_rfl) (by rfl) (fun K hK => ?_)
  go_simp
  refine (compare_c f h _ _ _ _ _ _ _ _ w.heap.size _ (HF'.out _ HBk) (HH'.out _ HBk) (Nat.le_trans HP.out.size HBk.size)).mono ?_
  rintro e wn ⟨rfl, hbn⟩
  have HBn := HBk.trans (hbn.mono HBk.size)
  clear HBk hbn
  have HBk := HBn
  clear HBn
  have hHeld := HS.out _ HBk
  refine hK _ _ (fun _ => hHeld) ?_
  clear hK K
  simp only [Act.put, List.setIfInBounds_toArray, List.set_cons_zero, List.set_cons_succ]
  refine wpAnyS_take (i := 9) (oi := ⟨some 7, _, _, _, _, _⟩) (v := .int .i64 (cmpF f g)) rfl (by kernel_rfl) (by kernel_rfl) (by kernel_rfl) (by kernel_rfl) (fun _ _ _ h => Norm.panic h) (Or.inl ⟨by rfl, ?_⟩) (by assumption) ?_
  · intro w' hSw
    obtain ⟨⟨t0, t1, t2, t3⟩, ⟨t4, t5, t6, t7⟩, t8, t9, t10, t11⟩ := hSw
    go_simp
  simp only [Act.put, List.setIfInBounds_toArray, List.set_cons_zero, List.set_cons_succ]
  refine wpAnyS_take (i := 10) (oi := ⟨some 8, _, _, _, _, _⟩) (v := .int .i64 (cmpF g h)) rfl (by kernel_rfl) (by kernel_rfl) (by kernel_rfl) (by kernel_rfl) (fun _ _ _ h => Norm.panic h) (Or.inl ⟨by rfl, ?_⟩) (by assumption) ?_
  · intro w' hSw
    obtain ⟨⟨t0, t1, t2, t3⟩, ⟨t4, t5, t6, t7⟩, t8, t9, t10, t11⟩ := hSw
    go_simp
  simp only [Act.put, List.setIfInBounds_toArray, List.set_cons_zero, List.set_cons_succ]
  refine wpAnyS_take (i := 11) (oi := ⟨some 9, _, _, _, _, _⟩) (v := .int .i64 (cmpF f h)) rfl (by kernel_rfl) (by kernel_rfl) (by kernel_rfl) (by kernel_rfl) (fun _ _ _ h => Norm.panic h) (Or.inl ⟨by rfl, ?_⟩) (by assumption) ?_
  · intro w' hSw
    obtain ⟨⟨t0, t1, t2, t3⟩, ⟨t4, t5, t6, t7⟩, t8, t9, t10, t11⟩ := hSw
    go_simp
  simp only [Act.put, List.setIfInBounds_toArray, List.set_cons_zero, List.set_cons_succ]
  refine wpAnyS_done (by kernel_rfl) ?_
  refine Norm.normal ?_
  go_wp2_with fail
  have hx1 := cmpF_neg g f
  have hxz := cmpF_zero f g
  have hself := cmpF_self f
  have hxr := cmpF_rng f g
  have hyr := cmpF_rng g h
  have hzr := cmpF_rng f h
  have hord := cmpF_ord f g h
  generalize cmpF g h = y at *
  generalize cmpF f h = z at *
  rcases (show cmpF f g = -1 ∨ cmpF f g = 0 ∨ cmpF f g = 1 by unfold Rng at hxr; omega) with hx | hx | hx
  · have hq : eqF f g = false := by rw [hx] at hxz; simpa using hxz
    have hx2 : cmpF g f = 1 := by omega
    rw [hx] at hord
    rw [hx]
    obtain ⟨o1, o2, o3, o4⟩ := hord
    unfold Rng at *
    unfold Tri at o4
    have HBd := HBk.trans ((Below.drew (Below.refl _ _)).mono HBk.size)
    refine wp_region_S (OrS w.heap.size (.int .u8 f.op) (.string f.n) (.slice a1 f.args.length k1) (.slice a2 f.sub.length k2) (.int .u8 g.op) (.string g.n) (.slice a3 g.args.length k3) (.slice a4 g.sub.length k4) (.int .u8 h.op) (.string h.n) (.slice a5 h.args.length k5) (.slice a6 h.sub.length k6)) [] 37 #[false, false, false, false, false, false, false, false, false, false, false, false, false, false, false, false, false, false, false, false, false, false, false, false, false, false, false, false, false, false, false, false, false, false, false, false, false] (by kernel_rfl) (by kernel_rfl) (by kernel_rfl) (HS.out _ HBd) (fun hHeld => ?_)
    clear HBk
    have HBk := HBd
    clear HBd
    refine wpAnyS_take (i := 0) (oi := ⟨some 27, _, _, _, _, _⟩) (v := .int .i64 (-1)) rfl (by kernel_rfl) (by kernel_rfl) (by kernel_rfl) (by kernel_rfl) (fun _ _ _ h => Norm.panic h) (Or.inl ⟨by rfl, ?_⟩) (by assumption) ?_
    · intro w' hSw
      obtain ⟨⟨t0, t1, t2, t3⟩, ⟨t4, t5, t6, t7⟩, t8, t9, t10, t11⟩ := hSw
      go_simp
    simp only [Act.put, List.setIfInBounds_toArray, List.set_cons_zero, List.set_cons_succ]
    refine wpAnyS_take (i := 1) (oi := ⟨some 28, _, _, _, _, _⟩) (v := .agg #[.int .u8 g.op, .string g.n, .slice a3 g.args.length k3, .slice a4 g.sub.length k4]) rfl (by kernel_rfl) (by kernel_rfl) (by kernel_rfl) (by kernel_rfl) (fun _ _ _ h => Norm.panic h) (Or.inl ⟨by rfl, ?_⟩) (by assumption) ?_
    · intro w' hSw
      obtain ⟨⟨t0, t1, t2, t3⟩, ⟨t4, t5, t6, t7⟩, t8, t9, t10, t11⟩ := hSw
      go_simp
    simp only [Act.put, List.setIfInBounds_toArray, List.set_cons_zero, List.set_cons_succ]
    refine wpAnyS_take (i := 2) (oi := ⟨some 29, _, _, _, _, _⟩) (v := .agg #[.int .u8 f.op, .string f.n, .slice a1 f.args.length k1, .slice a2 f.sub.length k2]) rfl (by kernel_rfl) (by kernel_rfl) (by kernel_rfl) (by kernel_rfl) (fun _ _ _ h => Norm.panic h) (Or.inl ⟨by rfl, ?_⟩) (by assumption) ?_
    · intro w' hSw
      obtain ⟨⟨t0, t1, t2, t3⟩, ⟨t4, t5, t6, t7⟩, t8, t9, t10, t11⟩ := hSw
      go_simp
    simp only [Act.put, List.setIfInBounds_toArray, List.set_cons_zero, List.set_cons_succ]
    refine wpAnyS_one (i := 3) (oi := ⟨some 30, _, _, _, _, _⟩) rfl (by kernel_rfl) (by rfl) (fun K hK => ?_)
    go_simp
    refine (compare_c g f _ _ _ _ _ _ _ _ w.heap.size _ (HG'.out _ HBk) (HF'.out _ HBk) (Nat.le_trans HP.out.size HBk.size)).mono ?_
    rintro e wn ⟨rfl, hbn⟩
    rw [hx2]
    have HBn := HBk.trans (hbn.mono HBk.size)
    clear HBk hbn
    have HBk := HBn
    clear HBn
    have hHeld := HS.out _ HBk
    refine hK _ _ (fun _ => hHeld) ?_
    clear hK K
    simp only [Act.put, List.setIfInBounds_toArray, List.set_cons_zero, List.set_cons_succ]
    refine wpAnyS_take (i := 4) (oi := ⟨some 31, _, _, _, _, _⟩) (v := .int .i64 (-1)) rfl (by kernel_rfl) (by kernel_rfl) (by kernel_rfl) (by kernel_rfl) (fun _ _ _ h => Norm.panic h) (Or.inl ⟨by rfl, ?_⟩) (by assumption) ?_
    · intro w' hSw
      obtain ⟨⟨t0, t1, t2, t3⟩, ⟨t4, t5, t6, t7⟩, t8, t9, t10, t11⟩ := hSw
      go_simp
      try rfl
    simp only [Act.put, List.setIfInBounds_toArray, List.set_cons_zero, List.set_cons_succ]
    refine wpAnyS_take (i := 5) (oi := ⟨some 32, _, _, _, _, _⟩) (v := .bool false) rfl (by kernel_rfl) (by kernel_rfl) (by kernel_rfl) (by kernel_rfl) (fun _ _ _ h => Norm.panic h) (Or.inl ⟨by rfl, ?_⟩) (by assumption) ?_
    · intro w' hSw
      obtain ⟨⟨t0, t1, t2, t3⟩, ⟨t4, t5, t6, t7⟩, t8, t9, t10, t11⟩ := hSw
      go_simp
    simp only [Act.put, List.setIfInBounds_toArray, List.set_cons_zero, List.set_cons_succ]
    refine wpAnyS_take (i := 6) (oi := ⟨some 33, _, _, _, _, _⟩) (v := .bool false) rfl (by kernel_rfl) (by kernel_rfl) (by kernel_rfl) (by kernel_rfl) (fun _ _ _ h => Norm.panic h) (Or.inl ⟨by rfl, ?_⟩) (by assumption) ?_
    · intro w' hSw
      obtain ⟨⟨t0, t1, t2, t3⟩, ⟨t4, t5, t6, t7⟩, t8, t9, t10, t11⟩ := hSw
      go_simp
    simp only [Act.put, List.setIfInBounds_toArray, List.set_cons_zero, List.set_cons_succ]
    refine wpAnyS_take (i := 7) (oi := ⟨some 34, _, _, _, _, _⟩) (v := .int .i64 (-1)) rfl (by kernel_rfl) (by kernel_rfl) (by kernel_rfl) (by kernel_rfl) (fun _ _ _ h => Norm.panic h) (Or.inl ⟨by rfl, ?_⟩) (by assumption) ?_
    · intro w' hSw
      obtain ⟨⟨t0, t1, t2, t3⟩, ⟨t4, t5, t6, t7⟩, t8, t9, t10, t11⟩ := hSw
      go_simp
    simp only [Act.put, List.setIfInBounds_toArray, List.set_cons_zero, List.set_cons_succ]
    refine wpAnyS_take (i := 8) (oi := ⟨some 35, _, _, _, _, _⟩) (v := .bool false) rfl (by kernel_rfl) (by kernel_rfl) (by kernel_rfl) (by kernel_rfl) (fun _ _ _ h => Norm.panic h) (Or.inl ⟨by rfl, ?_⟩) (by assumption) ?_
    · intro w' hSw
      obtain ⟨⟨t0, t1, t2, t3⟩, ⟨t4, t5, t6, t7⟩, t8, t9, t10, t11⟩ := hSw
      go_simp
    simp only [Act.put, List.setIfInBounds_toArray, List.set_cons_zero, List.set_cons_succ]
    refine wpAnyS_take (i := 9) (oi := ⟨some 36, _, _, _, _, _⟩) (v := .bool false) rfl (by kernel_rfl) (by kernel_rfl) (by kernel_rfl) (by kernel_rfl) (fun _ _ _ h => Norm.panic h) (Or.inl ⟨by rfl, ?_⟩) (by assumption) ?_
    · intro w' hSw
      obtain ⟨⟨t0, t1, t2, t3⟩, ⟨t4, t5, t6, t7⟩, t8, t9, t10, t11⟩ := hSw
      go_simp
    simp only [Act.put, List.setIfInBounds_toArray, List.set_cons_zero, List.set_cons_succ]
    refine wpAnyS_take (i := 10) (oi := ⟨some 37, _, _, _, _, _⟩) (v := .bool false) rfl (by kernel_rfl) (by kernel_rfl) (by kernel_rfl) (by kernel_rfl) (fun _ _ _ h => Norm.panic h) (Or.inl ⟨by rfl, ?_⟩) (by assumption) ?_
    · intro w' hSw
      obtain ⟨⟨t0, t1, t2, t3⟩, ⟨t4, t5, t6, t7⟩, t8, t9, t10, t11⟩ := hSw
      go_simp
    simp only [Act.put, List.setIfInBounds_toArray, List.set_cons_zero, List.set_cons_succ]
    refine wpAnyS_take (i := 11) (oi := ⟨some 38, _, _, _, _, _⟩) (v := .int .i64 (-1)) rfl (by kernel_rfl) (by kernel_rfl) (by kernel_rfl) (by kernel_rfl) (fun _ _ _ h => Norm.panic h) (Or.inl ⟨by rfl, ?_⟩) (by assumption) ?_
    · intro w' hSw
      obtain ⟨⟨t0, t1, t2, t3⟩, ⟨t4, t5, t6, t7⟩, t8, t9, t10, t11⟩ := hSw
      go_simp
    simp only [Act.put, List.setIfInBounds_toArray, List.set_cons_zero, List.set_cons_succ]
    refine wpAnyS_take (i := 12) (oi := ⟨some 39, _, _, _, _, _⟩) (v := .bool false) rfl (by kernel_rfl) (by kernel_rfl) (by kernel_rfl) (by kernel_rfl) (fun _ _ _ h => Norm.panic h) (Or.inl ⟨by rfl, ?_⟩) (by assumption) ?_
    · intro w' hSw
      obtain ⟨⟨t0, t1, t2, t3⟩, ⟨t4, t5, t6, t7⟩, t8, t9, t10, t11⟩ := hSw
      go_simp
    simp only [Act.put, List.setIfInBounds_toArray, List.set_cons_zero, List.set_cons_succ]
    refine wpAnyS_take (i := 13) (oi := ⟨some 40, _, _, _, _, _⟩) (v := .bool false) rfl (by kernel_rfl) (by kernel_rfl) (by kernel_rfl) (by kernel_rfl) (fun _ _ _ h => Norm.panic h) (Or.inl ⟨by rfl, ?_⟩) (by assumption) ?_
    · intro w' hSw
      obtain ⟨⟨t0, t1, t2, t3⟩, ⟨t4, t5, t6, t7⟩, t8, t9, t10, t11⟩ := hSw
      go_simp
    simp only [Act.put, List.setIfInBounds_toArray, List.set_cons_zero, List.set_cons_succ]
    refine wpAnyS_take (i := 14) (oi := ⟨some 41, _, _, _, _, _⟩) (v := .bool false) rfl (by kernel_rfl) (by kernel_rfl) (by kernel_rfl) (by kernel_rfl) (fun _ _ _ h => Norm.panic h) (Or.inl ⟨by rfl, ?_⟩) (by assumption) ?_
    · intro w' hSw
      obtain ⟨⟨t0, t1, t2, t3⟩, ⟨t4, t5, t6, t7⟩, t8, t9, t10, t11⟩ := hSw
      go_simp
    simp only [Act.put, List.setIfInBounds_toArray, List.set_cons_zero, List.set_cons_succ]
    refine wpAnyS_take (i := 15) (oi := ⟨some 42, _, _, _, _, _⟩) (v := .int .i64 (-1)) rfl (by kernel_rfl) (by kernel_rfl) (by kernel_rfl) (by kernel_rfl) (fun _ _ _ h => Norm.panic h) (Or.inl ⟨by rfl, ?_⟩) (by assumption) ?_
    · intro w' hSw
      obtain ⟨⟨t0, t1, t2, t3⟩, ⟨t4, t5, t6, t7⟩, t8, t9, t10, t11⟩ := hSw
      go_simp
    simp only [Act.put, List.setIfInBounds_toArray, List.set_cons_zero, List.set_cons_succ]
    refine wpAnyS_take (i := 16) (oi := ⟨some 43, _, _, _, _, _⟩) (v := .bool false) rfl (by kernel_rfl) (by kernel_rfl) (by kernel_rfl) (by kernel_rfl) (fun _ _ _ h => Norm.panic h) (Or.inl ⟨by rfl, ?_⟩) (by assumption) ?_
    · intro w' hSw
      obtain ⟨⟨t0, t1, t2, t3⟩, ⟨t4, t5, t6, t7⟩, t8, t9, t10, t11⟩ := hSw
      go_simp
    simp only [Act.put, List.setIfInBounds_toArray, List.set_cons_zero, List.set_cons_succ]
    refine wpAnyS_take (i := 17) (oi := ⟨some 44, _, _, _, _, _⟩) (v := .agg #[.int .u8 f.op, .string f.n, .slice a1 f.args.length k1, .slice a2 f.sub.length k2]) rfl (by kernel_rfl) (by kernel_rfl) (by kernel_rfl) (by kernel_rfl) (fun _ _ _ h => Norm.panic h) (Or.inl ⟨by rfl, ?_⟩) (by assumption) ?_
    · intro w' hSw
      obtain ⟨⟨t0, t1, t2, t3⟩, ⟨t4, t5, t6, t7⟩, t8, t9, t10, t11⟩ := hSw
      go_simp
    simp only [Act.put, List.setIfInBounds_toArray, List.set_cons_zero, List.set_cons_succ]
    refine wpAnyS_take (i := 18) (oi := ⟨some 45, _, _, _, _, _⟩) (v := .agg #[.int .u8 g.op, .string g.n, .slice a3 g.args.length k3, .slice a4 g.sub.length k4]) rfl (by kernel_rfl) (by kernel_rfl) (by kernel_rfl) (by kernel_rfl) (fun _ _ _ h => Norm.panic h) (Or.inl ⟨by rfl, ?_⟩) (by assumption) ?_
    · intro w' hSw
      obtain ⟨⟨t0, t1, t2, t3⟩, ⟨t4, t5, t6, t7⟩, t8, t9, t10, t11⟩ := hSw
      go_simp
    simp only [Act.put, List.setIfInBounds_toArray, List.set_cons_zero, List.set_cons_succ]
    refine wpAnyS_one (i := 19) (oi := ⟨some 46, _, _, _, _, _⟩) rfl (by kernel_rfl) (by rfl) (fun K hK => ?_)
    go_simp
    refine (eqF_c (SizeOf.sizeOf f + 1) f (Nat.lt_succ_self _) g _ _ _ _ _ _ _ _ w.heap.size _ (HF'.out _ HBk) (HG'.out _ HBk) (Nat.le_trans HP.out.size HBk.size)).mono ?_
    rintro e wn ⟨rfl, hbn⟩
    rw [hq]
    have HBn := HBk.trans (hbn.mono HBk.size)
    clear HBk hbn
    have HBk := HBn
    clear HBn
    have hHeld := HS.out _ HBk
    refine hK _ _ (fun _ => hHeld) ?_
    clear hK K
    simp only [Act.put, List.setIfInBounds_toArray, List.set_cons_zero, List.set_cons_succ]
    refine wpAnyS_take (i := 20) (oi := ⟨some 47, _, _, _, _, _⟩) (v := .bool false) rfl (by kernel_rfl) (by kernel_rfl) (by kernel_rfl) (by kernel_rfl) (fun _ _ _ h => Norm.panic h) (Or.inl ⟨by rfl, ?_⟩) (by assumption) ?_
    · intro w' hSw
      obtain ⟨⟨t0, t1, t2, t3⟩, ⟨t4, t5, t6, t7⟩, t8, t9, t10, t11⟩ := hSw
      go_simp
    simp only [Act.put, List.setIfInBounds_toArray, List.set_cons_zero, List.set_cons_succ]
    refine wpAnyS_take (i := 21) (oi := ⟨some 48, _, _, _, _, _⟩) (v := .bool false) rfl (by kernel_rfl) (by kernel_rfl) (by kernel_rfl) (by kernel_rfl) (fun _ _ _ h => Norm.panic h) (Or.inl ⟨by rfl, ?_⟩) (by assumption) ?_
    · intro w' hSw
      obtain ⟨⟨t0, t1, t2, t3⟩, ⟨t4, t5, t6, t7⟩, t8, t9, t10, t11⟩ := hSw
      go_simp
    simp only [Act.put, List.setIfInBounds_toArray, List.set_cons_zero, List.set_cons_succ]
    refine wpAnyS_take (i := 22) (oi := ⟨some 49, _, _, _, _, _⟩) (v := .bool false) rfl (by kernel_rfl) (by kernel_rfl) (by kernel_rfl) (by kernel_rfl) (fun _ _ _ h => Norm.panic h) (Or.inl ⟨by rfl, ?_⟩) (by assumption) ?_
    · intro w' hSw
      obtain ⟨⟨t0, t1, t2, t3⟩, ⟨t4, t5, t6, t7⟩, t8, t9, t10, t11⟩ := hSw
      go_simp
    simp only [Act.put, List.setIfInBounds_toArray, List.set_cons_zero, List.set_cons_succ]
    refine wpAnyS_take (i := 23) (oi := ⟨some 50, _, _, _, _, _⟩) (v := .agg #[.int .u8 f.op, .string f.n, .slice a1 f.args.length k1, .slice a2 f.sub.length k2]) rfl (by kernel_rfl) (by kernel_rfl) (by kernel_rfl) (by kernel_rfl) (fun _ _ _ h => Norm.panic h) (Or.inl ⟨by rfl, ?_⟩) (by assumption) ?_
    · intro w' hSw
      obtain ⟨⟨t0, t1, t2, t3⟩, ⟨t4, t5, t6, t7⟩, t8, t9, t10, t11⟩ := hSw
      go_simp
    simp only [Act.put, List.setIfInBounds_toArray, List.set_cons_zero, List.set_cons_succ]
    refine wpAnyS_take (i := 24) (oi := ⟨some 51, _, _, _, _, _⟩) (v := .agg #[.int .u8 f.op, .string f.n, .slice a1 f.args.length k1, .slice a2 f.sub.length k2]) rfl (by kernel_rfl) (by kernel_rfl) (by kernel_rfl) (by kernel_rfl) (fun _ _ _ h => Norm.panic h) (Or.inl ⟨by rfl, ?_⟩) (by assumption) ?_
    · intro w' hSw
      obtain ⟨⟨t0, t1, t2, t3⟩, ⟨t4, t5, t6, t7⟩, t8, t9, t10, t11⟩ := hSw
      go_simp
    simp only [Act.put, List.setIfInBounds_toArray, List.set_cons_zero, List.set_cons_succ]
    refine wpAnyS_one (i := 25) (oi := ⟨some 52, _, _, _, _, _⟩) rfl (by kernel_rfl) (by rfl) (fun K hK => ?_)
    go_simp
    refine (ownF_c (SizeOf.sizeOf f + 1) f (Nat.lt_succ_self _) _ _ _ _ w.heap.size _ (HF'.out _ HBk) (Nat.le_trans HP.out.size HBk.size)).mono ?_
    rintro e wn ⟨ac, cc, ad, cd, rfl, HA, HB, hbn⟩
    have HC := Lib.hid (show FoV wn.heap.size wn (.int .u8 f.op) (.string f.n) (.slice ac f.args.length cc) (.slice ad f.sub.length cd) f from ⟨rfl, bF, rfl, oF, HA.slT (fun b hb => hb.2), HB.slF (fun b hb => hb.2)⟩)
    clear HA HB
    have HBn := HBk.trans (hbn.mono HBk.size)
    clear HBk hbn
    have HBk := HBn
    clear HBn
    have hHeld := HS.out _ HBk
    refine hK _ _ (fun _ => hHeld) ?_
    clear hK K
    simp only [Act.put, List.setIfInBounds_toArray, List.set_cons_zero, List.set_cons_succ]
    refine wpAnyS_one (i := 26) (oi := ⟨some 53, _, _, _, _, _⟩) rfl (by kernel_rfl) (by rfl) (fun K hK => ?_)
    go_simp
    refine (compare_c f f _ _ _ _ _ _ _ _ wn.heap.size _ ((HF'.out _ HBk).mono (Nat.le_trans HP.out.size HBk.size)) HC.out (Nat.le_refl _)).mono ?_
    rintro e wq ⟨rfl, hbn⟩
    rw [hself]
    have HBn := HBk.trans (hbn.mono HBk.size)
    clear HBk hbn
    have HBk := HBn
    clear HBn
    have hHeld := HS.out _ HBk
    refine hK _ _ (fun _ => hHeld) ?_
    clear hK K
    simp only [Act.put, List.setIfInBounds_toArray, List.set_cons_zero, List.set_cons_succ]
    refine wpAnyS_take (i := 27) (oi := ⟨some 54, _, _, _, _, _⟩) (v := .bool false) rfl (by kernel_rfl) (by kernel_rfl) (by kernel_rfl) (by kernel_rfl) (fun _ _ _ h => Norm.panic h) (Or.inl ⟨by rfl, ?_⟩) (by assumption) ?_
    · intro w' hSw
      obtain ⟨⟨t0, t1, t2, t3⟩, ⟨t4, t5, t6, t7⟩, t8, t9, t10, t11⟩ := hSw
      go_simp
    simp only [Act.put, List.setIfInBounds_toArray, List.set_cons_zero, List.set_cons_succ]
    refine wpAnyS_take (i := 28) (oi := ⟨some 55, _, _, _, _, _⟩) (v := .bool false) rfl (by kernel_rfl) (by kernel_rfl) (by kernel_rfl) (by kernel_rfl) (fun _ _ _ h => Norm.panic h) (Or.inl ⟨by rfl, ?_⟩) (by assumption) ?_
    · intro w' hSw
      obtain ⟨⟨t0, t1, t2, t3⟩, ⟨t4, t5, t6, t7⟩, t8, t9, t10, t11⟩ := hSw
      go_simp
    simp only [Act.put, List.setIfInBounds_toArray, List.set_cons_zero, List.set_cons_succ]
    refine wpAnyS_take (i := 29) (oi := ⟨some 56, _, _, _, _, _⟩) (v := .bool false) rfl (by kernel_rfl) (by kernel_rfl) (by kernel_rfl) (by kernel_rfl) (fun _ _ _ h => Norm.panic h) (Or.inl ⟨by rfl, ?_⟩) (by assumption) ?_
    · intro w' hSw
      obtain ⟨⟨t0, t1, t2, t3⟩, ⟨t4, t5, t6, t7⟩, t8, t9, t10, t11⟩ := hSw
      go_simp
    simp only [Act.put, List.setIfInBounds_toArray, List.set_cons_zero, List.set_cons_succ]
    refine wpAnyS_take (i := 30) (oi := ⟨some 57, _, _, _, _, _⟩) (v := .agg #[.int .u8 f.op, .string f.n, .slice a1 f.args.length k1, .slice a2 f.sub.length k2]) rfl (by kernel_rfl) (by kernel_rfl) (by kernel_rfl) (by kernel_rfl) (fun _ _ _ h => Norm.panic h) (Or.inl ⟨by rfl, ?_⟩) (by assumption) ?_
    · intro w' hSw
      obtain ⟨⟨t0, t1, t2, t3⟩, ⟨t4, t5, t6, t7⟩, t8, t9, t10, t11⟩ := hSw
      go_simp
    simp only [Act.put, List.setIfInBounds_toArray, List.set_cons_zero, List.set_cons_succ]
    refine wpAnyS_take (i := 31) (oi := ⟨some 58, _, _, _, _, _⟩) (v := .agg #[.int .u8 g.op, .string g.n, .slice a3 g.args.length k3, .slice a4 g.sub.length k4]) rfl (by kernel_rfl) (by kernel_rfl) (by kernel_rfl) (by kernel_rfl) (fun _ _ _ h => Norm.panic h) (Or.inl ⟨by rfl, ?_⟩) (by assumption) ?_
    · intro w' hSw
      obtain ⟨⟨t0, t1, t2, t3⟩, ⟨t4, t5, t6, t7⟩, t8, t9, t10, t11⟩ := hSw
      go_simp
    simp only [Act.put, List.setIfInBounds_toArray, List.set_cons_zero, List.set_cons_succ]
    refine wpAnyS_take (i := 33) (oi := ⟨some 60, _, _, _, _, _⟩) (v := .int .i64 (-1)) rfl (by kernel_rfl) (by kernel_rfl) (by kernel_rfl) (by kernel_rfl) (fun _ _ _ h => Norm.panic h) (Or.inl ⟨by rfl, ?_⟩) (by assumption) ?_
    · intro w' hSw
      obtain ⟨⟨t0, t1, t2, t3⟩, ⟨t4, t5, t6, t7⟩, t8, t9, t10, t11⟩ := hSw
      go_simp
    simp only [Act.put, List.setIfInBounds_toArray, List.set_cons_zero, List.set_cons_succ]
    refine wpAnyS_take (i := 34) (oi := ⟨some 61, _, _, _, _, _⟩) (v := .bool false) rfl (by kernel_rfl) (by kernel_rfl) (by kernel_rfl) (by kernel_rfl) (fun _ _ _ h => Norm.panic h) (Or.inl ⟨by rfl, ?_⟩) (by assumption) ?_
    · intro w' hSw
      obtain ⟨⟨t0, t1, t2, t3⟩, ⟨t4, t5, t6, t7⟩, t8, t9, t10, t11⟩ := hSw
      go_simp
    simp only [Act.put, List.setIfInBounds_toArray, List.set_cons_zero, List.set_cons_succ]
    refine wpAnyS_one (i := 32) (oi := ⟨some 59, _, _, _, _, _⟩) rfl (by kernel_rfl) (by rfl) (fun K hK => ?_)
    go_simp
    refine (same_c f g _ _ _ _ _ _ _ _ w.heap.size _ (HF'.out _ HBk) (HG'.out _ HBk) (Nat.le_trans HP.out.size HBk.size)).mono ?_
    rintro e wn ⟨rfl, hbn⟩
    rw [hx]
    have HBn := HBk.trans (hbn.mono HBk.size)
    clear HBk hbn
    have HBk := HBn
    clear HBn
    have hHeld := HS.out _ HBk
    refine hK _ _ (fun _ => hHeld) ?_
    clear hK K
    simp only [Act.put, List.setIfInBounds_toArray, List.set_cons_zero, List.set_cons_succ]
    refine wpAnyS_take (i := 35) (oi := ⟨some 62, _, _, _, _, _⟩) (v := .bool false) rfl (by kernel_rfl) (by kernel_rfl) (by kernel_rfl) (by kernel_rfl) (fun _ _ _ h => Norm.panic h) (Or.inl ⟨by rfl, ?_⟩) (by assumption) ?_
    · intro w' hSw
      obtain ⟨⟨t0, t1, t2, t3⟩, ⟨t4, t5, t6, t7⟩, t8, t9, t10, t11⟩ := hSw
      go_simp
    simp only [Act.put, List.setIfInBounds_toArray, List.set_cons_zero, List.set_cons_succ]
    refine wpAnyS_take (i := 36) (oi := ⟨some 63, _, _, _, _, _⟩) (v := .bool false) rfl (by kernel_rfl) (by kernel_rfl) (by kernel_rfl) (by kernel_rfl) (fun _ _ _ h => Norm.panic h) (Or.inl ⟨by rfl, ?_⟩) (by assumption) ?_
    · intro w' hSw
      obtain ⟨⟨t0, t1, t2, t3⟩, ⟨t4, t5, t6, t7⟩, t8, t9, t10, t11⟩ := hSw
      go_simp
    simp only [Act.put, List.setIfInBounds_toArray, List.set_cons_zero, List.set_cons_succ]
    refine wpAnyS_done (by kernel_rfl) ?_
    refine Norm.normal ?_
    go_wp2_with fail
    all_goals go_ret
    all_goals refine ⟨?_, HP.out.trans (HBk.mono HP.out.size)⟩
    all_goals first | rfl | (simp; omega)
  · have hq : eqF f g = true := by exact hxz.1 hx
    have hx2 : cmpF g f = 0 := by omega
    rw [hx] at hord
    rw [hx]
    obtain ⟨o1, o2, o3, o4⟩ := hord
    unfold Rng at *
    unfold Tri at o4
    have HBd := HBk.trans ((Below.drew (Below.refl _ _)).mono HBk.size)
    refine wp_region_S (OrS w.heap.size (.int .u8 f.op) (.string f.n) (.slice a1 f.args.length k1) (.slice a2 f.sub.length k2) (.int .u8 g.op) (.string g.n) (.slice a3 g.args.length k3) (.slice a4 g.sub.length k4) (.int .u8 h.op) (.string h.n) (.slice a5 h.args.length k5) (.slice a6 h.sub.length k6)) [] 37 #[false, false, false, false, false, false, false, false, false, false, false, false, false, false, false, false, false, false, false, false, false, false, false, false, false, false, false, false, false, false, false, false, false, false, false, false, false] (by kernel_rfl) (by kernel_rfl) (by kernel_rfl) (HS.out _ HBd) (fun hHeld => ?_)
    clear HBk
    have HBk := HBd
    clear HBd
    refine wpAnyS_take (i := 0) (oi := ⟨some 27, _, _, _, _, _⟩) (v := .int .i64 0) rfl (by kernel_rfl) (by kernel_rfl) (by kernel_rfl) (by kernel_rfl) (fun _ _ _ h => Norm.panic h) (Or.inl ⟨by rfl, ?_⟩) (by assumption) ?_
    · intro w' hSw
      obtain ⟨⟨t0, t1, t2, t3⟩, ⟨t4, t5, t6, t7⟩, t8, t9, t10, t11⟩ := hSw
      go_simp
    simp only [Act.put, List.setIfInBounds_toArray, List.set_cons_zero, List.set_cons_succ]
    refine wpAnyS_take (i := 1) (oi := ⟨some 28, _, _, _, _, _⟩) (v := .agg #[.int .u8 g.op, .string g.n, .slice a3 g.args.length k3, .slice a4 g.sub.length k4]) rfl (by kernel_rfl) (by kernel_rfl) (by kernel_rfl) (by kernel_rfl) (fun _ _ _ h => Norm.panic h) (Or.inl ⟨by rfl, ?_⟩) (by assumption) ?_
    · intro w' hSw
      obtain ⟨⟨t0, t1, t2, t3⟩, ⟨t4, t5, t6, t7⟩, t8, t9, t10, t11⟩ := hSw
      go_simp
    simp only [Act.put, List.setIfInBounds_toArray, List.set_cons_zero, List.set_cons_succ]
    refine wpAnyS_take (i := 2) (oi := ⟨some 29, _, _, _, _, _⟩) (v := .agg #[.int .u8 f.op, .string f.n, .slice a1 f.args.length k1, .slice a2 f.sub.length k2]) rfl (by kernel_rfl) (by kernel_rfl) (by kernel_rfl) (by kernel_rfl) (fun _ _ _ h => Norm.panic h) (Or.inl ⟨by rfl, ?_⟩) (by assumption) ?_
    · intro w' hSw
      obtain ⟨⟨t0, t1, t2, t3⟩, ⟨t4, t5, t6, t7⟩, t8, t9, t10, t11⟩ := hSw
      go_simp
    simp only [Act.put, List.setIfInBounds_toArray, List.set_cons_zero, List.set_cons_succ]
    refine wpAnyS_one (i := 3) (oi := ⟨some 30, _, _, _, _, _⟩) rfl (by kernel_rfl) (by rfl) (fun K hK => ?_)
    go_simp
    refine (compare_c g f _ _ _ _ _ _ _ _ w.heap.size _ (HG'.out _ HBk) (HF'.out _ HBk) (Nat.le_trans HP.out.size HBk.size)).mono ?_
    rintro e wn ⟨rfl, hbn⟩
    rw [hx2]
    have HBn := HBk.trans (hbn.mono HBk.size)
    clear HBk hbn
    have HBk := HBn
    clear HBn
    have hHeld := HS.out _ HBk
    refine hK _ _ (fun _ => hHeld) ?_
    clear hK K
    simp only [Act.put, List.setIfInBounds_toArray, List.set_cons_zero, List.set_cons_succ]
    refine wpAnyS_take (i := 4) (oi := ⟨some 31, _, _, _, _, _⟩) (v := .int .i64 0) rfl (by kernel_rfl) (by kernel_rfl) (by kernel_rfl) (by kernel_rfl) (fun _ _ _ h => Norm.panic h) (Or.inl ⟨by rfl, ?_⟩) (by assumption) ?_
    · intro w' hSw
      obtain ⟨⟨t0, t1, t2, t3⟩, ⟨t4, t5, t6, t7⟩, t8, t9, t10, t11⟩ := hSw
      go_simp
      try rfl
    simp only [Act.put, List.setIfInBounds_toArray, List.set_cons_zero, List.set_cons_succ]
    refine wpAnyS_take (i := 5) (oi := ⟨some 32, _, _, _, _, _⟩) (v := .bool false) rfl (by kernel_rfl) (by kernel_rfl) (by kernel_rfl) (by kernel_rfl) (fun _ _ _ h => Norm.panic h) (Or.inl ⟨by rfl, ?_⟩) (by assumption) ?_
    · intro w' hSw
      obtain ⟨⟨t0, t1, t2, t3⟩, ⟨t4, t5, t6, t7⟩, t8, t9, t10, t11⟩ := hSw
      go_simp
    simp only [Act.put, List.setIfInBounds_toArray, List.set_cons_zero, List.set_cons_succ]
    refine wpAnyS_take (i := 6) (oi := ⟨some 33, _, _, _, _, _⟩) (v := .bool false) rfl (by kernel_rfl) (by kernel_rfl) (by kernel_rfl) (by kernel_rfl) (fun _ _ _ h => Norm.panic h) (Or.inl ⟨by rfl, ?_⟩) (by assumption) ?_
    · intro w' hSw
      obtain ⟨⟨t0, t1, t2, t3⟩, ⟨t4, t5, t6, t7⟩, t8, t9, t10, t11⟩ := hSw
      go_simp
    simp only [Act.put, List.setIfInBounds_toArray, List.set_cons_zero, List.set_cons_succ]
    refine wpAnyS_take (i := 7) (oi := ⟨some 34, _, _, _, _, _⟩) (v := .int .i64 0) rfl (by kernel_rfl) (by kernel_rfl) (by kernel_rfl) (by kernel_rfl) (fun _ _ _ h => Norm.panic h) (Or.inl ⟨by rfl, ?_⟩) (by assumption) ?_
    · intro w' hSw
      obtain ⟨⟨t0, t1, t2, t3⟩, ⟨t4, t5, t6, t7⟩, t8, t9, t10, t11⟩ := hSw
      go_simp
    simp only [Act.put, List.setIfInBounds_toArray, List.set_cons_zero, List.set_cons_succ]
    refine wpAnyS_take (i := 8) (oi := ⟨some 35, _, _, _, _, _⟩) (v := .bool false) rfl (by kernel_rfl) (by kernel_rfl) (by kernel_rfl) (by kernel_rfl) (fun _ _ _ h => Norm.panic h) (Or.inl ⟨by rfl, ?_⟩) (by assumption) ?_
    · intro w' hSw
      obtain ⟨⟨t0, t1, t2, t3⟩, ⟨t4, t5, t6, t7⟩, t8, t9, t10, t11⟩ := hSw
      go_simp
    simp only [Act.put, List.setIfInBounds_toArray, List.set_cons_zero, List.set_cons_succ]
    refine wpAnyS_take (i := 9) (oi := ⟨some 36, _, _, _, _, _⟩) (v := .bool false) rfl (by kernel_rfl) (by kernel_rfl) (by kernel_rfl) (by kernel_rfl) (fun _ _ _ h => Norm.panic h) (Or.inl ⟨by rfl, ?_⟩) (by assumption) ?_
    · intro w' hSw
      obtain ⟨⟨t0, t1, t2, t3⟩, ⟨t4, t5, t6, t7⟩, t8, t9, t10, t11⟩ := hSw
      go_simp
    simp only [Act.put, List.setIfInBounds_toArray, List.set_cons_zero, List.set_cons_succ]
    refine wpAnyS_take (i := 10) (oi := ⟨some 37, _, _, _, _, _⟩) (v := .bool false) rfl (by kernel_rfl) (by kernel_rfl) (by kernel_rfl) (by kernel_rfl) (fun _ _ _ h => Norm.panic h) (Or.inl ⟨by rfl, ?_⟩) (by assumption) ?_
    · intro w' hSw
      obtain ⟨⟨t0, t1, t2, t3⟩, ⟨t4, t5, t6, t7⟩, t8, t9, t10, t11⟩ := hSw
      go_simp
    simp only [Act.put, List.setIfInBounds_toArray, List.set_cons_zero, List.set_cons_succ]
    refine wpAnyS_take (i := 11) (oi := ⟨some 38, _, _, _, _, _⟩) (v := .int .i64 0) rfl (by kernel_rfl) (by kernel_rfl) (by kernel_rfl) (by kernel_rfl) (fun _ _ _ h => Norm.panic h) (Or.inl ⟨by rfl, ?_⟩) (by assumption) ?_
    · intro w' hSw
      obtain ⟨⟨t0, t1, t2, t3⟩, ⟨t4, t5, t6, t7⟩, t8, t9, t10, t11⟩ := hSw
      go_simp
    simp only [Act.put, List.setIfInBounds_toArray, List.set_cons_zero, List.set_cons_succ]
    refine wpAnyS_take (i := 12) (oi := ⟨some 39, _, _, _, _, _⟩) (v := .bool false) rfl (by kernel_rfl) (by kernel_rfl) (by kernel_rfl) (by kernel_rfl) (fun _ _ _ h => Norm.panic h) (Or.inl ⟨by rfl, ?_⟩) (by assumption) ?_
    · intro w' hSw
      obtain ⟨⟨t0, t1, t2, t3⟩, ⟨t4, t5, t6, t7⟩, t8, t9, t10, t11⟩ := hSw
      go_simp
    simp only [Act.put, List.setIfInBounds_toArray, List.set_cons_zero, List.set_cons_succ]
    refine wpAnyS_take (i := 13) (oi := ⟨some 40, _, _, _, _, _⟩) (v := .bool false) rfl (by kernel_rfl) (by kernel_rfl) (by kernel_rfl) (by kernel_rfl) (fun _ _ _ h => Norm.panic h) (Or.inl ⟨by rfl, ?_⟩) (by assumption) ?_
    · intro w' hSw
      obtain ⟨⟨t0, t1, t2, t3⟩, ⟨t4, t5, t6, t7⟩, t8, t9, t10, t11⟩ := hSw
      go_simp
    simp only [Act.put, List.setIfInBounds_toArray, List.set_cons_zero, List.set_cons_succ]
    refine wpAnyS_take (i := 14) (oi := ⟨some 41, _, _, _, _, _⟩) (v := .bool false) rfl (by kernel_rfl) (by kernel_rfl) (by kernel_rfl) (by kernel_rfl) (fun _ _ _ h => Norm.panic h) (Or.inl ⟨by rfl, ?_⟩) (by assumption) ?_
    · intro w' hSw
      obtain ⟨⟨t0, t1, t2, t3⟩, ⟨t4, t5, t6, t7⟩, t8, t9, t10, t11⟩ := hSw
      go_simp
    simp only [Act.put, List.setIfInBounds_toArray, List.set_cons_zero, List.set_cons_succ]
    refine wpAnyS_take (i := 15) (oi := ⟨some 42, _, _, _, _, _⟩) (v := .int .i64 0) rfl (by kernel_rfl) (by kernel_rfl) (by kernel_rfl) (by kernel_rfl) (fun _ _ _ h => Norm.panic h) (Or.inl ⟨by rfl, ?_⟩) (by assumption) ?_
    · intro w' hSw
      obtain ⟨⟨t0, t1, t2, t3⟩, ⟨t4, t5, t6, t7⟩, t8, t9, t10, t11⟩ := hSw
      go_simp
    simp only [Act.put, List.setIfInBounds_toArray, List.set_cons_zero, List.set_cons_succ]
    refine wpAnyS_take (i := 16) (oi := ⟨some 43, _, _, _, _, _⟩) (v := .bool true) rfl (by kernel_rfl) (by kernel_rfl) (by kernel_rfl) (by kernel_rfl) (fun _ _ _ h => Norm.panic h) (Or.inl ⟨by rfl, ?_⟩) (by assumption) ?_
    · intro w' hSw
      obtain ⟨⟨t0, t1, t2, t3⟩, ⟨t4, t5, t6, t7⟩, t8, t9, t10, t11⟩ := hSw
      go_simp
    simp only [Act.put, List.setIfInBounds_toArray, List.set_cons_zero, List.set_cons_succ]
    refine wpAnyS_take (i := 17) (oi := ⟨some 44, _, _, _, _, _⟩) (v := .agg #[.int .u8 f.op, .string f.n, .slice a1 f.args.length k1, .slice a2 f.sub.length k2]) rfl (by kernel_rfl) (by kernel_rfl) (by kernel_rfl) (by kernel_rfl) (fun _ _ _ h => Norm.panic h) (Or.inl ⟨by rfl, ?_⟩) (by assumption) ?_
    · intro w' hSw
      obtain ⟨⟨t0, t1, t2, t3⟩, ⟨t4, t5, t6, t7⟩, t8, t9, t10, t11⟩ := hSw
      go_simp
    simp only [Act.put, List.setIfInBounds_toArray, List.set_cons_zero, List.set_cons_succ]
    refine wpAnyS_take (i := 18) (oi := ⟨some 45, _, _, _, _, _⟩) (v := .agg #[.int .u8 g.op, .string g.n, .slice a3 g.args.length k3, .slice a4 g.sub.length k4]) rfl (by kernel_rfl) (by kernel_rfl) (by kernel_rfl) (by kernel_rfl) (fun _ _ _ h => Norm.panic h) (Or.inl ⟨by rfl, ?_⟩) (by assumption) ?_
    · intro w' hSw
      obtain ⟨⟨t0, t1, t2, t3⟩, ⟨t4, t5, t6, t7⟩, t8, t9, t10, t11⟩ := hSw
      go_simp
    simp only [Act.put, List.setIfInBounds_toArray, List.set_cons_zero, List.set_cons_succ]
    refine wpAnyS_one (i := 19) (oi := ⟨some 46, _, _, _, _, _⟩) rfl (by kernel_rfl) (by rfl) (fun K hK => ?_)
    go_simp
    refine (eqF_c (SizeOf.sizeOf f + 1) f (Nat.lt_succ_self _) g _ _ _ _ _ _ _ _ w.heap.size _ (HF'.out _ HBk) (HG'.out _ HBk) (Nat.le_trans HP.out.size HBk.size)).mono ?_
    rintro e wn ⟨rfl, hbn⟩
    rw [hq]
    have HBn := HBk.trans (hbn.mono HBk.size)
    clear HBk hbn
    have HBk := HBn
    clear HBn
    have hHeld := HS.out _ HBk
    refine hK _ _ (fun _ => hHeld) ?_
    clear hK K
    simp only [Act.put, List.setIfInBounds_toArray, List.set_cons_zero, List.set_cons_succ]
    refine wpAnyS_take (i := 20) (oi := ⟨some 47, _, _, _, _, _⟩) (v := .bool false) rfl (by kernel_rfl) (by kernel_rfl) (by kernel_rfl) (by kernel_rfl) (fun _ _ _ h => Norm.panic h) (Or.inl ⟨by rfl, ?_⟩) (by assumption) ?_
    · intro w' hSw
      obtain ⟨⟨t0, t1, t2, t3⟩, ⟨t4, t5, t6, t7⟩, t8, t9, t10, t11⟩ := hSw
      go_simp
    simp only [Act.put, List.setIfInBounds_toArray, List.set_cons_zero, List.set_cons_succ]
    refine wpAnyS_take (i := 21) (oi := ⟨some 48, _, _, _, _, _⟩) (v := .bool false) rfl (by kernel_rfl) (by kernel_rfl) (by kernel_rfl) (by kernel_rfl) (fun _ _ _ h => Norm.panic h) (Or.inl ⟨by rfl, ?_⟩) (by assumption) ?_
    · intro w' hSw
      obtain ⟨⟨t0, t1, t2, t3⟩, ⟨t4, t5, t6, t7⟩, t8, t9, t10, t11⟩ := hSw
      go_simp
    simp only [Act.put, List.setIfInBounds_toArray, List.set_cons_zero, List.set_cons_succ]
    refine wpAnyS_take (i := 22) (oi := ⟨some 49, _, _, _, _, _⟩) (v := .bool false) rfl (by kernel_rfl) (by kernel_rfl) (by kernel_rfl) (by kernel_rfl) (fun _ _ _ h => Norm.panic h) (Or.inl ⟨by rfl, ?_⟩) (by assumption) ?_
    · intro w' hSw
      obtain ⟨⟨t0, t1, t2, t3⟩, ⟨t4, t5, t6, t7⟩, t8, t9, t10, t11⟩ := hSw
      go_simp
    simp only [Act.put, List.setIfInBounds_toArray, List.set_cons_zero, List.set_cons_succ]
    refine wpAnyS_take (i := 23) (oi := ⟨some 50, _, _, _, _, _⟩) (v := .agg #[.int .u8 f.op, .string f.n, .slice a1 f.args.length k1, .slice a2 f.sub.length k2]) rfl (by kernel_rfl) (by kernel_rfl) (by kernel_rfl) (by kernel_rfl) (fun _ _ _ h => Norm.panic h) (Or.inl ⟨by rfl, ?_⟩) (by assumption) ?_
    · intro w' hSw
      obtain ⟨⟨t0, t1, t2, t3⟩, ⟨t4, t5, t6, t7⟩, t8, t9, t10, t11⟩ := hSw
      go_simp
    simp only [Act.put, List.setIfInBounds_toArray, List.set_cons_zero, List.set_cons_succ]
    refine wpAnyS_take (i := 24) (oi := ⟨some 51, _, _, _, _, _⟩) (v := .agg #[.int .u8 f.op, .string f.n, .slice a1 f.args.length k1, .slice a2 f.sub.length k2]) rfl (by kernel_rfl) (by kernel_rfl) (by kernel_rfl) (by kernel_rfl) (fun _ _ _ h => Norm.panic h) (Or.inl ⟨by rfl, ?_⟩) (by assumption) ?_
    · intro w' hSw
      obtain ⟨⟨t0, t1, t2, t3⟩, ⟨t4, t5, t6, t7⟩, t8, t9, t10, t11⟩ := hSw
      go_simp
    simp only [Act.put, List.setIfInBounds_toArray, List.set_cons_zero, List.set_cons_succ]
    refine wpAnyS_one (i := 25) (oi := ⟨some 52, _, _, _, _, _⟩) rfl (by kernel_rfl) (by rfl) (fun K hK => ?_)
    go_simp
    refine (ownF_c (SizeOf.sizeOf f + 1) f (Nat.lt_succ_self _) _ _ _ _ w.heap.size _ (HF'.out _ HBk) (Nat.le_trans HP.out.size HBk.size)).mono ?_
    rintro e wn ⟨ac, cc, ad, cd, rfl, HA, HB, hbn⟩
    have HC := Lib.hid (show FoV wn.heap.size wn (.int .u8 f.op) (.string f.n) (.slice ac f.args.length cc) (.slice ad f.sub.length cd) f from ⟨rfl, bF, rfl, oF, HA.slT (fun b hb => hb.2), HB.slF (fun b hb => hb.2)⟩)
    clear HA HB
    have HBn := HBk.trans (hbn.mono HBk.size)
    clear HBk hbn
    have HBk := HBn
    clear HBn
    have hHeld := HS.out _ HBk
    refine hK _ _ (fun _ => hHeld) ?_
    clear hK K
    simp only [Act.put, List.setIfInBounds_toArray, List.set_cons_zero, List.set_cons_succ]
    refine wpAnyS_one (i := 26) (oi := ⟨some 53, _, _, _, _, _⟩) rfl (by kernel_rfl) (by rfl) (fun K hK => ?_)
    go_simp
    refine (compare_c f f _ _ _ _ _ _ _ _ wn.heap.size _ ((HF'.out _ HBk).mono (Nat.le_trans HP.out.size HBk.size)) HC.out (Nat.le_refl _)).mono ?_
    rintro e wq ⟨rfl, hbn⟩
    rw [hself]
    have HBn := HBk.trans (hbn.mono HBk.size)
    clear HBk hbn
    have HBk := HBn
    clear HBn
    have hHeld := HS.out _ HBk
    refine hK _ _ (fun _ => hHeld) ?_
    clear hK K
    simp only [Act.put, List.setIfInBounds_toArray, List.set_cons_zero, List.set_cons_succ]
    refine wpAnyS_take (i := 27) (oi := ⟨some 54, _, _, _, _, _⟩) (v := .bool false) rfl (by kernel_rfl) (by kernel_rfl) (by kernel_rfl) (by kernel_rfl) (fun _ _ _ h => Norm.panic h) (Or.inl ⟨by rfl, ?_⟩) (by assumption) ?_
    · intro w' hSw
      obtain ⟨⟨t0, t1, t2, t3⟩, ⟨t4, t5, t6, t7⟩, t8, t9, t10, t11⟩ := hSw
      go_simp
    simp only [Act.put, List.setIfInBounds_toArray, List.set_cons_zero, List.set_cons_succ]
    refine wpAnyS_take (i := 28) (oi := ⟨some 55, _, _, _, _, _⟩) (v := .bool false) rfl (by kernel_rfl) (by kernel_rfl) (by kernel_rfl) (by kernel_rfl) (fun _ _ _ h => Norm.panic h) (Or.inl ⟨by rfl, ?_⟩) (by assumption) ?_
    · intro w' hSw
      obtain ⟨⟨t0, t1, t2, t3⟩, ⟨t4, t5, t6, t7⟩, t8, t9, t10, t11⟩ := hSw
      go_simp
    simp only [Act.put, List.setIfInBounds_toArray, List.set_cons_zero, List.set_cons_succ]
    refine wpAnyS_take (i := 29) (oi := ⟨some 56, _, _, _, _, _⟩) (v := .bool false) rfl (by kernel_rfl) (by kernel_rfl) (by kernel_rfl) (by kernel_rfl) (fun _ _ _ h => Norm.panic h) (Or.inl ⟨by rfl, ?_⟩) (by assumption) ?_
    · intro w' hSw
      obtain ⟨⟨t0, t1, t2, t3⟩, ⟨t4, t5, t6, t7⟩, t8, t9, t10, t11⟩ := hSw
      go_simp
    simp only [Act.put, List.setIfInBounds_toArray, List.set_cons_zero, List.set_cons_succ]
    refine wpAnyS_take (i := 30) (oi := ⟨some 57, _, _, _, _, _⟩) (v := .agg #[.int .u8 f.op, .string f.n, .slice a1 f.args.length k1, .slice a2 f.sub.length k2]) rfl (by kernel_rfl) (by kernel_rfl) (by kernel_rfl) (by kernel_rfl) (fun _ _ _ h => Norm.panic h) (Or.inl ⟨by rfl, ?_⟩) (by assumption) ?_
    · intro w' hSw
      obtain ⟨⟨t0, t1, t2, t3⟩, ⟨t4, t5, t6, t7⟩, t8, t9, t10, t11⟩ := hSw
      go_simp
    simp only [Act.put, List.setIfInBounds_toArray, List.set_cons_zero, List.set_cons_succ]
    refine wpAnyS_take (i := 31) (oi := ⟨some 58, _, _, _, _, _⟩) (v := .agg #[.int .u8 g.op, .string g.n, .slice a3 g.args.length k3, .slice a4 g.sub.length k4]) rfl (by kernel_rfl) (by kernel_rfl) (by kernel_rfl) (by kernel_rfl) (fun _ _ _ h => Norm.panic h) (Or.inl ⟨by rfl, ?_⟩) (by assumption) ?_
    · intro w' hSw
      obtain ⟨⟨t0, t1, t2, t3⟩, ⟨t4, t5, t6, t7⟩, t8, t9, t10, t11⟩ := hSw
      go_simp
    simp only [Act.put, List.setIfInBounds_toArray, List.set_cons_zero, List.set_cons_succ]
    refine wpAnyS_take (i := 33) (oi := ⟨some 60, _, _, _, _, _⟩) (v := .int .i64 0) rfl (by kernel_rfl) (by kernel_rfl) (by kernel_rfl) (by kernel_rfl) (fun _ _ _ h => Norm.panic h) (Or.inl ⟨by rfl, ?_⟩) (by assumption) ?_
    · intro w' hSw
      obtain ⟨⟨t0, t1, t2, t3⟩, ⟨t4, t5, t6, t7⟩, t8, t9, t10, t11⟩ := hSw
      go_simp
    simp only [Act.put, List.setIfInBounds_toArray, List.set_cons_zero, List.set_cons_succ]
    refine wpAnyS_take (i := 34) (oi := ⟨some 61, _, _, _, _, _⟩) (v := .bool true) rfl (by kernel_rfl) (by kernel_rfl) (by kernel_rfl) (by kernel_rfl) (fun _ _ _ h => Norm.panic h) (Or.inl ⟨by rfl, ?_⟩) (by assumption) ?_
    · intro w' hSw
      obtain ⟨⟨t0, t1, t2, t3⟩, ⟨t4, t5, t6, t7⟩, t8, t9, t10, t11⟩ := hSw
      go_simp
    simp only [Act.put, List.setIfInBounds_toArray, List.set_cons_zero, List.set_cons_succ]
    refine wpAnyS_one (i := 32) (oi := ⟨some 59, _, _, _, _, _⟩) rfl (by kernel_rfl) (by rfl) (fun K hK => ?_)
    go_simp
    refine (same_c f g _ _ _ _ _ _ _ _ w.heap.size _ (HF'.out _ HBk) (HG'.out _ HBk) (Nat.le_trans HP.out.size HBk.size)).mono ?_
    rintro e wn ⟨rfl, hbn⟩
    rw [hx]
    have HBn := HBk.trans (hbn.mono HBk.size)
    clear HBk hbn
    have HBk := HBn
    clear HBn
    have hHeld := HS.out _ HBk
    refine hK _ _ (fun _ => hHeld) ?_
    clear hK K
    simp only [Act.put, List.setIfInBounds_toArray, List.set_cons_zero, List.set_cons_succ]
    refine wpAnyS_take (i := 35) (oi := ⟨some 62, _, _, _, _, _⟩) (v := .bool false) rfl (by kernel_rfl) (by kernel_rfl) (by kernel_rfl) (by kernel_rfl) (fun _ _ _ h => Norm.panic h) (Or.inl ⟨by rfl, ?_⟩) (by assumption) ?_
    · intro w' hSw
      obtain ⟨⟨t0, t1, t2, t3⟩, ⟨t4, t5, t6, t7⟩, t8, t9, t10, t11⟩ := hSw
      go_simp
    simp only [Act.put, List.setIfInBounds_toArray, List.set_cons_zero, List.set_cons_succ]
    refine wpAnyS_take (i := 36) (oi := ⟨some 63, _, _, _, _, _⟩) (v := .bool false) rfl (by kernel_rfl) (by kernel_rfl) (by kernel_rfl) (by kernel_rfl) (fun _ _ _ h => Norm.panic h) (Or.inl ⟨by rfl, ?_⟩) (by assumption) ?_
    · intro w' hSw
      obtain ⟨⟨t0, t1, t2, t3⟩, ⟨t4, t5, t6, t7⟩, t8, t9, t10, t11⟩ := hSw
      go_simp
    simp only [Act.put, List.setIfInBounds_toArray, List.set_cons_zero, List.set_cons_succ]
    refine wpAnyS_done (by kernel_rfl) ?_
    refine Norm.normal ?_
    go_wp2_with fail
    all_goals go_ret
    all_goals refine ⟨?_, HP.out.trans (HBk.mono HP.out.size)⟩
    all_goals first | rfl | (simp; omega)
  · have hq : eqF f g = false := by rw [hx] at hxz; simpa using hxz
    have hx2 : cmpF g f = -1 := by omega
    rw [hx] at hord
    rw [hx]
    obtain ⟨o1, o2, o3, o4⟩ := hord
    unfold Rng at *
    unfold Tri at o4
    have HBd := HBk.trans ((Below.drew (Below.refl _ _)).mono HBk.size)
    refine wp_region_S (OrS w.heap.size (.int .u8 f.op) (.string f.n) (.slice a1 f.args.length k1) (.slice a2 f.sub.length k2) (.int .u8 g.op) (.string g.n) (.slice a3 g.args.length k3) (.slice a4 g.sub.length k4) (.int .u8 h.op) (.string h.n) (.slice a5 h.args.length k5) (.slice a6 h.sub.length k6)) [] 37 #[false, false, false, false, false, false, false, false, false, false, false, false, false, false, false, false, false, false, false, false, false, false, false, false, false, false, false, false, false, false, false, false, false, false, false, false, false] (by kernel_rfl) (by kernel_rfl) (by kernel_rfl) (HS.out _ HBd) (fun hHeld => ?_)
    clear HBk
    have HBk := HBd
    clear HBd
    refine wpAnyS_take (i := 0) (oi := ⟨some 27, _, _, _, _, _⟩) (v := .int .i64 1) rfl (by kernel_rfl) (by kernel_rfl) (by kernel_rfl) (by kernel_rfl) (fun _ _ _ h => Norm.panic h) (Or.inl ⟨by rfl, ?_⟩) (by assumption) ?_
    · intro w' hSw
      obtain ⟨⟨t0, t1, t2, t3⟩, ⟨t4, t5, t6, t7⟩, t8, t9, t10, t11⟩ := hSw
      go_simp
    simp only [Act.put, List.setIfInBounds_toArray, List.set_cons_zero, List.set_cons_succ]
    refine wpAnyS_take (i := 1) (oi := ⟨some 28, _, _, _, _, _⟩) (v := .agg #[.int .u8 g.op, .string g.n, .slice a3 g.args.length k3, .slice a4 g.sub.length k4]) rfl (by kernel_rfl) (by kernel_rfl) (by kernel_rfl) (by kernel_rfl) (fun _ _ _ h => Norm.panic h) (Or.inl ⟨by rfl, ?_⟩) (by assumption) ?_
    · intro w' hSw
      obtain ⟨⟨t0, t1, t2, t3⟩, ⟨t4, t5, t6, t7⟩, t8, t9, t10, t11⟩ := hSw
      go_simp
    simp only [Act.put, List.setIfInBounds_toArray, List.set_cons_zero, List.set_cons_succ]
    refine wpAnyS_take (i := 2) (oi := ⟨some 29, _, _, _, _, _⟩) (v := .agg #[.int .u8 f.op, .string f.n, .slice a1 f.args.length k1, .slice a2 f.sub.length k2]) rfl (by kernel_rfl) (by kernel_rfl) (by kernel_rfl) (by kernel_rfl) (fun _ _ _ h => Norm.panic h) (Or.inl ⟨by rfl, ?_⟩) (by assumption) ?_
    · intro w' hSw
      obtain ⟨⟨t0, t1, t2, t3⟩, ⟨t4, t5, t6, t7⟩, t8, t9, t10, t11⟩ := hSw
      go_simp
    simp only [Act.put, List.setIfInBounds_toArray, List.set_cons_zero, List.set_cons_succ]
    refine wpAnyS_one (i := 3) (oi := ⟨some 30, _, _, _, _, _⟩) rfl (by kernel_rfl) (by rfl) (fun K hK => ?_)
    go_simp
    refine (compare_c g f _ _ _ _ _ _ _ _ w.heap.size _ (HG'.out _ HBk) (HF'.out _ HBk) (Nat.le_trans HP.out.size HBk.size)).mono ?_
    rintro e wn ⟨rfl, hbn⟩
    rw [hx2]
    have HBn := HBk.trans (hbn.mono HBk.size)
    clear HBk hbn
    have HBk := HBn
    clear HBn
    have hHeld := HS.out _ HBk
    refine hK _ _ (fun _ => hHeld) ?_
    clear hK K
    simp only [Act.put, List.setIfInBounds_toArray, List.set_cons_zero, List.set_cons_succ]
    refine wpAnyS_take (i := 4) (oi := ⟨some 31, _, _, _, _, _⟩) (v := .int .i64 1) rfl (by kernel_rfl) (by kernel_rfl) (by kernel_rfl) (by kernel_rfl) (fun _ _ _ h => Norm.panic h) (Or.inl ⟨by rfl, ?_⟩) (by assumption) ?_
    · intro w' hSw
      obtain ⟨⟨t0, t1, t2, t3⟩, ⟨t4, t5, t6, t7⟩, t8, t9, t10, t11⟩ := hSw
      go_simp
      try rfl
    simp only [Act.put, List.setIfInBounds_toArray, List.set_cons_zero, List.set_cons_succ]
    refine wpAnyS_take (i := 5) (oi := ⟨some 32, _, _, _, _, _⟩) (v := .bool false) rfl (by kernel_rfl) (by kernel_rfl) (by kernel_rfl) (by kernel_rfl) (fun _ _ _ h => Norm.panic h) (Or.inl ⟨by rfl, ?_⟩) (by assumption) ?_
    · intro w' hSw
      obtain ⟨⟨t0, t1, t2, t3⟩, ⟨t4, t5, t6, t7⟩, t8, t9, t10, t11⟩ := hSw
      go_simp
    simp only [Act.put, List.setIfInBounds_toArray, List.set_cons_zero, List.set_cons_succ]
    refine wpAnyS_take (i := 6) (oi := ⟨some 33, _, _, _, _, _⟩) (v := .bool false) rfl (by kernel_rfl) (by kernel_rfl) (by kernel_rfl) (by kernel_rfl) (fun _ _ _ h => Norm.panic h) (Or.inl ⟨by rfl, ?_⟩) (by assumption) ?_
    · intro w' hSw
      obtain ⟨⟨t0, t1, t2, t3⟩, ⟨t4, t5, t6, t7⟩, t8, t9, t10, t11⟩ := hSw
      go_simp
    simp only [Act.put, List.setIfInBounds_toArray, List.set_cons_zero, List.set_cons_succ]
    refine wpAnyS_take (i := 7) (oi := ⟨some 34, _, _, _, _, _⟩) (v := .int .i64 1) rfl (by kernel_rfl) (by kernel_rfl) (by kernel_rfl) (by kernel_rfl) (fun _ _ _ h => Norm.panic h) (Or.inl ⟨by rfl, ?_⟩) (by assumption) ?_
    · intro w' hSw
      obtain ⟨⟨t0, t1, t2, t3⟩, ⟨t4, t5, t6, t7⟩, t8, t9, t10, t11⟩ := hSw
      go_simp
    simp only [Act.put, List.setIfInBounds_toArray, List.set_cons_zero, List.set_cons_succ]
    refine wpAnyS_take (i := 8) (oi := ⟨some 35, _, _, _, _, _⟩) (v := .bool false) rfl (by kernel_rfl) (by kernel_rfl) (by kernel_rfl) (by kernel_rfl) (fun _ _ _ h => Norm.panic h) (Or.inl ⟨by rfl, ?_⟩) (by assumption) ?_
    · intro w' hSw
      obtain ⟨⟨t0, t1, t2, t3⟩, ⟨t4, t5, t6, t7⟩, t8, t9, t10, t11⟩ := hSw
      go_simp
    simp only [Act.put, List.setIfInBounds_toArray, List.set_cons_zero, List.set_cons_succ]
    refine wpAnyS_take (i := 9) (oi := ⟨some 36, _, _, _, _, _⟩) (v := .bool false) rfl (by kernel_rfl) (by kernel_rfl) (by kernel_rfl) (by kernel_rfl) (fun _ _ _ h => Norm.panic h) (Or.inl ⟨by rfl, ?_⟩) (by assumption) ?_
    · intro w' hSw
      obtain ⟨⟨t0, t1, t2, t3⟩, ⟨t4, t5, t6, t7⟩, t8, t9, t10, t11⟩ := hSw
      go_simp
    simp only [Act.put, List.setIfInBounds_toArray, List.set_cons_zero, List.set_cons_succ]
    refine wpAnyS_take (i := 10) (oi := ⟨some 37, _, _, _, _, _⟩) (v := .bool false) rfl (by kernel_rfl) (by kernel_rfl) (by kernel_rfl) (by kernel_rfl) (fun _ _ _ h => Norm.panic h) (Or.inl ⟨by rfl, ?_⟩) (by assumption) ?_
    · intro w' hSw
      obtain ⟨⟨t0, t1, t2, t3⟩, ⟨t4, t5, t6, t7⟩, t8, t9, t10, t11⟩ := hSw
      go_simp
    simp only [Act.put, List.setIfInBounds_toArray, List.set_cons_zero, List.set_cons_succ]
    refine wpAnyS_take (i := 11) (oi := ⟨some 38, _, _, _, _, _⟩) (v := .int .i64 1) rfl (by kernel_rfl) (by kernel_rfl) (by kernel_rfl) (by kernel_rfl) (fun _ _ _ h => Norm.panic h) (Or.inl ⟨by rfl, ?_⟩) (by assumption) ?_
    · intro w' hSw
      obtain ⟨⟨t0, t1, t2, t3⟩, ⟨t4, t5, t6, t7⟩, t8, t9, t10, t11⟩ := hSw
      go_simp
    simp only [Act.put, List.setIfInBounds_toArray, List.set_cons_zero, List.set_cons_succ]
    refine wpAnyS_take (i := 12) (oi := ⟨some 39, _, _, _, _, _⟩) (v := .bool false) rfl (by kernel_rfl) (by kernel_rfl) (by kernel_rfl) (by kernel_rfl) (fun _ _ _ h => Norm.panic h) (Or.inl ⟨by rfl, ?_⟩) (by assumption) ?_
    · intro w' hSw
      obtain ⟨⟨t0, t1, t2, t3⟩, ⟨t4, t5, t6, t7⟩, t8, t9, t10, t11⟩ := hSw
      go_simp
    simp only [Act.put, List.setIfInBounds_toArray, List.set_cons_zero, List.set_cons_succ]
    refine wpAnyS_take (i := 13) (oi := ⟨some 40, _, _, _, _, _⟩) (v := .bool false) rfl (by kernel_rfl) (by kernel_rfl) (by kernel_rfl) (by kernel_rfl) (fun _ _ _ h => Norm.panic h) (Or.inl ⟨by rfl, ?_⟩) (by assumption) ?_
    · intro w' hSw
      obtain ⟨⟨t0, t1, t2, t3⟩, ⟨t4, t5, t6, t7⟩, t8, t9, t10, t11⟩ := hSw
      go_simp
    simp only [Act.put, List.setIfInBounds_toArray, List.set_cons_zero, List.set_cons_succ]
    refine wpAnyS_take (i := 14) (oi := ⟨some 41, _, _, _, _, _⟩) (v := .bool false) rfl (by kernel_rfl) (by kernel_rfl) (by kernel_rfl) (by kernel_rfl) (fun _ _ _ h => Norm.panic h) (Or.inl ⟨by rfl, ?_⟩) (by assumption) ?_
    · intro w' hSw
      obtain ⟨⟨t0, t1, t2, t3⟩, ⟨t4, t5, t6, t7⟩, t8, t9, t10, t11⟩ := hSw
      go_simp
    simp only [Act.put, List.setIfInBounds_toArray, List.set_cons_zero, List.set_cons_succ]
    refine wpAnyS_take (i := 15) (oi := ⟨some 42, _, _, _, _, _⟩) (v := .int .i64 1) rfl (by kernel_rfl) (by kernel_rfl) (by kernel_rfl) (by kernel_rfl) (fun _ _ _ h => Norm.panic h) (Or.inl ⟨by rfl, ?_⟩) (by assumption) ?_
    · intro w' hSw
      obtain ⟨⟨t0, t1, t2, t3⟩, ⟨t4, t5, t6, t7⟩, t8, t9, t10, t11⟩ := hSw
      go_simp
    simp only [Act.put, List.setIfInBounds_toArray, List.set_cons_zero, List.set_cons_succ]
    refine wpAnyS_take (i := 16) (oi := ⟨some 43, _, _, _, _, _⟩) (v := .bool false) rfl (by kernel_rfl) (by kernel_rfl) (by kernel_rfl) (by kernel_rfl) (fun _ _ _ h => Norm.panic h) (Or.inl ⟨by rfl, ?_⟩) (by assumption) ?_
    · intro w' hSw
      obtain ⟨⟨t0, t1, t2, t3⟩, ⟨t4, t5, t6, t7⟩, t8, t9, t10, t11⟩ := hSw
      go_simp
    simp only [Act.put, List.setIfInBounds_toArray, List.set_cons_zero, List.set_cons_succ]
    refine wpAnyS_take (i := 17) (oi := ⟨some 44, _, _, _, _, _⟩) (v := .agg #[.int .u8 f.op, .string f.n, .slice a1 f.args.length k1, .slice a2 f.sub.length k2]) rfl (by kernel_rfl) (by kernel_rfl) (by kernel_rfl) (by kernel_rfl) (fun _ _ _ h => Norm.panic h) (Or.inl ⟨by rfl, ?_⟩) (by assumption) ?_
    · intro w' hSw
      obtain ⟨⟨t0, t1, t2, t3⟩, ⟨t4, t5, t6, t7⟩, t8, t9, t10, t11⟩ := hSw
      go_simp
    simp only [Act.put, List.setIfInBounds_toArray, List.set_cons_zero, List.set_cons_succ]
    refine wpAnyS_take (i := 18) (oi := ⟨some 45, _, _, _, _, _⟩) (v := .agg #[.int .u8 g.op, .string g.n, .slice a3 g.args.length k3, .slice a4 g.sub.length k4]) rfl (by kernel_rfl) (by kernel_rfl) (by kernel_rfl) (by kernel_rfl) (fun _ _ _ h => Norm.panic h) (Or.inl ⟨by rfl, ?_⟩) (by assumption) ?_
    · intro w' hSw
      obtain ⟨⟨t0, t1, t2, t3⟩, ⟨t4, t5, t6, t7⟩, t8, t9, t10, t11⟩ := hSw
      go_simp
    simp only [Act.put, List.setIfInBounds_toArray, List.set_cons_zero, List.set_cons_succ]
    refine wpAnyS_one (i := 19) (oi := ⟨some 46, _, _, _, _, _⟩) rfl (by kernel_rfl) (by rfl) (fun K hK => ?_)
    go_simp
    refine (eqF_c (SizeOf.sizeOf f + 1) f (Nat.lt_succ_self _) g _ _ _ _ _ _ _ _ w.heap.size _ (HF'.out _ HBk) (HG'.out _ HBk) (Nat.le_trans HP.out.size HBk.size)).mono ?_
    rintro e wn ⟨rfl, hbn⟩
    rw [hq]
    have HBn := HBk.trans (hbn.mono HBk.size)
    clear HBk hbn
    have HBk := HBn
    clear HBn
    have hHeld := HS.out _ HBk
    refine hK _ _ (fun _ => hHeld) ?_
    clear hK K
    simp only [Act.put, List.setIfInBounds_toArray, List.set_cons_zero, List.set_cons_succ]
    refine wpAnyS_take (i := 20) (oi := ⟨some 47, _, _, _, _, _⟩) (v := .bool false) rfl (by kernel_rfl) (by kernel_rfl) (by kernel_rfl) (by kernel_rfl) (fun _ _ _ h => Norm.panic h) (Or.inl ⟨by rfl, ?_⟩) (by assumption) ?_
    · intro w' hSw
      obtain ⟨⟨t0, t1, t2, t3⟩, ⟨t4, t5, t6, t7⟩, t8, t9, t10, t11⟩ := hSw
      go_simp
    simp only [Act.put, List.setIfInBounds_toArray, List.set_cons_zero, List.set_cons_succ]
    refine wpAnyS_take (i := 21) (oi := ⟨some 48, _, _, _, _, _⟩) (v := .bool false) rfl (by kernel_rfl) (by kernel_rfl) (by kernel_rfl) (by kernel_rfl) (fun _ _ _ h => Norm.panic h) (Or.inl ⟨by rfl, ?_⟩) (by assumption) ?_
    · intro w' hSw
      obtain ⟨⟨t0, t1, t2, t3⟩, ⟨t4, t5, t6, t7⟩, t8, t9, t10, t11⟩ := hSw
      go_simp
    simp only [Act.put, List.setIfInBounds_toArray, List.set_cons_zero, List.set_cons_succ]
    refine wpAnyS_take (i := 22) (oi := ⟨some 49, _, _, _, _, _⟩) (v := .bool false) rfl (by kernel_rfl) (by kernel_rfl) (by kernel_rfl) (by kernel_rfl) (fun _ _ _ h => Norm.panic h) (Or.inl ⟨by rfl, ?_⟩) (by assumption) ?_
    · intro w' hSw
      obtain ⟨⟨t0, t1, t2, t3⟩, ⟨t4, t5, t6, t7⟩, t8, t9, t10, t11⟩ := hSw
      go_simp
    simp only [Act.put, List.setIfInBounds_toArray, List.set_cons_zero, List.set_cons_succ]
    refine wpAnyS_take (i := 23) (oi := ⟨some 50, _, _, _, _, _⟩) (v := .agg #[.int .u8 f.op, .string f.n, .slice a1 f.args.length k1, .slice a2 f.sub.length k2]) rfl (by kernel_rfl) (by kernel_rfl) (by kernel_rfl) (by kernel_rfl) (fun _ _ _ h => Norm.panic h) (Or.inl ⟨by rfl, ?_⟩) (by assumption) ?_
    · intro w' hSw
      obtain ⟨⟨t0, t1, t2, t3⟩, ⟨t4, t5, t6, t7⟩, t8, t9, t10, t11⟩ := hSw
      go_simp
    simp only [Act.put, List.setIfInBounds_toArray, List.set_cons_zero, List.set_cons_succ]
    refine wpAnyS_take (i := 24) (oi := ⟨some 51, _, _, _, _, _⟩) (v := .agg #[.int .u8 f.op, .string f.n, .slice a1 f.args.length k1, .slice a2 f.sub.length k2]) rfl (by kernel_rfl) (by kernel_rfl) (by kernel_rfl) (by kernel_rfl) (fun _ _ _ h => Norm.panic h) (Or.inl ⟨by rfl, ?_⟩) (by assumption) ?_
    · intro w' hSw
      obtain ⟨⟨t0, t1, t2, t3⟩, ⟨t4, t5, t6, t7⟩, t8, t9, t10, t11⟩ := hSw
      go_simp
    simp only [Act.put, List.setIfInBounds_toArray, List.set_cons_zero, List.set_cons_succ]
    refine wpAnyS_one (i := 25) (oi := ⟨some 52, _, _, _, _, _⟩) rfl (by kernel_rfl) (by rfl) (fun K hK => ?_)
    go_simp
    refine (ownF_c (SizeOf.sizeOf f + 1) f (Nat.lt_succ_self _) _ _ _ _ w.heap.size _ (HF'.out _ HBk) (Nat.le_trans HP.out.size HBk.size)).mono ?_
    rintro e wn ⟨ac, cc, ad, cd, rfl, HA, HB, hbn⟩
    have HC := Lib.hid (show FoV wn.heap.size wn (.int .u8 f.op) (.string f.n) (.slice ac f.args.length cc) (.slice ad f.sub.length cd) f from ⟨rfl, bF, rfl, oF, HA.slT (fun b hb => hb.2), HB.slF (fun b hb => hb.2)⟩)
    clear HA HB
    have HBn := HBk.trans (hbn.mono HBk.size)
    clear HBk hbn
    have HBk := HBn
    clear HBn
    have hHeld := HS.out _ HBk
    refine hK _ _ (fun _ => hHeld) ?_
    clear hK K
    simp only [Act.put, List.setIfInBounds_toArray, List.set_cons_zero, List.set_cons_succ]
    refine wpAnyS_one (i := 26) (oi := ⟨some 53, _, _, _, _, _⟩) rfl (by kernel_rfl) (by rfl) (fun K hK => ?_)
    go_simp
    refine (compare_c f f _ _ _ _ _ _ _ _ wn.heap.size _ ((HF'.out _ HBk).mono (Nat.le_trans HP.out.size HBk.size)) HC.out (Nat.le_refl _)).mono ?_
    rintro e wq ⟨rfl, hbn⟩
    rw [hself]
    have HBn := HBk.trans (hbn.mono HBk.size)
    clear HBk hbn
    have HBk := HBn
    clear HBn
    have hHeld := HS.out _ HBk
    refine hK _ _ (fun _ => hHeld) ?_
    clear hK K
    simp only [Act.put, List.setIfInBounds_toArray, List.set_cons_zero, List.set_cons_succ]
    refine wpAnyS_take (i := 27) (oi := ⟨some 54, _, _, _, _, _⟩) (v := .bool false) rfl (by kernel_rfl) (by kernel_rfl) (by kernel_rfl) (by kernel_rfl) (fun _ _ _ h => Norm.panic h) (Or.inl ⟨by rfl, ?_⟩) (by assumption) ?_
    · intro w' hSw
      obtain ⟨⟨t0, t1, t2, t3⟩, ⟨t4, t5, t6, t7⟩, t8, t9, t10, t11⟩ := hSw
      go_simp
    simp only [Act.put, List.setIfInBounds_toArray, List.set_cons_zero, List.set_cons_succ]
    refine wpAnyS_take (i := 28) (oi := ⟨some 55, _, _, _, _, _⟩) (v := .bool false) rfl (by kernel_rfl) (by kernel_rfl) (by kernel_rfl) (by kernel_rfl) (fun _ _ _ h => Norm.panic h) (Or.inl ⟨by rfl, ?_⟩) (by assumption) ?_
    · intro w' hSw
      obtain ⟨⟨t0, t1, t2, t3⟩, ⟨t4, t5, t6, t7⟩, t8, t9, t10, t11⟩ := hSw
      go_simp
    simp only [Act.put, List.setIfInBounds_toArray, List.set_cons_zero, List.set_cons_succ]
    refine wpAnyS_take (i := 29) (oi := ⟨some 56, _, _, _, _, _⟩) (v := .bool false) rfl (by kernel_rfl) (by kernel_rfl) (by kernel_rfl) (by kernel_rfl) (fun _ _ _ h => Norm.panic h) (Or.inl ⟨by rfl, ?_⟩) (by assumption) ?_
    · intro w' hSw
      obtain ⟨⟨t0, t1, t2, t3⟩, ⟨t4, t5, t6, t7⟩, t8, t9, t10, t11⟩ := hSw
      go_simp
    simp only [Act.put, List.setIfInBounds_toArray, List.set_cons_zero, List.set_cons_succ]
    refine wpAnyS_take (i := 30) (oi := ⟨some 57, _, _, _, _, _⟩) (v := .agg #[.int .u8 f.op, .string f.n, .slice a1 f.args.length k1, .slice a2 f.sub.length k2]) rfl (by kernel_rfl) (by kernel_rfl) (by kernel_rfl) (by kernel_rfl) (fun _ _ _ h => Norm.panic h) (Or.inl ⟨by rfl, ?_⟩) (by assumption) ?_
    · intro w' hSw
      obtain ⟨⟨t0, t1, t2, t3⟩, ⟨t4, t5, t6, t7⟩, t8, t9, t10, t11⟩ := hSw
      go_simp
    simp only [Act.put, List.setIfInBounds_toArray, List.set_cons_zero, List.set_cons_succ]
    refine wpAnyS_take (i := 31) (oi := ⟨some 58, _, _, _, _, _⟩) (v := .agg #[.int .u8 g.op, .string g.n, .slice a3 g.args.length k3, .slice a4 g.sub.length k4]) rfl (by kernel_rfl) (by kernel_rfl) (by kernel_rfl) (by kernel_rfl) (fun _ _ _ h => Norm.panic h) (Or.inl ⟨by rfl, ?_⟩) (by assumption) ?_
    · intro w' hSw
      obtain ⟨⟨t0, t1, t2, t3⟩, ⟨t4, t5, t6, t7⟩, t8, t9, t10, t11⟩ := hSw
      go_simp
    simp only [Act.put, List.setIfInBounds_toArray, List.set_cons_zero, List.set_cons_succ]
    refine wpAnyS_take (i := 33) (oi := ⟨some 60, _, _, _, _, _⟩) (v := .int .i64 1) rfl (by kernel_rfl) (by kernel_rfl) (by kernel_rfl) (by kernel_rfl) (fun _ _ _ h => Norm.panic h) (Or.inl ⟨by rfl, ?_⟩) (by assumption) ?_
    · intro w' hSw
      obtain ⟨⟨t0, t1, t2, t3⟩, ⟨t4, t5, t6, t7⟩, t8, t9, t10, t11⟩ := hSw
      go_simp
    simp only [Act.put, List.setIfInBounds_toArray, List.set_cons_zero, List.set_cons_succ]
    refine wpAnyS_take (i := 34) (oi := ⟨some 61, _, _, _, _, _⟩) (v := .bool false) rfl (by kernel_rfl) (by kernel_rfl) (by kernel_rfl) (by kernel_rfl) (fun _ _ _ h => Norm.panic h) (Or.inl ⟨by rfl, ?_⟩) (by assumption) ?_
    · intro w' hSw
      obtain ⟨⟨t0, t1, t2, t3⟩, ⟨t4, t5, t6, t7⟩, t8, t9, t10, t11⟩ := hSw
      go_simp
    simp only [Act.put, List.setIfInBounds_toArray, List.set_cons_zero, List.set_cons_succ]
    refine wpAnyS_one (i := 32) (oi := ⟨some 59, _, _, _, _, _⟩) rfl (by kernel_rfl) (by rfl) (fun K hK => ?_)
    go_simp
    refine (same_c f g _ _ _ _ _ _ _ _ w.heap.size _ (HF'.out _ HBk) (HG'.out _ HBk) (Nat.le_trans HP.out.size HBk.size)).mono ?_
    rintro e wn ⟨rfl, hbn⟩
    rw [hx]
    have HBn := HBk.trans (hbn.mono HBk.size)
    clear HBk hbn
    have HBk := HBn
    clear HBn
    have hHeld := HS.out _ HBk
    refine hK _ _ (fun _ => hHeld) ?_
    clear hK K
    simp only [Act.put, List.setIfInBounds_toArray, List.set_cons_zero, List.set_cons_succ]
    refine wpAnyS_take (i := 35) (oi := ⟨some 62, _, _, _, _, _⟩) (v := .bool false) rfl (by kernel_rfl) (by kernel_rfl) (by kernel_rfl) (by kernel_rfl) (fun _ _ _ h => Norm.panic h) (Or.inl ⟨by rfl, ?_⟩) (by assumption) ?_
    · intro w' hSw
      obtain ⟨⟨t0, t1, t2, t3⟩, ⟨t4, t5, t6, t7⟩, t8, t9, t10, t11⟩ := hSw
      go_simp
    simp only [Act.put, List.setIfInBounds_toArray, List.set_cons_zero, List.set_cons_succ]
    refine wpAnyS_take (i := 36) (oi := ⟨some 63, _, _, _, _, _⟩) (v := .bool false) rfl (by kernel_rfl) (by kernel_rfl) (by kernel_rfl) (by kernel_rfl) (fun _ _ _ h => Norm.panic h) (Or.inl ⟨by rfl, ?_⟩) (by assumption) ?_
    · intro w' hSw
      obtain ⟨⟨t0, t1, t2, t3⟩, ⟨t4, t5, t6, t7⟩, t8, t9, t10, t11⟩ := hSw
      go_simp
    simp only [Act.put, List.setIfInBounds_toArray, List.set_cons_zero, List.set_cons_succ]
    refine wpAnyS_done (by kernel_rfl) ?_
    refine Norm.normal ?_
    go_wp2_with fail
    all_goals go_ret
    all_goals refine ⟨?_, HP.out.trans (HBk.mono HP.out.size)⟩
    all_goals first | rfl | (simp; omega)
end Go.Proofs.YtnadjkofjgpabaaDoor.Fm
