/-
  FormReplaces: the walk.
-/
import Derived.Test.YtnadjkofjgpabaaDoorFmBx
import Derived.Test.YtnadjkofjgpabaaDoorFmAwk
import Derived.Test.YtnadjkofjgpabaaDoorFmSize
import Derived.Test.YtnadjkofjgpabaaDoorFmOrderLib
namespace Go.Proofs.YtnadjkofjgpabaaDoor.Fm
open Go Go.RowKit Go.Shelf
set_option linter.unusedVariables false
set_option linter.unusedSimpArgs false
theorem PlV.adv {w w' : World} {v : Value} {is : List Int} (h : PlV w.heap.size w v is) (hb : Below w.heap.size w w') : PlV w'.heap.size w' v is := by
  obtain ⟨a, cap, b, o, h1, h2, h3, h4⟩ := h.below hb (Nat.le_refl _)
  have := hb.size
  exact ⟨a, cap, b, o, h1, h2, h3.imp id fun h => ⟨h.1, by omega⟩, h4⟩
structure ReS (s x9 x11 x13 x15 : Nat) (f0 f1 f2 f3 p0 p1 p2 p3 o0 o1 o2 o3 g0 g1 g2 g3 n0 n1 n2 n3 b0 b1 b2 b3 : Value) (W' : World) : Prop where
  f : RegC s f0 f1 f2 f3 W'
  p : RegC (s + 1) p0 p1 p2 p3 W'
  o : RegC x9 o0 o1 o2 o3 W'
  g : RegC x11 g0 g1 g2 g3 W'
  n : RegC x13 n0 n1 n2 n3 W'
  b : RegC x15 b0 b1 b2 b3 W'
def RpRel (is js : List Int) (w : World) (i : Value) (wr : World) : Prop := ∃ q : Nat, i = .int .i64 (q : Int) ∧ q ≤ is.length ∧ q ≤ js.length ∧ (∀ j (h : j < q) (h1 : j < is.length) (h2 : j < js.length), is[j] = js[j]) ∧ Below w.heap.size w wr
structure PkS (b o b' o' q : Nat) (x y : Value) (W' : World) : Prop where
  c : W'.cell? ⟨b, o + q, none⟩ = some x
  d : W'.cell? ⟨b', o' + q, none⟩ = some y
set_option maxHeartbeats 4000000 in
set_option maxRecDepth 100000 in
theorem form_replaces_c (f p : Fo) (is js : List Int) (x0 x1 x2 x3 y0 y1 y2 y3 va vb : Value) (w : World) (hT : RTab w) (hf : FoV w.heap.size w x0 x1 x2 x3 f) (hp : FoV w.heap.size w y0 y1 y2 y3 p) (hi : PlV w.heap.size w va is) (hj : PlV w.heap.size w vb js) :
    Calls Tryd.prog 4 #[.agg #[x0, x1, x2, x3], .agg #[y0, y1, y2, y3], va, vb] w fun e w' => e = .returned (.bool true) ∧ Below w.heap.size w w' := by
  have HF := Lib.hid hf
  have HP := Lib.hid hp
  have HPL := Lib.hid hi
  have HQL := Lib.hid hj
  have hokf : OkN f := ⟨hf.bd, hf.ok⟩
  have hokp : OkN p := ⟨hp.bd, hp.ok⟩
  have HOF := Lib.hid hokf
  have HOP := Lib.hid hokp
  obtain ⟨rfl, _, rfl, _, hA, hS⟩ := hf
  obtain ⟨⟨a1, k1, rfl⟩, _⟩ := hA.form
  obtain ⟨⟨a2, k2, rfl⟩, _⟩ := hS.form
  clear hA hS
  obtain ⟨rfl, _, rfl, _, hA, hS⟩ := hp
  obtain ⟨⟨a3, k3, rfl⟩, _⟩ := hA.form
  obtain ⟨⟨a4, k4, rfl⟩, _⟩ := hS.form
  clear hA hS hokf hokp
  obtain ⟨sp, kp, _, _, rfl, hpl, _, _⟩ := hi
  obtain ⟨sq, kq, _, _, rfl, hql, _, _⟩ := hj
  go_enter Tryd.func4, Tryd.ntmps4
  go_wp2_with fail
  have hbp : Below w.heap.size w ((w.alloc (.cells #[.int .u8 f.op, .string f.n, .slice a1 f.args.length k1, .slice a2 f.sub.length k2] 25)).alloc (.cells #[.int .u8 p.op, .string p.n, .slice a3 p.args.length k3, .slice a4 p.sub.length k4] 25)) := ((Below.refl _ w).alloc (Nat.le_refl _) _).alloc (by simp) _
  obtain ⟨l1, l2⟩ := two_boxesE w #[.int .u8 f.op, .string f.n, .slice a1 f.args.length k1, .slice a2 f.sub.length k2] #[.int .u8 p.op, .string p.n, .slice a3 p.args.length k3, .slice a4 p.sub.length k4] 25
  have hWe : ((w.alloc (.cells #[.int .u8 f.op, .string f.n, .slice a1 f.args.length k1, .slice a2 f.sub.length k2] 25)).alloc (.cells #[.int .u8 p.op, .string p.n, .slice a3 p.args.length k3, .slice a4 p.sub.length k4] 25)).heap.size = w.heap.size + 2 := by simp
  generalize ((w.alloc (.cells #[.int .u8 f.op, .string f.n, .slice a1 f.args.length k1, .slice a2 f.sub.length k2] 25)).alloc (.cells #[.int .u8 p.op, .string p.n, .slice a3 p.args.length k3, .slice a4 p.sub.length k4] 25)) = W at *
  have bf := Lib.hid (show Bx w.heap.size (.int .u8 f.op) (.string f.n) (.slice a1 f.args.length k1) (.slice a2 f.sub.length k2) f W from ⟨⟨l1 0, l1 1, l1 2, l1 3⟩, (HF.out.below hbp (Nat.le_refl _)).mono hbp.size, by omega⟩)
  have bp := Lib.hid (show Bx (w.heap.size + 1) (.int .u8 p.op) (.string p.n) (.slice a3 p.args.length k3) (.slice a4 p.sub.length k4) p W from ⟨⟨l2 0, l2 1, l2 2, l2 3⟩, (HP.out.below hbp (Nat.le_refl _)).mono hbp.size, by omega⟩)
  have HPL2 := Lib.hid (HPL.out.adv hbp)
  have HQL2 := Lib.hid (HQL.out.adv hbp)
  clear HPL HQL HF HP l1 l2 hWe
  have HPL := HPL2
  have HQL := HQL2
  clear HPL2 HQL2
  have HT := Lib.hid (hT.below hbp hT.1)
  have HBw := Lib.hid hbp
  clear hbp
  refine (awake_c _ HT.out).mono ?_
  rintro e w2 ⟨rfl, hb⟩
  clear HT
  have HBw2 := Lib.hid (HBw.out.trans (hb.mono HBw.out.size))
  have bf2 := Lib.hid (bf.out.below hb)
  have bp2 := Lib.hid (bp.out.below hb)
  have HPL2 := Lib.hid (HPL.out.adv hb)
  have HQL2 := Lib.hid (HQL.out.adv hb)
  clear HBw bf bp HPL HQL hb
  have HBw := HBw2
  have bf := bf2
  have bp := bp2
  have HPL := HPL2
  have HQL := HQL2
  clear HBw2 bf2 bp2 HPL2 HQL2
  obtain ⟨⟨c0, c1, c2, c3⟩, _, cl⟩ := bf.out
  obtain ⟨⟨d0, d1, d2, d3⟩, _, dl⟩ := bp.out
  go_wp2_with fail
  have l3 := Lay.new w2 [.int .u8 f.op, .string f.n, .slice a1 f.args.length k1, .slice a2 f.sub.length k2, .int .u8 p.op, .string p.n, .slice a3 p.args.length k3, .slice a4 p.sub.length k4] 25
  have hb : Below w2.heap.size w2 (w2.alloc (.cells #[.int .u8 f.op, .string f.n, .slice a1 f.args.length k1, .slice a2 f.sub.length k2, .int .u8 p.op, .string p.n, .slice a3 p.args.length k3, .slice a4 p.sub.length k4] 25)) := (Below.refl _ _).alloc (Nat.le_refl _) _
  have hz3 : w2.heap.size < (w2.alloc (.cells #[.int .u8 f.op, .string f.n, .slice a1 f.args.length k1, .slice a2 f.sub.length k2, .int .u8 p.op, .string p.n, .slice a3 p.args.length k3, .slice a4 p.sub.length k4] 25)).heap.size := by simp
  generalize (w2.alloc (.cells #[.int .u8 f.op, .string f.n, .slice a1 f.args.length k1, .slice a2 f.sub.length k2, .int .u8 p.op, .string p.n, .slice a3 p.args.length k3, .slice a4 p.sub.length k4] 25)) = W3 at *
  clear c0 c1 c2 c3 cl d0 d1 d2 d3 dl
  have HBw2 := Lib.hid (HBw.out.trans (hb.mono HBw.out.size))
  have bf2 := Lib.hid (bf.out.below hb)
  have bp2 := Lib.hid (bp.out.below hb)
  have HPL2 := Lib.hid (HPL.out.adv hb)
  have HQL2 := Lib.hid (HQL.out.adv hb)
  clear HBw bf bp HPL HQL hb
  have HBw := HBw2
  have bf := bf2
  have bp := bp2
  have HPL := HPL2
  have HQL := HQL2
  clear HBw2 bf2 bp2 HPL2 HQL2
  have hsl : SlF W3.heap.size W3 (.slice (some ⟨w2.heap.size, 0, none⟩) 2 2) [f, p] :=
    ⟨some ⟨w2.heap.size, 0, none⟩, 2, w2.heap.size, 0, rfl, by simp, .inr ⟨rfl, hz3⟩, fsAt_cons' (l3 0 _ rfl) (l3 1 _ rfl) (l3 2 _ rfl) (l3 3 _ rfl) bf.out.v
      (fsAt_cons' (l3 4 _ rfl) (l3 5 _ rfl) (l3 6 _ rfl) (l3 7 _ rfl) bp.out.v (by simp [FsAt]))⟩
  have hsm := Lib.hid (small_c [f, p] _ _ _ hsl (Nat.le_refl _))
  clear hsl l3 hz3
  refine hsm.out.mono ?_
  rintro e w4 ⟨rfl, hb⟩
  clear hsm
  have HBw2 := Lib.hid (HBw.out.trans (hb.mono HBw.out.size))
  have bf2 := Lib.hid (bf.out.below hb)
  have bp2 := Lib.hid (bp.out.below hb)
  have HPL2 := Lib.hid (HPL.out.adv hb)
  have HQL2 := Lib.hid (HQL.out.adv hb)
  clear HBw bf bp HPL HQL hb
  have HBw := HBw2
  have bf := bf2
  have bp := bp2
  have HPL := HPL2
  have HQL := HQL2
  clear HBw2 bf2 bp2 HPL2 HQL2
  obtain ⟨⟨c0, c1, c2, c3⟩, _, cl⟩ := bf.out
  by_cases hsmall : szS 0 [f, p] ≤ 500
  rotate_left
  · rw [decide_eq_false hsmall]
    go_wp2_with fail
    go_ret
    exact ⟨rfl, HBw.out⟩
  rw [decide_eq_true hsmall]
  by_cases h60 : (60 : Int) < (is.length : Int)
  · go_wp2_with fail
    go_ret
    exact ⟨rfl, HBw.out⟩
  by_cases h61 : (60 : Int) < (js.length : Int)
  · go_wp2_with fail
    go_ret
    exact ⟨rfl, HBw.out⟩
  have HAT := Lib.hid (at_c _ _ _ _ _ f is _ w4 bf.out.v HPL.out (Nat.le_refl _))
  obtain ⟨r, hr⟩ : ∃ r, atF f is = r := ⟨_, rfl⟩
  rw [hr] at HAT
  have HR := Lib.hid hr
  clear hr hsmall
  cases r with
  | none =>
    go_wp2_with fail
    clear h60 h61
    refine HAT.out.mono ?_
    rintro e w5 ⟨rfl, hb⟩
    clear HAT
    clear c0 c1 c2 c3 cl
    have HBw2 := Lib.hid (HBw.out.trans (hb.mono HBw.out.size))
    have bf2 := Lib.hid (bf.out.below hb)
    have bp2 := Lib.hid (bp.out.below hb)
    have HPL2 := Lib.hid (HPL.out.adv hb)
    have HQL2 := Lib.hid (HQL.out.adv hb)
    clear HBw bf bp HPL HQL hb
    have HBw := HBw2
    have bf := bf2
    have bp := bp2
    have HPL := HPL2
    have HQL := HQL2
    clear HBw2 bf2 bp2 HPL2 HQL2
    obtain ⟨⟨c0, c1, c2, c3⟩, _, cl⟩ := bf.out
    obtain ⟨⟨d0, d1, d2, d3⟩, _, dl⟩ := bp.out
    go_wp2_with fail
    clear c0 c1 c2 c3 cl d0 d1 d2 d3 dl
    have b9x := Bx.new (zero_foV _ w5) 25
    have hb : Below w5.heap.size w5 (w5.alloc (.cells #[.int .u8 0, .string ByteArray.empty, .slice none 0 0, .slice none 0 0] 25)) := (Below.refl _ _).alloc (Nat.le_refl _) _
    generalize (w5.alloc (.cells #[.int .u8 0, .string ByteArray.empty, .slice none 0 0, .slice none 0 0] 25)) = W6 at *
    have b9 := Lib.hid b9x
    clear b9x
    have HBw2 := Lib.hid (HBw.out.trans (hb.mono HBw.out.size))
    have bf2 := Lib.hid (bf.out.below hb)
    have bp2 := Lib.hid (bp.out.below hb)
    have HPL2 := Lib.hid (HPL.out.adv hb)
    have HQL2 := Lib.hid (HQL.out.adv hb)
    clear HBw bf bp HPL HQL hb
    have HBw := HBw2
    have bf := bf2
    have bp := bp2
    have HPL := HPL2
    have HQL := HQL2
    clear HBw2 bf2 bp2 HPL2 HQL2
    have HW := Lib.hid (with_c f p _ _ _ _ _ _ _ _ _ is W6 _ bf.out.v bp.out.v HPL.out (Nat.le_refl _))
    rw [HR.out] at HW
    refine HW.out.mono ?_
    rintro e w7 ⟨rfl, hb⟩
    clear HW
    have HBw2 := Lib.hid (HBw.out.trans (hb.mono HBw.out.size))
    have bf2 := Lib.hid (bf.out.below hb)
    have bp2 := Lib.hid (bp.out.below hb)
    have b92 := Lib.hid (b9.out.below hb)
    have HPL2 := Lib.hid (HPL.out.adv hb)
    have HQL2 := Lib.hid (HQL.out.adv hb)
    clear HBw bf bp b9 HPL HQL hb
    have HBw := HBw2
    have bf := bf2
    have bp := bp2
    have b9 := b92
    have HPL := HPL2
    have HQL := HQL2
    clear HBw2 bf2 bp2 b92 HPL2 HQL2
    go_wp2_with fail
    have b11x := Bx.new (zero_foV _ w7) 25
    have hb : Below w7.heap.size w7 (w7.alloc (.cells #[.int .u8 0, .string ByteArray.empty, .slice none 0 0, .slice none 0 0] 25)) := (Below.refl _ _).alloc (Nat.le_refl _) _
    generalize (w7.alloc (.cells #[.int .u8 0, .string ByteArray.empty, .slice none 0 0, .slice none 0 0] 25)) = W8 at *
    have b11 := Lib.hid b11x
    clear b11x
    have HBw2 := Lib.hid (HBw.out.trans (hb.mono HBw.out.size))
    have bf2 := Lib.hid (bf.out.below hb)
    have bp2 := Lib.hid (bp.out.below hb)
    have b92 := Lib.hid (b9.out.below hb)
    have HPL2 := Lib.hid (HPL.out.adv hb)
    have HQL2 := Lib.hid (HQL.out.adv hb)
    clear HBw bf bp b9 HPL HQL hb
    have HBw := HBw2
    have bf := bf2
    have bp := bp2
    have b9 := b92
    have HPL := HPL2
    have HQL := HQL2
    clear HBw2 bf2 bp2 b92 HPL2 HQL2
    refine (eqF_c (SizeOf.sizeOf zeroF + 1) zeroF (Nat.lt_succ_self _) zeroF _ _ _ _ _ _ _ _ _ _ (zero_foV _ _) (zero_foV _ _) (Nat.le_refl _)).mono ?_
    rintro e w9 ⟨rfl, hb⟩
    rw [eqF_self]
    have HBw2 := Lib.hid (HBw.out.trans (hb.mono HBw.out.size))
    have bf2 := Lib.hid (bf.out.below hb)
    have bp2 := Lib.hid (bp.out.below hb)
    have b92 := Lib.hid (b9.out.below hb)
    have b112 := Lib.hid (b11.out.below hb)
    have HPL2 := Lib.hid (HPL.out.adv hb)
    have HQL2 := Lib.hid (HQL.out.adv hb)
    clear HBw bf bp b9 b11 HPL HQL hb
    have HBw := HBw2
    have bf := bf2
    have bp := bp2
    have b9 := b92
    have b11 := b112
    have HPL := HPL2
    have HQL := HQL2
    clear HBw2 bf2 bp2 b92 b112 HPL2 HQL2
    obtain ⟨⟨c0, c1, c2, c3⟩, _, cl⟩ := b9.out
    obtain ⟨⟨d0, d1, d2, d3⟩, _, dl⟩ := b11.out
    go_wp2_with fail
    refine (eqF_c (SizeOf.sizeOf zeroF + 1) zeroF (Nat.lt_succ_self _) zeroF _ _ _ _ _ _ _ _ _ _ (zero_foV _ _) (zero_foV _ _) (Nat.le_refl _)).mono ?_
    rintro e w10 ⟨rfl, hb⟩
    rw [eqF_self]
    have HB := Lib.hid (HBw.out.trans (hb.mono HBw.out.size))
    clear hb c0 c1 c2 c3 cl d0 d1 d2 d3 dl
    go_wp2_with fail
    go_ret
    exact ⟨rfl, HB.out⟩
  | some old =>
    have HOO := Lib.hid (foV_at is f old _ _ _ _ bf.out.v HR.out)
    obtain ⟨g, hg⟩ : ∃ g, withF f is p = g := ⟨_, rfl⟩
    have HOG := Lib.hid (show OkN g by rw [← hg]; exact okN_with is f p HOF.out HOP.out)
    have HGI := Lib.hid (show atF g is = some p by rw [← hg]; exact with_at is f p old HR.out)
    have HGB := Lib.hid (show withF g is old = f by rw [← hg]; exact with_back is f p old HR.out)
    have HGN := Lib.hid (show wrap64 (wrap64 (nd f - nd old) + nd p) = nd g by rw [← hg]; exact nd_with HR.out)
    have HGE := Lib.hid (show ∀ (k : Nat) (hi : k < is.length) (hj : k < js.length), (∀ q (h : q < k), is[q] = js[q]) → is[k] ≠ js[k] → atF g js = atF f js by rw [← hg]; exact fun k hi hj h1 h2 => with_else k is js f p old HR.out hi hj h1 h2)
    have HG := Lib.hid hg
    clear hg
    go_wp2_with fail
    clear h60 h61
    refine HAT.out.mono ?_
    rintro e w5 ⟨a9, k9, a9', k9', rfl, hT9, hS9, hb⟩
    have hv9 := atP_foV HOO.out hT9 hS9
    clear HAT hT9 hS9
    clear c0 c1 c2 c3 cl
    have HBw2 := Lib.hid (HBw.out.trans (hb.mono HBw.out.size))
    have bf2 := Lib.hid (bf.out.below hb)
    have bp2 := Lib.hid (bp.out.below hb)
    have HPL2 := Lib.hid (HPL.out.adv hb)
    have HQL2 := Lib.hid (HQL.out.adv hb)
    clear HBw bf bp HPL HQL hb
    have HBw := HBw2
    have bf := bf2
    have bp := bp2
    have HPL := HPL2
    have HQL := HQL2
    clear HBw2 bf2 bp2 HPL2 HQL2
    obtain ⟨⟨c0, c1, c2, c3⟩, _, cl⟩ := bf.out
    obtain ⟨⟨d0, d1, d2, d3⟩, _, dl⟩ := bp.out
    have HV9 := Lib.hid hv9
    clear hv9
    go_wp2_with fail
    clear c0 c1 c2 c3 cl d0 d1 d2 d3 dl
    have b9x := Bx.new (HV9.out) 25
    have hb : Below w5.heap.size w5 (w5.alloc (.cells #[.int .u8 old.op, .string old.n, .slice a9 old.args.length k9, .slice a9' old.sub.length k9'] 25)) := (Below.refl _ _).alloc (Nat.le_refl _) _
    generalize (w5.alloc (.cells #[.int .u8 old.op, .string old.n, .slice a9 old.args.length k9, .slice a9' old.sub.length k9'] 25)) = W6 at *
    have b9 := Lib.hid b9x
    clear b9x
    have HBw2 := Lib.hid (HBw.out.trans (hb.mono HBw.out.size))
    have bf2 := Lib.hid (bf.out.below hb)
    have bp2 := Lib.hid (bp.out.below hb)
    have HPL2 := Lib.hid (HPL.out.adv hb)
    have HQL2 := Lib.hid (HQL.out.adv hb)
    clear HBw bf bp HPL HQL hb
    have HBw := HBw2
    have bf := bf2
    have bp := bp2
    have HPL := HPL2
    have HQL := HQL2
    clear HBw2 bf2 bp2 HPL2 HQL2
    clear HV9
    have HW := Lib.hid (with_c f p _ _ _ _ _ _ _ _ _ is W6 _ bf.out.v bp.out.v HPL.out (Nat.le_refl _))
    rw [HR.out, HG.out] at HW
    refine HW.out.mono ?_
    rintro e w7 ⟨a11, k11, a11', k11', rfl, hT9, hS9, hb⟩
    have HV9 := Lib.hid (atP_foV HOG.out hT9 hS9)
    clear HW hT9 hS9
    have HBw2 := Lib.hid (HBw.out.trans (hb.mono HBw.out.size))
    have bf2 := Lib.hid (bf.out.below hb)
    have bp2 := Lib.hid (bp.out.below hb)
    have b92 := Lib.hid (b9.out.below hb)
    have HPL2 := Lib.hid (HPL.out.adv hb)
    have HQL2 := Lib.hid (HQL.out.adv hb)
    clear HBw bf bp b9 HPL HQL hb
    have HBw := HBw2
    have bf := bf2
    have bp := bp2
    have b9 := b92
    have HPL := HPL2
    have HQL := HQL2
    clear HBw2 bf2 bp2 b92 HPL2 HQL2
    go_wp2_with fail
    have b11x := Bx.new (HV9.out) 25
    have hb : Below w7.heap.size w7 (w7.alloc (.cells #[.int .u8 g.op, .string g.n, .slice a11 g.args.length k11, .slice a11' g.sub.length k11'] 25)) := (Below.refl _ _).alloc (Nat.le_refl _) _
    generalize (w7.alloc (.cells #[.int .u8 g.op, .string g.n, .slice a11 g.args.length k11, .slice a11' g.sub.length k11'] 25)) = W8 at *
    have b11 := Lib.hid b11x
    clear b11x
    have HBw2 := Lib.hid (HBw.out.trans (hb.mono HBw.out.size))
    have bf2 := Lib.hid (bf.out.below hb)
    have bp2 := Lib.hid (bp.out.below hb)
    have b92 := Lib.hid (b9.out.below hb)
    have HPL2 := Lib.hid (HPL.out.adv hb)
    have HQL2 := Lib.hid (HQL.out.adv hb)
    clear HBw bf bp b9 HPL HQL hb
    have HBw := HBw2
    have bf := bf2
    have bp := bp2
    have b9 := b92
    have HPL := HPL2
    have HQL := HQL2
    clear HBw2 bf2 bp2 b92 HPL2 HQL2
    clear HV9
    have HW := Lib.hid (at_c _ _ _ _ _ g is _ W8 b11.out.v HPL.out (Nat.le_refl _))
    rw [HGI.out] at HW
    refine HW.out.mono ?_
    rintro e w9 ⟨a13, k13, a13', k13', rfl, hT9, hS9, hb⟩
    have HV9 := Lib.hid (atP_foV HOP.out hT9 hS9)
    clear HW hT9 hS9
    have HBw2 := Lib.hid (HBw.out.trans (hb.mono HBw.out.size))
    have bf2 := Lib.hid (bf.out.below hb)
    have bp2 := Lib.hid (bp.out.below hb)
    have b92 := Lib.hid (b9.out.below hb)
    have b112 := Lib.hid (b11.out.below hb)
    have HPL2 := Lib.hid (HPL.out.adv hb)
    have HQL2 := Lib.hid (HQL.out.adv hb)
    clear HBw bf bp b9 b11 HPL HQL hb
    have HBw := HBw2
    have bf := bf2
    have bp := bp2
    have b9 := b92
    have b11 := b112
    have HPL := HPL2
    have HQL := HQL2
    clear HBw2 bf2 bp2 b92 b112 HPL2 HQL2
    obtain ⟨⟨c0, c1, c2, c3⟩, _, cl⟩ := b9.out
    obtain ⟨⟨d0, d1, d2, d3⟩, _, dl⟩ := b11.out
    go_wp2_with fail
    clear c0 c1 c2 c3 cl d0 d1 d2 d3 dl
    have b13x := Bx.new (HV9.out) 25
    have hb : Below w9.heap.size w9 (w9.alloc (.cells #[.int .u8 p.op, .string p.n, .slice a13 p.args.length k13, .slice a13' p.sub.length k13'] 25)) := (Below.refl _ _).alloc (Nat.le_refl _) _
    generalize (w9.alloc (.cells #[.int .u8 p.op, .string p.n, .slice a13 p.args.length k13, .slice a13' p.sub.length k13'] 25)) = W10 at *
    have b13 := Lib.hid b13x
    clear b13x
    have HBw2 := Lib.hid (HBw.out.trans (hb.mono HBw.out.size))
    have bf2 := Lib.hid (bf.out.below hb)
    have bp2 := Lib.hid (bp.out.below hb)
    have b92 := Lib.hid (b9.out.below hb)
    have b112 := Lib.hid (b11.out.below hb)
    have HPL2 := Lib.hid (HPL.out.adv hb)
    have HQL2 := Lib.hid (HQL.out.adv hb)
    clear HBw bf bp b9 b11 HPL HQL hb
    have HBw := HBw2
    have bf := bf2
    have bp := bp2
    have b9 := b92
    have b11 := b112
    have HPL := HPL2
    have HQL := HQL2
    clear HBw2 bf2 bp2 b92 b112 HPL2 HQL2
    clear HV9
    have HW := Lib.hid (with_c g old _ _ _ _ _ _ _ _ _ is W10 _ b11.out.v b9.out.v HPL.out (Nat.le_refl _))
    rw [HGI.out, HGB.out] at HW
    refine HW.out.mono ?_
    rintro e w11 ⟨a15, k15, a15', k15', rfl, hT9, hS9, hb⟩
    have HV9 := Lib.hid (atP_foV HOF.out hT9 hS9)
    clear HW hT9 hS9
    have HBw2 := Lib.hid (HBw.out.trans (hb.mono HBw.out.size))
    have bf2 := Lib.hid (bf.out.below hb)
    have bp2 := Lib.hid (bp.out.below hb)
    have b92 := Lib.hid (b9.out.below hb)
    have b112 := Lib.hid (b11.out.below hb)
    have b132 := Lib.hid (b13.out.below hb)
    have HPL2 := Lib.hid (HPL.out.adv hb)
    have HQL2 := Lib.hid (HQL.out.adv hb)
    clear HBw bf bp b9 b11 b13 HPL HQL hb
    have HBw := HBw2
    have bf := bf2
    have bp := bp2
    have b9 := b92
    have b11 := b112
    have b13 := b132
    have HPL := HPL2
    have HQL := HQL2
    clear HBw2 bf2 bp2 b92 b112 b132 HPL2 HQL2
    go_wp2_with fail
    have b15x := Bx.new (HV9.out) 25
    have hb : Below w11.heap.size w11 (w11.alloc (.cells #[.int .u8 f.op, .string f.n, .slice a15 f.args.length k15, .slice a15' f.sub.length k15'] 25)) := (Below.refl _ _).alloc (Nat.le_refl _) _
    generalize (w11.alloc (.cells #[.int .u8 f.op, .string f.n, .slice a15 f.args.length k15, .slice a15' f.sub.length k15'] 25)) = W12 at *
    have b15 := Lib.hid b15x
    clear b15x
    have HBw2 := Lib.hid (HBw.out.trans (hb.mono HBw.out.size))
    have bf2 := Lib.hid (bf.out.below hb)
    have bp2 := Lib.hid (bp.out.below hb)
    have b92 := Lib.hid (b9.out.below hb)
    have b112 := Lib.hid (b11.out.below hb)
    have b132 := Lib.hid (b13.out.below hb)
    have HPL2 := Lib.hid (HPL.out.adv hb)
    have HQL2 := Lib.hid (HQL.out.adv hb)
    clear HBw bf bp b9 b11 b13 HPL HQL hb
    have HBw := HBw2
    have bf := bf2
    have bp := bp2
    have b9 := b92
    have b11 := b112
    have b13 := b132
    have HPL := HPL2
    have HQL := HQL2
    clear HBw2 bf2 bp2 b92 b112 b132 HPL2 HQL2
    clear HV9
    go_wp2_with fail
    have HS := Lib.hid (fun W' (hb : Below W12.heap.size W12 W') => show ReS w.heap.size w5.heap.size w7.heap.size w9.heap.size w11.heap.size (.int .u8 f.op) (.string f.n) (.slice a1 f.args.length k1) (.slice a2 f.sub.length k2) (.int .u8 p.op) (.string p.n) (.slice a3 p.args.length k3) (.slice a4 p.sub.length k4) (.int .u8 old.op) (.string old.n) (.slice a9 old.args.length k9) (.slice a9' old.sub.length k9') (.int .u8 g.op) (.string g.n) (.slice a11 g.args.length k11) (.slice a11' g.sub.length k11') (.int .u8 p.op) (.string p.n) (.slice a13 p.args.length k13) (.slice a13' p.sub.length k13') (.int .u8 f.op) (.string f.n) (.slice a15 f.args.length k15) (.slice a15' f.sub.length k15') W' from ⟨bf.out.r.below hb bf.out.lt, bp.out.r.below hb bp.out.lt, b9.out.r.below hb b9.out.lt, b11.out.r.below hb b11.out.lt, b13.out.r.below hb b13.out.lt, b15.out.r.below hb b15.out.lt⟩)
    have HBk : Below W12.heap.size W12 W12.drew := (Below.refl _ _).drew
    refine wp_region_S (ReS w.heap.size w5.heap.size w7.heap.size w9.heap.size w11.heap.size (.int .u8 f.op) (.string f.n) (.slice a1 f.args.length k1) (.slice a2 f.sub.length k2) (.int .u8 p.op) (.string p.n) (.slice a3 p.args.length k3) (.slice a4 p.sub.length k4) (.int .u8 old.op) (.string old.n) (.slice a9 old.args.length k9) (.slice a9' old.sub.length k9') (.int .u8 g.op) (.string g.n) (.slice a11 g.args.length k11) (.slice a11' g.sub.length k11') (.int .u8 p.op) (.string p.n) (.slice a13 p.args.length k13) (.slice a13' p.sub.length k13') (.int .u8 f.op) (.string f.n) (.slice a15 f.args.length k15) (.slice a15' f.sub.length k15')) [] 31 #[false, false, false, false, false, false, false, false, false, false, false, false, false, false, false, false, false, false, false, false, false, false, false, false, false, false, false, false, false, false, false] (by kernel_rfl) (by kernel_rfl) (by kernel_rfl) (HS.out _ HBk) (fun hHeld => ?_)
    refine wpAnyS_take (i := 0) (oi := ⟨some 88, _, _, _, _, _⟩) (v := .int .i64 0) rfl (by kernel_rfl) (by kernel_rfl) (by kernel_rfl) (by kernel_rfl) (fun _ _ _ h => Norm.panic h) (Or.inl ⟨by rfl, ?_⟩) (by assumption) ?_
    · intro w' hSw
      obtain ⟨⟨t0, t1, t2, t3⟩, ⟨t4, t5, t6, t7⟩, ⟨t8, t9, t10, t11⟩, ⟨t12, t13, t14, t15⟩, ⟨t16, t17, t18, t19⟩, ⟨t20, t21, t22, t23⟩⟩ := hSw
      go_simp
    simp only [Act.put, List.setIfInBounds_toArray, List.set_cons_zero, List.set_cons_succ]
    refine wpAnyS_take (i := 1) (oi := ⟨some 89, _, _, _, _, _⟩) (v := .bool false) rfl (by kernel_rfl) (by kernel_rfl) (by kernel_rfl) (by kernel_rfl) (fun _ _ _ h => Norm.panic h) (Or.inl ⟨by rfl, ?_⟩) (by assumption) ?_
    · intro w' hSw
      obtain ⟨⟨t0, t1, t2, t3⟩, ⟨t4, t5, t6, t7⟩, ⟨t8, t9, t10, t11⟩, ⟨t12, t13, t14, t15⟩, ⟨t16, t17, t18, t19⟩, ⟨t20, t21, t22, t23⟩⟩ := hSw
      go_simp
    simp only [Act.put, List.setIfInBounds_toArray, List.set_cons_zero, List.set_cons_succ]
    refine wpAnyS_take (i := 2) (oi := ⟨some 90, _, _, _, _, _⟩) (v := .bool false) rfl (by kernel_rfl) (by kernel_rfl) (by kernel_rfl) (by kernel_rfl) (fun _ _ _ h => Norm.panic h) (Or.inl ⟨by rfl, ?_⟩) (by assumption) ?_
    · intro w' hSw
      obtain ⟨⟨t0, t1, t2, t3⟩, ⟨t4, t5, t6, t7⟩, ⟨t8, t9, t10, t11⟩, ⟨t12, t13, t14, t15⟩, ⟨t16, t17, t18, t19⟩, ⟨t20, t21, t22, t23⟩⟩ := hSw
      go_simp
    simp only [Act.put, List.setIfInBounds_toArray, List.set_cons_zero, List.set_cons_succ]
    refine wpAnyS_take (i := 3) (oi := ⟨some 91, _, _, _, _, _⟩) (v := .int .i64 0) rfl (by kernel_rfl) (by kernel_rfl) (by kernel_rfl) (by kernel_rfl) (fun _ _ _ h => Norm.panic h) (Or.inl ⟨by rfl, ?_⟩) (by assumption) ?_
    · intro w' hSw
      obtain ⟨⟨t0, t1, t2, t3⟩, ⟨t4, t5, t6, t7⟩, ⟨t8, t9, t10, t11⟩, ⟨t12, t13, t14, t15⟩, ⟨t16, t17, t18, t19⟩, ⟨t20, t21, t22, t23⟩⟩ := hSw
      go_simp
    simp only [Act.put, List.setIfInBounds_toArray, List.set_cons_zero, List.set_cons_succ]
    refine wpAnyS_take (i := 4) (oi := ⟨some 92, _, _, _, _, _⟩) (v := .bool false) rfl (by kernel_rfl) (by kernel_rfl) (by kernel_rfl) (by kernel_rfl) (fun _ _ _ h => Norm.panic h) (Or.inl ⟨by rfl, ?_⟩) (by assumption) ?_
    · intro w' hSw
      obtain ⟨⟨t0, t1, t2, t3⟩, ⟨t4, t5, t6, t7⟩, ⟨t8, t9, t10, t11⟩, ⟨t12, t13, t14, t15⟩, ⟨t16, t17, t18, t19⟩, ⟨t20, t21, t22, t23⟩⟩ := hSw
      go_simp
    simp only [Act.put, List.setIfInBounds_toArray, List.set_cons_zero, List.set_cons_succ]
    refine wpAnyS_take (i := 5) (oi := ⟨some 93, _, _, _, _, _⟩) (v := .bool false) rfl (by kernel_rfl) (by kernel_rfl) (by kernel_rfl) (by kernel_rfl) (fun _ _ _ h => Norm.panic h) (Or.inl ⟨by rfl, ?_⟩) (by assumption) ?_
    · intro w' hSw
      obtain ⟨⟨t0, t1, t2, t3⟩, ⟨t4, t5, t6, t7⟩, ⟨t8, t9, t10, t11⟩, ⟨t12, t13, t14, t15⟩, ⟨t16, t17, t18, t19⟩, ⟨t20, t21, t22, t23⟩⟩ := hSw
      go_simp
    simp only [Act.put, List.setIfInBounds_toArray, List.set_cons_zero, List.set_cons_succ]
    refine wpAnyS_take (i := 6) (oi := ⟨some 94, _, _, _, _, _⟩) (v := .bool false) rfl (by kernel_rfl) (by kernel_rfl) (by kernel_rfl) (by kernel_rfl) (fun _ _ _ h => Norm.panic h) (Or.inl ⟨by rfl, ?_⟩) (by assumption) ?_
    · intro w' hSw
      obtain ⟨⟨t0, t1, t2, t3⟩, ⟨t4, t5, t6, t7⟩, ⟨t8, t9, t10, t11⟩, ⟨t12, t13, t14, t15⟩, ⟨t16, t17, t18, t19⟩, ⟨t20, t21, t22, t23⟩⟩ := hSw
      go_simp
    simp only [Act.put, List.setIfInBounds_toArray, List.set_cons_zero, List.set_cons_succ]
    refine wpAnyS_take (i := 7) (oi := ⟨some 95, _, _, _, _, _⟩) (v := .agg #[.int .u8 p.op, .string p.n, .slice a13 p.args.length k13, .slice a13' p.sub.length k13']) rfl (by kernel_rfl) (by kernel_rfl) (by kernel_rfl) (by kernel_rfl) (fun _ _ _ h => Norm.panic h) (Or.inl ⟨by rfl, ?_⟩) (by assumption) ?_
    · intro w' hSw
      obtain ⟨⟨t0, t1, t2, t3⟩, ⟨t4, t5, t6, t7⟩, ⟨t8, t9, t10, t11⟩, ⟨t12, t13, t14, t15⟩, ⟨t16, t17, t18, t19⟩, ⟨t20, t21, t22, t23⟩⟩ := hSw
      go_simp
    simp only [Act.put, List.setIfInBounds_toArray, List.set_cons_zero, List.set_cons_succ]
    refine wpAnyS_take (i := 8) (oi := ⟨some 96, _, _, _, _, _⟩) (v := .agg #[.int .u8 p.op, .string p.n, .slice a3 p.args.length k3, .slice a4 p.sub.length k4]) rfl (by kernel_rfl) (by kernel_rfl) (by kernel_rfl) (by kernel_rfl) (fun _ _ _ h => Norm.panic h) (Or.inl ⟨by rfl, ?_⟩) (by assumption) ?_
    · intro w' hSw
      obtain ⟨⟨t0, t1, t2, t3⟩, ⟨t4, t5, t6, t7⟩, ⟨t8, t9, t10, t11⟩, ⟨t12, t13, t14, t15⟩, ⟨t16, t17, t18, t19⟩, ⟨t20, t21, t22, t23⟩⟩ := hSw
      go_simp
    simp only [Act.put, List.setIfInBounds_toArray, List.set_cons_zero, List.set_cons_succ]
    refine wpAnyS_one (i := 9) (oi := ⟨some 97, _, _, _, _, _⟩) rfl (by kernel_rfl) (by rfl) (fun K hK => ?_)
    go_simp
    refine (eqF_c (SizeOf.sizeOf p + 1) p (Nat.lt_succ_self _) p _ _ _ _ _ _ _ _ _ _ (b13.out.below HBk).v (bp.out.below HBk).v (Nat.le_refl _)).mono ?_
    rintro e wn ⟨rfl, hbn⟩
    rw [eqF_self]
    have HBn := HBk.trans (hbn.mono HBk.size)
    clear HBk hbn
    have HBk := HBn
    clear HBn
    have hHeld := HS.out _ HBk
    refine hK _ _ (fun _ => hHeld) ?_
    clear hK K
    simp only [Act.put, List.setIfInBounds_toArray, List.set_cons_zero, List.set_cons_succ]
    refine wpAnyS_take (i := 10) (oi := ⟨some 98, _, _, _, _, _⟩) (v := .bool false) rfl (by kernel_rfl) (by kernel_rfl) (by kernel_rfl) (by kernel_rfl) (fun _ _ _ h => Norm.panic h) (Or.inl ⟨by rfl, ?_⟩) (by assumption) ?_
    · intro w' hSw
      obtain ⟨⟨t0, t1, t2, t3⟩, ⟨t4, t5, t6, t7⟩, ⟨t8, t9, t10, t11⟩, ⟨t12, t13, t14, t15⟩, ⟨t16, t17, t18, t19⟩, ⟨t20, t21, t22, t23⟩⟩ := hSw
      go_simp
    simp only [Act.put, List.setIfInBounds_toArray, List.set_cons_zero, List.set_cons_succ]
    refine wpAnyS_take (i := 11) (oi := ⟨some 99, _, _, _, _, _⟩) (v := .bool false) rfl (by kernel_rfl) (by kernel_rfl) (by kernel_rfl) (by kernel_rfl) (fun _ _ _ h => Norm.panic h) (Or.inl ⟨by rfl, ?_⟩) (by assumption) ?_
    · intro w' hSw
      obtain ⟨⟨t0, t1, t2, t3⟩, ⟨t4, t5, t6, t7⟩, ⟨t8, t9, t10, t11⟩, ⟨t12, t13, t14, t15⟩, ⟨t16, t17, t18, t19⟩, ⟨t20, t21, t22, t23⟩⟩ := hSw
      go_simp
    simp only [Act.put, List.setIfInBounds_toArray, List.set_cons_zero, List.set_cons_succ]
    refine wpAnyS_take (i := 12) (oi := ⟨some 100, _, _, _, _, _⟩) (v := .bool false) rfl (by kernel_rfl) (by kernel_rfl) (by kernel_rfl) (by kernel_rfl) (fun _ _ _ h => Norm.panic h) (Or.inl ⟨by rfl, ?_⟩) (by assumption) ?_
    · intro w' hSw
      obtain ⟨⟨t0, t1, t2, t3⟩, ⟨t4, t5, t6, t7⟩, ⟨t8, t9, t10, t11⟩, ⟨t12, t13, t14, t15⟩, ⟨t16, t17, t18, t19⟩, ⟨t20, t21, t22, t23⟩⟩ := hSw
      go_simp
    simp only [Act.put, List.setIfInBounds_toArray, List.set_cons_zero, List.set_cons_succ]
    refine wpAnyS_take (i := 13) (oi := ⟨some 101, _, _, _, _, _⟩) (v := .agg #[.int .u8 f.op, .string f.n, .slice a15 f.args.length k15, .slice a15' f.sub.length k15']) rfl (by kernel_rfl) (by kernel_rfl) (by kernel_rfl) (by kernel_rfl) (fun _ _ _ h => Norm.panic h) (Or.inl ⟨by rfl, ?_⟩) (by assumption) ?_
    · intro w' hSw
      obtain ⟨⟨t0, t1, t2, t3⟩, ⟨t4, t5, t6, t7⟩, ⟨t8, t9, t10, t11⟩, ⟨t12, t13, t14, t15⟩, ⟨t16, t17, t18, t19⟩, ⟨t20, t21, t22, t23⟩⟩ := hSw
      go_simp
    simp only [Act.put, List.setIfInBounds_toArray, List.set_cons_zero, List.set_cons_succ]
    refine wpAnyS_take (i := 14) (oi := ⟨some 102, _, _, _, _, _⟩) (v := .agg #[.int .u8 f.op, .string f.n, .slice a1 f.args.length k1, .slice a2 f.sub.length k2]) rfl (by kernel_rfl) (by kernel_rfl) (by kernel_rfl) (by kernel_rfl) (fun _ _ _ h => Norm.panic h) (Or.inl ⟨by rfl, ?_⟩) (by assumption) ?_
    · intro w' hSw
      obtain ⟨⟨t0, t1, t2, t3⟩, ⟨t4, t5, t6, t7⟩, ⟨t8, t9, t10, t11⟩, ⟨t12, t13, t14, t15⟩, ⟨t16, t17, t18, t19⟩, ⟨t20, t21, t22, t23⟩⟩ := hSw
      go_simp
    simp only [Act.put, List.setIfInBounds_toArray, List.set_cons_zero, List.set_cons_succ]
    refine wpAnyS_one (i := 15) (oi := ⟨some 103, _, _, _, _, _⟩) rfl (by kernel_rfl) (by rfl) (fun K hK => ?_)
    go_simp
    refine (eqF_c (SizeOf.sizeOf f + 1) f (Nat.lt_succ_self _) f _ _ _ _ _ _ _ _ _ _ (b15.out.below HBk).v (bf.out.below HBk).v (Nat.le_refl _)).mono ?_
    rintro e wn ⟨rfl, hbn⟩
    rw [eqF_self]
    have HBn := HBk.trans (hbn.mono HBk.size)
    clear HBk hbn
    have HBk := HBn
    clear HBn
    have hHeld := HS.out _ HBk
    refine hK _ _ (fun _ => hHeld) ?_
    clear hK K
    simp only [Act.put, List.setIfInBounds_toArray, List.set_cons_zero, List.set_cons_succ]
    refine wpAnyS_take (i := 16) (oi := ⟨some 104, _, _, _, _, _⟩) (v := .bool false) rfl (by kernel_rfl) (by kernel_rfl) (by kernel_rfl) (by kernel_rfl) (fun _ _ _ h => Norm.panic h) (Or.inl ⟨by rfl, ?_⟩) (by assumption) ?_
    · intro w' hSw
      obtain ⟨⟨t0, t1, t2, t3⟩, ⟨t4, t5, t6, t7⟩, ⟨t8, t9, t10, t11⟩, ⟨t12, t13, t14, t15⟩, ⟨t16, t17, t18, t19⟩, ⟨t20, t21, t22, t23⟩⟩ := hSw
      go_simp
    simp only [Act.put, List.setIfInBounds_toArray, List.set_cons_zero, List.set_cons_succ]
    refine wpAnyS_take (i := 17) (oi := ⟨some 105, _, _, _, _, _⟩) (v := .bool false) rfl (by kernel_rfl) (by kernel_rfl) (by kernel_rfl) (by kernel_rfl) (fun _ _ _ h => Norm.panic h) (Or.inl ⟨by rfl, ?_⟩) (by assumption) ?_
    · intro w' hSw
      obtain ⟨⟨t0, t1, t2, t3⟩, ⟨t4, t5, t6, t7⟩, ⟨t8, t9, t10, t11⟩, ⟨t12, t13, t14, t15⟩, ⟨t16, t17, t18, t19⟩, ⟨t20, t21, t22, t23⟩⟩ := hSw
      go_simp
    simp only [Act.put, List.setIfInBounds_toArray, List.set_cons_zero, List.set_cons_succ]
    refine wpAnyS_take (i := 18) (oi := ⟨some 106, _, _, _, _, _⟩) (v := .bool false) rfl (by kernel_rfl) (by kernel_rfl) (by kernel_rfl) (by kernel_rfl) (fun _ _ _ h => Norm.panic h) (Or.inl ⟨by rfl, ?_⟩) (by assumption) ?_
    · intro w' hSw
      obtain ⟨⟨t0, t1, t2, t3⟩, ⟨t4, t5, t6, t7⟩, ⟨t8, t9, t10, t11⟩, ⟨t12, t13, t14, t15⟩, ⟨t16, t17, t18, t19⟩, ⟨t20, t21, t22, t23⟩⟩ := hSw
      go_simp
    simp only [Act.put, List.setIfInBounds_toArray, List.set_cons_zero, List.set_cons_succ]
    refine wpAnyS_take (i := 19) (oi := ⟨some 107, _, _, _, _, _⟩) (v := .agg #[.int .u8 g.op, .string g.n, .slice a11 g.args.length k11, .slice a11' g.sub.length k11']) rfl (by kernel_rfl) (by kernel_rfl) (by kernel_rfl) (by kernel_rfl) (fun _ _ _ h => Norm.panic h) (Or.inl ⟨by rfl, ?_⟩) (by assumption) ?_
    · intro w' hSw
      obtain ⟨⟨t0, t1, t2, t3⟩, ⟨t4, t5, t6, t7⟩, ⟨t8, t9, t10, t11⟩, ⟨t12, t13, t14, t15⟩, ⟨t16, t17, t18, t19⟩, ⟨t20, t21, t22, t23⟩⟩ := hSw
      go_simp
    simp only [Act.put, List.setIfInBounds_toArray, List.set_cons_zero, List.set_cons_succ]
    refine wpAnyS_take (i := 21) (oi := ⟨some 109, _, _, _, _, _⟩) (v := .agg #[.int .u8 f.op, .string f.n, .slice a1 f.args.length k1, .slice a2 f.sub.length k2]) rfl (by kernel_rfl) (by kernel_rfl) (by kernel_rfl) (by kernel_rfl) (fun _ _ _ h => Norm.panic h) (Or.inl ⟨by rfl, ?_⟩) (by assumption) ?_
    · intro w' hSw
      obtain ⟨⟨t0, t1, t2, t3⟩, ⟨t4, t5, t6, t7⟩, ⟨t8, t9, t10, t11⟩, ⟨t12, t13, t14, t15⟩, ⟨t16, t17, t18, t19⟩, ⟨t20, t21, t22, t23⟩⟩ := hSw
      go_simp
    simp only [Act.put, List.setIfInBounds_toArray, List.set_cons_zero, List.set_cons_succ]
    refine wpAnyS_take (i := 23) (oi := ⟨some 111, _, _, _, _, _⟩) (v := .agg #[.int .u8 old.op, .string old.n, .slice a9 old.args.length k9, .slice a9' old.sub.length k9']) rfl (by kernel_rfl) (by kernel_rfl) (by kernel_rfl) (by kernel_rfl) (fun _ _ _ h => Norm.panic h) (Or.inl ⟨by rfl, ?_⟩) (by assumption) ?_
    · intro w' hSw
      obtain ⟨⟨t0, t1, t2, t3⟩, ⟨t4, t5, t6, t7⟩, ⟨t8, t9, t10, t11⟩, ⟨t12, t13, t14, t15⟩, ⟨t16, t17, t18, t19⟩, ⟨t20, t21, t22, t23⟩⟩ := hSw
      go_simp
    simp only [Act.put, List.setIfInBounds_toArray, List.set_cons_zero, List.set_cons_succ]
    refine wpAnyS_take (i := 26) (oi := ⟨some 114, _, _, _, _, _⟩) (v := .agg #[.int .u8 p.op, .string p.n, .slice a3 p.args.length k3, .slice a4 p.sub.length k4]) rfl (by kernel_rfl) (by kernel_rfl) (by kernel_rfl) (by kernel_rfl) (fun _ _ _ h => Norm.panic h) (Or.inl ⟨by rfl, ?_⟩) (by assumption) ?_
    · intro w' hSw
      obtain ⟨⟨t0, t1, t2, t3⟩, ⟨t4, t5, t6, t7⟩, ⟨t8, t9, t10, t11⟩, ⟨t12, t13, t14, t15⟩, ⟨t16, t17, t18, t19⟩, ⟨t20, t21, t22, t23⟩⟩ := hSw
      go_simp
    simp only [Act.put, List.setIfInBounds_toArray, List.set_cons_zero, List.set_cons_succ]
    refine wpAnyS_one (i := 20) (oi := ⟨some 108, _, _, _, _, _⟩) rfl (by kernel_rfl) (by rfl) (fun K hK => ?_)
    go_simp
    refine (nodes_nd (b11.out.below HBk).v).mono ?_
    rintro e wn ⟨rfl, hbn⟩
    have HBn := HBk.trans (hbn.mono HBk.size)
    clear HBk hbn
    have HBk := HBn
    clear HBn
    have hHeld := HS.out _ HBk
    refine hK _ _ (fun _ => hHeld) ?_
    clear hK K
    simp only [Act.put, List.setIfInBounds_toArray, List.set_cons_zero, List.set_cons_succ]
    refine wpAnyS_one (i := 22) (oi := ⟨some 110, _, _, _, _, _⟩) rfl (by kernel_rfl) (by rfl) (fun K hK => ?_)
    go_simp
    refine (nodes_nd (bf.out.below HBk).v).mono ?_
    rintro e wn ⟨rfl, hbn⟩
    have HBn := HBk.trans (hbn.mono HBk.size)
    clear HBk hbn
    have HBk := HBn
    clear HBn
    have hHeld := HS.out _ HBk
    refine hK _ _ (fun _ => hHeld) ?_
    clear hK K
    simp only [Act.put, List.setIfInBounds_toArray, List.set_cons_zero, List.set_cons_succ]
    refine wpAnyS_one (i := 24) (oi := ⟨some 112, _, _, _, _, _⟩) rfl (by kernel_rfl) (by rfl) (fun K hK => ?_)
    go_simp
    refine (nodes_nd (b9.out.below HBk).v).mono ?_
    rintro e wn ⟨rfl, hbn⟩
    have HBn := HBk.trans (hbn.mono HBk.size)
    clear HBk hbn
    have HBk := HBn
    clear HBn
    have hHeld := HS.out _ HBk
    refine hK _ _ (fun _ => hHeld) ?_
    clear hK K
    simp only [Act.put, List.setIfInBounds_toArray, List.set_cons_zero, List.set_cons_succ]
    refine wpAnyS_take (i := 25) (oi := ⟨some 113, _, _, _, _, _⟩) (v := .int .i64 (wrap64 (nd f - nd old))) rfl (by kernel_rfl) (by kernel_rfl) (by kernel_rfl) (by kernel_rfl) (fun _ _ _ h => Norm.panic h) (Or.inl ⟨by rfl, ?_⟩) (by assumption) ?_
    · intro w' hSw
      obtain ⟨⟨t0, t1, t2, t3⟩, ⟨t4, t5, t6, t7⟩, ⟨t8, t9, t10, t11⟩, ⟨t12, t13, t14, t15⟩, ⟨t16, t17, t18, t19⟩, ⟨t20, t21, t22, t23⟩⟩ := hSw
      go_simp
      try rw [IntWalk.i64_left]
    simp only [Act.put, List.setIfInBounds_toArray, List.set_cons_zero, List.set_cons_succ]
    refine wpAnyS_one (i := 27) (oi := ⟨some 115, _, _, _, _, _⟩) rfl (by kernel_rfl) (by rfl) (fun K hK => ?_)
    go_simp
    refine (nodes_nd (bp.out.below HBk).v).mono ?_
    rintro e wn ⟨rfl, hbn⟩
    have HBn := HBk.trans (hbn.mono HBk.size)
    clear HBk hbn
    have HBk := HBn
    clear HBn
    have hHeld := HS.out _ HBk
    refine hK _ _ (fun _ => hHeld) ?_
    clear hK K
    simp only [Act.put, List.setIfInBounds_toArray, List.set_cons_zero, List.set_cons_succ]
    refine wpAnyS_take (i := 28) (oi := ⟨some 116, _, _, _, _, _⟩) (v := .int .i64 (wrap64 (wrap64 (nd f - nd old) + nd p))) rfl (by kernel_rfl) (by kernel_rfl) (by kernel_rfl) (by kernel_rfl) (fun _ _ _ h => Norm.panic h) (Or.inl ⟨by rfl, ?_⟩) (by assumption) ?_
    · intro w' hSw
      obtain ⟨⟨t0, t1, t2, t3⟩, ⟨t4, t5, t6, t7⟩, ⟨t8, t9, t10, t11⟩, ⟨t12, t13, t14, t15⟩, ⟨t16, t17, t18, t19⟩, ⟨t20, t21, t22, t23⟩⟩ := hSw
      go_simp
      try rw [IntWalk.i64_left]
    simp only [Act.put, List.setIfInBounds_toArray, List.set_cons_zero, List.set_cons_succ]
    refine wpAnyS_take (i := 29) (oi := ⟨some 117, _, _, _, _, _⟩) (v := .bool false) rfl (by kernel_rfl) (by kernel_rfl) (by kernel_rfl) (by kernel_rfl) (fun _ _ _ h => Norm.panic h) (Or.inl ⟨by rfl, ?_⟩) (by assumption) ?_
    · intro w' hSw
      obtain ⟨⟨t0, t1, t2, t3⟩, ⟨t4, t5, t6, t7⟩, ⟨t8, t9, t10, t11⟩, ⟨t12, t13, t14, t15⟩, ⟨t16, t17, t18, t19⟩, ⟨t20, t21, t22, t23⟩⟩ := hSw
      go_simp
      exact HGN.out.symm
    simp only [Act.put, List.setIfInBounds_toArray, List.set_cons_zero, List.set_cons_succ]
    refine wpAnyS_take (i := 30) (oi := ⟨some 118, _, _, _, _, _⟩) (v := .bool false) rfl (by kernel_rfl) (by kernel_rfl) (by kernel_rfl) (by kernel_rfl) (fun _ _ _ h => Norm.panic h) (Or.inl ⟨by rfl, ?_⟩) (by assumption) ?_
    · intro w' hSw
      obtain ⟨⟨t0, t1, t2, t3⟩, ⟨t4, t5, t6, t7⟩, ⟨t8, t9, t10, t11⟩, ⟨t12, t13, t14, t15⟩, ⟨t16, t17, t18, t19⟩, ⟨t20, t21, t22, t23⟩⟩ := hSw
      go_simp
    simp only [Act.put, List.setIfInBounds_toArray, List.set_cons_zero, List.set_cons_succ]
    refine wpAnyS_done (by kernel_rfl) ?_
    refine Norm.normal ?_
    clear hHeld
    have HB := Lib.hid (HBw.out.trans (HBk.mono HBw.out.size))
    have cf := Lib.hid (bf.out.below HBk)
    have cg := Lib.hid (b11.out.below HBk)
    have HPL2 := Lib.hid (HPL.out.adv HBk)
    have HQL2 := Lib.hid (HQL.out.adv HBk)
    clear HS HPL HQL HBw HBk bf bp b9 b11 b13 b15
    go_wp2_with fail
    go_loopw [17] (fun i wr => RpRel is js wn i wr) (fun i _ => is.length - (intOf i).toNat)
    case atStart => exact ⟨0, rfl, Nat.zero_le _, Nat.zero_le _, fun j h => absurd h (Nat.not_lt_zero _), Below.refl _ _⟩
    case round =>
      obtain ⟨q, rfl, hq1, hq2, heq, hbq⟩ := hrel
      have HEQ := Lib.hid heq
      have hpl2 := HPL2.out.adv hbq
      have hql2 := HQL2.out.adv hbq
      have bf := Lib.hid (cf.out.below hbq)
      have b11 := Lib.hid (cg.out.below hbq)
      have HPL := Lib.hid hpl2
      have HQL := Lib.hid hql2
      have HBw := Lib.hid (HB.out.trans (hbq.mono HB.out.size))
      obtain ⟨_, _, pb, po, hpe, _, hp3, hp4⟩ := hpl2
      obtain ⟨_, _, qb, qo, hqe, _, hq3, hq4⟩ := hql2
      injection hpe with hpe1 _ hpe3
      injection hqe with hqe1 _ hqe3
      subst hpe1 hpe3 hqe1 hqe3
      clear heq
      by_cases hlt : q < is.length
      rotate_left
      · go_wp2_with fail
        go_ret
        exact ⟨rfl, HBw.out⟩
      by_cases hlt2 : q < js.length
      rotate_left
      · go_wp2_with fail
        go_ret
        exact ⟨rfl, HBw.out⟩
      obtain ⟨rfl, hpb⟩ := hp3.resolve_left (by rintro rfl; simp at hlt)
      obtain ⟨rfl, hqb⟩ := hq3.resolve_left (by rintro rfl; simp at hlt2)
      have e1 := hp4 q hlt
      have e2 := hq4 q hlt2
      clear hp4 hq4
      have HS := Lib.hid (fun W' (hb : Below wr.heap.size wr W') => show PkS pb po qb qo q (.int .i64 is[q]) (.int .i64 js[q]) W' from ⟨(hb.cell (p := ⟨pb, po + q, none⟩) hpb).trans e1, (hb.cell (p := ⟨qb, qo + q, none⟩) hqb).trans e2⟩)
      go_wp2_with fail
      have HBk : Below wr.heap.size wr wr.drew := (Below.refl _ _).drew
      refine wp_region_S (PkS pb po qb qo q (.int .i64 is[q]) (.int .i64 js[q])) [] 9 #[false, false, false, false, false, false, false, false, false] (by kernel_rfl) (by kernel_rfl) (by kernel_rfl) (HS.out _ HBk) (fun hHeld => ?_)
      refine wpAnyS_take (i := 0) (oi := ⟨some 131, _, _, _, _, _⟩) (v := .slice (some ⟨pb, po, none⟩) is.length kp) rfl (by kernel_rfl) (by kernel_rfl) (by kernel_rfl) (by kernel_rfl) (fun _ _ _ h => Norm.panic h) (Or.inl ⟨by rfl, ?_⟩) (by assumption) ?_
      · intro w' hSw
        obtain ⟨t0, t1⟩ := hSw
        go_simp
      simp only [Act.put, List.setIfInBounds_toArray, List.set_cons_zero, List.set_cons_succ]
      refine wpAnyS_take (i := 1) (oi := ⟨some 132, _, _, _, _, _⟩) (v := .int .i64 (q : Int)) rfl (by kernel_rfl) (by kernel_rfl) (by kernel_rfl) (by kernel_rfl) (fun _ _ _ h => Norm.panic h) (Or.inl ⟨by rfl, ?_⟩) (by assumption) ?_
      · intro w' hSw
        obtain ⟨t0, t1⟩ := hSw
        go_simp
      simp only [Act.put, List.setIfInBounds_toArray, List.set_cons_zero, List.set_cons_succ]
      refine wpAnyS_take (i := 2) (oi := ⟨some 133, _, _, _, _, _⟩) (v := .pointer (some ⟨pb, po + q, none⟩)) rfl (by kernel_rfl) (by kernel_rfl) (by kernel_rfl) (by kernel_rfl) (fun _ _ _ h => Norm.panic h) (Or.inl ⟨by rfl, ?_⟩) (by assumption) ?_
      · intro w' hSw
        obtain ⟨t0, t1⟩ := hSw
        go_simp
      simp only [Act.put, List.setIfInBounds_toArray, List.set_cons_zero, List.set_cons_succ]
      refine wpAnyS_take (i := 3) (oi := ⟨some 134, _, _, _, _, _⟩) (v := .int .i64 is[q]) rfl (by kernel_rfl) (by kernel_rfl) (by kernel_rfl) (by kernel_rfl) (fun _ _ _ h => Norm.panic h) (Or.inl ⟨by rfl, ?_⟩) (by assumption) ?_
      · intro w' hSw
        obtain ⟨t0, t1⟩ := hSw
        go_simp
      simp only [Act.put, List.setIfInBounds_toArray, List.set_cons_zero, List.set_cons_succ]
      refine wpAnyS_take (i := 4) (oi := ⟨some 135, _, _, _, _, _⟩) (v := .slice (some ⟨qb, qo, none⟩) js.length kq) rfl (by kernel_rfl) (by kernel_rfl) (by kernel_rfl) (by kernel_rfl) (fun _ _ _ h => Norm.panic h) (Or.inl ⟨by rfl, ?_⟩) (by assumption) ?_
      · intro w' hSw
        obtain ⟨t0, t1⟩ := hSw
        go_simp
      simp only [Act.put, List.setIfInBounds_toArray, List.set_cons_zero, List.set_cons_succ]
      refine wpAnyS_take (i := 5) (oi := ⟨some 136, _, _, _, _, _⟩) (v := .int .i64 (q : Int)) rfl (by kernel_rfl) (by kernel_rfl) (by kernel_rfl) (by kernel_rfl) (fun _ _ _ h => Norm.panic h) (Or.inl ⟨by rfl, ?_⟩) (by assumption) ?_
      · intro w' hSw
        obtain ⟨t0, t1⟩ := hSw
        go_simp
      simp only [Act.put, List.setIfInBounds_toArray, List.set_cons_zero, List.set_cons_succ]
      refine wpAnyS_take (i := 6) (oi := ⟨some 137, _, _, _, _, _⟩) (v := .pointer (some ⟨qb, qo + q, none⟩)) rfl (by kernel_rfl) (by kernel_rfl) (by kernel_rfl) (by kernel_rfl) (fun _ _ _ h => Norm.panic h) (Or.inl ⟨by rfl, ?_⟩) (by assumption) ?_
      · intro w' hSw
        obtain ⟨t0, t1⟩ := hSw
        go_simp
      simp only [Act.put, List.setIfInBounds_toArray, List.set_cons_zero, List.set_cons_succ]
      refine wpAnyS_take (i := 7) (oi := ⟨some 138, _, _, _, _, _⟩) (v := .int .i64 js[q]) rfl (by kernel_rfl) (by kernel_rfl) (by kernel_rfl) (by kernel_rfl) (fun _ _ _ h => Norm.panic h) (Or.inl ⟨by rfl, ?_⟩) (by assumption) ?_
      · intro w' hSw
        obtain ⟨t0, t1⟩ := hSw
        go_simp
      simp only [Act.put, List.setIfInBounds_toArray, List.set_cons_zero, List.set_cons_succ]
      refine wpAnyS_take (i := 8) (oi := ⟨some 139, _, _, _, _, _⟩) (v := .bool (is[q] != js[q])) rfl (by kernel_rfl) (by kernel_rfl) (by kernel_rfl) (by kernel_rfl) (fun _ _ _ h => Norm.panic h) (Or.inl ⟨by rfl, ?_⟩) (by assumption) ?_
      · intro w' hSw
        obtain ⟨t0, t1⟩ := hSw
        go_simp
      simp only [Act.put, List.setIfInBounds_toArray, List.set_cons_zero, List.set_cons_succ]
      refine wpAnyS_done (by kernel_rfl) ?_
      refine Norm.normal ?_
      clear hHeld
      have HBX := Lib.hid HBk
      have cf2 := Lib.hid (bf.out.below HBk)
      have cg2 := Lib.hid (b11.out.below HBk)
      have HQ3 := Lib.hid (HQL.out.adv HBk)
      have HBw2 := Lib.hid (HBw.out.trans (HBk.mono HBw.out.size))
      clear HBk bf b11 HQL HBw
      by_cases hne : is[q] = js[q]
      · have hnb : (is[q] != js[q]) = false := by rw [hne]; simp
        rw [hnb]
        go_wp2_with fail
        refine ⟨⟨q + 1, by go_num, by omega, by omega, fun j h h1 h2 => ?_, hbq.trans (HBX.out.mono hbq.size)⟩, by simp [intOf]; omega⟩
        by_cases hj : j < q
        · exact HEQ.out j hj h1 h2
        · obtain rfl : j = q := by omega
          exact hne
      · have hnb : (is[q] != js[q]) = true := by simpa using hne
        rw [hnb]
        have HGE2 := Lib.hid (HGE.out q hlt hlt2 (fun j h => HEQ.out j h (by omega) (by omega)) hne)
        obtain ⟨⟨c0, c1, c2, c3⟩, _, cl⟩ := cf2.out
        have HA1 := Lib.hid (at_c _ _ _ _ _ f js _ wr.drew cf2.out.v HQ3.out (Nat.le_refl _))
        obtain ⟨r2, hr2⟩ : ∃ r2, atF f js = r2 := ⟨_, rfl⟩
        rw [hr2] at HA1 HGE2
        have HR2 := Lib.hid hr2
        clear hr2
        go_wp2_with fail
        refine HA1.out.mono ?_
        clear HA1 c0 c1 c2 c3 cl
        cases r2 with
        | none =>
          rintro e w14 ⟨rfl, hb⟩
          have HBw3 := Lib.hid (HBw2.out.trans (hb.mono HBw2.out.size))
          have cg3 := Lib.hid (cg2.out.below hb)
          have HQ4 := Lib.hid (HQ3.out.adv hb)
          clear HBw2 cg2 cf2 HQ3 hb
          obtain ⟨⟨d0, d1, d2, d3⟩, _, dl⟩ := cg3.out
          go_wp2_with fail
          clear d0 d1 d2 d3 dl
          have b18x := Bx.new (zero_foV _ w14) 25
          have hb : Below w14.heap.size w14 (w14.alloc (.cells #[.int .u8 0, .string ByteArray.empty, .slice none 0 0, .slice none 0 0] 25)) := (Below.refl _ _).alloc (Nat.le_refl _) _
          generalize (w14.alloc (.cells #[.int .u8 0, .string ByteArray.empty, .slice none 0 0, .slice none 0 0] 25)) = W15 at *
          have b18 := Lib.hid b18x
          clear b18x
          have HBw4 := Lib.hid (HBw3.out.trans (hb.mono HBw3.out.size))
          have cg4 := Lib.hid (cg3.out.below hb)
          have HQ5 := Lib.hid (HQ4.out.adv hb)
          clear HBw3 cg3 HQ4 hb
          have HA2 := Lib.hid (at_c _ _ _ _ _ g js _ W15 cg4.out.v HQ5.out (Nat.le_refl _))
          rw [HGE2.out] at HA2
          refine HA2.out.mono ?_
          clear HA2
          rintro e w16 ⟨rfl, hb⟩
          have HBw5 := Lib.hid (HBw4.out.trans (hb.mono HBw4.out.size))
          have b18b := Lib.hid (b18.out.below hb)
          clear HBw4 b18 hb cg4
          obtain ⟨⟨d0, d1, d2, d3⟩, _, dl⟩ := b18b.out
          go_wp2_with fail
          clear d0 d1 d2 d3 dl
          have b20x := Bx.new (zero_foV _ w16) 25
          have hb : Below w16.heap.size w16 (w16.alloc (.cells #[.int .u8 0, .string ByteArray.empty, .slice none 0 0, .slice none 0 0] 25)) := (Below.refl _ _).alloc (Nat.le_refl _) _
          generalize (w16.alloc (.cells #[.int .u8 0, .string ByteArray.empty, .slice none 0 0, .slice none 0 0] 25)) = W17 at *
          have b20 := Lib.hid b20x
          clear b20x
          have HBw6 := Lib.hid (HBw5.out.trans (hb.mono HBw5.out.size))
          have b18c := Lib.hid (b18b.out.below hb)
          clear HBw5 b18b hb
          refine (eqF_c (SizeOf.sizeOf zeroF + 1) zeroF (Nat.lt_succ_self _) zeroF _ _ _ _ _ _ _ _ _ _ b18c.out.v b20.out.v (Nat.le_refl _)).mono ?_
          rintro e w18 ⟨rfl, hb⟩
          rw [eqF_self]
          have HBw7 := Lib.hid (HBw6.out.trans (hb.mono HBw6.out.size))
          clear hb
          go_wp2_with fail
          go_ret
          exact ⟨rfl, HBw7.out⟩
        | some x =>
          have HOX := Lib.hid (foV_at js f x _ _ _ _ cf2.out.v HR2.out)
          rintro e w14 ⟨a18, k18, a18', k18', rfl, hT9, hS9, hb⟩
          have HV18 := Lib.hid (atP_foV HOX.out hT9 hS9)
          clear hT9 hS9
          have HBw3 := Lib.hid (HBw2.out.trans (hb.mono HBw2.out.size))
          have cg3 := Lib.hid (cg2.out.below hb)
          have HQ4 := Lib.hid (HQ3.out.adv hb)
          clear HBw2 cg2 cf2 HQ3 hb
          obtain ⟨⟨d0, d1, d2, d3⟩, _, dl⟩ := cg3.out
          go_wp2_with fail
          clear d0 d1 d2 d3 dl
          have b18x := Bx.new (HV18.out) 25
          have hb : Below w14.heap.size w14 (w14.alloc (.cells #[.int .u8 x.op, .string x.n, .slice a18 x.args.length k18, .slice a18' x.sub.length k18'] 25)) := (Below.refl _ _).alloc (Nat.le_refl _) _
          generalize (w14.alloc (.cells #[.int .u8 x.op, .string x.n, .slice a18 x.args.length k18, .slice a18' x.sub.length k18'] 25)) = W15 at *
          have b18 := Lib.hid b18x
          clear b18x
          have HBw4 := Lib.hid (HBw3.out.trans (hb.mono HBw3.out.size))
          have cg4 := Lib.hid (cg3.out.below hb)
          have HQ5 := Lib.hid (HQ4.out.adv hb)
          clear HBw3 cg3 HQ4 hb
          have HA2 := Lib.hid (at_c _ _ _ _ _ g js _ W15 cg4.out.v HQ5.out (Nat.le_refl _))
          rw [HGE2.out] at HA2
          refine HA2.out.mono ?_
          clear HA2
          rintro e w16 ⟨a20, k20, a20', k20', rfl, hT9, hS9, hb⟩
          have HV20 := Lib.hid (atP_foV HOX.out hT9 hS9)
          clear hT9 hS9
          have HBw5 := Lib.hid (HBw4.out.trans (hb.mono HBw4.out.size))
          have b18b := Lib.hid (b18.out.below hb)
          clear HBw4 b18 hb cg4
          obtain ⟨⟨d0, d1, d2, d3⟩, _, dl⟩ := b18b.out
          go_wp2_with fail
          clear d0 d1 d2 d3 dl
          have b20x := Bx.new (HV20.out) 25
          have hb : Below w16.heap.size w16 (w16.alloc (.cells #[.int .u8 x.op, .string x.n, .slice a20 x.args.length k20, .slice a20' x.sub.length k20'] 25)) := (Below.refl _ _).alloc (Nat.le_refl _) _
          generalize (w16.alloc (.cells #[.int .u8 x.op, .string x.n, .slice a20 x.args.length k20, .slice a20' x.sub.length k20'] 25)) = W17 at *
          have b20 := Lib.hid b20x
          clear b20x
          have HBw6 := Lib.hid (HBw5.out.trans (hb.mono HBw5.out.size))
          have b18c := Lib.hid (b18b.out.below hb)
          clear HBw5 b18b hb
          refine (eqF_c (SizeOf.sizeOf x + 1) x (Nat.lt_succ_self _) x _ _ _ _ _ _ _ _ _ _ b18c.out.v b20.out.v (Nat.le_refl _)).mono ?_
          rintro e w18 ⟨rfl, hb⟩
          rw [eqF_self]
          have HBw7 := Lib.hid (HBw6.out.trans (hb.mono HBw6.out.size))
          clear hb
          go_wp2_with fail
          go_ret
          exact ⟨rfl, HBw7.out⟩
end Go.Proofs.YtnadjkofjgpabaaDoor.Fm
