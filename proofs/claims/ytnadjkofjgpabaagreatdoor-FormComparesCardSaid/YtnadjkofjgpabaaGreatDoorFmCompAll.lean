/-
  FormCompares: the walk.
-/
import Derived.Test.YtnadjkofjgpabaaGreatDoorFmCompares
import Derived.Test.YtnadjkofjgpabaaGreatDoorFmAwk
import Derived.Test.YtnadjkofjgpabaaGreatDoorFmSize
namespace Go.Proofs.YtnadjkofjgpabaaGreatDoor.Fm
open Go Go.RowKit Go.Shelf
set_option linter.unusedVariables false
set_option linter.unusedSimpArgs false
set_option maxHeartbeats 400000 in
set_option maxRecDepth 100000 in
theorem form_compares_c (f g : Fo) (x0 x1 x2 x3 y0 y1 y2 y3 : Value) (w : World) (hT : RTab w) (hf : FoV w.heap.size w x0 x1 x2 x3 f) (hg : FoV w.heap.size w y0 y1 y2 y3 g) :
    Calls Tryz.prog 3 #[.agg #[x0, x1, x2, x3], .agg #[y0, y1, y2, y3]] w fun e w' => e = .returned (.bool true) ∧ Below w.heap.size w w' := by
  have HF := Lib.hid hf
  have HG := Lib.hid hg
  obtain ⟨rfl, _, rfl, _, hA, hS⟩ := hf
  obtain ⟨⟨a1, k1, rfl⟩, _⟩ := hA.form
  obtain ⟨⟨a2, k2, rfl⟩, _⟩ := hS.form
  clear hA hS
  obtain ⟨rfl, _, rfl, _, hA, hS⟩ := hg
  obtain ⟨⟨a3, k3, rfl⟩, _⟩ := hA.form
  obtain ⟨⟨a4, k4, rfl⟩, _⟩ := hS.form
  clear hA hS
  go_enter Tryz.func3, Tryz.ntmps3
  go_wp2_with fail
  have hbp : Below w.heap.size w ((w.alloc (.cells #[.int .u8 f.op, .string f.n, .slice a1 f.args.length k1, .slice a2 f.sub.length k2] 25)).alloc (.cells #[.int .u8 g.op, .string g.n, .slice a3 g.args.length k3, .slice a4 g.sub.length k4] 25)) := ((Below.refl _ w).alloc (Nat.le_refl _) _).alloc (by simp) _
  obtain ⟨l1, l2⟩ := two_boxes w #[.int .u8 f.op, .string f.n, .slice a1 f.args.length k1, .slice a2 f.sub.length k2] #[.int .u8 g.op, .string g.n, .slice a3 g.args.length k3, .slice a4 g.sub.length k4] 25
  have hWe : ((w.alloc (.cells #[.int .u8 f.op, .string f.n, .slice a1 f.args.length k1, .slice a2 f.sub.length k2] 25)).alloc (.cells #[.int .u8 g.op, .string g.n, .slice a3 g.args.length k3, .slice a4 g.sub.length k4] 25)).heap.size = w.heap.size + 1 + 1 := by simp
  have l3 := Lay.new ((w.alloc (.cells #[.int .u8 f.op, .string f.n, .slice a1 f.args.length k1, .slice a2 f.sub.length k2] 25)).alloc (.cells #[.int .u8 g.op, .string g.n, .slice a3 g.args.length k3, .slice a4 g.sub.length k4] 25)) [.int .u8 f.op, .string f.n, .slice a1 f.args.length k1, .slice a2 f.sub.length k2, .int .u8 g.op, .string g.n, .slice a3 g.args.length k3, .slice a4 g.sub.length k4] 25
  generalize ((w.alloc (.cells #[.int .u8 f.op, .string f.n, .slice a1 f.args.length k1, .slice a2 f.sub.length k2] 25)).alloc (.cells #[.int .u8 g.op, .string g.n, .slice a3 g.args.length k3, .slice a4 g.sub.length k4] 25)) = W at *
  rw [hWe] at l3
  have hWz : w.heap.size + 2 ≤ W.heap.size := by omega
  have HWE := Lib.hid hWe
  clear hWe
  have hW : CmS w.heap.size (.int .u8 f.op) (.string f.n) (.slice a1 f.args.length k1) (.slice a2 f.sub.length k2) (.int .u8 g.op) (.string g.n) (.slice a3 g.args.length k3) (.slice a4 g.sub.length k4) W := ⟨⟨l1 0, l1 1, l1 2, l1 3⟩, ⟨l2 0, l2 1, l2 2, l2 3⟩⟩
  clear l1 l2
  have HS := Lib.hid (fun W' (hb : Below W.heap.size W W') => show CmS w.heap.size (.int .u8 f.op) (.string f.n) (.slice a1 f.args.length k1) (.slice a2 f.sub.length k2) (.int .u8 g.op) (.string g.n) (.slice a3 g.args.length k3) (.slice a4 g.sub.length k4) W' from ⟨hW.a.below hb (by omega), hW.b.below hb (by omega)⟩)
  have HF' := Lib.hid (fun W' (hb : Below W.heap.size W W') => HF.out.below (hbp.trans (hb.mono hbp.size)) (Nat.le_refl _))
  have HG' := Lib.hid (fun W' (hb : Below W.heap.size W W') => HG.out.below (hbp.trans (hb.mono hbp.size)) (Nat.le_refl _))
  have HT := Lib.hid (fun W' (hb : Below W.heap.size W W') => hT.below (hbp.trans (hb.mono hbp.size)) hT.1)
  have HP := Lib.hid hbp
  clear HF HG hW hbp
  have HBk := (Below.refl W.heap.size W).alloc (Nat.le_refl _) (.cells #[.int .u8 f.op, .string f.n, .slice a1 f.args.length k1, .slice a2 f.sub.length k2, .int .u8 g.op, .string g.n, .slice a3 g.args.length k3, .slice a4 g.sub.length k4] 25)
  have hz3 : W.heap.size < (W.alloc (.cells #[.int .u8 f.op, .string f.n, .slice a1 f.args.length k1, .slice a2 f.sub.length k2, .int .u8 g.op, .string g.n, .slice a3 g.args.length k3, .slice a4 g.sub.length k4] 25)).heap.size := by simp
  generalize (W.alloc (.cells #[.int .u8 f.op, .string f.n, .slice a1 f.args.length k1, .slice a2 f.sub.length k2, .int .u8 g.op, .string g.n, .slice a3 g.args.length k3, .slice a4 g.sub.length k4] 25)) = W3 at *
  rw [HWE.out] at hz3
  have hws : w.heap.size ≤ W3.heap.size := by omega
  have hsl : SlF W3.heap.size W3 (.slice (some ⟨w.heap.size + 1 + 1, 0, none⟩) 2 2) [f, g] :=
    ⟨some ⟨w.heap.size + 1 + 1, 0, none⟩, 2, w.heap.size + 1 + 1, 0, rfl, by simp, .inr ⟨rfl, hz3⟩, fsAt_cons' (l3 0 _ rfl) (l3 1 _ rfl) (l3 2 _ rfl) (l3 3 _ rfl) ((HF'.out _ HBk).mono hws)
      (fsAt_cons' (l3 4 _ rfl) (l3 5 _ rfl) (l3 6 _ rfl) (l3 7 _ rfl) ((HG'.out _ HBk).mono hws) (by simp [FsAt]))⟩
  have hsm := small_c [f, g] _ _ _ hsl (Nat.le_refl _)
  clear hsl l3 hz3 hws
  refine hsm.mono ?_
  rintro e w4 ⟨rfl, hb4⟩
  have HBn := HBk.trans (hb4.mono HBk.size)
  clear HBk hb4 hsm
  by_cases hsmall : szS 0 [f, g] ≤ 500
  · rw [decide_eq_true hsmall]
    obtain ⟨⟨t0, t1, t2, t3⟩, t4, t5, t6, t7⟩ := HS.out _ HBn
    have HC := Lib.hid (compares_c f g _ _ _ _ _ _ _ _ w.heap.size _ (HF'.out _ HBn) (HG'.out _ HBn) (Nat.le_trans HP.out.size HBn.size))
    have HBH := Lib.hid HBn
    clear HBn
    go_wp2_with fail
    refine HC.out.mono ?_
    rintro e w5 ⟨rfl, hb5⟩
    have HB5 := Lib.hid (HBH.out.trans (hb5.mono HBH.out.size))
    clear hb5 t0 t1 t2 t3 t4 t5 t6 t7
    go_wp2_with fail
    refine (awake_c _ (HT.out _ HB5.out)).mono ?_
    rintro e w6 ⟨rfl, hb6⟩
    have HB6 := Lib.hid (HP.out.trans ((HB5.out.trans (hb6.mono HB5.out.size)).mono HP.out.size))
    clear hb6
    go_wp2_with fail
    go_ret
    exact ⟨rfl, HB6.out⟩
  · rw [decide_eq_false hsmall]
    have HB5 := Lib.hid HBn
    clear HBn
    go_wp2_with fail
    refine (awake_c _ (HT.out _ HB5.out)).mono ?_
    rintro e w6 ⟨rfl, hb6⟩
    have HB6 := Lib.hid (HP.out.trans ((HB5.out.trans (hb6.mono HB5.out.size)).mono HP.out.size))
    clear hb6
    go_wp2_with fail
    go_ret
    exact ⟨rfl, HB6.out⟩
end Go.Proofs.YtnadjkofjgpabaaGreatDoor.Fm
