/-
  The contract of With.
-/
import Derived.Test.YtnadjkofjgpabaaDoorFmNodeW
import Derived.Test.YtnadjkofjgpabaaDoorFmOwnF
namespace Go.Proofs.YtnadjkofjgpabaaDoor.Fm
open Go Go.RowKit Go.Shelf
set_option linter.unusedVariables false
set_option linter.unusedSimpArgs false
theorem set4_at (W : World) (b o : Nat) (x y z u : Value) (hs : ∀ j, o ≤ j → j < o + 4 → (W.cell? ⟨b, j, none⟩).isSome = true) :
    ((((W.setCell ⟨b, o, none⟩ x).setCell ⟨b, o + 1, none⟩ y).setCell ⟨b, o + 2, none⟩ z).setCell ⟨b, o + 3, none⟩ u).cell? ⟨b, o, none⟩ = some x ∧
    ((((W.setCell ⟨b, o, none⟩ x).setCell ⟨b, o + 1, none⟩ y).setCell ⟨b, o + 2, none⟩ z).setCell ⟨b, o + 3, none⟩ u).cell? ⟨b, o + 1, none⟩ = some y ∧
    ((((W.setCell ⟨b, o, none⟩ x).setCell ⟨b, o + 1, none⟩ y).setCell ⟨b, o + 2, none⟩ z).setCell ⟨b, o + 3, none⟩ u).cell? ⟨b, o + 2, none⟩ = some z ∧
    ((((W.setCell ⟨b, o, none⟩ x).setCell ⟨b, o + 1, none⟩ y).setCell ⟨b, o + 2, none⟩ z).setCell ⟨b, o + 3, none⟩ u).cell? ⟨b, o + 3, none⟩ = some u ∧
    (∀ c j, (c ≠ b ∨ j < o ∨ o + 4 ≤ j) → SameAt W ((((W.setCell ⟨b, o, none⟩ x).setCell ⟨b, o + 1, none⟩ y).setCell ⟨b, o + 2, none⟩ z).setCell ⟨b, o + 3, none⟩ u) c j) := by
  refine ⟨?_, ?_, ?_, ?_, ?_⟩
  · rw [cell_set_other _ _ _ _ _ (by omega), cell_set_other _ _ _ _ _ (by omega), cell_set_other _ _ _ _ _ (by omega), World.cell?_setCell_same' _ _ _ (hs o (by omega) (by omega))]
  · rw [cell_set_other _ _ _ _ _ (by omega), cell_set_other _ _ _ _ _ (by omega), World.cell?_setCell_same' _ _ _ (by rw [cell_set_other _ _ _ _ _ (by omega)]; exact hs _ (by omega) (by omega))]
  · rw [cell_set_other _ _ _ _ _ (by omega), World.cell?_setCell_same' _ _ _ (by rw [cell_set_other _ _ _ _ _ (by omega), cell_set_other _ _ _ _ _ (by omega)]; exact hs _ (by omega) (by omega))]
  · rw [World.cell?_setCell_same' _ _ _ (by rw [cell_set_other _ _ _ _ _ (by omega), cell_set_other _ _ _ _ _ (by omega), cell_set_other _ _ _ _ _ (by omega)]; exact hs _ (by omega) (by omega))]
  · intro c j h
    by_cases hc : c = b
    · subst hc
      exact (((sameAt_set' (by omega)).trans (sameAt_set' (by omega))).trans (sameAt_set' (by omega))).trans (sameAt_set' (by omega))
    · exact (((sameAt_set hc j).trans (sameAt_set hc j)).trans (sameAt_set hc j)).trans (sameAt_set hc j)
def WRel (W1 : World) (B Z : Nat) (f : Fo) (is : List Int) (at_ i : Value) (wr : World) : Prop := ∃ (q : Nat) (g : Fo) (b o lo m hi : Nat) (va vs : Value) (F : Fo → Fo),
  at_ = .pointer (some ⟨b, o, none⟩) ∧ i = .int .i64 (q : Int) ∧ q ≤ is.length ∧ NodeW W1 B (Z + 1) Z f is q g b o lo m hi va vs F ∧ Below (Z + 1) W1 wr
set_option maxHeartbeats 2000000 in
set_option maxRecDepth 20000 in
theorem with_c (f p : Fo) (x0 x1 x2 x3 y0 y1 y2 y3 va : Value) (is : List Int) (w : World) (dn : Nat) (hf : FoV dn w x0 x1 x2 x3 f) (hp : FoV dn w y0 y1 y2 y3 p) (hpl : PlV dn w va is) (hd : dn ≤ w.heap.size) :
    Calls Tryd.prog 14 #[.agg #[x0, x1, x2, x3], va, .agg #[y0, y1, y2, y3]] w (AtP ((atF f is).map fun _ => withF f is p) w) := by
  obtain ⟨r, hr⟩ : ∃ r, atF f is = r := ⟨_, rfl⟩
  rw [hr]
  have HR := Lib.hid hr
  have HP := Lib.hid hp
  have HF := Lib.hid hf
  obtain ⟨rfl, _, rfl, _, hA, hS⟩ := hf
  obtain ⟨⟨a1, k1, rfl⟩, _⟩ := hA.form
  obtain ⟨⟨a2, k2, rfl⟩, _⟩ := hS.form
  clear hA hS
  obtain ⟨rfl, _, rfl, _, hA, hS⟩ := hp
  obtain ⟨⟨a3, k3, rfl⟩, _⟩ := hA.form
  obtain ⟨⟨a4, k4, rfl⟩, _⟩ := hS.form
  clear hA hS
  have HPL := Lib.hid hpl
  obtain ⟨sp, kp, pb, po, rfl, hpl, hp3, hp4⟩ := hpl
  have HP3 := Lib.hid hp3
  have HP4 := Lib.hid hp4
  clear hr hp3 hp4
  go_enter Tryd.func14, Tryd.ntmps14
  go_wp2_with fail
  have hbp : Below w.heap.size w (((w.alloc (.cells #[.int .u8 f.op, .string f.n, .slice a1 f.args.length k1, .slice a2 f.sub.length k2] 25)).alloc (.cells #[.int .u8 p.op, .string p.n, .slice a3 p.args.length k3, .slice a4 p.sub.length k4] 25)).alloc (.cells #[.int .u8 0, .string ⟨#[]⟩, .slice none 0 0, .slice none 0 0] 25)) := (((Below.refl _ w).alloc (Nat.le_refl _) _).alloc (by simp) _).alloc (by simp; omega) _
  obtain ⟨_, l2, _, _⟩ := two_boxesT w #[.int .u8 f.op, .string f.n, .slice a1 f.args.length k1, .slice a2 f.sub.length k2] #[.int .u8 p.op, .string p.n, .slice a3 p.args.length k3, .slice a4 p.sub.length k4] 25
  obtain ⟨_, l3, _, z3⟩ := two_boxesT (w.alloc (.cells #[.int .u8 f.op, .string f.n, .slice a1 f.args.length k1, .slice a2 f.sub.length k2] 25)) #[.int .u8 p.op, .string p.n, .slice a3 p.args.length k3, .slice a4 p.sub.length k4] #[.int .u8 0, .string ⟨#[]⟩, .slice none 0 0, .slice none 0 0] 25
  have hb6 : Below (w.heap.size + 2) ((w.alloc (.cells #[.int .u8 f.op, .string f.n, .slice a1 f.args.length k1, .slice a2 f.sub.length k2] 25)).alloc (.cells #[.int .u8 p.op, .string p.n, .slice a3 p.args.length k3, .slice a4 p.sub.length k4] 25)) (((w.alloc (.cells #[.int .u8 f.op, .string f.n, .slice a1 f.args.length k1, .slice a2 f.sub.length k2] 25)).alloc (.cells #[.int .u8 p.op, .string p.n, .slice a3 p.args.length k3, .slice a4 p.sub.length k4] 25)).alloc (.cells #[.int .u8 0, .string ⟨#[]⟩, .slice none 0 0, .slice none 0 0] 25)) := (Below.refl _ _).alloc (by simp) _
  have l2' : ∀ q, (((w.alloc (.cells #[.int .u8 f.op, .string f.n, .slice a1 f.args.length k1, .slice a2 f.sub.length k2] 25)).alloc (.cells #[.int .u8 p.op, .string p.n, .slice a3 p.args.length k3, .slice a4 p.sub.length k4] 25)).alloc (.cells #[.int .u8 0, .string ⟨#[]⟩, .slice none 0 0, .slice none 0 0] 25)).cell? ⟨w.heap.size + 1, q, none⟩ = (#[.int .u8 p.op, .string p.n, .slice a3 p.args.length k3, .slice a4 p.sub.length k4] : Array Value)[q]? := fun q => (hb6.cell (p := ⟨w.heap.size + 1, q, none⟩) (Nat.lt_succ_self _)).trans (l2 q)
  rw [World.size_alloc] at l3 z3
  have hWe : (((w.alloc (.cells #[.int .u8 f.op, .string f.n, .slice a1 f.args.length k1, .slice a2 f.sub.length k2] 25)).alloc (.cells #[.int .u8 p.op, .string p.n, .slice a3 p.args.length k3, .slice a4 p.sub.length k4] 25)).alloc (.cells #[.int .u8 0, .string ⟨#[]⟩, .slice none 0 0, .slice none 0 0] 25)).heap.size = w.heap.size + 3 := by simp
  clear l2 hb6
  generalize (((w.alloc (.cells #[.int .u8 f.op, .string f.n, .slice a1 f.args.length k1, .slice a2 f.sub.length k2] 25)).alloc (.cells #[.int .u8 p.op, .string p.n, .slice a3 p.args.length k3, .slice a4 p.sub.length k4] 25)).alloc (.cells #[.int .u8 0, .string ⟨#[]⟩, .slice none 0 0, .slice none 0 0] 25)) = W at *
  have HB5 := Lib.hid (fun W' (h : Below W.heap.size W W') => show RegC (w.heap.size + 1) (.int .u8 p.op) (.string p.n) (.slice a3 p.args.length k3) (.slice a4 p.sub.length k4) W' from RegC.below ⟨l2' 0, l2' 1, l2' 2, l2' 3⟩ h (by omega))
  have HB6 := Lib.hid (fun W' (h : Below W.heap.size W W') => show RegC (w.heap.size + 1 + 1) (.int .u8 0) (.string ⟨#[]⟩) (.slice none 0 0) (.slice none 0 0) W' ∧ (∀ j, W'.frozen? ⟨w.heap.size + 1 + 1, j, none⟩ = false) from ⟨RegC.below ⟨l3 0, l3 1, l3 2, l3 3⟩ h (by omega), fun j => (h.frozen (p := ⟨w.heap.size + 1 + 1, j, none⟩) (show w.heap.size + 1 + 1 < W.heap.size by omega)).trans (z3 j)⟩)
  have HBP := Lib.hid hbp
  have hcop := Lib.hid (copyI_c (SizeOf.sizeOf f + 1) f (Nat.lt_succ_self _) _ _ _ _ dn W (HF.out.below hbp hd) (by omega))
  have HWE := Lib.hid hWe
  clear l2' l3 z3 hbp hWe
  refine hcop.out.mono ?_
  rintro e w1 ⟨a5, k5, a6, k6, m, rfl, htd, hfd, hm1, hm2, hb1⟩
  have HTD := Lib.hid htd
  have HFD := Lib.hid hfd
  clear hcop htd hfd
  go_wp2_with fail
  have hw1 := hb1.size
  have hZ : (w1.alloc (.cells #[.int .u8 f.op, .string f.n, .slice a5 f.args.length k5, .slice a6 f.sub.length k6] 25)).heap.size = w1.heap.size + 1 := by simp
  have hb8 : Below w1.heap.size w1 (w1.alloc (.cells #[.int .u8 f.op, .string f.n, .slice a5 f.args.length k5, .slice a6 f.sub.length k6] 25)) := (Below.refl _ _).alloc (Nat.le_refl _) _
  have l8 : ∀ q, (w1.alloc (.cells #[.int .u8 f.op, .string f.n, .slice a5 f.args.length k5, .slice a6 f.sub.length k6] 25)).cell? ⟨w1.heap.size, q, none⟩ = (#[.int .u8 f.op, .string f.n, .slice a5 f.args.length k5, .slice a6 f.sub.length k6] : Array Value)[q]? := fun q => by rw [World.cell?_alloc_at _ _ _ _ rfl]
  have z8 : ∀ q, (w1.alloc (.cells #[.int .u8 f.op, .string f.n, .slice a5 f.args.length k5, .slice a6 f.sub.length k6] 25)).frozen? ⟨w1.heap.size, q, none⟩ = false := fun q => by rw [World.frozen?_alloc_at _ _ _ _ rfl]
  generalize (w1.alloc (.cells #[.int .u8 f.op, .string f.n, .slice a5 f.args.length k5, .slice a6 f.sub.length k6] 25)) = W1 at *
  have hW1 : w.heap.size ≤ W.heap.size := HBP.out.size
  have hnode : NodeW W1 W.heap.size (w1.heap.size + 1) w1.heap.size f is 0 f w1.heap.size 0 W.heap.size m w1.heap.size (.slice a5 f.args.length k5) (.slice a6 f.sub.length k6) id :=
    ⟨⟨l8 0, HF.out.bd, l8 1, HF.out.ok, l8 2, l8 3, fun j _ _ => z8 j, HTD.out.keep (fun x hx j => hb8.cell (p := ⟨x, j, none⟩) (show x < w1.heap.size by omega)) (fun x hx => hx), HFD.out.keep (fun x h1 h2 j => same_below hb8 h2 j) (Nat.le_refl _), hm1, hm2⟩,
      .inr (Nat.le_refl _), by omega, by omega, Nat.le_refl _, by omega, fun w' t D va' vs' _ _ h => ⟨va', vs', h⟩, by rw [List.drop_zero], fun p => by rw [List.drop_zero]; rfl⟩
  have hbW1 := hb1.trans (hb8.mono hw1)
  have HBW1 := Lib.hid hbW1
  have HNODE := Lib.hid hnode
  have HZ := Lib.hid hZ
  clear hZ hb8 l8 z8 hb1 hnode hbW1 HTD HFD
  obtain ⟨Z, hZ⟩ : ∃ Z, Z = w1.heap.size := ⟨_, rfl⟩
  rw [← hZ] at HNODE HZ hw1 hm2 ⊢
  clear hZ
  have hZs : w.heap.size + 3 ≤ Z := by have := HWE.out; omega
  go_loopw [9, 11, 16] (fun at_ _ i wr => WRel W1 W.heap.size Z f is at_ i wr) (fun _ _ i _ => is.length - (intOf i).toNat)
  case atStart => exact ⟨0, f, _, _, _, _, _, _, _, _, rfl, rfl, Nat.zero_le _, HNODE.out, Below.refl _ _⟩
  case round =>
    clear HNODE
    obtain ⟨q, g, b, o, lo, m', hi, vb, vs, F, rfl, rfl, hq, hN, hbq⟩ := hrel
    have HN := Lib.hid hN
    have hbr := HBW1.out.trans (hbq.mono (by have := HWE.out; omega))
    have hbr2 := HBP.out.trans (hbr.mono hW1)
    have hzr := hbq.size
    rw [HZ.out] at hzr
    have HBR := Lib.hid hbr
    have HBR2 := Lib.hid hbr2
    obtain ⟨c0, c1, c2, c3⟩ := HB5.out wr hbr
    obtain ⟨⟨d0, d1, d2, d3⟩, dz⟩ := HB6.out wr hbr
    have hub := hN.ub
    have huu := hN.uu
    have hlb := hN.lb
    have hSB : ∀ x, x < Z + 1 → ∀ j, SameAt W1 wr x j := fun x hx j => same_below hbq hx j
    have n0 := (hSB b hub o).1.trans hN.i.c0
    have n1 := (hSB b hub (o + 1)).1.trans hN.i.c1
    have n2 := (hSB b hub (o + 2)).1.trans hN.i.c2
    have n3 := (hSB b hub (o + 3)).1.trans hN.i.c3
    have HSB := Lib.hid hSB
    have hGV : FoV wr.heap.size wr (.int .u8 g.op) (.string g.n) vb vs g := ⟨rfl, hN.i.bd, rfl, hN.i.ok, (hN.i.args.keep (D' := fun x => x < wr.heap.size) (fun x hx j => (hSB x (by have := hN.i.e2; omega) j).1) (fun x hx => by have := hN.i.e2; omega)).slT (fun _ h => h), (hN.i.sub.slFD.keep (D' := fun x => x < wr.heap.size) (fun x hx j => (hSB x (by omega) j).1) (fun x hx => by omega)).slF (fun _ h => h)⟩
    have HGV := Lib.hid hGV
    obtain ⟨⟨ga, gk, hvb⟩, _⟩ := hGV.args.form
    obtain ⟨⟨gb, gj, hvs⟩, _⟩ := hGV.sub.form
    subst hvb hvs
    clear hN hGV hSB hbr hbr2
    by_cases hlt : q < is.length
    · obtain ⟨rfl, hpb⟩ := HP3.out.resolve_left (by rintro rfl; simp at hlt)
      have hpc := HP4.out q hlt
      rw [← HBR2.out.cell (p := ⟨pb, po + q, none⟩) (show pb < w.heap.size by omega)] at hpc
      have HD := Lib.hid (List.drop_eq_getElem_cons hlt)
      obtain ⟨i, hi'⟩ : ∃ i, is[q] = i := ⟨_, rfl⟩
      have HI := Lib.hid hi'
      rw [hi'] at hpc HD
      clear hi'
      have hh := has_c _ _ _ _ g i _ wr HGV.out
      by_cases hin : 0 ≤ i ∧ i < (g.sub.length : Int)
      · obtain ⟨k, rfl⟩ := Int.eq_ofNat_of_zero_le hin.1
        have hk : k < g.sub.length := by omega
        rw [decide_eq_true hin.1, decide_eq_true hin.2, Bool.true_and] at hh
        have HH := Lib.hid hh
        have hkI : (k : Int) < (g.sub.length : Int) := hin.2
        obtain ⟨R, cap, hvs, hRN, hnx⟩ := HN.out.step hlt HI.out hk
        have hgb : gb = some ⟨R, 0, none⟩ := by injection hvs
        subst hgb
        have HNX := Lib.hid hnx
        clear hh hin hnx hvs
        go_wp2_with fail
        refine HH.out.mono ?_
        rintro e w2 ⟨rfl, hb2⟩
        have e3 := (hb2.cell (p := ⟨b, o + 3, none⟩) (show b < wr.heap.size by omega)).trans n3
        have HB2 := Lib.hid (hbq.trans (hb2.mono (by have := HZ.out; omega)))
        clear hb2 n0 n1 n2 n3 c0 c1 c2 c3 d0 d1 d2 d3 dz hpc
        go_wp2_with fail
        obtain ⟨lo2, m2, h2, va2, vs2, hN2⟩ := HNX.out
        exact ⟨⟨q + 1, g.sub[k], R, k * 4, lo2, m2, h2, va2, vs2, _, by simp, by go_num, by omega, hN2, HB2.out⟩, by simp [intOf]; omega⟩
      · have hrn : r = none := by
          rw [← HR.out, ← HN.out.hat, HD.out, atF]
          by_cases h0 : 0 ≤ i
          · rw [if_pos h0, List.getElem?_eq_none (by omega)]
          · rw [if_neg h0]
        subst hrn
        have hbf : (decide (0 ≤ i) && decide (i < (g.sub.length : Int))) = false := by
          cases h : (decide (0 ≤ i) && decide (i < (g.sub.length : Int)))
          · rfl
          · rw [Bool.and_eq_true] at h
            exact absurd ⟨of_decide_eq_true h.1, of_decide_eq_true h.2⟩ hin
        rw [hbf] at hh
        have HH := Lib.hid hh
        clear hh hin hbf
        go_wp2_with fail
        refine HH.out.mono ?_
        rintro e w2 ⟨rfl, hb2⟩
        have HB2 := Lib.hid (HBR2.out.trans (hb2.mono HBR2.out.size))
        obtain ⟨⟨g0, g1, g2, g3⟩, gz⟩ := HB6.out w2 (HBR.out.trans (hb2.mono HBR.out.size))
        have fr0 := gz 0
        have fr1 := gz 1
        have fr2 := gz 2
        have fr3 := gz 3
        have hzz : w.heap.size + 1 + 1 < w2.heap.size := by have := HB2.out.size; have := hb2.size; omega
        clear hb2 n0 n1 n2 n3 c0 c1 c2 c3 d0 d1 d2 d3 dz hpc gz
        go_wp2_with fail
        refine bodyPost_ret (v := .tuple #[.agg #[.int .u8 0, .string ByteArray.empty, .slice none 0 0, .slice none 0 0], .int .i64 6]) (by simp [results, Tryd.results14, go_sem, g0, g1, g2, g3]; rfl) rfl ?_
        exact ⟨rfl, (((HB2.out.setCell (p := ⟨w.heap.size + 1 + 1, 0, none⟩) (by show w.heap.size ≤ w.heap.size + 1 + 1; omega) _).setCell (p := ⟨w.heap.size + 1 + 1, 1, none⟩) (by show w.heap.size ≤ w.heap.size + 1 + 1; omega) _).setCell (p := ⟨w.heap.size + 1 + 1, 2, none⟩) (by show w.heap.size ≤ w.heap.size + 1 + 1; omega) _).setCell (p := ⟨w.heap.size + 1 + 1, 3, none⟩) (by show w.heap.size ≤ w.heap.size + 1 + 1; omega) _⟩
    · have e : q = is.length := by omega
      have hd0 : is.drop q = [] := by rw [e, List.drop_length]
      have hrs : r = some g := by rw [← HR.out, ← HN.out.hat, hd0]; rfl
      subst hrs
      have HFp := Lib.hid (show F p = withF f is p by rw [← HN.out.hw p, hd0]; rfl)
      have HC := Lib.hid (copyF_c (SizeOf.sizeOf p + 1) p (Nat.lt_succ_self _) _ _ _ _ dn wr (HP.out.below (HBR2.out.mono hd) (Nat.le_refl _)) (Nat.le_trans hd HBR2.out.size))
      clear e hd0
      go_wp2_with fail
      refine HC.out.mono ?_
      rintro e w2 ⟨a7, k7, a8, k8, rfl, htd, hfd, hb2⟩
      have hz2 := hb2.size
      have HZR := Lib.hid hzr
      have hbne : b ≠ w.heap.size + 1 + 1 := by have := HWE.out; omega
      have m0 := (hb2.cell (p := ⟨b, o, none⟩) (show b < wr.heap.size by omega)).trans n0
      have m1 := (hb2.cell (p := ⟨b, o + 1, none⟩) (show b < wr.heap.size by omega)).trans n1
      have m2 := (hb2.cell (p := ⟨b, o + 2, none⟩) (show b < wr.heap.size by omega)).trans n2
      have m3 := (hb2.cell (p := ⟨b, o + 3, none⟩) (show b < wr.heap.size by omega)).trans n3
      have fN : ∀ j, o ≤ j → j < o + 4 → w2.frozen? ⟨b, j, none⟩ = false := fun j h1 h2 => (hb2.frozen (p := ⟨b, j, none⟩) (show b < wr.heap.size by omega)).trans ((HSB.out b hub j).2.trans (HN.out.i.fz j h1 h2))
      have f0 := fN o (by omega) (by omega)
      have f1 := fN (o + 1) (by omega) (by omega)
      have f2 := fN (o + 2) (by omega) (by omega)
      have f3 := fN (o + 3) (by omega) (by omega)
      have hs4 := set4_at w2 b o (.int .u8 p.op) (.string p.n) (.slice a7 p.args.length k7) (.slice a8 p.sub.length k8) (fun j h1 h2 => by
        rcases (show j = o ∨ j = o + 1 ∨ j = o + 2 ∨ j = o + 3 by omega) with rfl | rfl | rfl | rfl
        · rw [m0]; rfl
        · rw [m1]; rfl
        · rw [m2]; rfl
        · rw [m3]; rfl)
      obtain ⟨s0, s1, s2, s3, sE⟩ := hs4
      have hA : FoAt (fun x => W.heap.size ≤ x ∧ x < w2.heap.size) ((((w2.setCell ⟨b, o, none⟩ (.int .u8 p.op)).setCell ⟨b, o + 1, none⟩ (.string p.n)).setCell ⟨b, o + 2, none⟩ (.slice a7 p.args.length k7)).setCell ⟨b, o + 3, none⟩ (.slice a8 p.sub.length k8)) b o p (.slice a7 p.args.length k7) (.slice a8 p.sub.length k8) :=
        ⟨s0, HP.out.bd, s1, HP.out.ok, s2, s3, htd.keep (fun x hx j => (sE x j (.inl (by have := hx.1; omega))).1) (fun x hx => ⟨by have := hx.1; omega, hx.2⟩), hfd.keep (fun x hx j => (sE x j (.inl (by have := hx.1; omega))).1) (fun x hx => ⟨by have := hx.1; omega, hx.2⟩)⟩
      obtain ⟨vz, vt, hZ0⟩ := HN.out.hole ((((w2.setCell ⟨b, o, none⟩ (.int .u8 p.op)).setCell ⟨b, o + 1, none⟩ (.string p.n)).setCell ⟨b, o + 2, none⟩ (.slice a7 p.args.length k7)).setCell ⟨b, o + 3, none⟩ (.slice a8 p.sub.length k8)) p (fun x => W.heap.size ≤ x ∧ x < w2.heap.size) _ _ (fun x h1 h2 => ⟨h1, by omega⟩)
        (fun x h1 h2 j h3 h4 => ((sE x j h4).1.trans (hb2.cell (p := ⟨x, j, none⟩) (show x < wr.heap.size by omega))).trans (HSB.out x h2 j).1) hA
      rw [HFp.out] at hZ0
      generalize hwt : withF f is p = t at *
      have HWT := Lib.hid hwt
      clear hwt
      have HZ0 := Lib.hid hZ0
      obtain ⟨e0, _, e1, _, e2, e3, ⟨a9, k9, _, _, rfl, _⟩, a10, k10, _, _, rfl, _⟩ := hZ0
      rw [Nat.zero_add] at e1 e2 e3
      obtain ⟨⟨g0, g1, g2, g3⟩, gz⟩ := HB6.out w2 (HBR.out.trans (hb2.mono HBR.out.size))
      have u0 := (sE (w.heap.size + 1 + 1) 0 (.inl hbne.symm)).1.trans g0
      have u1 := (sE (w.heap.size + 1 + 1) 1 (.inl hbne.symm)).1.trans g1
      have u2 := (sE (w.heap.size + 1 + 1) 2 (.inl hbne.symm)).1.trans g2
      have u3 := (sE (w.heap.size + 1 + 1) 3 (.inl hbne.symm)).1.trans g3
      have fr0 := gz 0
      have fr1 := gz 1
      have fr2 := gz 2
      have fr3 := gz 3
      have hzb : b < w2.heap.size := by omega
      have hzz : w.heap.size + 1 + 1 < w2.heap.size := by have := HBR2.out.size; omega
      have hzZ : Z < w2.heap.size := by omega
      have HB2 := Lib.hid ((((HBR2.out.trans (hb2.mono HBR2.out.size)).setCell (p := ⟨b, o, none⟩) (show w.heap.size ≤ b by omega) (.int .u8 p.op)).setCell (p := ⟨b, o + 1, none⟩) (show w.heap.size ≤ b by omega) (.string p.n)).setCell (p := ⟨b, o + 2, none⟩) (show w.heap.size ≤ b by omega) (.slice a7 p.args.length k7) |>.setCell (p := ⟨b, o + 3, none⟩) (show w.heap.size ≤ b by omega) (.slice a8 p.sub.length k8))
      clear sE s0 s1 s2 s3 fN gz g0 g1 g2 g3 n0 n1 n2 n3 c0 c1 c2 c3 d0 d1 d2 d3 dz htd hfd hb2 hA
      go_wp2_with fail
      refine bodyPost_ret (v := .tuple #[.agg #[.int .u8 t.op, .string t.n, .slice a9 t.args.length k9, .slice a10 t.sub.length k10], .int .i64 0]) (by simp [results, Tryd.results14, go_sem, u0, u1, u2, u3]) rfl ?_
      show AtP (some (withF f is p)) w _ _
      rw [HWT.out]
      have hkeep : ∀ x, x ≠ w.heap.size + 1 + 1 → ∀ j, (((((((w2.setCell ⟨b, o, none⟩ (.int .u8 p.op)).setCell ⟨b, o + 1, none⟩ (.string p.n)).setCell ⟨b, o + 2, none⟩ (.slice a7 p.args.length k7)).setCell ⟨b, o + 3, none⟩ (.slice a8 p.sub.length k8)).setCell ⟨w.heap.size + 1 + 1, 0, none⟩ (.int .u8 t.op)).setCell ⟨w.heap.size + 1 + 1, 1, none⟩ (.string t.n)).setCell ⟨w.heap.size + 1 + 1, 2, none⟩ (.slice a9 t.args.length k9) |>.setCell ⟨w.heap.size + 1 + 1, 3, none⟩ (.slice a10 t.sub.length k10)).cell? ⟨x, j, none⟩ = ((((w2.setCell ⟨b, o, none⟩ (.int .u8 p.op)).setCell ⟨b, o + 1, none⟩ (.string p.n)).setCell ⟨b, o + 2, none⟩ (.slice a7 p.args.length k7)).setCell ⟨b, o + 3, none⟩ (.slice a8 p.sub.length k8)).cell? ⟨x, j, none⟩ := fun x hx j =>
        ((((sameAt_set hx j).trans (sameAt_set hx j)).trans (sameAt_set hx j)).trans (sameAt_set hx j)).1
      have hws := HWE.out
      refine ⟨a9, k9, a10, k10, rfl, HZ0.out.args.keep (fun x hx j => hkeep x (by omega) j) (fun x hx => ⟨by omega, ?_⟩), HZ0.out.sub.keep (fun x hx j => hkeep x (by omega) j) (fun x hx => ⟨by omega, ?_⟩),
        (((HB2.out.setCell (p := ⟨w.heap.size + 1 + 1, 0, none⟩) (by show w.heap.size ≤ w.heap.size + 1 + 1; omega) _).setCell (p := ⟨w.heap.size + 1 + 1, 1, none⟩) (by show w.heap.size ≤ w.heap.size + 1 + 1; omega) _).setCell (p := ⟨w.heap.size + 1 + 1, 2, none⟩) (by show w.heap.size ≤ w.heap.size + 1 + 1; omega) _).setCell (p := ⟨w.heap.size + 1 + 1, 3, none⟩) (by show w.heap.size ≤ w.heap.size + 1 + 1; omega) _⟩
      · have := hx.2
        simp
        omega
      · have := hx.2
        simp
        omega
end Go.Proofs.YtnadjkofjgpabaaDoor.Fm
