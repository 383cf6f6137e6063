/-
  The reference's Compare, Same, SameTerm; the program's SameTerm.
-/
import Derived.Test.YtnadjkofjgpabaaGreatDoorFmRef
namespace Go.Proofs.YtnadjkofjgpabaaGreatDoor.Fm
open Go Go.RowKit Go.Shelf
set_option linter.unusedVariables false
set_option linter.unusedSimpArgs false
theorem refT_c (N : Nat) : ∀ (t : Tm), SizeOf.sizeOf t < N → ∀ (u : Tm) (x0 x1 x2 y0 y1 y2 : Value) (dn : Nat) (w : World), TmV dn w x0 x1 x2 t → TmV dn w y0 y1 y2 u → dn ≤ w.heap.size →
    Calls Tryz.prog 43 #[.agg #[x0, x1, x2], .agg #[y0, y1, y2]] w fun e w' => e = .returned (.int .i64 (cmpT t u)) ∧ Below w.heap.size w w' := by
  induction N with
  | zero => exact fun t h => absurd h (Nat.not_lt_zero _)
  | succ N ih =>
    intro t hN u x0 x1 x2 y0 y1 y2 dn w ht hu hd
    have HE := Lib.hid (cmpT_eq t u)
    have hb0 : Below w.heap.size w ((w.alloc (.cells #[x0, x1, x2] 35)).alloc (.cells #[y0, y1, y2] 35)) := ((Below.refl _ _).alloc (Nat.le_refl _) _).alloc (by simp) _
    obtain ⟨rfl, rfl, _, ha⟩ := ht
    obtain ⟨rfl, rfl, _, hb⟩ := hu
    obtain ⟨⟨sa, ka, rfl⟩, hla⟩ := ha.form
    obtain ⟨⟨sb, kb, rfl⟩, hlb⟩ := hb.form
    have HS := Lib.hid (fun w => text_c t.n u.n w)
    have HL := Lib.hid (refLT_c t.args u.args _ _ dn _ (ha.below hb0 hd) (hb.below hb0 hd) (by simp; omega) fun t' ht' u' x0 x1 x2 y0 y1 y2 W h1 h2 h3 => by
      obtain ⟨q, hq, rfl⟩ := List.getElem_of_mem ht'
      exact ih _ (by have := size_arg t q hq; omega) u' x0 x1 x2 y0 y1 y2 dn W h1 h2 h3)
    clear ha hb ih
    have hz := cmpS_zero t.n u.n
    cases hv : t.v <;> cases hv' : u.v
    all_goals rw [hv, hv'] at HE; rw [hv, hv'] at HL hb0; clear hv hv'
    · rw [if_pos rfl] at HE
      by_cases hs : cmpS t.n u.n = 0
      · rw [if_pos hs] at HE
        have hq : (t.n.toList == u.n.toList) = true := beq_iff_eq.2 (hz.1 hs)
        have hq2 : (t.n.toList != u.n.toList) = false := by rw [bne, hq]; rfl
        clear hs hz
        generalize cmpTs t.args u.args = r at *
        go_enter Tryz.func43, Tryz.ntmps43
        go_wp2_with fail
        refine HL.out.mono ?_
        rintro e w1 ⟨rfl, hb⟩
        have hb2 := hb0.trans (hb.mono (by simp; omega))
        clear hb
        go_wp2_with fail
        go_ret
        exact ⟨by rw [HE.out]; rfl, hb2⟩
      · rw [if_neg hs] at HE
        have hq : (t.n.toList == u.n.toList) = false := beq_eq_false_iff_ne.2 (fun e => hs (hz.2 e))
        have hq2 : (t.n.toList != u.n.toList) = true := by rw [bne, hq]; rfl
        clear hs hz
        generalize cmpS t.n u.n = r at *
        go_enter Tryz.func43, Tryz.ntmps43
        go_wp2_with fail
        refine (HS.out _).mono ?_
        rintro e w1 ⟨rfl, rfl⟩
        go_wp2_with fail
        go_ret
        exact ⟨by rw [HE.out]; rfl, hb0⟩
    · rw [if_neg (by decide), if_neg (by decide)] at HE
      go_enter Tryz.func43, Tryz.ntmps43
      go_wp2_with fail
      go_ret
      exact ⟨by rw [HE.out]; rfl, hb0⟩
    · rw [if_neg (by decide), if_pos rfl] at HE
      go_enter Tryz.func43, Tryz.ntmps43
      go_wp2_with fail
      go_ret
      exact ⟨by rw [HE.out]; rfl, hb0⟩
    · rw [if_pos rfl] at HE
      by_cases hs : cmpS t.n u.n = 0
      · rw [if_pos hs] at HE
        have hq : (t.n.toList == u.n.toList) = true := beq_iff_eq.2 (hz.1 hs)
        have hq2 : (t.n.toList != u.n.toList) = false := by rw [bne, hq]; rfl
        clear hs hz
        generalize cmpTs t.args u.args = r at *
        go_enter Tryz.func43, Tryz.ntmps43
        go_wp2_with fail
        refine HL.out.mono ?_
        rintro e w1 ⟨rfl, hb⟩
        have hb2 := hb0.trans (hb.mono (by simp; omega))
        clear hb
        go_wp2_with fail
        go_ret
        exact ⟨by rw [HE.out]; rfl, hb2⟩
      · rw [if_neg hs] at HE
        have hq : (t.n.toList == u.n.toList) = false := beq_eq_false_iff_ne.2 (fun e => hs (hz.2 e))
        have hq2 : (t.n.toList != u.n.toList) = true := by rw [bne, hq]; rfl
        clear hs hz
        generalize cmpS t.n u.n = r at *
        go_enter Tryz.func43, Tryz.ntmps43
        go_wp2_with fail
        refine (HS.out _).mono ?_
        rintro e w1 ⟨rfl, rfl⟩
        go_wp2_with fail
        go_ret
        exact ⟨by rw [HE.out]; rfl, hb0⟩
theorem refSameT_c (t u : Tm) (x0 x1 x2 y0 y1 y2 : Value) (dn : Nat) (w : World) (ht : TmV dn w x0 x1 x2 t) (hu : TmV dn w y0 y1 y2 u) (hd : dn ≤ w.heap.size) :
    Calls Tryz.prog 15 #[.agg #[x0, x1, x2], .agg #[y0, y1, y2]] w fun e w' => e = .returned (.bool (cmpT t u == 0)) ∧ Below w.heap.size w w' := by
  have hb0 : Below w.heap.size w ((w.alloc (.cells #[x0, x1, x2] 35)).alloc (.cells #[y0, y1, y2] 35)) := ((Below.refl _ _).alloc (Nat.le_refl _) _).alloc (by simp) _
  have HC := Lib.hid (refT_c (SizeOf.sizeOf t + 1) t (Nat.lt_succ_self _) u x0 x1 x2 y0 y1 y2 dn _ (ht.below hb0 hd) (hu.below hb0 hd) (by simp; omega))
  obtain ⟨rfl, rfl, _, hA⟩ := ht
  obtain ⟨rfl, rfl, _, hB⟩ := hu
  obtain ⟨⟨a1, k1, rfl⟩, _⟩ := hA.form
  obtain ⟨⟨a2, k2, rfl⟩, _⟩ := hB.form
  clear hA hB
  go_enter Tryz.func15, Tryz.ntmps15
  go_wp2_with fail
  refine HC.out.mono ?_
  rintro e w1 ⟨rfl, hb⟩
  have hb2 := hb0.trans (hb.mono (by simp; omega))
  clear hb
  go_wp2_with fail
  go_ret
  exact ⟨rfl, hb2⟩
theorem sameT_c (t u : Tm) (x0 x1 x2 y0 y1 y2 : Value) (dn : Nat) (w : World) (ht : TmV dn w x0 x1 x2 t) (hu : TmV dn w y0 y1 y2 u) (hd : dn ≤ w.heap.size) :
    Calls Tryz.prog 14 #[.agg #[x0, x1, x2], .agg #[y0, y1, y2]] w fun e w' => e = .returned (.bool (cmpT t u == 0)) ∧ Below w.heap.size w w' := by
  have hb0 : Below w.heap.size w ((w.alloc (.cells #[x0, x1, x2] 35)).alloc (.cells #[y0, y1, y2] 35)) := ((Below.refl _ _).alloc (Nat.le_refl _) _).alloc (by simp) _
  have HC := Lib.hid (cmpT_c (SizeOf.sizeOf t + 1) t (Nat.lt_succ_self _) u x0 x1 x2 y0 y1 y2 dn _ (ht.below hb0 hd) (hu.below hb0 hd) (by simp; omega))
  obtain ⟨rfl, rfl, _, hA⟩ := ht
  obtain ⟨rfl, rfl, _, hB⟩ := hu
  obtain ⟨⟨a1, k1, rfl⟩, _⟩ := hA.form
  obtain ⟨⟨a2, k2, rfl⟩, _⟩ := hB.form
  clear hA hB
  go_enter Tryz.func14, Tryz.ntmps14
  go_wp2_with fail
  refine HC.out.mono ?_
  rintro e w1 ⟨rfl, hb⟩
  have hb2 := hb0.trans (hb.mono (by simp; omega))
  clear hb
  go_wp2_with fail
  go_ret
  exact ⟨rfl, hb2⟩
set_option maxHeartbeats 2000000 in
theorem refF_c (N : Nat) : ∀ (t : Fo), SizeOf.sizeOf t < N → ∀ (u : Fo) (x0 x1 x2 x3 y0 y1 y2 y3 : Value) (dn : Nat) (w : World), FoV dn w x0 x1 x2 x3 t → FoV dn w y0 y1 y2 y3 u → dn ≤ w.heap.size →
    Calls Tryz.prog 11 #[.agg #[x0, x1, x2, x3], .agg #[y0, y1, y2, y3]] w fun e w' => e = .returned (.int .i64 (cmpF t u)) ∧ Below w.heap.size w w' := by
  induction N with
  | zero => exact fun t h => absurd h (Nat.not_lt_zero _)
  | succ N ih =>
    intro t hN u x0 x1 x2 x3 y0 y1 y2 y3 dn w ht hu hd
    have HE := Lib.hid (cmpF_eq t u)
    have hb0 : Below w.heap.size w ((w.alloc (.cells #[x0, x1, x2, x3] 25)).alloc (.cells #[y0, y1, y2, y3] 25)) := ((Below.refl _ _).alloc (Nat.le_refl _) _).alloc (by simp) _
    have h2 := two_boxes w #[x0, x1, x2, x3] #[y0, y1, y2, y3] 25
    obtain ⟨rfl, hop, rfl, _, ha, hs⟩ := ht
    obtain ⟨rfl, hop', rfl, _, hb, hs'⟩ := hu
    obtain ⟨⟨sa, ka, rfl⟩, hla⟩ := ha.form
    obtain ⟨⟨sb, kb, rfl⟩, hlb⟩ := hb.form
    obtain ⟨⟨sc, kc, rfl⟩, hlc⟩ := hs.form
    obtain ⟨⟨sd, kd, rfl⟩, hld⟩ := hs'.form
    have HS := Lib.hid (fun w => text_c t.n u.n w)
    have HA := Lib.hid (fun W (h : Below w.heap.size w W) => refLT_c t.args u.args _ _ dn W (ha.below h hd) (hb.below h hd) (Nat.le_trans hd h.size) fun t' ht' u' x0 x1 x2 y0 y1 y2 W h1 h2 h3 => refT_c (SizeOf.sizeOf t' + 1) t' (Nat.lt_succ_self _) u' x0 x1 x2 y0 y1 y2 dn W h1 h2 h3)
    have HF := Lib.hid (show ∀ t' ∈ t.sub, ∀ (u' : Fo) (x0 x1 x2 x3 y0 y1 y2 y3 : Value) (W : World), FoV dn W x0 x1 x2 x3 t' → FoV dn W y0 y1 y2 y3 u' → dn ≤ W.heap.size → Calls Tryz.prog 11 #[.agg #[x0, x1, x2, x3], .agg #[y0, y1, y2, y3]] W fun e w' => e = .returned (.int .i64 (cmpF t' u')) ∧ Below W.heap.size W w' from fun t' ht' u' x0 x1 x2 x3 y0 y1 y2 y3 W h1 h2 h3 => by
      obtain ⟨q, hq, rfl⟩ := List.getElem_of_mem ht'
      exact ih _ (by have := size_sub t q hq; omega) u' x0 x1 x2 x3 y0 y1 y2 y3 dn W h1 h2 h3)
    have H2 := Lib.hid h2
    have HSA := Lib.hid hs
    have HSB := Lib.hid hs'
    clear ha hb hs hs' ih h2
    have hz := cmpS_zero t.n u.n
    by_cases h1 : t.op < u.op
    · have HV := Lib.hid (show cmpI t.op u.op = -1 by unfold cmpI; rw [if_pos h1])
      rw [HV.out, if_neg (by decide)] at HE
      go_enter Tryz.func11, Tryz.ntmps11
      go_wp2_with fail
      go_ret
      exact ⟨by rw [HE.out]; rfl, hb0⟩
    by_cases h1' : u.op < t.op
    · have HV := Lib.hid (show cmpI t.op u.op = 1 by unfold cmpI; rw [if_neg h1, if_pos h1'])
      rw [HV.out, if_neg (by decide)] at HE
      go_enter Tryz.func11, Tryz.ntmps11
      go_wp2_with fail
      go_ret
      exact ⟨by rw [HE.out]; rfl, hb0⟩
    rw [if_pos (cmpI_zero.2 (show t.op = u.op by omega))] at HE
    by_cases hs : cmpS t.n u.n = 0
    rotate_left
    · rw [if_neg hs] at HE
      have hq : (t.n.toList == u.n.toList) = false := beq_eq_false_iff_ne.2 (fun e => hs (hz.2 e))
      have hq2 : (t.n.toList != u.n.toList) = true := by rw [bne, hq]; rfl
      clear hs hz
      generalize cmpS t.n u.n = r at *
      go_enter Tryz.func11, Tryz.ntmps11
      go_wp2_with fail
      refine (HS.out _).mono ?_
      rintro e w1 ⟨rfl, rfl⟩
      go_wp2_with fail
      go_ret
      exact ⟨by rw [HE.out]; rfl, hb0⟩
    rw [if_pos hs] at HE
    have hq : (t.n.toList == u.n.toList) = true := beq_iff_eq.2 (hz.1 hs)
    have hq2 : (t.n.toList != u.n.toList) = false := by rw [bne, hq]; rfl
    clear hs hz
    by_cases h3 : cmpTs t.args u.args = 0
    rotate_left
    · rw [if_neg h3] at HE
      have hb' : (cmpTs t.args u.args != 0) = true := by simpa using h3
      clear h3
      generalize cmpTs t.args u.args = r at *
      go_enter Tryz.func11, Tryz.ntmps11
      go_wp2_with fail
      refine (HA.out _ hb0).mono ?_
      rintro e w1 ⟨rfl, hb1⟩
      have hb2 := hb0.trans (hb1.mono (by simp; omega))
      clear hb1
      go_wp2_with fail
      go_ret
      exact ⟨by rw [HE.out]; rfl, hb2⟩
    rw [if_pos h3] at HE
    rw [h3] at HA
    clear h3
    have HFs := Lib.hid (show cmpFs t.sub u.sub = if cmpI t.sub.length u.sub.length = 0 then cmpFL t.sub u.sub else cmpI t.sub.length u.sub.length from rfl)
    go_enter Tryz.func11, Tryz.ntmps11
    go_wp2_with fail
    refine (HA.out _ hb0).mono ?_
    rintro e w1 ⟨rfl, hb1⟩
    have c3 := (hb1.cell (p := ⟨w.heap.size, 3, none⟩) (by simp; omega)).trans (H2.out.1 3)
    have d3 := (hb1.cell (p := ⟨w.heap.size + 1, 3, none⟩) (by simp)).trans (H2.out.2 3)
    simp only [List.getElem?_toArray, List.getElem?_cons_zero, List.getElem?_cons_succ] at c3 d3
    have hb2 := hb0.trans (hb1.mono (by simp; omega))
    have hz1 := hb1.size
    simp only [World.size_alloc] at hz1
    clear hb1 HA HS H2 hq hq2
    by_cases hlt : t.sub.length < u.sub.length
    · have HV := Lib.hid (show cmpI t.sub.length u.sub.length = -1 by unfold cmpI; rw [if_pos (by omega)])
      go_wp2_with fail
      go_ret
      exact ⟨by rw [HE.out, HFs.out, HV.out]; rfl, hb2⟩
    by_cases hgt : u.sub.length < t.sub.length
    · have HV := Lib.hid (show cmpI t.sub.length u.sub.length = 1 by unfold cmpI; rw [if_neg (by omega), if_pos (by omega)])
      go_wp2_with fail
      go_ret
      exact ⟨by rw [HE.out, HFs.out, HV.out]; rfl, hb2⟩
    have HLM := Lib.hid (show t.sub.length = u.sub.length by omega)
    have HV := Lib.hid (show cmpFs t.sub u.sub = cmpFL t.sub u.sub by rw [HFs.out, if_pos (cmpI_zero.2 (by omega))])
    go_wp2_with fail
    clear hlt hgt HFs
    go_loopw [6, 7] (fun i _ wr => CRelF t.sub u.sub w1 i wr) (fun i _ _ => t.sub.length - (intOf i).toNat)
    case atStart => exact ⟨0, rfl, Nat.zero_le _, Below.refl _ _, by simp⟩
    case round =>
      obtain ⟨q, rfl, hq, hbq, hrest⟩ := hrel
      have HRE := Lib.hid hrest
      clear hrest
      have c3q := (hbq.cell (p := ⟨w.heap.size, 3, none⟩) (show w.heap.size < w1.heap.size by omega)).trans c3
      have d3q := (hbq.cell (p := ⟨w.heap.size + 1, 3, none⟩) (show w.heap.size + 1 < w1.heap.size by omega)).trans d3
      have hbw : Below w.heap.size w wr := hb2.trans (hbq.mono hb2.size)
      have hwz := hbq.size
      by_cases hlt : q < t.sub.length
      · have hltm : q < u.sub.length := by have := HLM.out; omega
        obtain ⟨_, b, o, rfl, hbn, u0, u1, u2, u3, c0, c1, c2, c4, hu⟩ := (HSA.out.below (hbw.mono hd) (Nat.le_refl _)).get hlt
        obtain ⟨_, b', o', rfl, hbn', v0, v1, v2, v3, e0, e1, e2, e4, hv⟩ := (HSB.out.below (hbw.mono hd) (Nat.le_refl _)).get hltm
        have hdr : dn ≤ wr.heap.size := Nat.le_trans hd hbw.size
        have HST := Lib.hid (cmpFL_step hlt hltm)
        have hcc := HF.out t.sub[q] (List.getElem_mem hlt) u.sub[q] u0 u1 u2 u3 v0 v1 v2 v3
        have HU := Lib.hid hu
        have HW := Lib.hid hv
        obtain ⟨⟨au, ku, hu2⟩, _⟩ := hu.args.form
        obtain ⟨⟨av, kv, hv2⟩, _⟩ := hv.args.form
        obtain ⟨⟨au', ku', hu3⟩, _⟩ := hu.sub.form
        obtain ⟨⟨av', kv', hv3⟩, _⟩ := hv.sub.form
        have z0 := hu.op
        have z1 := hu.nm
        have z2 := hv.op
        have z3 := hv.nm
        subst hu2 hv2 hu3 hv3 z0 z1 z2 z3
        clear hu hv
        have HCC := Lib.hid (fun (p : InS (Below wr.heap.size wr)) => hcc p.w (HU.out.below (p.h.mono hdr) (Nat.le_refl _)) (HW.out.below (p.h.mono hdr) (Nat.le_refl _)) (Nat.le_trans hdr p.h.size))
        clear hcc
        haveI hne : Nonempty (InS (Below wr.heap.size wr)) := ⟨⟨_, Below.refl _ _⟩⟩
        have hcl : ∀ (p : InS (Below wr.heap.size wr)) (b q : Nat), b < wr.heap.size → p.w.cell? ⟨b, q, none⟩ = wr.cell? ⟨b, q, none⟩ := fun p b q h => p.h.cell (p := ⟨b, q, none⟩) h
        have i0 := fun p => (hcl p b _ (by omega)).trans c0
        have j0 := fun p => (hcl p b' _ (by omega)).trans e0
        have i1 := fun p => (hcl p b _ (by omega)).trans c1
        have j1 := fun p => (hcl p b' _ (by omega)).trans e1
        have i2 := fun p => (hcl p b _ (by omega)).trans c2
        have j2 := fun p => (hcl p b' _ (by omega)).trans e2
        have i3 := fun p => (hcl p b _ (by omega)).trans c4
        have j3 := fun p => (hcl p b' _ (by omega)).trans e4
        have i4 := fun p => (hcl p w.heap.size _ (by omega)).trans c3q
        have j4 := fun p => (hcl p (w.heap.size + 1) _ (by omega)).trans d3q
        clear hcl
        cases hr : decide (cmpF t.sub[q] u.sub[q] = 0)
        · have hr0 : cmpF t.sub[q] u.sub[q] ≠ 0 := by simpa using hr
          have hrb : (cmpF t.sub[q] u.sub[q] == 0) = false := beq_eq_false_iff_ne.2 hr0
          have hrb2 : (cmpF t.sub[q] u.sub[q] != 0) = true := by simpa using hr0
          have HS2 := Lib.hid (HRE.out.symm.trans (HST.out.trans (if_neg hr0)))
          clear hr hr0
          generalize cmpF t.sub[q] u.sub[q] = r at *
          go_wp2_with fail
          refine wp_region_class (Below wr.heap.size wr) (by kernel_rfl) (by kernel_rfl) (Below.drew (Below.refl _ _)) ?_
          repeat (go_big_quiet_step ((exact Calls.below_of (HCC.out _))))
          refine wpQuiet_nil ?_
          intro w2 hw'
          obtain ⟨⟨w3, hS2⟩, hw''⟩ := hw'
          have hw3 : w2 = w3 := hw''
          subst hw3
          have hb3 := hbw.trans (hS2.mono hbw.size)
          clear hw'' hS2
          go_wp2_with fail
          go_ret
          exact ⟨by rw [HE.out, HV.out, HS2.out]; rfl, hb3⟩
        · have hr0 : cmpF t.sub[q] u.sub[q] = 0 := by simpa using hr
          have HS2 := Lib.hid ((HST.out.trans (if_pos hr0)).symm.trans HRE.out)
          rw [hr0] at HCC
          clear hr hr0
          go_wp2_with fail
          refine wp_region_class (Below wr.heap.size wr) (by kernel_rfl) (by kernel_rfl) (Below.drew (Below.refl _ _)) ?_
          repeat (go_big_quiet_step ((exact Calls.below_of (HCC.out _))))
          refine wpQuiet_nil ?_
          intro w2 hw'
          obtain ⟨⟨w3, hS2⟩, hw''⟩ := hw'
          have hw3 : w2 = w3 := hw''
          subst hw3
          have hb3 := hbq.trans (hS2.mono hbq.size)
          clear hw'' hS2
          go_wp2_with fail
          exact ⟨⟨q + 1, by go_num, by omega, hb3, HS2.out⟩, by simp [intOf]; omega⟩
      · have e : q = t.sub.length := by omega
        have HF0 := Lib.hid (show cmpFL t.sub u.sub = 0 by rw [← HRE.out, e, List.drop_length, cmpFL])
        clear e
        go_wp2_with fail
        go_ret
        exact ⟨by rw [HE.out, HV.out, HF0.out]; rfl, hbw⟩
theorem refSameF_c (t u : Fo) (x0 x1 x2 x3 y0 y1 y2 y3 : Value) (dn : Nat) (w : World) (ht : FoV dn w x0 x1 x2 x3 t) (hu : FoV dn w y0 y1 y2 y3 u) (hd : dn ≤ w.heap.size) :
    Calls Tryz.prog 13 #[.agg #[x0, x1, x2, x3], .agg #[y0, y1, y2, y3]] w fun e w' => e = .returned (.bool (cmpF t u == 0)) ∧ Below w.heap.size w w' := by
  have hb0 : Below w.heap.size w ((w.alloc (.cells #[x0, x1, x2, x3] 25)).alloc (.cells #[y0, y1, y2, y3] 25)) := ((Below.refl _ _).alloc (Nat.le_refl _) _).alloc (by simp) _
  have HC := Lib.hid (refF_c (SizeOf.sizeOf t + 1) t (Nat.lt_succ_self _) u x0 x1 x2 x3 y0 y1 y2 y3 dn _ (ht.below hb0 hd) (hu.below hb0 hd) (by simp; omega))
  obtain ⟨rfl, _, rfl, _, hA, hA'⟩ := ht
  obtain ⟨rfl, _, rfl, _, hB, hB'⟩ := hu
  obtain ⟨⟨a1, k1, rfl⟩, _⟩ := hA.form
  obtain ⟨⟨a2, k2, rfl⟩, _⟩ := hB.form
  obtain ⟨⟨a3, k3, rfl⟩, _⟩ := hA'.form
  obtain ⟨⟨a4, k4, rfl⟩, _⟩ := hB'.form
  clear hA hB hA' hB'
  go_enter Tryz.func13, Tryz.ntmps13
  go_wp2_with fail
  refine HC.out.mono ?_
  rintro e w1 ⟨rfl, hb⟩
  have hb2 := hb0.trans (hb.mono (by simp; omega))
  clear hb
  go_wp2_with fail
  go_ret
  exact ⟨rfl, hb2⟩
end Go.Proofs.YtnadjkofjgpabaaGreatDoor.Fm
