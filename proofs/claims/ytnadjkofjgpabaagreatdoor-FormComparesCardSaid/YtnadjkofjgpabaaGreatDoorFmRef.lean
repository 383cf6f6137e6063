/-
  The reference's own comparisons: they answer as those of the program.
-/
import Derived.Test.YtnadjkofjgpabaaGreatDoorFmCmpF
import Derived.Test.YtnadjkofjgpabaaGreatDoorFmOrd
namespace Go.Proofs.YtnadjkofjgpabaaGreatDoor.Fm
open Go Go.RowKit Go.Shelf
set_option linter.unusedVariables false
set_option linter.unusedSimpArgs false
theorem cmpS_less (a b : ByteArray) : Op.bytesLess a.toList b.toList = decide (cmpS a b < 0) := by rw [less_cmpL, cmpS_L]
theorem text_c (a b : ByteArray) (w : World) : Calls Tryz.prog 41 #[.string a, .string b] w fun e w' => e = .returned (.int .i64 (cmpS a b)) ∧ w = w' := by
  have h1 := cmpS_less a b
  have h2 := cmpS_less b a
  have hn := cmpS_neg a b
  have hr : Rng (cmpS a b) := by rw [cmpS_L]; exact cmpL_rng _ _
  unfold Rng at hr
  have hz := cmpS_zero a b
  have h3 : (a.toList == b.toList) = decide (cmpS a b = 0) := by
    by_cases h : cmpS a b = 0
    · rw [decide_eq_true h]; exact beq_iff_eq.2 (hz.1 h)
    · rw [decide_eq_false h]; exact beq_eq_false_iff_ne.2 (fun e => h (hz.2 e))
  rcases (show cmpS a b = -1 ∨ cmpS a b = 0 ∨ cmpS a b = 1 by omega) with h | h | h
  all_goals
    have h' : cmpS b a = -cmpS a b := by omega
    rw [h', h] at h2
    rw [h] at h1 h3
    rw [h]
    simp only [Int.neg_neg, Int.neg_zero, Int.reduceNeg, Int.reduceLT, Int.reduceEq, decide_true, decide_false] at h1 h2 h3
    clear h h' hn hr hz
    go_enter Tryz.func41, Tryz.ntmps41
    go_wp2_with fail
    go_ret
    exact ⟨rfl, rfl⟩
set_option maxHeartbeats 1000000 in
theorem refLT_c (l m : List Tm) (va vb : Value) (dn : Nat) (w : World) (ha : SlT dn w va l) (hb : SlT dn w vb m) (hd : dn ≤ w.heap.size)
    (hc : ∀ t ∈ l, ∀ (u : Tm) (x0 x1 x2 y0 y1 y2 : Value) (W : World), TmV dn W x0 x1 x2 t → TmV dn W y0 y1 y2 u → dn ≤ W.heap.size → Calls Tryz.prog 43 #[.agg #[x0, x1, x2], .agg #[y0, y1, y2]] W fun e w' => e = .returned (.int .i64 (cmpT t u)) ∧ Below W.heap.size W w') :
    Calls Tryz.prog 42 #[va, vb] w fun e w' => e = .returned (.int .i64 (cmpTs l m)) ∧ Below w.heap.size w w' := by
  obtain ⟨⟨sa, ka, rfl⟩, hla⟩ := ha.form
  obtain ⟨⟨sb, kb, rfl⟩, hlb⟩ := hb.form
  have HE := Lib.hid (show cmpTs l m = if cmpI l.length m.length = 0 then cmpTL l m else cmpI l.length m.length from rfl)
  have HC := Lib.hid hc
  clear hc
  by_cases h0 : cmpI l.length m.length = 0
  · have HLM := Lib.hid (show l.length = m.length from Int.ofNat.inj (cmpI_zero.1 h0))
    rw [if_pos h0] at HE
    have d1 : ((l.length : Int) < (m.length : Int)) = False := by rw [HLM.out]; simp
    have d2 : ((m.length : Int) < (l.length : Int)) = False := by rw [HLM.out]; simp
    clear h0
    go_enter Tryz.func42, Tryz.ntmps42
    go_wp2_with fail
    go_loopw [5, 6] (fun i _ wr => CRelT l m w i wr) (fun i _ _ => l.length - (intOf i).toNat)
    case atStart => exact ⟨0, rfl, Nat.zero_le _, Below.refl _ _, by simp⟩
    case round =>
      obtain ⟨q, rfl, hq, hbq, hrest⟩ := hrel
      have HRE := Lib.hid hrest
      clear hrest
      by_cases hlt : q < l.length
      · have hltm : q < m.length := by have := HLM.out; omega
        obtain ⟨_, b, o, rfl, hbn, u0, u1, u2, c0, c1, c2, hu⟩ := (ha.below (hbq.mono hd) (Nat.le_refl _)).get hlt
        obtain ⟨_, b', o', rfl, hbn', v0, v1, v2, e0, e1, e2, hv⟩ := (hb.below (hbq.mono hd) (Nat.le_refl _)).get hltm
        have hdr : dn ≤ wr.heap.size := Nat.le_trans hd hbq.size
        have HST := Lib.hid (cmpTL_step hlt hltm)
        have hcc := HC.out l[q] (List.getElem_mem hlt) m[q] u0 u1 u2 v0 v1 v2
        have HU := Lib.hid hu
        have HV := Lib.hid hv
        obtain ⟨⟨au, ku, hu2⟩, _⟩ := hu.args.form
        obtain ⟨⟨av, kv, hv2⟩, _⟩ := hv.args.form
        have z0 := hu.v
        have z1 := hu.nm
        have z2 := hv.v
        have z3 := hv.nm
        subst hu2 hv2 z0 z1 z2 z3
        clear hu hv
        have HCC := Lib.hid (fun (p : InS (Below wr.heap.size wr)) => hcc p.w (HU.out.below (p.h.mono hdr) (Nat.le_refl _)) (HV.out.below (p.h.mono hdr) (Nat.le_refl _)) (Nat.le_trans hdr p.h.size))
        clear hcc
        haveI hne : Nonempty (InS (Below wr.heap.size wr)) := ⟨⟨_, Below.refl _ _⟩⟩
        have hcl : ∀ (p : InS (Below wr.heap.size wr)) (b q : Nat), b < dn → p.w.cell? ⟨b, q, none⟩ = wr.cell? ⟨b, q, none⟩ := fun p b q h => p.h.cell (p := ⟨b, q, none⟩) (show b < wr.heap.size by omega)
        have i0 := fun p => (hcl p b _ hbn).trans c0
        have j0 := fun p => (hcl p b' _ hbn').trans e0
        have i1 := fun p => (hcl p b _ hbn).trans c1
        have j1 := fun p => (hcl p b' _ hbn').trans e1
        have i2 := fun p => (hcl p b _ hbn).trans c2
        have j2 := fun p => (hcl p b' _ hbn').trans e2
        clear hcl
        cases hr : decide (cmpT l[q] m[q] = 0)
        · have hr0 : cmpT l[q] m[q] ≠ 0 := by simpa using hr
          have hrb : (cmpT l[q] m[q] == 0) = false := beq_eq_false_iff_ne.2 hr0
          have hrb2 : (cmpT l[q] m[q] != 0) = true := by simpa using hr0
          have HS2 := Lib.hid (HRE.out.symm.trans (HST.out.trans (if_neg hr0)))
          clear hr hr0
          generalize cmpT l[q] m[q] = r at *
          go_wp2_with fail
          refine wp_region_class (Below wr.heap.size wr) (by kernel_rfl) (by kernel_rfl) (Below.drew (Below.refl _ _)) ?_
          repeat (go_big_quiet_step ((exact Calls.below_of (HCC.out _))))
          refine wpQuiet_nil ?_
          intro w2 hw'
          obtain ⟨⟨w3, hS2⟩, hw''⟩ := hw'
          have hw3 : w2 = w3 := hw''
          subst hw3
          have hb2 := hbq.trans (hS2.mono hbq.size)
          clear hw'' hS2
          go_wp2_with fail
          go_ret
          exact ⟨by rw [HE.out, HS2.out]; rfl, hb2⟩
        · have hr0 : cmpT l[q] m[q] = 0 := by simpa using hr
          have HS2 := Lib.hid ((HST.out.trans (if_pos hr0)).symm.trans HRE.out)
          rw [hr0] at HCC
          clear hr hr0
          go_wp2_with fail
          refine wp_region_class (Below wr.heap.size wr) (by kernel_rfl) (by kernel_rfl) (Below.drew (Below.refl _ _)) ?_
          repeat (go_big_quiet_step ((exact Calls.below_of (HCC.out _))))
          refine wpQuiet_nil ?_
          intro w2 hw'
          obtain ⟨⟨w3, hS2⟩, hw''⟩ := hw'
          have hw3 : w2 = w3 := hw''
          subst hw3
          have hb2 := hbq.trans (hS2.mono hbq.size)
          clear hw'' hS2
          go_wp2_with fail
          exact ⟨⟨q + 1, by go_num, by omega, hb2, HS2.out⟩, by simp [intOf]; omega⟩
      · have e : q = l.length := by omega
        have HF := Lib.hid (show cmpTL l m = 0 by rw [← HRE.out, e, List.drop_length, cmpTL])
        clear e
        go_wp2_with fail
        go_ret
        exact ⟨by rw [HE.out, HF.out]; rfl, hbq⟩
  · rw [if_neg h0] at HE
    have hne : (l.length : Int) ≠ m.length := fun e => h0 (cmpI_zero.2 e)
    clear h0
    by_cases hlt : l.length < m.length
    · have HV := Lib.hid (show cmpI l.length m.length = -1 by unfold cmpI; rw [if_pos (by omega)])
      go_enter Tryz.func42, Tryz.ntmps42
      go_wp2_with fail
      go_ret
      exact ⟨by rw [HE.out, HV.out]; rfl, Below.refl _ _⟩
    · have HV := Lib.hid (show cmpI l.length m.length = 1 by unfold cmpI; rw [if_neg (by omega), if_pos (by omega)])
      have hgt : m.length < l.length := by omega
      go_enter Tryz.func42, Tryz.ntmps42
      go_wp2_with fail
      go_ret
      exact ⟨by rw [HE.out, HV.out]; rfl, Below.refl _ _⟩
end Go.Proofs.YtnadjkofjgpabaaGreatDoor.Fm
