/-
  Several texts in one: FmEq, FmMono, PsMeans, PsRK, PsEx.
-/
import Derived.Test.YtkeckecdhcknhaaDoorFmClass
import Derived.Test.YtkeckecdhcknhaaDoorFmData
import Derived.Test.YtkeckecdhcknhaaDoorMgApi
import Derived.Test.YtkeckecdhcknhaaDoorFmRight

/-
  The contracts of the statements' own SameTerms, SameForms and Same.
-/
namespace Go.Proofs.YtkeckecdhcknhaaDoor.Fm
open Go Go.RowKit Go.Shelf
set_option linter.unusedVariables false
set_option linter.unusedSimpArgs false
mutual
def eqT : Tm → Tm → Bool
  | .mk v n l, .mk v' n' l' => (v == v') && (n.toList == n'.toList) && (decide (l.length = l'.length) && eqTL l l')
def eqTL : List Tm → List Tm → Bool
  | [], _ => true
  | _ :: _, [] => true
  | x :: xs, y :: ys => eqT x y && eqTL xs ys
end
mutual
def eqF : Fo → Fo → Bool
  | .mk o n l s, .mk o' n' l' s' => (o == o') && (n.toList == n'.toList) && (decide (l.length = l'.length) && eqTL l l') && (decide (s.length = s'.length) && eqFL s s')
def eqFL : List Fo → List Fo → Bool
  | [], _ => true
  | _ :: _, [] => true
  | x :: xs, y :: ys => eqF x y && eqFL xs ys
end
def eqTs (l m : List Tm) : Bool := decide (l.length = m.length) && eqTL l m
def eqFs (l m : List Fo) : Bool := decide (l.length = m.length) && eqFL l m
theorem eqT_eq (t u : Tm) : eqT t u = ((t.v == u.v) && (t.n.toList == u.n.toList) && eqTs t.args u.args) := by
  obtain ⟨v, n, l⟩ := t
  obtain ⟨v', n', l'⟩ := u
  rw [eqT]
  rfl
theorem eqF_eq (t u : Fo) : eqF t u = ((t.op == u.op) && (t.n.toList == u.n.toList) && eqTs t.args u.args && eqFs t.sub u.sub) := by
  obtain ⟨o, n, l, s⟩ := t
  obtain ⟨o', n', l', s'⟩ := u
  rw [eqF]
  rfl
theorem eqTL_step {l m : List Tm} {q : Nat} (h : q < l.length) (h' : q < m.length) : eqTL (l.drop q) (m.drop q) = (eqT l[q] m[q] && eqTL (l.drop (q + 1)) (m.drop (q + 1))) := by
  rw [List.drop_eq_getElem_cons h, List.drop_eq_getElem_cons h', eqTL]
theorem eqFL_step {l m : List Fo} {q : Nat} (h : q < l.length) (h' : q < m.length) : eqFL (l.drop q) (m.drop q) = (eqF l[q] m[q] && eqFL (l.drop (q + 1)) (m.drop (q + 1))) := by
  rw [List.drop_eq_getElem_cons h, List.drop_eq_getElem_cons h', eqFL]
def ERelT (l m : List Tm) (w : World) (i : Value) (wr : World) : Prop := ∃ q : Nat, i = .int .i64 (q : Int) ∧ q ≤ l.length ∧ Below w.heap.size w wr ∧ eqTL (l.drop q) (m.drop q) = eqTL l m
theorem sizeT_list {l : List Tm} {q : Nat} (h : q < l.length) : SizeOf.sizeOf l[q].args < SizeOf.sizeOf l := by
  have h1 : SizeOf.sizeOf l[q] < SizeOf.sizeOf l := List.sizeOf_lt_of_mem (List.getElem_mem h)
  have h2 : SizeOf.sizeOf l[q].args < SizeOf.sizeOf l[q] := by obtain ⟨v, n, args⟩ := l[q]; simp [Tm.args]; omega
  omega
set_option maxHeartbeats 2000000 in
theorem eqTs_c (N : Nat) : ∀ (l : List Tm), SizeOf.sizeOf l < N → ∀ (m : List Tm) (va vb : Value) (dn : Nat) (w : World), SlT dn w va l → SlT dn w vb m → dn ≤ w.heap.size →
    Calls Tryd.prog 24 #[va, vb] w fun e w' => e = .returned (.bool (eqTs l m)) ∧ Below w.heap.size w w' := by
  induction N with
  | zero => exact fun t h => absurd h (Nat.not_lt_zero _)
  | succ N ih =>
    intro l hN m va vb dn w ha hb hd
    obtain ⟨⟨sa, ka, rfl⟩, hla⟩ := ha.form
    obtain ⟨⟨sb, kb, rfl⟩, hlb⟩ := hb.form
    have HE := Lib.hid (show eqTs l m = (decide (l.length = m.length) && eqTL l m) from rfl)
    by_cases hlm : l.length = m.length
    · rw [decide_eq_true hlm, Bool.true_and] at HE
      have HLM := Lib.hid hlm
      have d0 : ((l.length : Int) != (m.length : Int)) = false := by rw [hlm]; simp
      have d00 : (l.length != m.length) = false := by rw [hlm]; simp
      clear hlm
      go_enter Tryd.func24, Tryd.ntmps24
      go_wp2_with fail
      clear d0 d00
      go_loopw [5] (fun i wr => ERelT l m w i wr) (fun i _ => l.length - (intOf i).toNat)
      case atStart => exact ⟨0, rfl, Nat.zero_le _, Below.refl _ _, by simp⟩
      case round =>
        obtain ⟨q, rfl, hq, hbq, hrest⟩ := hrel
        have HRE := Lib.hid hrest
        clear hrest
        by_cases hlt : q < l.length
        · have hltm : q < m.length := by have := HLM.out; omega
          obtain ⟨_, b, o, rfl, hbn, u0, u1, u2, c0, c1, c2, hu⟩ := (ha.below (hbq.mono hd) (Nat.le_refl _)).get hlt
          obtain ⟨_, b', o', rfl, hbn', v0, v1, v2, e0, e1, e2, hv⟩ := (hb.below (hbq.mono hd) (Nat.le_refl _)).get hltm
          have hdr : dn ≤ wr.heap.size := Nat.le_trans hd hbq.size
          have HST := Lib.hid (eqTL_step hlt hltm)
          have HQ := Lib.hid (eqT_eq l[q] m[q])
          have hsz := sizeT_list hlt
          have hcc := fun W (h : SlT dn W u2 l[q].args) (h' : SlT dn W v2 m[q].args) (h3 : dn ≤ W.heap.size) => ih l[q].args (by omega) m[q].args u2 v2 dn W h h' h3
          have HUA := Lib.hid hu.args
          have HVA := Lib.hid hv.args
          obtain ⟨⟨au, ku, hu2⟩, _⟩ := hu.args.form
          obtain ⟨⟨av, kv, hv2⟩, _⟩ := hv.args.form
          have z0 := hu.v
          have z1 := hu.nm
          have z2 := hv.v
          have z3 := hv.nm
          subst hu2 hv2 z0 z1 z2 z3
          clear hu hv hsz
          have HCC := Lib.hid (fun (p : InS (Below wr.heap.size wr)) => hcc p.w (HUA.out.below (p.h.mono hdr) (Nat.le_refl _)) (HVA.out.below (p.h.mono hdr) (Nat.le_refl _)) (Nat.le_trans hdr p.h.size))
          clear hcc HUA HVA
          haveI hne : Nonempty (InS (Below wr.heap.size wr)) := ⟨⟨_, Below.refl _ _⟩⟩
          have hcl : ∀ (p : InS (Below wr.heap.size wr)) (b q : Nat), b < dn → p.w.cell? ⟨b, q, none⟩ = wr.cell? ⟨b, q, none⟩ := fun p b q h => p.h.cell (p := ⟨b, q, none⟩) (show b < wr.heap.size by omega)
          have i1 := fun p => (hcl p b _ hbn).trans c1
          have j1 := fun p => (hcl p b' _ hbn').trans e1
          have i2 := fun p => (hcl p b _ hbn).trans c2
          have j2 := fun p => (hcl p b' _ hbn').trans e2
          by_cases hvv : l[q].v = m[q].v
          · have i0 := fun p => (hcl p b _ hbn).trans c0
            have e0' : wr.cell? ⟨b', o' + q * 3, none⟩ = some (.bool l[q].v) := by rw [hvv]; exact e0
            have j0 := fun p => (hcl p b' _ hbn').trans e0'
            rw [beq_iff_eq.2 hvv, Bool.true_and] at HQ
            clear e0' hvv hcl c0 c1 c2 e0 e1 e2
            cases hn : (l[q].n.toList == m[q].n.toList)
            · have HS2 := Lib.hid (show eqTL l m = false by rw [← HRE.out, HST.out, HQ.out, hn]; rfl)
              generalize l[q].v = xv at *
              go_wp2_with fail
              refine wp_region_class (Below wr.heap.size wr) (by kernel_rfl) (by kernel_rfl) (Below.drew (Below.refl _ _)) ?_
              repeat (go_big_quiet_step (fail))
              refine wpQuiet_nil ?_
              intro w2 hw'
              obtain ⟨⟨w3, hS2⟩, hw''⟩ := hw'
              have hw3 : w2 = w3 := hw''
              subst hw3
              have hb2 := hbq.trans (hS2.mono hbq.size)
              clear hw'' hS2
              go_wp2_with fail
              go_ret
              exact ⟨by rw [HE.out, HS2.out]; rfl, hb2⟩
            · cases hr : eqTs l[q].args m[q].args
              · have HS2 := Lib.hid (show eqTL l m = false by rw [← HRE.out, HST.out, HQ.out, hn, hr]; rfl)
                rw [hr] at HCC
                clear hr
                generalize l[q].v = xv at *
                go_wp2_with fail
                refine wp_region_class (Below wr.heap.size wr) (by kernel_rfl) (by kernel_rfl) (Below.drew (Below.refl _ _)) ?_
                repeat (go_big_quiet_step ((exact Calls.below_of (HCC.out _))))
                refine wpQuiet_nil ?_
                intro w2 hw'
                obtain ⟨⟨w3, hS2⟩, hw''⟩ := hw'
                have hw3 : w2 = w3 := hw''
                subst hw3
                have hb2 := hbq.trans (hS2.mono hbq.size)
                clear hw'' hS2
                go_wp2_with fail
                go_ret
                exact ⟨by rw [HE.out, HS2.out]; rfl, hb2⟩
              · have HS2 := Lib.hid (show eqTL (l.drop (q + 1)) (m.drop (q + 1)) = eqTL l m by rw [← HRE.out, HST.out, HQ.out, hn, hr]; rfl)
                rw [hr] at HCC
                clear hr
                generalize l[q].v = xv at *
                go_wp2_with fail
                refine wp_region_class (Below wr.heap.size wr) (by kernel_rfl) (by kernel_rfl) (Below.drew (Below.refl _ _)) ?_
                repeat (go_big_quiet_step ((exact Calls.below_of (HCC.out _))))
                refine wpQuiet_nil ?_
                intro w2 hw'
                obtain ⟨⟨w3, hS2⟩, hw''⟩ := hw'
                have hw3 : w2 = w3 := hw''
                subst hw3
                have hb2 := hbq.trans (hS2.mono hbq.size)
                clear hw'' hS2
                go_wp2_with fail
                exact ⟨⟨q + 1, by go_num, by omega, hb2, HS2.out⟩, by simp [intOf]; omega⟩
          · have HS2 := Lib.hid (show eqTL l m = false by rw [← HRE.out, HST.out, HQ.out, beq_eq_false_iff_ne.2 hvv]; rfl)
            have i0 := fun p => (hcl p b _ hbn).trans c0
            have j0 := fun p => (hcl p b' _ hbn').trans e0
            have hxy : (l[q].v = true ∧ m[q].v = false) ∨ (l[q].v = false ∧ m[q].v = true) := by
              cases h1 : l[q].v <;> cases h2 : m[q].v <;> simp_all
            clear hvv hcl c0 c1 c2 e0 e1 e2
            rcases hxy with ⟨hx, hy⟩ | ⟨hx, hy⟩
            all_goals rw [hx] at i0; rw [hy] at j0; clear hx hy
            all_goals
             go_wp2_with fail
             refine wp_region_class (Below wr.heap.size wr) (by kernel_rfl) (by kernel_rfl) (Below.drew (Below.refl _ _)) ?_
             repeat (go_big_quiet_step (fail))
             refine wpQuiet_nil ?_
             intro w2 hw'
             obtain ⟨⟨w3, hS2⟩, hw''⟩ := hw'
             have hw3 : w2 = w3 := hw''
             subst hw3
             have hb2 := hbq.trans (hS2.mono hbq.size)
             clear hw'' hS2
             go_wp2_with fail
             go_ret
             exact ⟨by rw [HE.out, HS2.out]; rfl, hb2⟩
        · have e : q = l.length := by omega
          have HF := Lib.hid (show eqTL l m = true by rw [← HRE.out, e, List.drop_length, eqTL])
          clear e
          go_wp2_with fail
          go_ret
          exact ⟨by rw [HE.out, HF.out]; rfl, hbq⟩
    · rw [decide_eq_false hlm, Bool.false_and] at HE
      have d0 : ((l.length : Int) != (m.length : Int)) = true := by rw [bne_iff_ne]; omega
      have d00 : (l.length != m.length) = true := by rw [bne_iff_ne]; exact hlm
      clear hlm
      go_enter Tryd.func24, Tryd.ntmps24
      go_wp2_with fail
      go_ret
      exact ⟨by rw [HE.out]; rfl, Below.refl _ _⟩
def ERelF (l m : List Fo) (w : World) (i : Value) (wr : World) : Prop := ∃ q : Nat, i = .int .i64 (q : Int) ∧ q ≤ l.length ∧ Below w.heap.size w wr ∧ eqFL (l.drop q) (m.drop q) = eqFL l m
set_option maxHeartbeats 1000000 in
theorem eqFs_c (l m : List Fo) (va vb : Value) (dn : Nat) (w : World) (ha : SlF dn w va l) (hb : SlF dn w vb m) (hd : dn ≤ w.heap.size)
    (hc : ∀ t ∈ l, ∀ (u : Fo) (x0 x1 x2 x3 y0 y1 y2 y3 : Value) (W : World), FoV dn W x0 x1 x2 x3 t → FoV dn W y0 y1 y2 y3 u → dn ≤ W.heap.size → Calls Tryd.prog 12 #[.agg #[x0, x1, x2, x3], .agg #[y0, y1, y2, y3]] W fun e w' => e = .returned (.bool (eqF t u)) ∧ Below W.heap.size W w') :
    Calls Tryd.prog 25 #[va, vb] w fun e w' => e = .returned (.bool (eqFs l m)) ∧ Below w.heap.size w w' := by
  obtain ⟨⟨sa, ka, rfl⟩, hla⟩ := ha.form
  obtain ⟨⟨sb, kb, rfl⟩, hlb⟩ := hb.form
  have HE := Lib.hid (show eqFs l m = (decide (l.length = m.length) && eqFL l m) from rfl)
  have HC := Lib.hid hc
  clear hc
  by_cases hlm : l.length = m.length
  · rw [decide_eq_true hlm, Bool.true_and] at HE
    have HLM := Lib.hid hlm
    have d0 : ((l.length : Int) != (m.length : Int)) = false := by rw [hlm]; simp
    have d00 : (l.length != m.length) = false := by rw [hlm]; simp
    clear hlm
    go_enter Tryd.func25, Tryd.ntmps25
    go_wp2_with fail
    clear d0 d00
    go_loopw [5] (fun i wr => ERelF l m w i wr) (fun i _ => l.length - (intOf i).toNat)
    case atStart => exact ⟨0, rfl, Nat.zero_le _, Below.refl _ _, by simp⟩
    case round =>
      obtain ⟨q, rfl, hq, hbq, hrest⟩ := hrel
      have HRE := Lib.hid hrest
      clear hrest
      by_cases hlt : q < l.length
      · have hltm : q < m.length := by have := HLM.out; omega
        obtain ⟨_, b, o, rfl, hbn, u0, u1, u2, u3, c0, c1, c2, c3, hu⟩ := (ha.below (hbq.mono hd) (Nat.le_refl _)).get hlt
        obtain ⟨_, b', o', rfl, hbn', v0, v1, v2, v3, e0, e1, e2, e3, hv⟩ := (hb.below (hbq.mono hd) (Nat.le_refl _)).get hltm
        have hdr : dn ≤ wr.heap.size := Nat.le_trans hd hbq.size
        have HST := Lib.hid (eqFL_step hlt hltm)
        have hcc := HC.out l[q] (List.getElem_mem hlt) m[q] u0 u1 u2 u3 v0 v1 v2 v3
        have HU := Lib.hid hu
        have HV := Lib.hid hv
        obtain ⟨⟨au, ku, hu2⟩, _⟩ := hu.args.form
        obtain ⟨⟨av, kv, hv2⟩, _⟩ := hv.args.form
        obtain ⟨⟨aw, kw, hu3⟩, _⟩ := hu.sub.form
        obtain ⟨⟨az, kz, hv3⟩, _⟩ := hv.sub.form
        have z0 := hu.op
        have z1 := hu.nm
        have z2 := hv.op
        have z3 := hv.nm
        subst hu2 hv2 hu3 hv3 z0 z1 z2 z3
        clear hu hv
        have HCC := Lib.hid (fun (p : InS (Below wr.heap.size wr)) => hcc p.w (HU.out.below (p.h.mono hdr) (Nat.le_refl _)) (HV.out.below (p.h.mono hdr) (Nat.le_refl _)) (Nat.le_trans hdr p.h.size))
        clear hcc
        haveI hne : Nonempty (InS (Below wr.heap.size wr)) := ⟨⟨_, Below.refl _ _⟩⟩
        have hcl : ∀ (p : InS (Below wr.heap.size wr)) (b q : Nat), b < dn → p.w.cell? ⟨b, q, none⟩ = wr.cell? ⟨b, q, none⟩ := fun p b q h => p.h.cell (p := ⟨b, q, none⟩) (show b < wr.heap.size by omega)
        have i0 := fun p => (hcl p b _ hbn).trans c0
        have j0 := fun p => (hcl p b' _ hbn').trans e0
        have i1 := fun p => (hcl p b _ hbn).trans c1
        have j1 := fun p => (hcl p b' _ hbn').trans e1
        have i2 := fun p => (hcl p b _ hbn).trans c2
        have j2 := fun p => (hcl p b' _ hbn').trans e2
        have i3 := fun p => (hcl p b _ hbn).trans c3
        have j3 := fun p => (hcl p b' _ hbn').trans e3
        clear hcl
        cases hr : eqF l[q] m[q]
        · have HS2 := Lib.hid (show eqFL l m = false by rw [← HRE.out, HST.out, hr]; rfl)
          rw [hr] at HCC
          clear hr
          go_wp2_with fail
          refine wp_region_class (Below wr.heap.size wr) (by kernel_rfl) (by kernel_rfl) (Below.drew (Below.refl _ _)) ?_
          repeat (go_big_quiet_step ((exact Calls.below_of (HCC.out _))))
          refine wpQuiet_nil ?_
          intro w2 hw'
          obtain ⟨⟨w3, hS2⟩, hw''⟩ := hw'
          have hw3 : w2 = w3 := hw''
          subst hw3
          have hb2 := hbq.trans (hS2.mono hbq.size)
          clear hw'' hS2
          go_wp2_with fail
          go_ret
          exact ⟨by rw [HE.out, HS2.out]; rfl, hb2⟩
        · have HS2 := Lib.hid (show eqFL (l.drop (q + 1)) (m.drop (q + 1)) = eqFL l m by rw [← HRE.out, HST.out, hr]; rfl)
          rw [hr] at HCC
          clear hr
          go_wp2_with fail
          refine wp_region_class (Below wr.heap.size wr) (by kernel_rfl) (by kernel_rfl) (Below.drew (Below.refl _ _)) ?_
          repeat (go_big_quiet_step ((exact Calls.below_of (HCC.out _))))
          refine wpQuiet_nil ?_
          intro w2 hw'
          obtain ⟨⟨w3, hS2⟩, hw''⟩ := hw'
          have hw3 : w2 = w3 := hw''
          subst hw3
          have hb2 := hbq.trans (hS2.mono hbq.size)
          clear hw'' hS2
          go_wp2_with fail
          exact ⟨⟨q + 1, by go_num, by omega, hb2, HS2.out⟩, by simp [intOf]; omega⟩
      · have e : q = l.length := by omega
        have HF := Lib.hid (show eqFL l m = true by rw [← HRE.out, e, List.drop_length, eqFL])
        clear e
        go_wp2_with fail
        go_ret
        exact ⟨by rw [HE.out, HF.out]; rfl, hbq⟩
  · rw [decide_eq_false hlm, Bool.false_and] at HE
    have d0 : ((l.length : Int) != (m.length : Int)) = true := by rw [bne_iff_ne]; omega
    have d00 : (l.length != m.length) = true := by rw [bne_iff_ne]; exact hlm
    clear hlm
    go_enter Tryd.func25, Tryd.ntmps25
    go_wp2_with fail
    go_ret
    exact ⟨by rw [HE.out]; rfl, Below.refl _ _⟩
theorem two_boxesE (w : World) (c d : Array Value) (t : TypeId) : (∀ q, ((w.alloc (.cells c t)).alloc (.cells d t)).cell? ⟨w.heap.size, q, none⟩ = c[q]?) ∧ (∀ q, ((w.alloc (.cells c t)).alloc (.cells d t)).cell? ⟨w.heap.size + 1, q, none⟩ = d[q]?) := by
  have h1 : (w.alloc (.cells c t)).heap.size = w.heap.size + 1 := by simp
  refine ⟨fun q => ?_, fun q => ?_⟩
  · rw [((Below.refl _ _).alloc (Nat.le_refl _) (.cells d t)).cell (p := ⟨w.heap.size, q, none⟩) (by rw [h1]; show w.heap.size < _; omega), World.cell?_alloc_at _ _ _ _ rfl]
  · rw [World.cell?_alloc_at _ _ _ _ h1.symm]
set_option maxHeartbeats 1000000 in
theorem eqF_c (N : Nat) : ∀ (t : Fo), SizeOf.sizeOf t < N → ∀ (u : Fo) (x0 x1 x2 x3 y0 y1 y2 y3 : Value) (dn : Nat) (w : World), FoV dn w x0 x1 x2 x3 t → FoV dn w y0 y1 y2 y3 u → dn ≤ w.heap.size →
    Calls Tryd.prog 12 #[.agg #[x0, x1, x2, x3], .agg #[y0, y1, y2, y3]] w fun e w' => e = .returned (.bool (eqF t u)) ∧ Below w.heap.size w w' := by
  induction N with
  | zero => exact fun t h => absurd h (Nat.not_lt_zero _)
  | succ N ih =>
    intro t hN u x0 x1 x2 x3 y0 y1 y2 y3 dn w ht hu hd
    have HE := Lib.hid (eqF_eq t u)
    have hb0 : Below w.heap.size w ((w.alloc (.cells #[x0, x1, x2, x3] 25)).alloc (.cells #[y0, y1, y2, y3] 25)) := ((Below.refl _ _).alloc (Nat.le_refl _) _).alloc (by simp) _
    have h2 := two_boxesE w #[x0, x1, x2, x3] #[y0, y1, y2, y3] 25
    obtain ⟨rfl, hop, rfl, _, ha, hs⟩ := ht
    obtain ⟨rfl, hop', rfl, _, hb, hs'⟩ := hu
    obtain ⟨⟨sa, ka, rfl⟩, hla⟩ := ha.form
    obtain ⟨⟨sb, kb, rfl⟩, hlb⟩ := hb.form
    obtain ⟨⟨sc, kc, rfl⟩, hlc⟩ := hs.form
    obtain ⟨⟨sd, kd, rfl⟩, hld⟩ := hs'.form
    have HA := Lib.hid (fun W (h : Below w.heap.size w W) => eqTs_c (SizeOf.sizeOf t.args + 1) t.args (Nat.lt_succ_self _) u.args _ _ dn W (ha.below h hd) (hb.below h hd) (Nat.le_trans hd h.size))
    have HF := Lib.hid (fun W (h : Below w.heap.size w W) => eqFs_c t.sub u.sub _ _ dn W (hs.below h hd) (hs'.below h hd) (Nat.le_trans hd h.size) fun t' ht' u' x0 x1 x2 x3 y0 y1 y2 y3 W h1 h2 h3 => by
      obtain ⟨q, hq, rfl⟩ := List.getElem_of_mem ht'
      exact ih _ (by have := size_sub t q hq; omega) u' x0 x1 x2 x3 y0 y1 y2 y3 dn W h1 h2 h3)
    have H2 := Lib.hid h2
    clear ha hb hs hs' ih h2
    cases h1 : (t.op == u.op)
    · rw [h1] at HE
      go_enter Tryd.func12, Tryd.ntmps12
      go_wp2_with fail
      go_ret
      exact ⟨by rw [HE.out]; rfl, hb0⟩
    · rw [h1] at HE
      cases h2 : (t.n.toList == u.n.toList)
      · rw [h2] at HE
        go_enter Tryd.func12, Tryd.ntmps12
        go_wp2_with fail
        go_ret
        exact ⟨by rw [HE.out]; rfl, hb0⟩
      · rw [h2] at HE
        cases h3 : eqTs t.args u.args
        · rw [h3] at HE HA
          clear h3
          go_enter Tryd.func12, Tryd.ntmps12
          go_wp2_with fail
          refine (HA.out _ hb0).mono ?_
          rintro e w1 ⟨rfl, hb1⟩
          have hb2 := hb0.trans (hb1.mono (by simp; omega))
          clear hb1
          go_wp2_with fail
          go_ret
          exact ⟨by rw [HE.out]; rfl, hb2⟩
        · rw [h3] at HE HA
          clear h3
          generalize eqFs t.sub u.sub = r at *
          go_enter Tryd.func12, Tryd.ntmps12
          go_wp2_with fail
          refine (HA.out _ hb0).mono ?_
          rintro e w1 ⟨rfl, hb1⟩
          have c3 := (hb1.cell (p := ⟨w.heap.size, 3, none⟩) (by simp; omega)).trans (H2.out.1 3)
          have d3 := (hb1.cell (p := ⟨w.heap.size + 1, 3, none⟩) (by simp)).trans (H2.out.2 3)
          simp only [List.getElem?_toArray, List.getElem?_cons_zero, List.getElem?_cons_succ] at c3 d3
          have hb2 := hb0.trans (hb1.mono (by simp; omega))
          have HF2 := Lib.hid (HF.out _ hb2)
          clear hb1
          go_wp2_with fail
          refine HF2.out.mono ?_
          rintro e w2 ⟨rfl, hb3⟩
          have hb4 := hb2.trans (hb3.mono hb2.size)
          clear hb3 c3 d3
          go_wp2_with fail
          go_ret
          exact ⟨by rw [HE.out]; simp, hb4⟩
end Go.Proofs.YtkeckecdhcknhaaDoor.Fm

/-
  What lies below n lies below a greater m, too.
-/
namespace Go.Proofs.YtkeckecdhcknhaaDoor.Fm
open Go Go.RowKit
theorem TsAt.mono {n m : Nat} {w : World} (hn : n ≤ m) (l : List Tm) : ∀ {b o : Nat}, TsAt n w b o l → TsAt m w b o l := by
  match l with
  | [] => exact fun _ => by simp [TsAt]
  | .mk v nm args :: r =>
    intro b o h
    simp only [TsAt] at h ⊢
    obtain ⟨⟨h0, h1, h2, a, cap, b', o', h3, h4, h5, h6⟩, h7⟩ := h
    exact ⟨⟨h0, h1, h2, a, cap, b', o', h3, h4, h5.imp id fun h => ⟨h.1, Nat.lt_of_lt_of_le h.2 hn⟩, TsAt.mono hn args h6⟩, TsAt.mono hn r h7⟩
termination_by SizeOf.sizeOf l
theorem FsAt.mono {n m : Nat} {w : World} (hn : n ≤ m) (l : List Fo) : ∀ {b o : Nat}, FsAt n w b o l → FsAt m w b o l := by
  match l with
  | [] => exact fun _ => by simp [FsAt]
  | .mk op nm args sub :: r =>
    intro b o h
    simp only [FsAt] at h ⊢
    obtain ⟨⟨h0, hop, h1, h2, ⟨a, cap, b', o', h3, h4, h5, h6⟩, a2, cap2, b2, o2, g3, g4, g5, g6⟩, h7⟩ := h
    exact ⟨⟨h0, hop, h1, h2, ⟨a, cap, b', o', h3, h4, h5.imp id fun h => ⟨h.1, Nat.lt_of_lt_of_le h.2 hn⟩, h6.mono hn args⟩, a2, cap2, b2, o2, g3, g4, g5.imp id fun h => ⟨h.1, Nat.lt_of_lt_of_le h.2 hn⟩, FsAt.mono hn sub g6⟩, FsAt.mono hn r h7⟩
termination_by SizeOf.sizeOf l
theorem SlT.mono {n m : Nat} {w : World} {v : Value} {l : List Tm} (h : SlT n w v l) (hn : n ≤ m) : SlT m w v l := by
  obtain ⟨a, cap, b, o, h1, h2, h3, h4⟩ := h
  exact ⟨a, cap, b, o, h1, h2, h3.imp id fun h => ⟨h.1, Nat.lt_of_lt_of_le h.2 hn⟩, h4.mono hn l⟩
theorem SlF.mono {n m : Nat} {w : World} {v : Value} {l : List Fo} (h : SlF n w v l) (hn : n ≤ m) : SlF m w v l := by
  obtain ⟨a, cap, b, o, h1, h2, h3, h4⟩ := h
  exact ⟨a, cap, b, o, h1, h2, h3.imp id fun h => ⟨h.1, Nat.lt_of_lt_of_le h.2 hn⟩, h4.mono hn l⟩
theorem FoV.mono {n m : Nat} {w : World} {v0 v1 v2 v3 : Value} {f : Fo} (h : FoV n w v0 v1 v2 v3 f) (hn : n ≤ m) : FoV m w v0 v1 v2 v3 f := ⟨h.op, h.bd, h.nm, h.ok, h.args.mono hn, h.sub.mono hn⟩
end Go.Proofs.YtkeckecdhcknhaaDoor.Fm

/-
  The statements' own means; their makers of terms and formulas.
-/
namespace Go.Proofs.YtkeckecdhcknhaaDoor.Ps
open Go Go.RowKit Go.Shelf Go.Proofs.YtkeckecdhcknhaaDoor.Fm Go.Proofs.YtkeckecdhcknhaaDoor.Lx
set_option linter.unusedVariables false
set_option linter.unusedSimpArgs false
def meansB (s : ByteArray) (f : Fo) : Bool := ((formRes true (rightB true) s).2.2 == 0) && ((formRes true (rightB true) s).2.1 == 0) && eqF f ((formRes true (rightB true) s).1.getD zeroF)
theorem fval_fov {lo : Nat} {w : World} {x0 x1 x2 x3 : Value} {f : Fo} (h : FVal lo w (.agg #[x0, x1, x2, x3]) f) : FoV w.heap.size w x0 x1 x2 x3 f := by
  obtain ⟨b2, j2, b3, j3, he, hop, hnm, htd, hfd⟩ := h
  simp only [Value.agg.injEq, Array.mk.injEq, List.cons.injEq, and_true] at he
  obtain ⟨rfl, rfl, rfl, rfl⟩ := he
  exact ⟨rfl, hop, rfl, hnm, htd.slT (fun b hb => hb.2), hfd.slF (fun b hb => hb.2)⟩
set_option maxRecDepth 20000 in
set_option maxHeartbeats 2000000 in
theorem means_true (s : ByteArray) (W : World) (hs : s.size ≤ 16384) (hT : RTab W) (hL : LTab W W.heap.size) (f : Fo) (x0 x1 x2 x3 : Value) (hf : FoV W.heap.size W x0 x1 x2 x3 f) (hm : formRes true (rightB true) s = (some f, 0, 0)) (he : eqF f f = true) :
    Calls Tryd.prog 10 #[.string s, .agg #[x0, x1, x2, x3]] W fun e w' => e = .returned (.bool true) ∧ Below W.heap.size W w' := by
  have hb0 : Below W.heap.size W (W.alloc (.cells #[x0, x1, x2, x3] 25)) := (Below.refl _ _).alloc (Nat.le_refl _) _
  have hr := schema_p s _ hs (hT.below hb0 hT.1) ⟨Nat.lt_of_lt_of_le hL.1 hb0.size, (hL.keep (hb0.block _ hL.1)).2⟩
  rw [hm] at hr
  have HB := Lib.hid hb0
  have HF := Lib.hid (hf.below hb0 (Nat.le_refl _))
  obtain ⟨rfl, _, rfl, _, hA, hS⟩ := hf
  obtain ⟨⟨a1', k1, rfl⟩, _⟩ := hA.form
  obtain ⟨⟨a2', k2', rfl⟩, _⟩ := hS.form
  have hbx := Bx4.new W (.int .u8 f.op) (.string f.n) (.slice a1' f.args.length k1) (.slice a2' f.sub.length k2') 25
  clear hb0 hT hL hA hS hm
  go_enter Tryd.func10, Tryd.ntmps10
  go_wp2_with fail
  refine hr.mono ?_
  rintro e w1 ⟨v, rfl, hv, hb1⟩
  have hv : FVal _ w1 v f := hv
  have HV := Lib.hid hv
  obtain ⟨a2, k2, a3, k3, rfl, HREST⟩ := hv
  have hbx1 := hbx.heap (hb1.block W.heap.size hbx.lt) (Nat.lt_of_lt_of_le hbx.lt hb1.size)
  have HB1 := Lib.hid (HB.out.trans (hb1.mono HB.out.size))
  have HF1 := Lib.hid (HF.out.below hb1 (by simp))
  have HBB := Lib.hid hb1.size
  clear hb1 HREST hr hbx
  go_upto_region 2 with fail
  generalize hX : w1.alloc (.cells #[.int .u8 f.op, .string f.n, .slice a2 f.args.length k2, .slice a3 f.sub.length k3] 25) = X
  have hal : Below w1.heap.size w1 X := by rw [← hX]; exact (Below.refl _ _).alloc (Nat.le_refl _) _
  have hG := Bx4.new w1 (.int .u8 f.op) (.string f.n) (.slice a2 f.args.length k2) (.slice a3 f.sub.length k3) 25
  rw [hX] at hG
  have hR := hbx1.heap (hal.block W.heap.size hbx1.lt) (Nat.lt_of_lt_of_le hbx1.lt hal.size)
  have hBX := HB1.out.trans (hal.mono HB1.out.size)
  have f1 := HF1.out.below hal (by have := HBB.out; simp at this; omega)
  have f2 := fval_fov (HV.out.keep (P := W.heap.size) (GP.of hal) (by simp) (Nat.le_refl _))
  have f1' := f1.mono (m := X.heap.size) (by have := HBB.out; have := hal.size; simp at *; omega)
  have heq := eqF_c (SizeOf.sizeOf f + 1) f (Nat.lt_succ_self _) f _ _ _ _ _ _ _ _ X.heap.size X f1' f2 (Nat.le_refl _)
  rw [he] at heq
  obtain ⟨c0, c1, c2, c3, _, _, _, _, hz1⟩ := hR
  obtain ⟨d0, d1, d2, d3, _, _, _, _, hz2⟩ := hG
  have HBX := Lib.hid hBX
  clear hX hal hBX f1 f2 f1' hbx1
  go_wp2_with fail
  refine heq.mono ?_
  rintro e w3 ⟨rfl, hb3⟩
  have HB3 := Lib.hid (HBX.out.trans (hb3.mono HBX.out.size))
  clear hb3
  go_wp2_with fail
  go_ret
  exact ⟨rfl, HB3.out⟩
theorem v_c (n : ByteArray) (W : World) : Calls Tryd.prog 18 #[.string n] W fun e w' => e = .returned (.agg #[.bool true, .string n, .slice none 0 0]) ∧ Below W.heap.size W w' := by
  go_enter Tryd.func18, Tryd.ntmps18
  go_wp2_with fail
  refine bodyPost_ret (v := .agg #[.bool true, .string n, .slice none 0 0]) (by simp [results, Tryd.results18, go_sem]) rfl ?_
  exact ⟨rfl, (Below.refl _ _).alloc (Nat.le_refl _) _⟩
theorem p_c (n : ByteArray) (a : Option Addr) (l c : Nat) (W : World) : Calls Tryd.prog 17 #[.string n, .slice a l c] W fun e w' => e = .returned (.agg #[.int .u8 1, .string n, .slice a l c, .slice none 0 0]) ∧ Below W.heap.size W w' := by
  go_enter Tryd.func17, Tryd.ntmps17
  go_wp2_with fail
  refine bodyPost_ret (v := .agg #[.int .u8 1, .string n, .slice a l c, .slice none 0 0]) (by simp [results, Tryd.results17, go_sem]) rfl ?_
  exact ⟨rfl, (Below.refl _ _).alloc (Nat.le_refl _) _⟩
theorem of_c (o : Int) (n : ByteArray) (a : Option Addr) (l c : Nat) (W : World) : Calls Tryd.prog 16 #[.int .u8 o, .string n, .slice a l c] W fun e w' => e = .returned (.agg #[.int .u8 o, .string n, .slice none 0 0, .slice a l c]) ∧ Below W.heap.size W w' := by
  go_enter Tryd.func16, Tryd.ntmps16
  go_wp2_with fail
  refine bodyPost_ret (v := .agg #[.int .u8 o, .string n, .slice none 0 0, .slice a l c]) (by simp [results, Tryd.results16, go_sem]) rfl ?_
  exact ⟨rfl, (Below.refl _ _).alloc (Nat.le_refl _) _⟩
end Go.Proofs.YtkeckecdhcknhaaDoor.Ps

/-
  Which formulas are right, as a function that the kernel can run.
-/
namespace Go.Proofs.YtkeckecdhcknhaaDoor.Ps
open Go Go.RowKit Go.Shelf Go.Proofs.YtkeckecdhcknhaaDoor.Fm
set_option linter.unusedVariables false
set_option linter.unusedSimpArgs false
def catK {α β : Type} (g : α → Option (List β)) : List α → Option (List β)
  | [] => some []
  | x :: r => match g x, catK g r with
    | some a, some b => some (a ++ b)
    | _, _ => none
theorem catK_flat {α β : Type} {g : α → Option (List β)} {h : α → List β} : ∀ {l : List α} {b : List β}, (∀ x ∈ l, ∀ a, g x = some a → h x = a) → catK g l = some b → l.flatMap h = b
  | [], b, _, hb => by simpa [catK] using hb
  | x :: r, b, hg, hb => by
    unfold catK at hb
    cases h1 : g x with
    | none => rw [h1] at hb; cases hb
    | some a =>
      cases h2 : catK g r with
      | none => rw [h1, h2] at hb; cases hb
      | some c =>
        rw [h1, h2] at hb
        injection hb with hb
        rw [List.flatMap_cons, hg x (List.mem_cons_self ..) a h1, catK_flat (fun y hy => hg y (List.mem_cons_of_mem _ hy)) h2, hb]
def allK {α : Type} (g : α → Option Bool) : List α → Option Bool
  | [] => some true
  | x :: r => match g x, allK g r with
    | some a, some b => some (a && b)
    | _, _ => none
theorem allK_all {α : Type} {g : α → Option Bool} {h : α → Bool} : ∀ {l : List α} {b : Bool}, (∀ x ∈ l, ∀ a, g x = some a → h x = a) → allK g l = some b → l.all h = b
  | [], b, _, hb => by simpa [allK] using hb
  | x :: r, b, hg, hb => by
    unfold allK at hb
    cases h1 : g x with
    | none => rw [h1] at hb; cases hb
    | some a =>
      cases h2 : allK g r with
      | none => rw [h1, h2] at hb; cases hb
      | some c =>
        rw [h1, h2] at hb
        injection hb with hb
        rw [List.all_cons, hg x (List.mem_cons_self ..) a h1, allK_all (fun y hy => hg y (List.mem_cons_of_mem _ hy)) h2, hb]
def fK : Nat → Int → Fo → Option (List (Int × Fo))
  | 0, _, _ => none
  | k + 1, lv, f => (catK (fK k (wrap64 (lv + 1))) f.sub).map fun l => (lv, f) :: l
theorem fK_all : ∀ (k : Nat) (lv : Int) (f : Fo) (l : List (Int × Fo)), fK k lv f = some l → f.all lv = l
  | 0, _, _, _, h => by cases h
  | k + 1, lv, f, l, h => by
    unfold fK at h
    obtain ⟨b, hb, rfl⟩ := Option.map_eq_some_iff.1 h
    rw [Fo.all_eq, catK_flat (fun x _ a ha => fK_all k _ x a ha) hb]
def tK : Nat → Int → Tm → Option (List (Int × Tm))
  | 0, _, _ => none
  | k + 1, lv, t => (catK (tK k (wrap64 (lv + 1))) t.args).map fun l => (lv, t) :: l
theorem tK_all : ∀ (k : Nat) (lv : Int) (f : Tm) (l : List (Int × Tm)), tK k lv f = some l → f.all lv = l
  | 0, _, _, _, h => by cases h
  | k + 1, lv, f, l, h => by
    unfold tK at h
    obtain ⟨b, hb, rfl⟩ := Option.map_eq_some_iff.1 h
    rw [Tm.all_eq, catK_flat (fun x _ a ha => tK_all k _ x a ha) hb]
def rK (sc : Bool) : Nat → Tm → Option Bool
  | 0, _ => none
  | k + 1, t => if t.v then some (varT t || sc && metaT t) else (allK (rK sc k) t.args).map fun b => fnB t.n && decide (t.args.length ≤ 4) && b
theorem rK_right (sc : Bool) : ∀ (k : Nat) (t : Tm) (b : Bool), rK sc k t = some b → t.right sc = b
  | 0, _, _, h => by cases h
  | k + 1, t, b, h => by
    unfold rK at h
    rw [Tm.right_eq]
    split at h
    · next hv => rw [if_pos hv]; exact Option.some.inj h
    · next hv =>
      rw [if_neg hv]
      obtain ⟨c, hc, rfl⟩ := Option.map_eq_some_iff.1 h
      rw [allK_all (fun x _ a ha => rK_right sc k x a ha) hc]
def sK (sc : Bool) (k : Nat) (f : Fo) : Option Bool := (if f.op = 16 then some (match f.args with | [a, b] => varT a && metaT b | _ => false) else allK (rK sc k) f.args).map fun b => headB sc f && b
theorem sK_sat {sc : Bool} {k : Nat} {f : Fo} {b : Bool} (h : sK sc k f = some b) : satB sc f = b := by
  unfold sK at h
  obtain ⟨c, hc, rfl⟩ := Option.map_eq_some_iff.1 h
  unfold satB tailB
  split at hc
  · next ho => rw [if_pos ho]; rw [← Option.some.inj hc]; rfl
  · next ho => rw [if_neg ho, allK_all (fun x _ a ha => rK_right sc k x a ha) hc]
def rightK (sc : Bool) (k : Nat) (f : Fo) : Option Bool :=
  match fK k 1 f with
  | none => none
  | some l => match catK (fun x : Int × Fo => catK (fun t => tK k (wrap64 (x.1 + 1)) t) x.2.args) l, allK (fun x : Int × Fo => sK sc k x.2) l with
    | some ts, some b => some ((decide (((l.map (·.1) ++ ts.map (·.1)).length : Int) ≤ 400) && (l.map (·.1) ++ ts.map (·.1)).all fun x => decide (x ≤ 40)) && b)
    | _, _ => none
theorem rightK_right {sc : Bool} {k : Nat} {f : Fo} {b : Bool} (h : rightK sc k f = some b) : rightB sc f = b := by
  unfold rightK at h
  cases h1 : fK k 1 f with
  | none => rw [h1] at h; cases h
  | some l =>
    rw [h1] at h
    simp only at h
    split at h
    · next ts b' h2 h3 =>
      injection h with h
      rw [← h]
      unfold rightB fitsB levelsL allB termsL
      rw [fK_all k 1 f l h1, allK_all (fun x _ a ha => sK_sat ha) h3]
      have : l.flatMap termsOf = ts := catK_flat (fun x _ a ha => catK_flat (fun t _ c hc => tK_all k _ t c hc) ha) h2
      rw [this]
    · cases h
end Go.Proofs.YtkeckecdhcknhaaDoor.Ps

/-
  The examples of the chapter.
-/
namespace Go.Proofs.YtkeckecdhcknhaaDoor.Ps
open Go Go.RowKit Go.Shelf Go.Proofs.YtkeckecdhcknhaaDoor.Fm Go.Proofs.YtkeckecdhcknhaaDoor.Lx
set_option linter.unusedVariables false
set_option linter.unusedSimpArgs false
theorem res_ok {m sc : Bool} {s : ByteArray} {f : Fo} {r : List Tg} (h1 : lexErr s = none) (h2 : binC m 0 0 (tgL s) = .ok f r) (h3 : ((hd r).k == 5) = true) (h4 : rightB sc f = true) : formRes m (rightB sc) s = (some f, 0, 0) := by
  unfold formRes
  rw [h1]
  simp only [h2, endC, h3, h4, if_true]
theorem res_long {m sc : Bool} {s : ByteArray} {f : Fo} {r : List Tg} (h1 : lexErr s = none) (h2 : binC m 0 0 (tgL s) = .ok f r) (h3 : ((hd r).k == 5) = true) (h4 : rightB sc f = false) : formRes m (rightB sc) s = (none, 0, 3) := by
  unfold formRes
  rw [h1]
  simp only [h2, endC, h3, h4, if_true, Bool.false_eq_true, if_false]
def ex0 : Fo := .mk 6 ⟨#[]⟩ [] [.mk 5 ⟨#[]⟩ [] [.mk 4 ⟨#[]⟩ [] [.mk 4 ⟨#[]⟩ [] [.mk 1 ⟨#[80]⟩ [] [], .mk 1 ⟨#[81]⟩ [] []], .mk 1 ⟨#[82]⟩ [] []], .mk 1 ⟨#[83]⟩ [] []], .mk 6 ⟨#[]⟩ [] [.mk 1 ⟨#[84]⟩ [] [], .mk 1 ⟨#[85, 49]⟩ [] []]]
theorem ex0_m : formRes true (rightB true) ⟨#[80, 32, 38, 32, 81, 32, 38, 32, 82, 32, 124, 32, 83, 32, 45, 62, 32, 84, 32, 45, 62, 32, 85, 49]⟩ = (some ex0, 0, 0) := res_ok (r := [⟨5, ⟨#[]⟩, 24⟩]) (by kernel_rfl) (by kernel_rfl) (by kernel_rfl) (rightK_right (k := 8) (by kernel_rfl))
theorem ex0_e : eqF ex0 ex0 = true := by kernel_rfl
def ex1 : Fo := .mk 4 ⟨#[]⟩ [] [.mk 8 ⟨#[120]⟩ [] [.mk 1 ⟨#[80]⟩ [.mk true ⟨#[120]⟩ []] []], .mk 1 ⟨#[81]⟩ [] []]
theorem ex1_m : formRes true (rightB true) ⟨#[97, 108, 108, 32, 120, 32, 80, 40, 120, 41, 32, 38, 32, 81]⟩ = (some ex1, 0, 0) := res_ok (r := [⟨5, ⟨#[]⟩, 14⟩]) (by kernel_rfl) (by kernel_rfl) (by kernel_rfl) (rightK_right (k := 8) (by kernel_rfl))
theorem ex1_e : eqF ex1 ex1 = true := by kernel_rfl
def ex2 : Fo := .mk 14 ⟨#[]⟩ [] [.mk 3 ⟨#[]⟩ [] [.mk 10 ⟨#[]⟩ [] [.mk 1 ⟨#[80]⟩ [] []]], .mk 14 ⟨#[]⟩ [] [.mk 1 ⟨#[81]⟩ [] [], .mk 1 ⟨#[82]⟩ [] []]]
theorem ex2_m : formRes true (rightB true) ⟨#[126, 91, 93, 80, 32, 117, 110, 116, 105, 108, 32, 81, 32, 117, 110, 116, 105, 108, 32, 82]⟩ = (some ex2, 0, 0) := res_ok (r := [⟨5, ⟨#[]⟩, 20⟩]) (by kernel_rfl) (by kernel_rfl) (by kernel_rfl) (rightK_right (k := 8) (by kernel_rfl))
theorem ex2_e : eqF ex2 ex2 = true := by kernel_rfl
def ex3 : Fo := .mk 7 ⟨#[]⟩ [] [.mk 7 ⟨#[]⟩ [] [.mk 6 ⟨#[]⟩ [] [.mk 1 ⟨#[80]⟩ [] [], .mk 1 ⟨#[81]⟩ [] []], .mk 1 ⟨#[82]⟩ [] []], .mk 1 ⟨#[83]⟩ [] []]
theorem ex3_m : formRes true (rightB true) ⟨#[80, 32, 45, 62, 32, 81, 32, 60, 45, 62, 32, 82, 32, 60, 45, 62, 32, 83]⟩ = (some ex3, 0, 0) := res_ok (r := [⟨5, ⟨#[]⟩, 18⟩]) (by kernel_rfl) (by kernel_rfl) (by kernel_rfl) (rightK_right (k := 8) (by kernel_rfl))
theorem ex3_e : eqF ex3 ex3 = true := by kernel_rfl
def ex4 : Fo := .mk 4 ⟨#[]⟩ [] [.mk 16 ⟨#[63, 65]⟩ [.mk true ⟨#[120]⟩ [], .mk true ⟨#[63, 116]⟩ []] [], .mk 9 ⟨#[120]⟩ [] [.mk 15 ⟨#[63, 65]⟩ [] []]]
theorem ex4_m : formRes true (rightB true) ⟨#[63, 65, 91, 63, 116, 47, 120, 93, 32, 38, 32, 115, 111, 109, 101, 32, 120, 32, 63, 65]⟩ = (some ex4, 0, 0) := res_ok (r := [⟨5, ⟨#[]⟩, 20⟩]) (by kernel_rfl) (by kernel_rfl) (by kernel_rfl) (rightK_right (k := 8) (by kernel_rfl))
theorem ex4_e : eqF ex4 ex4 = true := by kernel_rfl
theorem bad0_m : formRes false (rightB false) ⟨#[80, 32, 38]⟩ = (none, 3, 50) := by kernel_rfl
theorem bad1_m : formRes false (rightB false) ⟨#[80, 32, 81]⟩ = (none, 2, 50) := by kernel_rfl
theorem bad2_m : formRes false (rightB false) ⟨#[97, 108, 108, 32, 97, 32, 80]⟩ = (none, 4, 50) := by kernel_rfl
theorem bad3_m : formRes false (rightB false) ⟨#[80, 40]⟩ = (none, 2, 50) := by kernel_rfl
theorem bad4_m : formRes false (rightB false) ⟨#[80, 40, 41]⟩ = (none, 2, 50) := by kernel_rfl
theorem bad5_m : formRes false (rightB false) ⟨#[40, 80]⟩ = (none, 2, 50) := by kernel_rfl
theorem bad6_m : formRes false (rightB false) ⟨#[63, 65]⟩ = (none, 0, 50) := by kernel_rfl
theorem bad7_m : formRes false (rightB false) ⟨#[80, 40, 97, 44, 32, 97, 44, 32, 97, 44, 32, 97, 44, 32, 97, 41]⟩ = (none, 0, 3) := res_long (r := [⟨5, ⟨#[]⟩, 16⟩]) (f := .mk 1 ⟨#[80]⟩ [.mk false ⟨#[97]⟩ [], .mk false ⟨#[97]⟩ [], .mk false ⟨#[97]⟩ [], .mk false ⟨#[97]⟩ [], .mk false ⟨#[97]⟩ []] []) (by kernel_rfl) (by kernel_rfl) (by kernel_rfl) (rightK_right (k := 8) (by kernel_rfl))
theorem bad8_m : formRes false (rightB false) ⟨#[]⟩ = (none, 0, 50) := by kernel_rfl
theorem zero_e : eqF zeroF zeroF = true := by kernel_rfl
end Go.Proofs.YtkeckecdhcknhaaDoor.Ps
