/-
  The contracts of the statements' own SameTerms, SameForms and Same.
-/
import Derived.Test.YtdapnjnmhkdnpaaDoorFmClass
namespace Go.Proofs.YtdapnjnmhkdnpaaDoor.Fm
open Go Go.RowKit Go.Shelf
set_option linter.unusedVariables false
set_option linter.unusedSimpArgs false
mutual
def eqT : Tm → Tm → Bool
  | .mk v n l, .mk v' n' l' => (v == v') && (n.toList == n'.toList) && (decide (l.length = l'.length) && eqTL l l')
def eqTL : List Tm → List Tm → Bool
  | [], _ => true
  | _ :: _, [] => true
  | x :: xs, y :: ys => eqT x y && eqTL xs ys
end
mutual
def eqF : Fo → Fo → Bool
  | .mk o n l s, .mk o' n' l' s' => (o == o') && (n.toList == n'.toList) && (decide (l.length = l'.length) && eqTL l l') && (decide (s.length = s'.length) && eqFL s s')
def eqFL : List Fo → List Fo → Bool
  | [], _ => true
  | _ :: _, [] => true
  | x :: xs, y :: ys => eqF x y && eqFL xs ys
end
def eqTs (l m : List Tm) : Bool := decide (l.length = m.length) && eqTL l m
def eqFs (l m : List Fo) : Bool := decide (l.length = m.length) && eqFL l m
theorem eqT_eq (t u : Tm) : eqT t u = ((t.v == u.v) && (t.n.toList == u.n.toList) && eqTs t.args u.args) := by
  obtain ⟨v, n, l⟩ := t
  obtain ⟨v', n', l'⟩ := u
  rw [eqT]
  rfl
theorem eqF_eq (t u : Fo) : eqF t u = ((t.op == u.op) && (t.n.toList == u.n.toList) && eqTs t.args u.args && eqFs t.sub u.sub) := by
  obtain ⟨o, n, l, s⟩ := t
  obtain ⟨o', n', l', s'⟩ := u
  rw [eqF]
  rfl
theorem eqTL_step {l m : List Tm} {q : Nat} (h : q < l.length) (h' : q < m.length) : eqTL (l.drop q) (m.drop q) = (eqT l[q] m[q] && eqTL (l.drop (q + 1)) (m.drop (q + 1))) := by
  rw [List.drop_eq_getElem_cons h, List.drop_eq_getElem_cons h', eqTL]
theorem eqFL_step {l m : List Fo} {q : Nat} (h : q < l.length) (h' : q < m.length) : eqFL (l.drop q) (m.drop q) = (eqF l[q] m[q] && eqFL (l.drop (q + 1)) (m.drop (q + 1))) := by
  rw [List.drop_eq_getElem_cons h, List.drop_eq_getElem_cons h', eqFL]
def ERelT (l m : List Tm) (w : World) (i : Value) (wr : World) : Prop := ∃ q : Nat, i = .int .i64 (q : Int) ∧ q ≤ l.length ∧ Below w.heap.size w wr ∧ eqTL (l.drop q) (m.drop q) = eqTL l m
theorem sizeT_list {l : List Tm} {q : Nat} (h : q < l.length) : SizeOf.sizeOf l[q].args < SizeOf.sizeOf l := by
  have h1 : SizeOf.sizeOf l[q] < SizeOf.sizeOf l := List.sizeOf_lt_of_mem (List.getElem_mem h)
  have h2 : SizeOf.sizeOf l[q].args < SizeOf.sizeOf l[q] := by obtain ⟨v, n, args⟩ := l[q]; simp [Tm.args]; omega
  omega
set_option maxHeartbeats 2000000 in
theorem eqTs_c (N : Nat) : ∀ (l : List Tm), SizeOf.sizeOf l < N → ∀ (m : List Tm) (va vb : Value) (dn : Nat) (w : World), SlT dn w va l → SlT dn w vb m → dn ≤ w.heap.size →
    Calls Tryd.prog 31 #[va, vb] w fun e w' => e = .returned (.bool (eqTs l m)) ∧ Below w.heap.size w w' := by
  induction N with
  | zero => exact fun t h => absurd h (Nat.not_lt_zero _)
  | succ N ih =>
    intro l hN m va vb dn w ha hb hd
    obtain ⟨⟨sa, ka, rfl⟩, hla⟩ := ha.form
    obtain ⟨⟨sb, kb, rfl⟩, hlb⟩ := hb.form
    have HE := Lib.hid (show eqTs l m = (decide (l.length = m.length) && eqTL l m) from rfl)
    by_cases hlm : l.length = m.length
    · rw [decide_eq_true hlm, Bool.true_and] at HE
      have HLM := Lib.hid hlm
      have d0 : ((l.length : Int) != (m.length : Int)) = false := by rw [hlm]; simp
      have d00 : (l.length != m.length) = false := by rw [hlm]; simp
      clear hlm
      go_enter Tryd.func31, Tryd.ntmps31
      go_wp2_with fail
      clear d0 d00
      go_loopw [5] (fun i wr => ERelT l m w i wr) (fun i _ => l.length - (intOf i).toNat)
      case atStart => exact ⟨0, rfl, Nat.zero_le _, Below.refl _ _, by simp⟩
      case round =>
        obtain ⟨q, rfl, hq, hbq, hrest⟩ := hrel
        have HRE := Lib.hid hrest
        clear hrest
        by_cases hlt : q < l.length
        · have hltm : q < m.length := by have := HLM.out; omega
          obtain ⟨_, b, o, rfl, hbn, u0, u1, u2, c0, c1, c2, hu⟩ := (ha.below (hbq.mono hd) (Nat.le_refl _)).get hlt
          obtain ⟨_, b', o', rfl, hbn', v0, v1, v2, e0, e1, e2, hv⟩ := (hb.below (hbq.mono hd) (Nat.le_refl _)).get hltm
          have hdr : dn ≤ wr.heap.size := Nat.le_trans hd hbq.size
          have HST := Lib.hid (eqTL_step hlt hltm)
          have HQ := Lib.hid (eqT_eq l[q] m[q])
          have hsz := sizeT_list hlt
          have hcc := fun W (h : SlT dn W u2 l[q].args) (h' : SlT dn W v2 m[q].args) (h3 : dn ≤ W.heap.size) => ih l[q].args (by omega) m[q].args u2 v2 dn W h h' h3
          have HUA := Lib.hid hu.args
          have HVA := Lib.hid hv.args
          obtain ⟨⟨au, ku, hu2⟩, _⟩ := hu.args.form
          obtain ⟨⟨av, kv, hv2⟩, _⟩ := hv.args.form
          have z0 := hu.v
          have z1 := hu.nm
          have z2 := hv.v
          have z3 := hv.nm
          subst hu2 hv2 z0 z1 z2 z3
          clear hu hv hsz
          have HCC := Lib.hid (fun (p : InS (Below wr.heap.size wr)) => hcc p.w (HUA.out.below (p.h.mono hdr) (Nat.le_refl _)) (HVA.out.below (p.h.mono hdr) (Nat.le_refl _)) (Nat.le_trans hdr p.h.size))
          clear hcc HUA HVA
          haveI hne : Nonempty (InS (Below wr.heap.size wr)) := ⟨⟨_, Below.refl _ _⟩⟩
          have hcl : ∀ (p : InS (Below wr.heap.size wr)) (b q : Nat), b < dn → p.w.cell? ⟨b, q, none⟩ = wr.cell? ⟨b, q, none⟩ := fun p b q h => p.h.cell (p := ⟨b, q, none⟩) (show b < wr.heap.size by omega)
          have i1 := fun p => (hcl p b _ hbn).trans c1
          have j1 := fun p => (hcl p b' _ hbn').trans e1
          have i2 := fun p => (hcl p b _ hbn).trans c2
          have j2 := fun p => (hcl p b' _ hbn').trans e2
          by_cases hvv : l[q].v = m[q].v
          · have i0 := fun p => (hcl p b _ hbn).trans c0
            have e0' : wr.cell? ⟨b', o' + q * 3, none⟩ = some (.bool l[q].v) := by rw [hvv]; exact e0
            have j0 := fun p => (hcl p b' _ hbn').trans e0'
            rw [beq_iff_eq.2 hvv, Bool.true_and] at HQ
            clear e0' hvv hcl c0 c1 c2 e0 e1 e2
            cases hn : (l[q].n.toList == m[q].n.toList)
            · have HS2 := Lib.hid (show eqTL l m = false by rw [← HRE.out, HST.out, HQ.out, hn]; rfl)
              generalize l[q].v = xv at *
              go_wp2_with fail
              refine wp_region_class (Below wr.heap.size wr) (by kernel_rfl) (by kernel_rfl) (Below.drew (Below.refl _ _)) ?_
              repeat (go_big_quiet_step (fail))
              refine wpQuiet_nil ?_
              intro w2 hw'
              obtain ⟨⟨w3, hS2⟩, hw''⟩ := hw'
              have hw3 : w2 = w3 := hw''
              subst hw3
              have hb2 := hbq.trans (hS2.mono hbq.size)
              clear hw'' hS2
              go_wp2_with fail
              go_ret
              exact ⟨by rw [HE.out, HS2.out]; rfl, hb2⟩
            · cases hr : eqTs l[q].args m[q].args
              · have HS2 := Lib.hid (show eqTL l m = false by rw [← HRE.out, HST.out, HQ.out, hn, hr]; rfl)
                rw [hr] at HCC
                clear hr
                generalize l[q].v = xv at *
                go_wp2_with fail
                refine wp_region_class (Below wr.heap.size wr) (by kernel_rfl) (by kernel_rfl) (Below.drew (Below.refl _ _)) ?_
                repeat (go_big_quiet_step ((exact Calls.below_of (HCC.out _))))
                refine wpQuiet_nil ?_
                intro w2 hw'
                obtain ⟨⟨w3, hS2⟩, hw''⟩ := hw'
                have hw3 : w2 = w3 := hw''
                subst hw3
                have hb2 := hbq.trans (hS2.mono hbq.size)
                clear hw'' hS2
                go_wp2_with fail
                go_ret
                exact ⟨by rw [HE.out, HS2.out]; rfl, hb2⟩
              · have HS2 := Lib.hid (show eqTL (l.drop (q + 1)) (m.drop (q + 1)) = eqTL l m by rw [← HRE.out, HST.out, HQ.out, hn, hr]; rfl)
                rw [hr] at HCC
                clear hr
                generalize l[q].v = xv at *
                go_wp2_with fail
                refine wp_region_class (Below wr.heap.size wr) (by kernel_rfl) (by kernel_rfl) (Below.drew (Below.refl _ _)) ?_
                repeat (go_big_quiet_step ((exact Calls.below_of (HCC.out _))))
                refine wpQuiet_nil ?_
                intro w2 hw'
                obtain ⟨⟨w3, hS2⟩, hw''⟩ := hw'
                have hw3 : w2 = w3 := hw''
                subst hw3
                have hb2 := hbq.trans (hS2.mono hbq.size)
                clear hw'' hS2
                go_wp2_with fail
                exact ⟨⟨q + 1, by go_num, by omega, hb2, HS2.out⟩, by simp [intOf]; omega⟩
          · have HS2 := Lib.hid (show eqTL l m = false by rw [← HRE.out, HST.out, HQ.out, beq_eq_false_iff_ne.2 hvv]; rfl)
            have i0 := fun p => (hcl p b _ hbn).trans c0
            have j0 := fun p => (hcl p b' _ hbn').trans e0
            have hxy : (l[q].v = true ∧ m[q].v = false) ∨ (l[q].v = false ∧ m[q].v = true) := by
              cases h1 : l[q].v <;> cases h2 : m[q].v <;> simp_all
            clear hvv hcl c0 c1 c2 e0 e1 e2
            rcases hxy with ⟨hx, hy⟩ | ⟨hx, hy⟩
            all_goals rw [hx] at i0; rw [hy] at j0; clear hx hy
            all_goals
             go_wp2_with fail
             refine wp_region_class (Below wr.heap.size wr) (by kernel_rfl) (by kernel_rfl) (Below.drew (Below.refl _ _)) ?_
             repeat (go_big_quiet_step (fail))
             refine wpQuiet_nil ?_
             intro w2 hw'
             obtain ⟨⟨w3, hS2⟩, hw''⟩ := hw'
             have hw3 : w2 = w3 := hw''
             subst hw3
             have hb2 := hbq.trans (hS2.mono hbq.size)
             clear hw'' hS2
             go_wp2_with fail
             go_ret
             exact ⟨by rw [HE.out, HS2.out]; rfl, hb2⟩
        · have e : q = l.length := by omega
          have HF := Lib.hid (show eqTL l m = true by rw [← HRE.out, e, List.drop_length, eqTL])
          clear e
          go_wp2_with fail
          go_ret
          exact ⟨by rw [HE.out, HF.out]; rfl, hbq⟩
    · rw [decide_eq_false hlm, Bool.false_and] at HE
      have d0 : ((l.length : Int) != (m.length : Int)) = true := by rw [bne_iff_ne]; omega
      have d00 : (l.length != m.length) = true := by rw [bne_iff_ne]; exact hlm
      clear hlm
      go_enter Tryd.func31, Tryd.ntmps31
      go_wp2_with fail
      go_ret
      exact ⟨by rw [HE.out]; rfl, Below.refl _ _⟩
def ERelF (l m : List Fo) (w : World) (i : Value) (wr : World) : Prop := ∃ q : Nat, i = .int .i64 (q : Int) ∧ q ≤ l.length ∧ Below w.heap.size w wr ∧ eqFL (l.drop q) (m.drop q) = eqFL l m
set_option maxHeartbeats 1000000 in
theorem eqFs_c (l m : List Fo) (va vb : Value) (dn : Nat) (w : World) (ha : SlF dn w va l) (hb : SlF dn w vb m) (hd : dn ≤ w.heap.size)
    (hc : ∀ t ∈ l, ∀ (u : Fo) (x0 x1 x2 x3 y0 y1 y2 y3 : Value) (W : World), FoV dn W x0 x1 x2 x3 t → FoV dn W y0 y1 y2 y3 u → dn ≤ W.heap.size → Calls Tryd.prog 12 #[.agg #[x0, x1, x2, x3], .agg #[y0, y1, y2, y3]] W fun e w' => e = .returned (.bool (eqF t u)) ∧ Below W.heap.size W w') :
    Calls Tryd.prog 32 #[va, vb] w fun e w' => e = .returned (.bool (eqFs l m)) ∧ Below w.heap.size w w' := by
  obtain ⟨⟨sa, ka, rfl⟩, hla⟩ := ha.form
  obtain ⟨⟨sb, kb, rfl⟩, hlb⟩ := hb.form
  have HE := Lib.hid (show eqFs l m = (decide (l.length = m.length) && eqFL l m) from rfl)
  have HC := Lib.hid hc
  clear hc
  by_cases hlm : l.length = m.length
  · rw [decide_eq_true hlm, Bool.true_and] at HE
    have HLM := Lib.hid hlm
    have d0 : ((l.length : Int) != (m.length : Int)) = false := by rw [hlm]; simp
    have d00 : (l.length != m.length) = false := by rw [hlm]; simp
    clear hlm
    go_enter Tryd.func32, Tryd.ntmps32
    go_wp2_with fail
    clear d0 d00
    go_loopw [5] (fun i wr => ERelF l m w i wr) (fun i _ => l.length - (intOf i).toNat)
    case atStart => exact ⟨0, rfl, Nat.zero_le _, Below.refl _ _, by simp⟩
    case round =>
      obtain ⟨q, rfl, hq, hbq, hrest⟩ := hrel
      have HRE := Lib.hid hrest
      clear hrest
      by_cases hlt : q < l.length
      · have hltm : q < m.length := by have := HLM.out; omega
        obtain ⟨_, b, o, rfl, hbn, u0, u1, u2, u3, c0, c1, c2, c3, hu⟩ := (ha.below (hbq.mono hd) (Nat.le_refl _)).get hlt
        obtain ⟨_, b', o', rfl, hbn', v0, v1, v2, v3, e0, e1, e2, e3, hv⟩ := (hb.below (hbq.mono hd) (Nat.le_refl _)).get hltm
        have hdr : dn ≤ wr.heap.size := Nat.le_trans hd hbq.size
        have HST := Lib.hid (eqFL_step hlt hltm)
        have hcc := HC.out l[q] (List.getElem_mem hlt) m[q] u0 u1 u2 u3 v0 v1 v2 v3
        have HU := Lib.hid hu
        have HV := Lib.hid hv
        obtain ⟨⟨au, ku, hu2⟩, _⟩ := hu.args.form
        obtain ⟨⟨av, kv, hv2⟩, _⟩ := hv.args.form
        obtain ⟨⟨aw, kw, hu3⟩, _⟩ := hu.sub.form
        obtain ⟨⟨az, kz, hv3⟩, _⟩ := hv.sub.form
        have z0 := hu.op
        have z1 := hu.nm
        have z2 := hv.op
        have z3 := hv.nm
        subst hu2 hv2 hu3 hv3 z0 z1 z2 z3
        clear hu hv
        have HCC := Lib.hid (fun (p : InS (Below wr.heap.size wr)) => hcc p.w (HU.out.below (p.h.mono hdr) (Nat.le_refl _)) (HV.out.below (p.h.mono hdr) (Nat.le_refl _)) (Nat.le_trans hdr p.h.size))
        clear hcc
        haveI hne : Nonempty (InS (Below wr.heap.size wr)) := ⟨⟨_, Below.refl _ _⟩⟩
        have hcl : ∀ (p : InS (Below wr.heap.size wr)) (b q : Nat), b < dn → p.w.cell? ⟨b, q, none⟩ = wr.cell? ⟨b, q, none⟩ := fun p b q h => p.h.cell (p := ⟨b, q, none⟩) (show b < wr.heap.size by omega)
        have i0 := fun p => (hcl p b _ hbn).trans c0
        have j0 := fun p => (hcl p b' _ hbn').trans e0
        have i1 := fun p => (hcl p b _ hbn).trans c1
        have j1 := fun p => (hcl p b' _ hbn').trans e1
        have i2 := fun p => (hcl p b _ hbn).trans c2
        have j2 := fun p => (hcl p b' _ hbn').trans e2
        have i3 := fun p => (hcl p b _ hbn).trans c3
        have j3 := fun p => (hcl p b' _ hbn').trans e3
        clear hcl
        cases hr : eqF l[q] m[q]
        · have HS2 := Lib.hid (show eqFL l m = false by rw [← HRE.out, HST.out, hr]; rfl)
          rw [hr] at HCC
          clear hr
          go_wp2_with fail
          refine wp_region_class (Below wr.heap.size wr) (by kernel_rfl) (by kernel_rfl) (Below.drew (Below.refl _ _)) ?_
          repeat (go_big_quiet_step ((exact Calls.below_of (HCC.out _))))
          refine wpQuiet_nil ?_
          intro w2 hw'
          obtain ⟨⟨w3, hS2⟩, hw''⟩ := hw'
          have hw3 : w2 = w3 := hw''
          subst hw3
          have hb2 := hbq.trans (hS2.mono hbq.size)
          clear hw'' hS2
          go_wp2_with fail
          go_ret
          exact ⟨by rw [HE.out, HS2.out]; rfl, hb2⟩
        · have HS2 := Lib.hid (show eqFL (l.drop (q + 1)) (m.drop (q + 1)) = eqFL l m by rw [← HRE.out, HST.out, hr]; rfl)
          rw [hr] at HCC
          clear hr
          go_wp2_with fail
          refine wp_region_class (Below wr.heap.size wr) (by kernel_rfl) (by kernel_rfl) (Below.drew (Below.refl _ _)) ?_
          repeat (go_big_quiet_step ((exact Calls.below_of (HCC.out _))))
          refine wpQuiet_nil ?_
          intro w2 hw'
          obtain ⟨⟨w3, hS2⟩, hw''⟩ := hw'
          have hw3 : w2 = w3 := hw''
          subst hw3
          have hb2 := hbq.trans (hS2.mono hbq.size)
          clear hw'' hS2
          go_wp2_with fail
          exact ⟨⟨q + 1, by go_num, by omega, hb2, HS2.out⟩, by simp [intOf]; omega⟩
      · have e : q = l.length := by omega
        have HF := Lib.hid (show eqFL l m = true by rw [← HRE.out, e, List.drop_length, eqFL])
        clear e
        go_wp2_with fail
        go_ret
        exact ⟨by rw [HE.out, HF.out]; rfl, hbq⟩
  · rw [decide_eq_false hlm, Bool.false_and] at HE
    have d0 : ((l.length : Int) != (m.length : Int)) = true := by rw [bne_iff_ne]; omega
    have d00 : (l.length != m.length) = true := by rw [bne_iff_ne]; exact hlm
    clear hlm
    go_enter Tryd.func32, Tryd.ntmps32
    go_wp2_with fail
    go_ret
    exact ⟨by rw [HE.out]; rfl, Below.refl _ _⟩
theorem two_boxesE (w : World) (c d : Array Value) (t : TypeId) : (∀ q, ((w.alloc (.cells c t)).alloc (.cells d t)).cell? ⟨w.heap.size, q, none⟩ = c[q]?) ∧ (∀ q, ((w.alloc (.cells c t)).alloc (.cells d t)).cell? ⟨w.heap.size + 1, q, none⟩ = d[q]?) := by
  have h1 : (w.alloc (.cells c t)).heap.size = w.heap.size + 1 := by simp
  refine ⟨fun q => ?_, fun q => ?_⟩
  · rw [((Below.refl _ _).alloc (Nat.le_refl _) (.cells d t)).cell (p := ⟨w.heap.size, q, none⟩) (by rw [h1]; show w.heap.size < _; omega), World.cell?_alloc_at _ _ _ _ rfl]
  · rw [World.cell?_alloc_at _ _ _ _ h1.symm]
set_option maxHeartbeats 1000000 in
theorem eqF_c (N : Nat) : ∀ (t : Fo), SizeOf.sizeOf t < N → ∀ (u : Fo) (x0 x1 x2 x3 y0 y1 y2 y3 : Value) (dn : Nat) (w : World), FoV dn w x0 x1 x2 x3 t → FoV dn w y0 y1 y2 y3 u → dn ≤ w.heap.size →
    Calls Tryd.prog 12 #[.agg #[x0, x1, x2, x3], .agg #[y0, y1, y2, y3]] w fun e w' => e = .returned (.bool (eqF t u)) ∧ Below w.heap.size w w' := by
  induction N with
  | zero => exact fun t h => absurd h (Nat.not_lt_zero _)
  | succ N ih =>
    intro t hN u x0 x1 x2 x3 y0 y1 y2 y3 dn w ht hu hd
    have HE := Lib.hid (eqF_eq t u)
    have hb0 : Below w.heap.size w ((w.alloc (.cells #[x0, x1, x2, x3] 25)).alloc (.cells #[y0, y1, y2, y3] 25)) := ((Below.refl _ _).alloc (Nat.le_refl _) _).alloc (by simp) _
    have h2 := two_boxesE w #[x0, x1, x2, x3] #[y0, y1, y2, y3] 25
    obtain ⟨rfl, hop, rfl, _, ha, hs⟩ := ht
    obtain ⟨rfl, hop', rfl, _, hb, hs'⟩ := hu
    obtain ⟨⟨sa, ka, rfl⟩, hla⟩ := ha.form
    obtain ⟨⟨sb, kb, rfl⟩, hlb⟩ := hb.form
    obtain ⟨⟨sc, kc, rfl⟩, hlc⟩ := hs.form
    obtain ⟨⟨sd, kd, rfl⟩, hld⟩ := hs'.form
    have HA := Lib.hid (fun W (h : Below w.heap.size w W) => eqTs_c (SizeOf.sizeOf t.args + 1) t.args (Nat.lt_succ_self _) u.args _ _ dn W (ha.below h hd) (hb.below h hd) (Nat.le_trans hd h.size))
    have HF := Lib.hid (fun W (h : Below w.heap.size w W) => eqFs_c t.sub u.sub _ _ dn W (hs.below h hd) (hs'.below h hd) (Nat.le_trans hd h.size) fun t' ht' u' x0 x1 x2 x3 y0 y1 y2 y3 W h1 h2 h3 => by
      obtain ⟨q, hq, rfl⟩ := List.getElem_of_mem ht'
      exact ih _ (by have := size_sub t q hq; omega) u' x0 x1 x2 x3 y0 y1 y2 y3 dn W h1 h2 h3)
    have H2 := Lib.hid h2
    clear ha hb hs hs' ih h2
    cases h1 : (t.op == u.op)
    · rw [h1] at HE
      go_enter Tryd.func12, Tryd.ntmps12
      go_wp2_with fail
      go_ret
      exact ⟨by rw [HE.out]; rfl, hb0⟩
    · rw [h1] at HE
      cases h2 : (t.n.toList == u.n.toList)
      · rw [h2] at HE
        go_enter Tryd.func12, Tryd.ntmps12
        go_wp2_with fail
        go_ret
        exact ⟨by rw [HE.out]; rfl, hb0⟩
      · rw [h2] at HE
        cases h3 : eqTs t.args u.args
        · rw [h3] at HE HA
          clear h3
          go_enter Tryd.func12, Tryd.ntmps12
          go_wp2_with fail
          refine (HA.out _ hb0).mono ?_
          rintro e w1 ⟨rfl, hb1⟩
          have hb2 := hb0.trans (hb1.mono (by simp; omega))
          clear hb1
          go_wp2_with fail
          go_ret
          exact ⟨by rw [HE.out]; rfl, hb2⟩
        · rw [h3] at HE HA
          clear h3
          generalize eqFs t.sub u.sub = r at *
          go_enter Tryd.func12, Tryd.ntmps12
          go_wp2_with fail
          refine (HA.out _ hb0).mono ?_
          rintro e w1 ⟨rfl, hb1⟩
          have c3 := (hb1.cell (p := ⟨w.heap.size, 3, none⟩) (by simp; omega)).trans (H2.out.1 3)
          have d3 := (hb1.cell (p := ⟨w.heap.size + 1, 3, none⟩) (by simp)).trans (H2.out.2 3)
          simp only [List.getElem?_toArray, List.getElem?_cons_zero, List.getElem?_cons_succ] at c3 d3
          have hb2 := hb0.trans (hb1.mono (by simp; omega))
          have HF2 := Lib.hid (HF.out _ hb2)
          clear hb1
          go_wp2_with fail
          refine HF2.out.mono ?_
          rintro e w2 ⟨rfl, hb3⟩
          have hb4 := hb2.trans (hb3.mono hb2.size)
          clear hb3 c3 d3
          go_wp2_with fail
          go_ret
          exact ⟨by rw [HE.out]; simp, hb4⟩
end Go.Proofs.YtdapnjnmhkdnpaaDoor.Fm
