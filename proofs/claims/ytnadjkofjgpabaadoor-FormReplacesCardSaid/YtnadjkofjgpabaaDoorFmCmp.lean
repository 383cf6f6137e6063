/-
  The contracts of cmp.Compare at three types.
-/
import Derived.Test.YtnadjkofjgpabaaDoorFmClass
import Derived.WalkLawsBesides
namespace Go.Proofs.YtnadjkofjgpabaaDoor.Fm
open Go Go.RowKit Go.Shelf
set_option linter.unusedVariables false
set_option linter.unusedSimpArgs false
theorem nan8_c (a : Int) (w : World) : Calls Tryd.prog 59 #[.int .u8 a] w fun e w' => e = .returned (.bool false) ∧ w = w' := by
  go_enter Tryd.func59, Tryd.ntmps59
  go_wp2_with fail
  go_ret
  exact ⟨by simp, rfl⟩
theorem nani_c (a : Int) (w : World) : Calls Tryd.prog 78 #[.int .i64 a] w fun e w' => e = .returned (.bool false) ∧ w = w' := by
  go_enter Tryd.func78, Tryd.ntmps78
  go_wp2_with fail
  go_ret
  exact ⟨by simp, rfl⟩
theorem nans_c (a : ByteArray) (w : World) : Calls Tryd.prog 60 #[.string a] w fun e w' => e = .returned (.bool false) ∧ w = w' := by
  go_enter Tryd.func60, Tryd.ntmps60
  go_wp2_with fail
  go_ret
  exact ⟨by simp, rfl⟩
def cmpS (a b : ByteArray) : Int := if Op.bytesLess a.toList b.toList = true then -1 else if (a.toList == b.toList) = true then 0 else 1
def cmpI (a b : Int) : Int := if a < b then -1 else if b < a then 1 else 0
theorem cmps_c (a b : ByteArray) (w : World) : Calls Tryd.prog 33 #[.string a, .string b] w fun e w' => e = .returned (.int .i64 (cmpS a b)) ∧ w = w' := by
  have HE := Lib.hid (show cmpS a b = if Op.bytesLess a.toList b.toList = true then -1 else if (a.toList == b.toList) = true then 0 else 1 from rfl)
  cases h1 : Op.bytesLess a.toList b.toList
  · cases h2 : (a.toList == b.toList)
    all_goals
      rw [h1, h2] at HE
      go_enter Tryd.func33, Tryd.ntmps33
      go_wp2_with (first | (go_at_call 60; refine (nans_c _ _).mono ?_; rintro e w' ⟨rfl, rfl⟩))
      go_ret
      exact ⟨by rw [HE.out]; rfl, rfl⟩
  · rw [h1] at HE
    go_enter Tryd.func33, Tryd.ntmps33
    go_wp2_with (first | (go_at_call 60; refine (nans_c _ _).mono ?_; rintro e w' ⟨rfl, rfl⟩))
    go_ret
    exact ⟨by rw [HE.out]; rfl, rfl⟩
theorem cmpi_c (a b : Int) (w : World) : Calls Tryd.prog 61 #[.int .i64 a, .int .i64 b] w fun e w' => e = .returned (.int .i64 (cmpI a b)) ∧ w = w' := by
  have HE := Lib.hid (show cmpI a b = if a < b then -1 else if b < a then 1 else 0 from rfl)
  by_cases h1 : a < b
  · rw [if_pos h1] at HE
    go_enter Tryd.func61, Tryd.ntmps61
    go_wp2_with (first | (go_at_call 78; refine (nani_c _ _).mono ?_; rintro e w' ⟨rfl, rfl⟩))
    go_ret
    exact ⟨by rw [HE.out]; rfl, rfl⟩
  · rw [if_neg h1] at HE
    by_cases h2 : b < a
    · rw [if_pos h2] at HE
      go_enter Tryd.func61, Tryd.ntmps61
      go_wp2_with (first | (go_at_call 78; refine (nani_c _ _).mono ?_; rintro e w' ⟨rfl, rfl⟩))
      go_ret
      exact ⟨by rw [HE.out]; rfl, rfl⟩
    · rw [if_neg h2] at HE
      go_enter Tryd.func61, Tryd.ntmps61
      go_wp2_with (first | (go_at_call 78; refine (nani_c _ _).mono ?_; rintro e w' ⟨rfl, rfl⟩))
      go_ret
      exact ⟨by rw [HE.out]; rfl, rfl⟩
theorem cmp8_c (a b : Int) (w : World) : Calls Tryd.prog 32 #[.int .u8 a, .int .u8 b] w fun e w' => e = .returned (.int .i64 (cmpI a b)) ∧ w = w' := by
  have HE := Lib.hid (show cmpI a b = if a < b then -1 else if b < a then 1 else 0 from rfl)
  by_cases h1 : a < b
  · rw [if_pos h1] at HE
    go_enter Tryd.func32, Tryd.ntmps32
    go_wp2_with (first | (go_at_call 59; refine (nan8_c _ _).mono ?_; rintro e w' ⟨rfl, rfl⟩))
    go_ret
    exact ⟨by rw [HE.out]; rfl, rfl⟩
  · rw [if_neg h1] at HE
    by_cases h2 : b < a
    · rw [if_pos h2] at HE
      go_enter Tryd.func32, Tryd.ntmps32
      go_wp2_with (first | (go_at_call 59; refine (nan8_c _ _).mono ?_; rintro e w' ⟨rfl, rfl⟩))
      go_ret
      exact ⟨by rw [HE.out]; rfl, rfl⟩
    · rw [if_neg h2] at HE
      go_enter Tryd.func32, Tryd.ntmps32
      go_wp2_with (first | (go_at_call 59; refine (nan8_c _ _).mono ?_; rintro e w' ⟨rfl, rfl⟩))
      go_ret
      exact ⟨by rw [HE.out]; rfl, rfl⟩
mutual
def cmpT : Tm → Tm → Int
  | .mk v n l, .mk v' n' l' => if v = v' then (if cmpS n n' = 0 then (if cmpI l.length l'.length = 0 then cmpTL l l' else cmpI l.length l'.length) else cmpS n n') else if v then -1 else 1
def cmpTL : List Tm → List Tm → Int
  | [], _ => 0
  | _ :: _, [] => 0
  | x :: xs, y :: ys => if cmpT x y = 0 then cmpTL xs ys else cmpT x y
end
mutual
def cmpF : Fo → Fo → Int
  | .mk o n l s, .mk o' n' l' s' => if cmpI o o' = 0 then (if cmpS n n' = 0 then (if (if cmpI l.length l'.length = 0 then cmpTL l l' else cmpI l.length l'.length) = 0 then (if cmpI s.length s'.length = 0 then cmpFL s s' else cmpI s.length s'.length)
      else (if cmpI l.length l'.length = 0 then cmpTL l l' else cmpI l.length l'.length)) else cmpS n n') else cmpI o o'
def cmpFL : List Fo → List Fo → Int
  | [], _ => 0
  | _ :: _, [] => 0
  | x :: xs, y :: ys => if cmpF x y = 0 then cmpFL xs ys else cmpF x y
end
def cmpTs (l m : List Tm) : Int := if cmpI l.length m.length = 0 then cmpTL l m else cmpI l.length m.length
def cmpFs (l m : List Fo) : Int := if cmpI l.length m.length = 0 then cmpFL l m else cmpI l.length m.length
theorem cmpT_eq (t u : Tm) : cmpT t u = if t.v = u.v then (if cmpS t.n u.n = 0 then cmpTs t.args u.args else cmpS t.n u.n) else if t.v then -1 else 1 := by
  obtain ⟨v, n, l⟩ := t
  obtain ⟨v', n', l'⟩ := u
  rw [cmpT]
  rfl
theorem cmpF_eq (t u : Fo) : cmpF t u = if cmpI t.op u.op = 0 then (if cmpS t.n u.n = 0 then (if cmpTs t.args u.args = 0 then cmpFs t.sub u.sub else cmpTs t.args u.args) else cmpS t.n u.n) else cmpI t.op u.op := by
  obtain ⟨o, n, l, s⟩ := t
  obtain ⟨o', n', l', s'⟩ := u
  rw [cmpF]
  rfl
theorem cmpTL_step {l m : List Tm} {q : Nat} (h : q < l.length) (h' : q < m.length) : cmpTL (l.drop q) (m.drop q) = if cmpT l[q] m[q] = 0 then cmpTL (l.drop (q + 1)) (m.drop (q + 1)) else cmpT l[q] m[q] := by
  rw [List.drop_eq_getElem_cons h, List.drop_eq_getElem_cons h', cmpTL]
theorem cmpFL_step {l m : List Fo} {q : Nat} (h : q < l.length) (h' : q < m.length) : cmpFL (l.drop q) (m.drop q) = if cmpF l[q] m[q] = 0 then cmpFL (l.drop (q + 1)) (m.drop (q + 1)) else cmpF l[q] m[q] := by
  rw [List.drop_eq_getElem_cons h, List.drop_eq_getElem_cons h', cmpFL]
theorem cmpI_zero {a b : Int} : cmpI a b = 0 ↔ a = b := by
  unfold cmpI
  constructor
  · intro h; split at h <;> try split at h
    all_goals first | omega | cases h
  · rintro rfl; simp
def CRelT (l m : List Tm) (w : World) (i : Value) (wr : World) : Prop := ∃ q : Nat, i = .int .i64 (q : Int) ∧ q ≤ l.length ∧ Below w.heap.size w wr ∧ cmpTL (l.drop q) (m.drop q) = cmpTL l m
set_option maxHeartbeats 1000000 in
theorem cmpLT_c (l m : List Tm) (va vb : Value) (dn : Nat) (w : World) (ha : SlT dn w va l) (hb : SlT dn w vb m) (hd : dn ≤ w.heap.size)
    (hc : ∀ t ∈ l, ∀ (u : Tm) (x0 x1 x2 y0 y1 y2 : Value) (W : World), TmV dn W x0 x1 x2 t → TmV dn W y0 y1 y2 u → dn ≤ W.heap.size → Calls Tryd.prog 35 #[.agg #[x0, x1, x2], .agg #[y0, y1, y2]] W fun e w' => e = .returned (.int .i64 (cmpT t u)) ∧ Below W.heap.size W w') :
    Calls Tryd.prog 34 #[va, vb, .func (.func 35) #[] #[]] w fun e w' => e = .returned (.int .i64 (cmpTs l m)) ∧ Below w.heap.size w w' := by
  obtain ⟨⟨sa, ka, rfl⟩, hla⟩ := ha.form
  obtain ⟨⟨sb, kb, rfl⟩, hlb⟩ := hb.form
  have HE := Lib.hid (show cmpTs l m = if cmpI l.length m.length = 0 then cmpTL l m else cmpI l.length m.length from rfl)
  have HI := Lib.hid (fun w => cmpi_c (l.length : Int) (m.length : Int) w)
  have HC := Lib.hid hc
  clear hc
  by_cases h0 : cmpI l.length m.length = 0
  · have HLM := Lib.hid (show l.length = m.length from Int.ofNat.inj (cmpI_zero.1 h0))
    rw [if_pos h0] at HE
    rw [h0] at HI
    clear h0
    go_enter Tryd.func34, Tryd.ntmps34
    go_wp2_with (go_at_call 61; refine (HI.out _).mono ?_; rintro e w' ⟨rfl, rfl⟩)
    go_loopw [20] (fun i wr => CRelT l m w i wr) (fun i _ => l.length - (intOf i).toNat)
    case atStart => exact ⟨0, rfl, Nat.zero_le _, Below.refl _ _, by simp⟩
    case round =>
      obtain ⟨q, rfl, hq, hbq, hrest⟩ := hrel
      have HRE := Lib.hid hrest
      clear hrest
      by_cases hlt : q < l.length
      · have hltm : q < m.length := by have := HLM.out; omega
        obtain ⟨_, b, o, rfl, hbn, u0, u1, u2, c0, c1, c2, hu⟩ := (ha.below (hbq.mono hd) (Nat.le_refl _)).get hlt
        obtain ⟨_, b', o', rfl, hbn', v0, v1, v2, e0, e1, e2, hv⟩ := (hb.below (hbq.mono hd) (Nat.le_refl _)).get hltm
        have hdr : dn ≤ wr.heap.size := Nat.le_trans hd hbq.size
        have HST := Lib.hid (cmpTL_step hlt hltm)
        have hcc := HC.out l[q] (List.getElem_mem hlt) m[q] u0 u1 u2 v0 v1 v2
        have HU := Lib.hid hu
        have HV := Lib.hid hv
        obtain ⟨⟨au, ku, hu2⟩, _⟩ := hu.args.form
        obtain ⟨⟨av, kv, hv2⟩, _⟩ := hv.args.form
        have z0 := hu.v
        have z1 := hu.nm
        have z2 := hv.v
        have z3 := hv.nm
        subst hu2 hv2 z0 z1 z2 z3
        clear hu hv
        have HCC := Lib.hid (fun (p : InS (Below wr.heap.size wr)) => hcc p.w (HU.out.below (p.h.mono hdr) (Nat.le_refl _)) (HV.out.below (p.h.mono hdr) (Nat.le_refl _)) (Nat.le_trans hdr p.h.size))
        clear hcc
        haveI hne : Nonempty (InS (Below wr.heap.size wr)) := ⟨⟨_, Below.refl _ _⟩⟩
        have hcl : ∀ (p : InS (Below wr.heap.size wr)) (b q : Nat), b < dn → p.w.cell? ⟨b, q, none⟩ = wr.cell? ⟨b, q, none⟩ := fun p b q h => p.h.cell (p := ⟨b, q, none⟩) (show b < wr.heap.size by omega)
        have i0 := fun p => (hcl p b _ hbn).trans c0
        have j0 := fun p => (hcl p b' _ hbn').trans e0
        have i1 := fun p => (hcl p b _ hbn).trans c1
        have j1 := fun p => (hcl p b' _ hbn').trans e1
        have i2 := fun p => (hcl p b _ hbn).trans c2
        have j2 := fun p => (hcl p b' _ hbn').trans e2
        clear hcl
        cases hr : decide (cmpT l[q] m[q] = 0)
        · have hr0 : cmpT l[q] m[q] ≠ 0 := by simpa using hr
          have hrb : (cmpT l[q] m[q] == 0) = false := beq_eq_false_iff_ne.2 hr0
          have hrb2 : (cmpT l[q] m[q] != 0) = true := by simpa using hr0
          have HS2 := Lib.hid (HRE.out.symm.trans (HST.out.trans (if_neg hr0)))
          clear hr hr0
          generalize cmpT l[q] m[q] = r at *
          go_wp2_with fail
          refine wp_region_class (Below wr.heap.size wr) (by kernel_rfl) (by kernel_rfl) (Below.drew (Below.refl _ _)) ?_
          repeat (go_big_quiet_step ((exact Calls.below_of (HCC.out _))))
          refine wpQuiet_nil ?_
          intro w2 hw'
          obtain ⟨⟨w3, hS2⟩, hw''⟩ := hw'
          have hw3 : w2 = w3 := hw''
          subst hw3
          have hb2 := hbq.trans (hS2.mono hbq.size)
          clear hw'' hS2
          go_wp2_with fail
          go_ret
          exact ⟨by rw [HE.out, HS2.out]; rfl, hb2⟩
        · have hr0 : cmpT l[q] m[q] = 0 := by simpa using hr
          have HS2 := Lib.hid ((HST.out.trans (if_pos hr0)).symm.trans HRE.out)
          rw [hr0] at HCC
          clear hr hr0
          go_wp2_with fail
          refine wp_region_class (Below wr.heap.size wr) (by kernel_rfl) (by kernel_rfl) (Below.drew (Below.refl _ _)) ?_
          repeat (go_big_quiet_step ((exact Calls.below_of (HCC.out _))))
          refine wpQuiet_nil ?_
          intro w2 hw'
          obtain ⟨⟨w3, hS2⟩, hw''⟩ := hw'
          have hw3 : w2 = w3 := hw''
          subst hw3
          have hb2 := hbq.trans (hS2.mono hbq.size)
          clear hw'' hS2
          go_wp2_with fail
          exact ⟨⟨q + 1, by go_num, by omega, hb2, HS2.out⟩, by simp [intOf]; omega⟩
      · have e : q = l.length := by omega
        have HF := Lib.hid (show cmpTL l m = 0 by rw [← HRE.out, e, List.drop_length, cmpTL])
        clear e
        go_wp2_with fail
        go_ret
        exact ⟨by rw [HE.out, HF.out]; rfl, hbq⟩
  · have hb0 : (cmpI l.length m.length != 0) = true := by simpa using h0
    rw [if_neg h0] at HE
    clear h0
    generalize cmpI l.length m.length = r at *
    go_enter Tryd.func34, Tryd.ntmps34
    go_wp2_with (go_at_call 61; refine (HI.out _).mono ?_; rintro e w' ⟨rfl, rfl⟩)
    go_ret
    exact ⟨by rw [HE.out]; rfl, Below.refl _ _⟩
def CRelF (l m : List Fo) (w : World) (i : Value) (wr : World) : Prop := ∃ q : Nat, i = .int .i64 (q : Int) ∧ q ≤ l.length ∧ Below w.heap.size w wr ∧ cmpFL (l.drop q) (m.drop q) = cmpFL l m
set_option maxHeartbeats 1000000 in
theorem cmpLF_c (l m : List Fo) (va vb : Value) (dn : Nat) (w : World) (ha : SlF dn w va l) (hb : SlF dn w vb m) (hd : dn ≤ w.heap.size)
    (hc : ∀ t ∈ l, ∀ (u : Fo) (x0 x1 x2 x3 y0 y1 y2 y3 : Value) (W : World), FoV dn W x0 x1 x2 x3 t → FoV dn W y0 y1 y2 y3 u → dn ≤ W.heap.size → Calls Tryd.prog 9 #[.agg #[x0, x1, x2, x3], .agg #[y0, y1, y2, y3]] W fun e w' => e = .returned (.int .i64 (cmpF t u)) ∧ Below W.heap.size W w') :
    Calls Tryd.prog 36 #[va, vb, .func (.func 9) #[] #[]] w fun e w' => e = .returned (.int .i64 (cmpFs l m)) ∧ Below w.heap.size w w' := by
  obtain ⟨⟨sa, ka, rfl⟩, hla⟩ := ha.form
  obtain ⟨⟨sb, kb, rfl⟩, hlb⟩ := hb.form
  have HE := Lib.hid (show cmpFs l m = if cmpI l.length m.length = 0 then cmpFL l m else cmpI l.length m.length from rfl)
  have HI := Lib.hid (fun w => cmpi_c (l.length : Int) (m.length : Int) w)
  have HC := Lib.hid hc
  clear hc
  by_cases h0 : cmpI l.length m.length = 0
  · have HLM := Lib.hid (show l.length = m.length from Int.ofNat.inj (cmpI_zero.1 h0))
    rw [if_pos h0] at HE
    rw [h0] at HI
    clear h0
    go_enter Tryd.func36, Tryd.ntmps36
    go_wp2_with (go_at_call 61; refine (HI.out _).mono ?_; rintro e w' ⟨rfl, rfl⟩)
    go_loopw [20] (fun i wr => CRelF l m w i wr) (fun i _ => l.length - (intOf i).toNat)
    case atStart => exact ⟨0, rfl, Nat.zero_le _, Below.refl _ _, by simp⟩
    case round =>
      obtain ⟨q, rfl, hq, hbq, hrest⟩ := hrel
      have HRE := Lib.hid hrest
      clear hrest
      by_cases hlt : q < l.length
      · have hltm : q < m.length := by have := HLM.out; omega
        obtain ⟨_, b, o, rfl, hbn, u0, u1, u2, u3, c0, c1, c2, c3, hu⟩ := (ha.below (hbq.mono hd) (Nat.le_refl _)).get hlt
        obtain ⟨_, b', o', rfl, hbn', v0, v1, v2, v3, e0, e1, e2, e3, hv⟩ := (hb.below (hbq.mono hd) (Nat.le_refl _)).get hltm
        have hdr : dn ≤ wr.heap.size := Nat.le_trans hd hbq.size
        have HST := Lib.hid (cmpFL_step hlt hltm)
        have hcc := HC.out l[q] (List.getElem_mem hlt) m[q] u0 u1 u2 u3 v0 v1 v2 v3
        have HU := Lib.hid hu
        have HV := Lib.hid hv
        obtain ⟨⟨au, ku, hu2⟩, _⟩ := hu.args.form
        obtain ⟨⟨av, kv, hv2⟩, _⟩ := hv.args.form
        obtain ⟨⟨aw, kw, hu3⟩, _⟩ := hu.sub.form
        obtain ⟨⟨az, kz, hv3⟩, _⟩ := hv.sub.form
        have z0 := hu.op
        have z1 := hu.nm
        have z2 := hv.op
        have z3 := hv.nm
        subst hu2 hv2 hu3 hv3 z0 z1 z2 z3
        clear hu hv
        have HCC := Lib.hid (fun (p : InS (Below wr.heap.size wr)) => hcc p.w (HU.out.below (p.h.mono hdr) (Nat.le_refl _)) (HV.out.below (p.h.mono hdr) (Nat.le_refl _)) (Nat.le_trans hdr p.h.size))
        clear hcc
        haveI hne : Nonempty (InS (Below wr.heap.size wr)) := ⟨⟨_, Below.refl _ _⟩⟩
        have hcl : ∀ (p : InS (Below wr.heap.size wr)) (b q : Nat), b < dn → p.w.cell? ⟨b, q, none⟩ = wr.cell? ⟨b, q, none⟩ := fun p b q h => p.h.cell (p := ⟨b, q, none⟩) (show b < wr.heap.size by omega)
        have i0 := fun p => (hcl p b _ hbn).trans c0
        have j0 := fun p => (hcl p b' _ hbn').trans e0
        have i1 := fun p => (hcl p b _ hbn).trans c1
        have j1 := fun p => (hcl p b' _ hbn').trans e1
        have i2 := fun p => (hcl p b _ hbn).trans c2
        have j2 := fun p => (hcl p b' _ hbn').trans e2
        have i3 := fun p => (hcl p b _ hbn).trans c3
        have j3 := fun p => (hcl p b' _ hbn').trans e3
        clear hcl
        cases hr : decide (cmpF l[q] m[q] = 0)
        · have hr0 : cmpF l[q] m[q] ≠ 0 := by simpa using hr
          have hrb : (cmpF l[q] m[q] == 0) = false := beq_eq_false_iff_ne.2 hr0
          have hrb2 : (cmpF l[q] m[q] != 0) = true := by simpa using hr0
          have HS2 := Lib.hid (HRE.out.symm.trans (HST.out.trans (if_neg hr0)))
          clear hr hr0
          generalize cmpF l[q] m[q] = r at *
          go_wp2_with fail
          refine wp_region_class (Below wr.heap.size wr) (by kernel_rfl) (by kernel_rfl) (Below.drew (Below.refl _ _)) ?_
          repeat (go_big_quiet_step ((exact Calls.below_of (HCC.out _))))
          refine wpQuiet_nil ?_
          intro w2 hw'
          obtain ⟨⟨w3, hS2⟩, hw''⟩ := hw'
          have hw3 : w2 = w3 := hw''
          subst hw3
          have hb2 := hbq.trans (hS2.mono hbq.size)
          clear hw'' hS2
          go_wp2_with fail
          go_ret
          exact ⟨by rw [HE.out, HS2.out]; rfl, hb2⟩
        · have hr0 : cmpF l[q] m[q] = 0 := by simpa using hr
          have HS2 := Lib.hid ((HST.out.trans (if_pos hr0)).symm.trans HRE.out)
          rw [hr0] at HCC
          clear hr hr0
          go_wp2_with fail
          refine wp_region_class (Below wr.heap.size wr) (by kernel_rfl) (by kernel_rfl) (Below.drew (Below.refl _ _)) ?_
          repeat (go_big_quiet_step ((exact Calls.below_of (HCC.out _))))
          refine wpQuiet_nil ?_
          intro w2 hw'
          obtain ⟨⟨w3, hS2⟩, hw''⟩ := hw'
          have hw3 : w2 = w3 := hw''
          subst hw3
          have hb2 := hbq.trans (hS2.mono hbq.size)
          clear hw'' hS2
          go_wp2_with fail
          exact ⟨⟨q + 1, by go_num, by omega, hb2, HS2.out⟩, by simp [intOf]; omega⟩
      · have e : q = l.length := by omega
        have HF := Lib.hid (show cmpFL l m = 0 by rw [← HRE.out, e, List.drop_length, cmpFL])
        clear e
        go_wp2_with fail
        go_ret
        exact ⟨by rw [HE.out, HF.out]; rfl, hbq⟩
  · have hb0 : (cmpI l.length m.length != 0) = true := by simpa using h0
    rw [if_neg h0] at HE
    clear h0
    generalize cmpI l.length m.length = r at *
    go_enter Tryd.func36, Tryd.ntmps36
    go_wp2_with (go_at_call 61; refine (HI.out _).mono ?_; rintro e w' ⟨rfl, rfl⟩)
    go_ret
    exact ⟨by rw [HE.out]; rfl, Below.refl _ _⟩
set_option maxHeartbeats 1000000 in
theorem cmpT_c (N : Nat) : ∀ (t : Tm), SizeOf.sizeOf t < N → ∀ (u : Tm) (x0 x1 x2 y0 y1 y2 : Value) (dn : Nat) (w : World), TmV dn w x0 x1 x2 t → TmV dn w y0 y1 y2 u → dn ≤ w.heap.size →
    Calls Tryd.prog 35 #[.agg #[x0, x1, x2], .agg #[y0, y1, y2]] w fun e w' => e = .returned (.int .i64 (cmpT t u)) ∧ Below w.heap.size w w' := by
  induction N with
  | zero => exact fun t h => absurd h (Nat.not_lt_zero _)
  | succ N ih =>
    intro t hN u x0 x1 x2 y0 y1 y2 dn w ht hu hd
    have HE := Lib.hid (cmpT_eq t u)
    have hb0 : Below w.heap.size w ((w.alloc (.cells #[x0, x1, x2] 50)).alloc (.cells #[y0, y1, y2] 50)) := ((Below.refl _ _).alloc (Nat.le_refl _) _).alloc (by simp) _
    obtain ⟨rfl, rfl, _, ha⟩ := ht
    obtain ⟨rfl, rfl, _, hb⟩ := hu
    obtain ⟨⟨sa, ka, rfl⟩, hla⟩ := ha.form
    obtain ⟨⟨sb, kb, rfl⟩, hlb⟩ := hb.form
    have HS := Lib.hid (fun w => cmps_c t.n u.n w)
    have HL := Lib.hid (cmpLT_c t.args u.args _ _ dn _ (ha.below hb0 hd) (hb.below hb0 hd) (by simp; omega) fun t' ht' u' x0 x1 x2 y0 y1 y2 W h1 h2 h3 => by
      obtain ⟨q, hq, rfl⟩ := List.getElem_of_mem ht'
      exact ih _ (by have := size_arg t q hq; omega) u' x0 x1 x2 y0 y1 y2 dn W h1 h2 h3)
    clear ha hb ih
    cases hv : t.v <;> cases hv' : u.v
    all_goals rw [hv, hv'] at HE; rw [hv, hv'] at HL hb0; clear hv hv'
    · rw [if_pos rfl] at HE
      by_cases hs : cmpS t.n u.n = 0
      · rw [if_pos hs] at HE
        rw [hs] at HS
        clear hs
        generalize cmpTs t.args u.args = r at *
        go_enter Tryd.func35, Tryd.ntmps35
        go_wp2_with (go_at_call 33; refine (HS.out _).mono ?_; rintro e w' ⟨rfl, rfl⟩)
        refine HL.out.mono ?_
        rintro e w1 ⟨rfl, hb⟩
        have hb2 := hb0.trans (hb.mono (by simp; omega))
        clear hb
        go_wp2_with fail
        go_ret
        exact ⟨by rw [HE.out]; rfl, hb2⟩
      · rw [if_neg hs] at HE
        have hsb : (cmpS t.n u.n != 0) = true := by simpa using hs
        clear hs
        generalize cmpS t.n u.n = r at *
        go_enter Tryd.func35, Tryd.ntmps35
        go_wp2_with (go_at_call 33; refine (HS.out _).mono ?_; rintro e w' ⟨rfl, rfl⟩)
        go_ret
        exact ⟨by rw [HE.out]; rfl, hb0⟩
    · rw [if_neg (by decide), if_neg (by decide)] at HE
      go_enter Tryd.func35, Tryd.ntmps35
      go_wp2_with fail
      go_ret
      exact ⟨by rw [HE.out]; rfl, hb0⟩
    · rw [if_neg (by decide), if_pos rfl] at HE
      go_enter Tryd.func35, Tryd.ntmps35
      go_wp2_with fail
      go_ret
      exact ⟨by rw [HE.out]; rfl, hb0⟩
    · rw [if_pos rfl] at HE
      by_cases hs : cmpS t.n u.n = 0
      · rw [if_pos hs] at HE
        rw [hs] at HS
        clear hs
        generalize cmpTs t.args u.args = r at *
        go_enter Tryd.func35, Tryd.ntmps35
        go_wp2_with (go_at_call 33; refine (HS.out _).mono ?_; rintro e w' ⟨rfl, rfl⟩)
        refine HL.out.mono ?_
        rintro e w1 ⟨rfl, hb⟩
        have hb2 := hb0.trans (hb.mono (by simp; omega))
        clear hb
        go_wp2_with fail
        go_ret
        exact ⟨by rw [HE.out]; rfl, hb2⟩
      · rw [if_neg hs] at HE
        have hsb : (cmpS t.n u.n != 0) = true := by simpa using hs
        clear hs
        generalize cmpS t.n u.n = r at *
        go_enter Tryd.func35, Tryd.ntmps35
        go_wp2_with (go_at_call 33; refine (HS.out _).mono ?_; rintro e w' ⟨rfl, rfl⟩)
        go_ret
        exact ⟨by rw [HE.out]; rfl, hb0⟩
end Go.Proofs.YtnadjkofjgpabaaDoor.Fm
