/-
  FormatApart's walk: schemas that differ have different texts, equal ones equal texts.
-/
import Derived.Test.YtdapnjnmhkdnpaaDoorFtMake
import Derived.Test.YtdapnjnmhkdnpaaDoorFtApartT
import Derived.Test.YtdapnjnmhkdnpaaDoorFmSize
import Derived.Test.YtdapnjnmhkdnpaaDoorFmEq
namespace Go.Proofs.YtdapnjnmhkdnpaaDoor.Fb
open Go Go.RowKit Go.Shelf Go.Proofs.YtdapnjnmhkdnpaaDoor.Fm Go.Proofs.YtdapnjnmhkdnpaaDoor.Lx Go.Proofs.YtdapnjnmhkdnpaaDoor.Ps Go.Proofs.YtdapnjnmhkdnpaaDoor.Ft
set_option linter.unusedVariables false
set_option linter.unusedSimpArgs false
theorem toL_inj {a b : ByteArray} (h : (a.toList == b.toList) = true) : a = b := by
  have h : a.toList = b.toList := by simpa using h
  rw [ByteArray.toList_eq, ByteArray.toList_eq] at h
  obtain ⟨⟨x⟩⟩ := a
  obtain ⟨⟨y⟩⟩ := b
  have h : x = y := h
  rw [h]
mutual
theorem eqT_is : ∀ (t u : Tm), eqT t u = true → t = u
  | .mk v n l, .mk v' n' l', h => by
    rw [eqT] at h
    simp only [Bool.and_eq_true, decide_eq_true_eq] at h
    obtain ⟨⟨h1, h2⟩, h3, h4⟩ := h
    rw [show v = v' by simpa using h1, toL_inj h2, eqTL_is l l' h3 h4]
theorem eqTL_is : ∀ (l m : List Tm), l.length = m.length → eqTL l m = true → l = m
  | [], [], _, _ => rfl
  | [], _ :: _, h, _ => by simp at h
  | _ :: _, [], h, _ => by simp at h
  | x :: xs, y :: ys, h, he => by
    rw [eqTL, Bool.and_eq_true] at he
    rw [eqT_is x y he.1, eqTL_is xs ys (by simpa using h) he.2]
end
mutual
theorem eqF_is : ∀ (t u : Fo), eqF t u = true → t = u
  | .mk o n l s, .mk o' n' l' s', h => by
    rw [eqF] at h
    simp only [Bool.and_eq_true, decide_eq_true_eq] at h
    obtain ⟨⟨⟨h1, h2⟩, h3, h4⟩, h5, h6⟩ := h
    rw [show o = o' by simpa using h1, toL_inj h2, eqTL_is l l' h3 h4, eqFL_is s s' h5 h6]
theorem eqFL_is : ∀ (l m : List Fo), l.length = m.length → eqFL l m = true → l = m
  | [], [], _, _ => rfl
  | [], _ :: _, h, _ => by simp at h
  | _ :: _, [], h, _ => by simp at h
  | x :: xs, y :: ys, h, he => by
    rw [eqFL, Bool.and_eq_true] at he
    rw [eqF_is x y he.1, eqFL_is xs ys (by simpa using h) he.2]
end
mutual
theorem eqT_rf : ∀ (t : Tm), eqT t t = true
  | .mk v n l => by rw [eqT]; simp only [Bool.and_eq_true, decide_eq_true_eq]; exact ⟨⟨by simp, by simp⟩, trivial, eqTL_rf l⟩
theorem eqTL_rf : ∀ (l : List Tm), eqTL l l = true
  | [] => by rw [eqTL]
  | x :: xs => by rw [eqTL, eqT_rf x, eqTL_rf xs]; rfl
end
mutual
theorem eqF_rf : ∀ (t : Fo), eqF t t = true
  | .mk o n l s => by rw [eqF]; simp only [Bool.and_eq_true, decide_eq_true_eq]; exact ⟨⟨⟨by simp, by simp⟩, trivial, eqTL_rf l⟩, trivial, eqFL_rf s⟩
theorem eqFL_rf : ∀ (l : List Fo), eqFL l l = true
  | [] => by rw [eqFL]
  | x :: xs => by rw [eqFL, eqF_rf x, eqFL_rf xs]; rfl
end
theorem bs_inj {a b : Bs} (h : bs a = bs b) : a = b := by
  have := congrArg (fun s : ByteArray => s.data.toList) h
  exact this
theorem bs_ne {a : Bs} (h : a ≠ []) : bs a ≠ ⟨#[]⟩ := fun e => h (bs_inj (b := []) e)
theorem str_ne {a : ByteArray} (h : a ≠ ⟨#[]⟩) : a.toList.isEmpty = false := by
  cases e : a.toList with
  | nil => exact absurd (toL_inj (by rw [e, ByteArray.toList_eq]; rfl)) h
  | cons => rfl
theorem str_neq {a b : ByteArray} (h : a ≠ b) : (a.toList == b.toList) = false := by
  cases e : a.toList == b.toList with
  | false => rfl
  | true => exact absurd (toL_inj e) h
/-- What FormatApart compares. -/
theorem apart_facts {f g : Fo} (hf : rightB true f = true) (hg : rightB true g = true) (of : OpsOk f) (og : OpsOk g) :
    ((eqF f g = true ∧ bs (foB brN f) = bs (foB brN g) ∧ bs (foB brB f) = bs (foB brB g) ∧ bs (pfB f) = bs (pfB g)) ∨ (eqF f g = false ∧ bs (foB brN f) ≠ bs (foB brN g) ∧ bs (foB brB f) ≠ bs (foB brB g) ∧ bs (pfB f) ≠ bs (pfB g))) ∧
      bs (foB brN f) ≠ ⟨#[]⟩ ∧ bs (foB brB f) ≠ ⟨#[]⟩ ∧ bs (pfB f) ≠ ⟨#[]⟩ := by
  have kf := fok_right hf of
  have kg := fok_right hg og
  refine ⟨?_, bs_ne (foB_ne _ f (Nat.lt_succ_self _) 1 kf (Int.le_refl _)), bs_ne (foB_ne _ f (Nat.lt_succ_self _) 1 kf (Int.le_refl _)), bs_ne (pf_ne kf.shape)⟩
  by_cases h : f = g
  · subst h
    exact .inl ⟨eqF_rf f, rfl, rfl, rfl⟩
  · refine .inr ⟨?_, fun e => h (foB_inj brN_ok kf kg (bs_inj e)), fun e => h (foB_inj brB_ok kf kg (bs_inj e)), fun e => h (pf_inj kf kg (bs_inj e))⟩
    cases e : eqF f g with
    | false => rfl
    | true => exact absurd (eqF_is f g e) h
set_option maxHeartbeats 8000000 in
set_option maxRecDepth 20000 in
theorem apart_c (f g : Fo) (x0 x1 x2 x3 y0 y1 y2 y3 : Value) (W : World) (hT : RTab W) (hS : STab W) (hawk : ∀ w, RTab w → STab w → Calls Tryd.prog 6 #[] w fun e w' => e = .returned (.bool true) ∧ Below w.heap.size w w')
    (hf : FoV W.heap.size W x0 x1 x2 x3 f) (hg : FoV W.heap.size W y0 y1 y2 y3 g) : Calls Tryd.prog 3 #[.agg #[x0, x1, x2, x3], .agg #[y0, y1, y2, y3]] W fun e w' => e = .returned (.bool true) ∧ Below W.heap.size W w' := by
  have HOP := Lib.hid (⟨fov_opsOk hf, fov_opsOk hg⟩ : _ ∧ _)
  have HF := Lib.hid (fun w (h : Below W.heap.size W w) => (⟨AF.below hf h, AF.below hg h, hT.below h hT.1, hS.below h⟩ : AF w x0 x1 x2 x3 f ∧ AF w y0 y1 y2 y3 g ∧ RTab w ∧ STab w))
  have hb0 : Below W.heap.size W ((W.alloc (.cells #[x0, x1, x2, x3] 25)).alloc (.cells #[y0, y1, y2, y3] 25)) := ((Below.refl _ _).alloc (Nat.le_refl _) _).alloc (by simp) _
  obtain ⟨p0, p1, p2, p3, pz⟩ := box4 W x0 x1 x2 x3 25
  obtain ⟨q0, q1, q2, q3, qz⟩ := box4 (W.alloc (.cells #[x0, x1, x2, x3] 25)) y0 y1 y2 y3 25
  have hb1 : Below (W.alloc (.cells #[x0, x1, x2, x3] 25)).heap.size (W.alloc (.cells #[x0, x1, x2, x3] 25)) ((W.alloc (.cells #[x0, x1, x2, x3] 25)).alloc (.cells #[y0, y1, y2, y3] 25)) := (Below.refl _ _).alloc (Nat.le_refl _) _
  have hxf : BxA ((W.alloc (.cells #[x0, x1, x2, x3] 25)).alloc (.cells #[y0, y1, y2, y3] 25)) W.heap.size x0 x1 x2 x3 := BxA.below ⟨p0, p1, p2, p3, pz⟩ hb1
  have hxg : BxA ((W.alloc (.cells #[x0, x1, x2, x3] 25)).alloc (.cells #[y0, y1, y2, y3] 25)) (W.heap.size + 1) y0 y1 y2 y3 := by
    have h : BxA _ _ y0 y1 y2 y3 := ⟨q0, q1, q2, q3, qz⟩
    rwa [World.size_alloc] at h
  obtain ⟨rfl, _, rfl, _, hA, hS1⟩ := hf
  obtain ⟨⟨a1, k1, rfl⟩, _⟩ := hA.form
  obtain ⟨⟨a2, k2, rfl⟩, _⟩ := hS1.form
  obtain ⟨rfl, _, rfl, _, hA', hS2⟩ := hg
  obtain ⟨⟨a3, k3, rfl⟩, _⟩ := hA'.form
  obtain ⟨⟨a4, k4, rfl⟩, _⟩ := hS2.form
  have HAW := Lib.hid hawk
  have HALL := Lib.hid (⟨hb0, hxf, hxg⟩ : _ ∧ _ ∧ _)
  clear hA hS1 hA' hS2 hT hS hawk hb0 hb1 hxf hxg p0 p1 p2 p3 pz q0 q1 q2 q3 qz
  go_enter Tryd.func3, Tryd.ntmps3
  go_wp2_with fail
  have hall := HALL.out
  generalize hX : (W.alloc (.cells #[.int .u8 f.op, .string f.n, .slice a1 f.args.length k1, .slice a2 f.sub.length k2] 25)).alloc (.cells #[.int .u8 g.op, .string g.n, .slice a3 g.args.length k3, .slice a4 g.sub.length k4] 25) = X at hall ⊢
  clear hX HALL
  obtain ⟨hb0, hxf, hxg⟩ := hall
  refine (HAW.out X (HF.out X hb0).2.2.1 (HF.out X hb0).2.2.2).mono ?_
  rintro e w1 ⟨rfl, hb1⟩
  have HB := Lib.hid (hb0.trans (hb1.mono hb0.size))
  have HXF := Lib.hid (hxf.below hb1)
  have HXG := Lib.hid (hxg.below hb1)
  clear hb0 hb1 hxf hxg
  obtain ⟨c0, c1, c2, c3, cz⟩ := HXF.out
  obtain ⟨d0, d1, d2, d3, dz⟩ := HXG.out
  go_wp2_with fail
  clear c0 c1 c2 c3 cz d0 d1 d2 d3 dz
  generalize hX : w1.alloc (.cells #[.int .u8 f.op, .string f.n, .slice a1 f.args.length k1, .slice a2 f.sub.length k2, .int .u8 g.op, .string g.n, .slice a3 g.args.length k3, .slice a4 g.sub.length k4] 25) = w2
  have hb : Below w1.heap.size w1 w2 := by rw [← hX]; exact (Below.refl _ _).alloc (Nat.le_refl _) _
  have hc : ∀ j u, [Value.int .u8 f.op, .string f.n, .slice a1 f.args.length k1, .slice a2 f.sub.length k2, .int .u8 g.op, .string g.n, .slice a3 g.args.length k3, .slice a4 g.sub.length k4][j]? = some u → w2.cell? ⟨w1.heap.size, j, none⟩ = some u := fun j u hj => by rw [← hX, World.cell?_alloc_at _ _ _ _ rfl, ← hj]; simp
  have ho : w1.heap.size < w2.heap.size := by rw [← hX]; simp
  replace HB := Lib.hid (HB.out.trans (hb.mono HB.out.size))
  replace HXF := Lib.hid (HXF.out.below hb)
  replace HXG := Lib.hid (HXG.out.below hb)
  clear hb
  have hsl := slF_2 ho (HF.out _ HB.out).1 (HF.out _ HB.out).2.1 hc
  clear hX hc ho
  refine (small_c [f, g] _ _ _ hsl (Nat.le_refl _)).mono ?_
  rintro e w3 ⟨rfl, hb⟩
  replace HB := Lib.hid (HB.out.trans (hb.mono HB.out.size))
  replace HXF := Lib.hid (HXF.out.below hb)
  replace HXG := Lib.hid (HXG.out.below hb)
  clear hb
  clear hsl
  by_cases hsm : szS 0 [f, g] ≤ 500
  rotate_left
  · rw [decide_eq_false hsm]
    clear hsm
    obtain ⟨c0, c1, c2, c3, cz⟩ := HXF.out
    obtain ⟨d0, d1, d2, d3, dz⟩ := HXG.out
    go_wp2_with fail
    go_ret
    exact ⟨rfl, HB.out⟩
  rw [decide_eq_true hsm]
  clear hsm
  obtain ⟨c0, c1, c2, c3, cz⟩ := HXF.out
  obtain ⟨d0, d1, d2, d3, dz⟩ := HXG.out
  go_wp2_with fail
  clear c0 c1 c2 c3 cz d0 d1 d2 d3 dz
  refine (schema_c _ _ _ _ f _ _ (HF.out _ HB.out).1 (Nat.le_refl _) (HF.out _ HB.out).2.2.1).mono ?_
  rintro e w4 ⟨rfl, hb⟩
  replace HB := Lib.hid (HB.out.trans (hb.mono HB.out.size))
  replace HXF := Lib.hid (HXF.out.below hb)
  replace HXG := Lib.hid (HXG.out.below hb)
  clear hb
  by_cases hrf : rightB true f = true
  rotate_left
  · have hrf : rightB true f = false := by simpa using hrf
    rw [hrf]
    clear hrf
    obtain ⟨c0, c1, c2, c3, cz⟩ := HXF.out
    obtain ⟨d0, d1, d2, d3, dz⟩ := HXG.out
    go_wp2_with fail
    go_ret
    exact ⟨rfl, HB.out⟩
  rw [hrf]
  have HRF := Lib.hid hrf
  clear hrf
  obtain ⟨c0, c1, c2, c3, cz⟩ := HXF.out
  obtain ⟨d0, d1, d2, d3, dz⟩ := HXG.out
  go_wp2_with fail
  clear c0 c1 c2 c3 cz d0 d1 d2 d3 dz
  refine (schema_c _ _ _ _ g _ _ (HF.out _ HB.out).2.1 (Nat.le_refl _) (HF.out _ HB.out).2.2.1).mono ?_
  rintro e w5 ⟨rfl, hb⟩
  replace HB := Lib.hid (HB.out.trans (hb.mono HB.out.size))
  replace HXF := Lib.hid (HXF.out.below hb)
  replace HXG := Lib.hid (HXG.out.below hb)
  clear hb
  by_cases hrg : rightB true g = true
  rotate_left
  · have hrg : rightB true g = false := by simpa using hrg
    rw [hrg]
    clear hrg
    obtain ⟨c0, c1, c2, c3, cz⟩ := HXF.out
    obtain ⟨d0, d1, d2, d3, dz⟩ := HXG.out
    go_wp2_with fail
    go_ret
    exact ⟨rfl, HB.out⟩
  rw [hrg]
  have HRG := Lib.hid hrg
  clear hrg
  have hfacts := apart_facts HRF.out HRG.out HOP.out.1 HOP.out.2
  obtain ⟨ta, eta⟩ : ∃ z, bs (foB brN f) = z := ⟨_, rfl⟩
  rw [eta] at hfacts
  have Eta := Lib.hid eta
  clear eta
  obtain ⟨tb, etb⟩ : ∃ z, bs (foB brN g) = z := ⟨_, rfl⟩
  rw [etb] at hfacts
  have Etb := Lib.hid etb
  clear etb
  obtain ⟨tx, etx⟩ : ∃ z, bs (foB brB f) = z := ⟨_, rfl⟩
  rw [etx] at hfacts
  have Etx := Lib.hid etx
  clear etx
  obtain ⟨ty, ety⟩ : ∃ z, bs (foB brB g) = z := ⟨_, rfl⟩
  rw [ety] at hfacts
  have Ety := Lib.hid ety
  clear ety
  obtain ⟨tm, etm⟩ : ∃ z, bs (pfB f) = z := ⟨_, rfl⟩
  rw [etm] at hfacts
  have Etm := Lib.hid etm
  clear etm
  obtain ⟨tn, etn⟩ : ∃ z, bs (pfB g) = z := ⟨_, rfl⟩
  rw [etn] at hfacts
  have Etn := Lib.hid etn
  clear etn
  obtain ⟨sm, esm⟩ : ∃ z, eqF f g = z := ⟨_, rfl⟩
  rw [esm] at hfacts
  have Esm := Lib.hid esm
  clear esm
  have HFACTS := Lib.hid hfacts
  clear hfacts
  obtain ⟨c0, c1, c2, c3, cz⟩ := HXF.out
  obtain ⟨d0, d1, d2, d3, dz⟩ := HXG.out
  go_wp2_with fail
  clear c0 c1 c2 c3 cz d0 d1 d2 d3 dz
  refine (form_c _ _ _ _ f _ _ (HF.out _ HB.out).1 (Nat.le_refl _) (HF.out _ HB.out).2.2.1 (HF.out _ HB.out).2.2.2).mono ?_
  rintro e w6 ⟨rfl, hb⟩
  rw [HRF.out, TxtR_ok, Eta.out]
  replace HB := Lib.hid (HB.out.trans (hb.mono HB.out.size))
  replace HXF := Lib.hid (HXF.out.below hb)
  replace HXG := Lib.hid (HXG.out.below hb)
  clear hb
  obtain ⟨c0, c1, c2, c3, cz⟩ := HXF.out
  obtain ⟨d0, d1, d2, d3, dz⟩ := HXG.out
  go_wp2_with fail
  clear c0 c1 c2 c3 cz d0 d1 d2 d3 dz
  refine (form_c _ _ _ _ g _ _ (HF.out _ HB.out).2.1 (Nat.le_refl _) (HF.out _ HB.out).2.2.1 (HF.out _ HB.out).2.2.2).mono ?_
  rintro e w7 ⟨rfl, hb⟩
  rw [HRG.out, TxtR_ok, Etb.out]
  replace HB := Lib.hid (HB.out.trans (hb.mono HB.out.size))
  replace HXF := Lib.hid (HXF.out.below hb)
  replace HXG := Lib.hid (HXG.out.below hb)
  clear hb
  obtain ⟨c0, c1, c2, c3, cz⟩ := HXF.out
  obtain ⟨d0, d1, d2, d3, dz⟩ := HXG.out
  go_wp2_with fail
  clear c0 c1 c2 c3 cz d0 d1 d2 d3 dz
  refine (full_c _ _ _ _ f _ _ (HF.out _ HB.out).1 (Nat.le_refl _) (HF.out _ HB.out).2.2.1 (HF.out _ HB.out).2.2.2).mono ?_
  rintro e w8 ⟨rfl, hb⟩
  rw [HRF.out, TxtR_ok, Etx.out]
  replace HB := Lib.hid (HB.out.trans (hb.mono HB.out.size))
  replace HXF := Lib.hid (HXF.out.below hb)
  replace HXG := Lib.hid (HXG.out.below hb)
  clear hb
  obtain ⟨c0, c1, c2, c3, cz⟩ := HXF.out
  obtain ⟨d0, d1, d2, d3, dz⟩ := HXG.out
  go_wp2_with fail
  clear c0 c1 c2 c3 cz d0 d1 d2 d3 dz
  refine (full_c _ _ _ _ g _ _ (HF.out _ HB.out).2.1 (Nat.le_refl _) (HF.out _ HB.out).2.2.1 (HF.out _ HB.out).2.2.2).mono ?_
  rintro e w9 ⟨rfl, hb⟩
  rw [HRG.out, TxtR_ok, Ety.out]
  replace HB := Lib.hid (HB.out.trans (hb.mono HB.out.size))
  replace HXF := Lib.hid (HXF.out.below hb)
  replace HXG := Lib.hid (HXG.out.below hb)
  clear hb
  obtain ⟨c0, c1, c2, c3, cz⟩ := HXF.out
  obtain ⟨d0, d1, d2, d3, dz⟩ := HXG.out
  go_wp2_with fail
  clear c0 c1 c2 c3 cz d0 d1 d2 d3 dz
  refine (prefix_c _ _ _ _ f _ _ (HF.out _ HB.out).1 (Nat.le_refl _) (HF.out _ HB.out).2.2.1 (HF.out _ HB.out).2.2.2).mono ?_
  rintro e w10 ⟨rfl, hb⟩
  rw [HRF.out, TxtR_ok, Etm.out]
  replace HB := Lib.hid (HB.out.trans (hb.mono HB.out.size))
  replace HXF := Lib.hid (HXF.out.below hb)
  replace HXG := Lib.hid (HXG.out.below hb)
  clear hb
  obtain ⟨c0, c1, c2, c3, cz⟩ := HXF.out
  obtain ⟨d0, d1, d2, d3, dz⟩ := HXG.out
  go_wp2_with fail
  clear c0 c1 c2 c3 cz d0 d1 d2 d3 dz
  refine (prefix_c _ _ _ _ g _ _ (HF.out _ HB.out).2.1 (Nat.le_refl _) (HF.out _ HB.out).2.2.1 (HF.out _ HB.out).2.2.2).mono ?_
  rintro e w11 ⟨rfl, hb⟩
  rw [HRG.out, TxtR_ok, Etn.out]
  replace HB := Lib.hid (HB.out.trans (hb.mono HB.out.size))
  replace HXF := Lib.hid (HXF.out.below hb)
  replace HXG := Lib.hid (HXG.out.below hb)
  clear hb
  obtain ⟨c0, c1, c2, c3, cz⟩ := HXF.out
  obtain ⟨d0, d1, d2, d3, dz⟩ := HXG.out
  go_wp2_with fail
  clear c0 c1 c2 c3 cz d0 d1 d2 d3 dz
  refine (eqF_c (SizeOf.sizeOf f + 1) f (Nat.lt_succ_self _) g _ _ _ _ _ _ _ _ _ _ (HF.out _ HB.out).1 (HF.out _ HB.out).2.1 (Nat.le_refl _)).mono ?_
  rintro e w12 ⟨rfl, hb⟩
  rw [Esm.out]
  replace HB := Lib.hid (HB.out.trans (hb.mono HB.out.size))
  replace HXF := Lib.hid (HXF.out.below hb)
  replace HXG := Lib.hid (HXG.out.below hb)
  clear hb
  obtain ⟨hcs, n1, n2, n3⟩ := HFACTS.out
  clear HFACTS
  have m1 := str_ne n1
  have m2 := str_ne n2
  have m3 := str_ne n3
  clear n1 n2 n3
  rcases hcs with ⟨rfl, rfl, rfl, rfl⟩ | ⟨rfl, l1, l2, l3⟩
  · go_wp2_with fail
    go_ret
    refine ⟨?_, HB.out⟩
    simp [m1, m2, m3]
  · have r1 := str_neq l1
    have r2 := str_neq l2
    have r3 := str_neq l3
    clear l1 l2 l3
    go_wp2_with fail
    go_ret
    refine ⟨?_, HB.out⟩
    simp [m1, m2, m3, r1, r2, r3]
end Go.Proofs.YtdapnjnmhkdnpaaDoor.Fb
