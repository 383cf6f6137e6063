/-
  The contracts of Compare, Same and SameTerm.
-/
import Derived.Test.YtnadjkofjgpabaaDoorFmCmp
namespace Go.Proofs.YtnadjkofjgpabaaDoor.Fm
open Go Go.RowKit Go.Shelf
set_option linter.unusedVariables false
set_option linter.unusedSimpArgs false
theorem two_boxes (w : World) (c d : Array Value) (t : TypeId) : (∀ q, ((w.alloc (.cells c t)).alloc (.cells d t)).cell? ⟨w.heap.size, q, none⟩ = c[q]?) ∧ (∀ q, ((w.alloc (.cells c t)).alloc (.cells d t)).cell? ⟨w.heap.size + 1, q, none⟩ = d[q]?) := by
  have h1 : (w.alloc (.cells c t)).heap.size = w.heap.size + 1 := by simp
  refine ⟨fun q => ?_, fun q => ?_⟩
  · rw [((Below.refl _ _).alloc (Nat.le_refl _) (.cells d t)).cell (p := ⟨w.heap.size, q, none⟩) (by rw [h1]; show w.heap.size < _; omega), World.cell?_alloc_at _ _ _ _ rfl]
  · rw [World.cell?_alloc_at _ _ _ _ h1.symm]
set_option maxHeartbeats 2000000 in
theorem cmpF_c (N : Nat) : ∀ (t : Fo), SizeOf.sizeOf t < N → ∀ (u : Fo) (x0 x1 x2 x3 y0 y1 y2 y3 : Value) (dn : Nat) (w : World), FoV dn w x0 x1 x2 x3 t → FoV dn w y0 y1 y2 y3 u → dn ≤ w.heap.size →
    Calls Tryd.prog 9 #[.agg #[x0, x1, x2, x3], .agg #[y0, y1, y2, y3]] w fun e w' => e = .returned (.int .i64 (cmpF t u)) ∧ Below w.heap.size w w' := by
  induction N with
  | zero => exact fun t h => absurd h (Nat.not_lt_zero _)
  | succ N ih =>
    intro t hN u x0 x1 x2 x3 y0 y1 y2 y3 dn w ht hu hd
    have HE := Lib.hid (cmpF_eq t u)
    have hb0 : Below w.heap.size w ((w.alloc (.cells #[x0, x1, x2, x3] 25)).alloc (.cells #[y0, y1, y2, y3] 25)) := ((Below.refl _ _).alloc (Nat.le_refl _) _).alloc (by simp) _
    have h2 := two_boxes w #[x0, x1, x2, x3] #[y0, y1, y2, y3] 25
    obtain ⟨rfl, hop, rfl, _, ha, hs⟩ := ht
    obtain ⟨rfl, hop', rfl, _, hb, hs'⟩ := hu
    obtain ⟨⟨sa, ka, rfl⟩, hla⟩ := ha.form
    obtain ⟨⟨sb, kb, rfl⟩, hlb⟩ := hb.form
    obtain ⟨⟨sc, kc, rfl⟩, hlc⟩ := hs.form
    obtain ⟨⟨sd, kd, rfl⟩, hld⟩ := hs'.form
    have HO := Lib.hid (fun w => cmp8_c t.op u.op w)
    have HS := Lib.hid (fun w => cmps_c t.n u.n w)
    have HA := Lib.hid (fun W (h : Below w.heap.size w W) => cmpLT_c t.args u.args _ _ dn W (ha.below h hd) (hb.below h hd) (Nat.le_trans hd h.size) fun t' ht' u' x0 x1 x2 y0 y1 y2 W h1 h2 h3 => cmpT_c (SizeOf.sizeOf t' + 1) t' (Nat.lt_succ_self _) u' x0 x1 x2 y0 y1 y2 dn W h1 h2 h3)
    have HF := Lib.hid (fun W (h : Below w.heap.size w W) => cmpLF_c t.sub u.sub _ _ dn W (hs.below h hd) (hs'.below h hd) (Nat.le_trans hd h.size) fun t' ht' u' x0 x1 x2 x3 y0 y1 y2 y3 W h1 h2 h3 => by
      obtain ⟨q, hq, rfl⟩ := List.getElem_of_mem ht'
      exact ih _ (by have := size_sub t q hq; omega) u' x0 x1 x2 x3 y0 y1 y2 y3 dn W h1 h2 h3)
    have H2 := Lib.hid h2
    clear ha hb hs hs' ih h2
    by_cases h1 : cmpI t.op u.op = 0
    · rw [if_pos h1] at HE
      rw [h1] at HO
      clear h1
      by_cases h2 : cmpS t.n u.n = 0
      · rw [if_pos h2] at HE
        rw [h2] at HS
        clear h2
        by_cases h3 : cmpTs t.args u.args = 0
        · rw [if_pos h3] at HE
          rw [h3] at HA
          clear h3
          generalize cmpFs t.sub u.sub = r at *
          go_enter Tryd.func9, Tryd.ntmps9
          go_wp2_with (first | (go_at_call 32; refine (HO.out _).mono ?_; rintro e w' ⟨rfl, rfl⟩) | (go_at_call 33; refine (HS.out _).mono ?_; rintro e w' ⟨rfl, rfl⟩))
          refine (HA.out _ hb0).mono ?_
          rintro e w1 ⟨rfl, hb1⟩
          have c3 := (hb1.cell (p := ⟨w.heap.size, 3, none⟩) (by simp; omega)).trans (H2.out.1 3)
          have d3 := (hb1.cell (p := ⟨w.heap.size + 1, 3, none⟩) (by simp)).trans (H2.out.2 3)
          simp only [List.getElem?_toArray, List.getElem?_cons_zero, List.getElem?_cons_succ] at c3 d3
          have hb2 := hb0.trans (hb1.mono (by simp; omega))
          have HF2 := Lib.hid (HF.out _ hb2)
          clear hb1
          go_wp2_with fail
          refine HF2.out.mono ?_
          rintro e w2 ⟨rfl, hb3⟩
          have hb4 := hb2.trans (hb3.mono hb2.size)
          clear hb3 c3 d3
          go_wp2_with fail
          go_ret
          exact ⟨by rw [HE.out]; rfl, hb4⟩
        · rw [if_neg h3] at HE
          have hb' : (cmpTs t.args u.args != 0) = true := by simpa using h3
          clear h3
          generalize cmpTs t.args u.args = r at *
          go_enter Tryd.func9, Tryd.ntmps9
          go_wp2_with (first | (go_at_call 32; refine (HO.out _).mono ?_; rintro e w' ⟨rfl, rfl⟩) | (go_at_call 33; refine (HS.out _).mono ?_; rintro e w' ⟨rfl, rfl⟩))
          refine (HA.out _ hb0).mono ?_
          rintro e w1 ⟨rfl, hb1⟩
          have hb2 := hb0.trans (hb1.mono (by simp; omega))
          clear hb1
          go_wp2_with fail
          go_ret
          exact ⟨by rw [HE.out]; rfl, hb2⟩
      · rw [if_neg h2] at HE
        have hb' : (cmpS t.n u.n != 0) = true := by simpa using h2
        clear h2
        generalize cmpS t.n u.n = r at *
        go_enter Tryd.func9, Tryd.ntmps9
        go_wp2_with (first | (go_at_call 32; refine (HO.out _).mono ?_; rintro e w' ⟨rfl, rfl⟩) | (go_at_call 33; refine (HS.out _).mono ?_; rintro e w' ⟨rfl, rfl⟩))
        go_ret
        exact ⟨by rw [HE.out]; rfl, hb0⟩
    · rw [if_neg h1] at HE
      have hb' : (cmpI t.op u.op != 0) = true := by simpa using h1
      clear h1
      generalize cmpI t.op u.op = r at *
      go_enter Tryd.func9, Tryd.ntmps9
      go_wp2_with (first | (go_at_call 32; refine (HO.out _).mono ?_; rintro e w' ⟨rfl, rfl⟩) | (go_at_call 33; refine (HS.out _).mono ?_; rintro e w' ⟨rfl, rfl⟩))
      go_ret
      exact ⟨by rw [HE.out]; rfl, hb0⟩
theorem compare_c (t u : Fo) (x0 x1 x2 x3 y0 y1 y2 y3 : Value) (dn : Nat) (w : World) (ht : FoV dn w x0 x1 x2 x3 t) (hu : FoV dn w y0 y1 y2 y3 u) (hd : dn ≤ w.heap.size) :
    Calls Tryd.prog 9 #[.agg #[x0, x1, x2, x3], .agg #[y0, y1, y2, y3]] w fun e w' => e = .returned (.int .i64 (cmpF t u)) ∧ Below w.heap.size w w' :=
  cmpF_c (SizeOf.sizeOf t + 1) t (Nat.lt_succ_self _) u x0 x1 x2 x3 y0 y1 y2 y3 dn w ht hu hd
theorem same_c (t u : Fo) (x0 x1 x2 x3 y0 y1 y2 y3 : Value) (dn : Nat) (w : World) (ht : FoV dn w x0 x1 x2 x3 t) (hu : FoV dn w y0 y1 y2 y3 u) (hd : dn ≤ w.heap.size) :
    Calls Tryd.prog 12 #[.agg #[x0, x1, x2, x3], .agg #[y0, y1, y2, y3]] w fun e w' => e = .returned (.bool (cmpF t u == 0)) ∧ Below w.heap.size w w' := by
  have hb0 : Below w.heap.size w ((w.alloc (.cells #[x0, x1, x2, x3] 25)).alloc (.cells #[y0, y1, y2, y3] 25)) := ((Below.refl _ _).alloc (Nat.le_refl _) _).alloc (by simp) _
  have HC := Lib.hid (compare_c t u x0 x1 x2 x3 y0 y1 y2 y3 dn _ (ht.below hb0 hd) (hu.below hb0 hd) (by simp; omega))
  obtain ⟨rfl, hop, rfl, _, ha, hs⟩ := ht
  obtain ⟨rfl, hop', rfl, _, hb, hs'⟩ := hu
  obtain ⟨⟨sa, ka, rfl⟩, hla⟩ := ha.form
  obtain ⟨⟨sb, kb, rfl⟩, hlb⟩ := hb.form
  obtain ⟨⟨sc, kc, rfl⟩, hlc⟩ := hs.form
  obtain ⟨⟨sd, kd, rfl⟩, hld⟩ := hs'.form
  clear ha hb hs hs'
  generalize cmpF t u = r at *
  go_enter Tryd.func12, Tryd.ntmps12
  go_wp2_with fail
  refine HC.out.mono ?_
  rintro e w1 ⟨rfl, hb1⟩
  have hb2 := hb0.trans (hb1.mono (by simp; omega))
  clear hb1
  go_wp2_with fail
  go_ret
  exact ⟨rfl, hb2⟩
end Go.Proofs.YtnadjkofjgpabaaDoor.Fm
