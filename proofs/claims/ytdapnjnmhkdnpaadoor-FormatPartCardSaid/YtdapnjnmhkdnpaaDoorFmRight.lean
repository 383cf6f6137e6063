/-
  The contracts of rightForm, Right and Schema.
-/
import Derived.Test.YtdapnjnmhkdnpaaDoorFmSat
namespace Go.Proofs.YtdapnjnmhkdnpaaDoor.Fm
open Go Go.RowKit Go.Shelf
set_option linter.unusedVariables false
set_option linter.unusedSimpArgs false
attribute [local go_sem] Oper.semAt_some
def allB (sc : Bool) (f : Fo) : Bool := (f.all 1).all fun x => satB sc x.2
def rightB (sc : Bool) (f : Fo) : Bool := fitsB f 400 40 && allB sc f
structure RJ (sc : Bool) (f : Fo) (F : Nat) (k : Nat) (O : Nat → Prop) (W : World) : Prop where
  o : ∀ b, O b ↔ b = F + 2
  s : W.cell? ⟨F + 1, 0, none⟩ = some (.bool sc)
  r : W.cell? ⟨F + 2, 0, none⟩ = some (.bool false)
  fr : W.frozen? ⟨F + 2, 0, none⟩ = false
  lt : F + 2 < W.heap.size
  t : RTab W
  l : ∀ x ∈ (f.all 1).take k, satB sc x.2 = true
def RJx (sc : Bool) (f : Fo) (F : Nat) (c : Code) (O : Nat → Prop) (W : World) : Prop :=
  c = .ret ∧ (∀ b, O b ↔ b = F + 2) ∧ W.cell? ⟨F + 2, 0, none⟩ = some (.bool false) ∧ F + 2 < W.heap.size ∧ allB sc f = false
theorem RJ.fram {sc : Bool} {f : Fo} {F n : Nat} (hF : F + 1 < n) (hR : 2 < n) : Fr n (RJ sc f F) where
  lt h b hb := by have := h.lt; rw [(h.o b).1 hb]; omega
  keep h hb ho := by
    have e2 := ho (F + 2) ((h.o _).2 rfl)
    exact ⟨h.o, (hb.cell (p := ⟨F + 1, 0, none⟩) hF).trans h.s, (World.cell?_of_block e2).trans h.r, (World.frozen?_of_block e2).trans h.fr, Nat.lt_of_lt_of_le h.lt hb.size, h.t.below hb hR, h.l⟩
theorem RJx.fram {sc : Bool} {f : Fo} {F n : Nat} (c : Code) : Fr n (fun _ => RJx sc f F c) where
  lt h b hb := by have := h.2.2.2.1; rw [(h.2.1 b).1 hb]; omega
  keep h hb ho := by
    have e2 := ho (F + 2) ((h.2.1 _).2 rfl)
    exact ⟨h.1, h.2.1, (World.cell?_of_block e2).trans h.2.2.1, Nat.lt_of_lt_of_le h.2.2.2.1 hb.size, h.2.2.2.2⟩
theorem box_three (w : World) (c : Array Value) (t : TypeId) (d r : Value) (td tr : TypeId) : (∀ q, (((w.alloc (.cells c t)).alloc (.cells #[d] td)).alloc (.cells #[r] tr)).cell? ⟨w.heap.size, q, none⟩ = c[q]?) ∧
    (((w.alloc (.cells c t)).alloc (.cells #[d] td)).alloc (.cells #[r] tr)).cell? ⟨w.heap.size + 1, 0, none⟩ = some d ∧ (((w.alloc (.cells c t)).alloc (.cells #[d] td)).alloc (.cells #[r] tr)).cell? ⟨w.heap.size + 2, 0, none⟩ = some r ∧
    (((w.alloc (.cells c t)).alloc (.cells #[d] td)).alloc (.cells #[r] tr)).frozen? ⟨w.heap.size + 2, 0, none⟩ = false := by
  have h1 : (w.alloc (.cells c t)).heap.size = w.heap.size + 1 := by simp
  have h2 : ((w.alloc (.cells c t)).alloc (.cells #[d] td)).heap.size = w.heap.size + 2 := by simp
  refine ⟨fun q => ?_, ?_, ?_, ?_⟩
  · rw [((Below.refl _ _).alloc (Nat.le_refl _) (.cells #[r] tr)).cell (p := ⟨w.heap.size, q, none⟩) (by rw [h2]; show w.heap.size < _; omega), ((Below.refl _ _).alloc (Nat.le_refl _) (.cells #[d] td)).cell (p := ⟨w.heap.size, q, none⟩) (by rw [h1]; show w.heap.size < _; omega), World.cell?_alloc_at _ _ _ _ rfl]
  · rw [((Below.refl _ _).alloc (Nat.le_refl _) (.cells #[r] tr)).cell (p := ⟨w.heap.size + 1, 0, none⟩) (by rw [h2]; show w.heap.size + 1 < _; omega), World.cell?_alloc_at _ _ _ _ h1.symm]; rfl
  · rw [World.cell?_alloc_at _ _ _ _ h2.symm]; rfl
  · rw [World.frozen?_alloc_at _ _ _ _ h2.symm]
set_option maxHeartbeats 1000000 in
theorem rightForm_in (sc : Bool) (v0 v1 v2 v3 : Value) (f : Fo) (dn : Nat) (w : World) (hf : FoV dn w v0 v1 v2 v3 f) (hd : dn ≤ w.heap.size) (hT : RTab w) :
    CallsIn Fence.wide 0 Tryd.prog 23 #[.agg #[v0, v1, v2, v3], .bool sc] w fun e w' => e = .returned (.bool (rightB sc f)) ∧ Below w.heap.size w w' := by
  have hb0 : Below w.heap.size w (((w.alloc (.cells #[v0, v1, v2, v3] 25)).alloc (.cells #[.bool sc] 4)).alloc (.cells #[.bool false] 4)) := (((Below.refl _ w).alloc (Nat.le_refl _) _).alloc (by simp) _).alloc (by simp; omega) _
  have hfi := Lib.hid (fits_in v0 v1 v2 v3 f 400 40 dn _ (hf.below hb0 hd) (by simp; omega) (by omega) (by omega))
  have hpa := Lib.hid (fun W (h : FoV dn W v0 v1 v2 v3 f) (h2 : dn ≤ W.heap.size) => parts_in v0 v1 v2 v3 f dn W h h2)
  have hfv := Lib.hid hf
  have h3 := box_three w #[v0, v1, v2, v3] 25 (.bool sc) (.bool false) 4 4
  have HB := Lib.hid (show rightB sc f = (fitsB f 400 40 && allB sc f) from rfl)
  obtain ⟨rfl, _, rfl, _, hA, hS⟩ := hf
  obtain ⟨⟨a1', k1, rfl⟩, _⟩ := hA.form
  obtain ⟨⟨a2, k2, rfl⟩, _⟩ := hS.form
  refine callsIn_of_wp_marks Tryd.func23 rfl trivial ?_ rfl
  simp only [Tryd.ntmps23, List.size_toArray, List.length_cons, List.length_nil, Nat.reduceAdd, Nat.reduceSub, Array.replicate_succ, Array.replicate_zero, List.push_toArray, List.append_toArray, List.nil_append, List.cons_append]
  have H3 := Lib.hid h3
  clear h3
  gi_wp2_with fail
  refine ⟨trivial, rfl, hfi.out.mono ?_⟩
  clear hfi
  rintro e W1 ⟨rfl, hb1⟩
  obtain ⟨F, hFF⟩ : ∃ F, w.heap.size = F := ⟨_, rfl⟩
  obtain ⟨g1, g2, g3, g4⟩ := H3.out
  rw [World.size_alloc, World.size_alloc, World.size_alloc, hFF] at hb1
  rw [hFF] at g1 g2 g3 g4
  have hz1 : F + 3 ≤ W1.heap.size := by have := hb1.size; simp [hFF] at this; omega
  have hbw : Below w.heap.size w W1 := hb0.trans (hb1.mono (by omega))
  have e0 := (hb1.cell (p := ⟨F, 0, none⟩) (show F < F + 3 by omega)).trans (g1 0)
  have e1 := (hb1.cell (p := ⟨F, 1, none⟩) (show F < F + 3 by omega)).trans (g1 1)
  have e2 := (hb1.cell (p := ⟨F, 2, none⟩) (show F < F + 3 by omega)).trans (g1 2)
  have e3 := (hb1.cell (p := ⟨F, 3, none⟩) (show F < F + 3 by omega)).trans (g1 3)
  have e4 := (hb1.cell (p := ⟨F + 1, 0, none⟩) (show F + 1 < F + 3 by omega)).trans g2
  have e5 := (hb1.cell (p := ⟨F + 2, 0, none⟩) (show F + 2 < F + 3 by omega)).trans g3
  have e6 := (hb1.frozen (p := ⟨F + 2, 0, none⟩) (show F + 2 < F + 3 by omega)).trans g4
  simp only [List.getElem?_toArray, List.getElem?_cons_zero, List.getElem?_cons_succ] at e0 e1 e2 e3
  have hFw : F ≤ w.heap.size ∧ w.heap.size ≤ F := by omega
  clear g1 g2 g3 g4 H3 hb1
  cases hfit : fitsB f 400 40
  · rw [hfit, Bool.false_and] at HB
    clear hfit
    have f1 : F + 2 < W1.heap.size := by omega
    have hst : (W1.setCell ⟨F + 2, 0, none⟩ (.bool false)).cell? ⟨F + 2, 0, none⟩ = some (.bool false) := World.cell?_setCell_same' W1 ⟨F + 2, 0, none⟩ (.bool false) (by rw [e5]; rfl)
    have hbs := Lib.hid (hbw.setCell (p := ⟨F + 2, 0, none⟩) (by show w.heap.size ≤ F + 2; omega) (.bool false))
    gi_wp2_with fail
    refine ⟨.bool false, by simp [results, Tryd.results23, go_sem, hst], ?_⟩
    exact ⟨by rw [HB.out], hbs.out⟩
  · rw [hfit, Bool.true_and] at HB
    clear hfit
    have hT1 := hT.below hbw hT.1
    have hpa1 := Lib.hid (hpa.out W1 (hfv.out.below hbw hd) (by omega))
    gi_wp2_with fail
    refine ⟨trivial, rfl, hpa1.out.mono ?_⟩
    clear hpa1 hpa
    rintro e W2 ⟨rfl, hb2, hbox, hz2e⟩
    have hz2 : W2.heap.size ≤ W1.heap.size + 1 ∧ W1.heap.size + 1 ≤ W2.heap.size := by omega
    have hbw2 := hbw.trans (hb2.mono (by omega))
    have c4 := Lib.hid ((hb2.cell (p := ⟨F + 1, 0, none⟩) (show F + 1 < W1.heap.size by omega)).trans e4)
    have c5 := Lib.hid ((hb2.cell (p := ⟨F + 2, 0, none⟩) (show F + 2 < W1.heap.size by omega)).trans e5)
    have c6 := Lib.hid ((hb2.frozen (p := ⟨F + 2, 0, none⟩) (show F + 2 < W1.heap.size by omega)).trans e6)
    have hT2 := Lib.hid (hT1.below hb2 hT1.1)
    clear e0 e1 e2 e3 e4 e5 e6 hz2e hT1
    gi_wp2_with fail
    refine range_law (gf := 70) (lb := #[.pointer (some ⟨W1.heap.size, 0, none⟩)]) rfl (enters_of Tryd.func70 (by kernel_rfl) rfl) (parts_iter f W1.heap.size dn (rng_p f))
      (by rintro W x args ⟨_, _, _, _, rfl, _⟩; rfl) (RJ sc f F) (RJx sc f F) (fun b => b = F + 2) (RJ.fram (by omega) hT2.out.1) (fun c => RJx.fram c)
      ⟨fun _ => Iff.rfl, c4.out, c5.out, c6.out, by omega, hT2.out, by simp⟩
      (fun O' W' hb' hs' => ⟨hbox.below hb' (by omega) (by omega), fun b hb => (hs' b hb).elim (fun h => by omega) fun h => by omega⟩)
      (fun k x args W2 a1 W3 => ∃ v0 v1 v2 v3, FoV dn W2 v0 v1 v2 v3 x.2 ∧ W3 = W2.alloc (.cells #[v0, v1, v2, v3] 25) ∧ ∃ u0 u1 u5 u7 u8 u9 u10 u11 u12 u13, a1 = { tmps := #[u0, u1, .pointer (some ⟨F, 0, none⟩), .pointer (some ⟨F + 1, 0, none⟩), .pointer (some ⟨F + 2, 0, none⟩), u5, .pointer (some ⟨W2.heap.size, 0, none⟩), u7, u8, u9, u10, u11, u12, u13, undef, undef, undef, undef], defers := [] }) ?assign ?body ?done ?stop
    case assign =>
      rintro l2 k x O2 W2 args hj hx ⟨v0, v1, v2, v3, rfl, hv⟩
      have HV := Lib.hid hv
      obtain ⟨rfl, hop, rfl, _, hA, hS⟩ := hv
      obtain ⟨⟨a1, k1, rfl⟩, _⟩ := hA.form
      obtain ⟨⟨a2, k2, rfl⟩, _⟩ := hS.form
      clear hj hbox
      gi_wp2
      exact ⟨(Below.refl _ _).alloc (Nat.le_refl _) _, _, _, _, _, HV.out, rfl, _, _, _, _, _, _, _, _, _, _, rfl⟩
    case body =>
      rintro l2 k x O2 W3 args _ _ W4 ⟨v0, v1, v2, v3, hv, rfl, u0, u1, u5, u7, u8, u9, u10, u11, u12, u13, rfl⟩ hj hx hrep hbb hbl hz3 hne hl2 hl3 hol
      have hd3 : dn ≤ W3.heap.size := by omega
      have hv4 := (hv.below hbb hd3).below hbl (show dn ≤ l2 by omega)
      rw [World.size_alloc] at hz3
      have hd4 : dn ≤ W4.heap.size := by omega
      obtain ⟨hk, hxe⟩ := List.getElem?_eq_some_iff.1 hx
      have hs := sat_c sc v0 v1 v2 v3 x.2 dn W4 hv4 hd4 hj.t
      have hcc : ∀ q, W4.cell? ⟨W3.heap.size, q, none⟩ = (#[v0, v1, v2, v3] : Array Value)[q]? := fun q => by
        rw [World.cell?_of_block (w := W3.alloc (.cells #[v0, v1, v2, v3] 25)) (hne _ (by show W3.heap.size ≠ l2; omega)), World.cell?_alloc_at _ _ _ _ rfl]
      obtain ⟨rfl, hop, rfl, _, hA, hS⟩ := hv4
      obtain ⟨⟨a1, k1, rfl⟩, _⟩ := hA.form
      obtain ⟨⟨a2, k2, rfl⟩, _⟩ := hS.form
      have d0 := hcc 0
      have d1 := hcc 1
      have d2 := hcc 2
      have d3 := hcc 3
      simp only [List.getElem?_toArray, List.getElem?_cons_zero, List.getElem?_cons_succ] at d0 d1 d2 d3
      have hop0 : 0 ≤ x.2.op := hop.1
      have hop1 : x.2.op ≤ 255 := hop.2
      have hjs := hj.s
      have HJ := Lib.hid hj
      have HXE := Lib.hid hxe
      clear hne hbl hbb hrep hbox hbw2 hA hS hcc hj hx hv hxe hb2 hbw hT2 c4 c5 c6
      cases hsb : satB sc x.2
      · rw [hsb] at hs
        have HS := Lib.hid hs
        have hfin : allB sc f = false := List.all_eq_false.2 ⟨x, by rw [← HXE.out]; exact List.getElem_mem hk, by rw [hsb]; decide⟩
        have HFi := Lib.hid hfin
        clear hs hsb hfin
        gi_wp2_with fail
        refine ⟨trivial, rfl, (CallsIn.inRound l2 (callsIn_wide.2 HS.out)).mono ?_⟩
        rintro e W5 ⟨rfl, hb5⟩
        have hO : O2 (F + 2) := (HJ.out.o _).2 rfl
        have hG := (Grow.of_below (O := O2) hb5).trans (Grow.setCell (O := O2) W5 (p := ⟨F + 2, 0, none⟩) (.bool false) hO) (Sub.refl _ _)
        have r5 : W5.cell? ⟨F + 2, 0, none⟩ = some (.bool false) := (hb5.cell (p := ⟨F + 2, 0, none⟩) HJ.out.lt).trans HJ.out.r
        have r6 : W5.frozen? ⟨F + 2, 0, none⟩ = false := (hb5.frozen (p := ⟨F + 2, 0, none⟩) HJ.out.lt).trans HJ.out.fr
        have hl5 : F + 2 < W5.heap.size := Nat.lt_of_lt_of_le HJ.out.lt hb5.size
        have r7 := Lib.hid (World.cell?_setCell_same' W5 ⟨F + 2, 0, none⟩ (.bool false) (by rw [r5]; rfl))
        have HG := Lib.hid hG
        clear hG hb5
        gi_wp2
        exact ⟨O2, Sub.refl _ _, HG.out, rfl, HJ.out.o, r7.out, by simp; omega, HFi.out⟩
      · rw [hsb] at hs
        have HS := Lib.hid hs
        have HSB := Lib.hid hsb
        clear hs hsb
        gi_wp2_with fail
        refine ⟨trivial, rfl, (CallsIn.inRound l2 (callsIn_wide.2 HS.out)).mono ?_⟩
        rintro e W5 ⟨rfl, hb5⟩
        have hj5 : RJ sc f F (k + 1) O2 W5 := by
          refine ⟨HJ.out.o, (hb5.cell (p := ⟨F + 1, 0, none⟩) (show F + 1 < _ by have := HJ.out.lt; omega)).trans HJ.out.s, (hb5.cell (p := ⟨F + 2, 0, none⟩) HJ.out.lt).trans HJ.out.r, (hb5.frozen (p := ⟨F + 2, 0, none⟩) HJ.out.lt).trans HJ.out.fr, Nat.lt_of_lt_of_le HJ.out.lt hb5.size, HJ.out.t.below hb5 HJ.out.t.1, ?_⟩
          intro y hy
          rw [List.take_succ_eq_append_getElem hk, List.mem_append] at hy
          rcases hy with hy | hy
          · exact HJ.out.l y hy
          · rw [List.mem_singleton] at hy; rw [hy, HXE.out]; exact HSB.out
        have HJ5 := Lib.hid hj5
        have HG := Lib.hid (Grow.of_below (O := O2) hb5)
        clear hj5 hb5
        gi_wp2
        exact ⟨O2, Sub.refl _ _, HG.out, HJ5.out⟩
    case stop =>
      rintro c O2 W3 ⟨rfl, ho, hc, hlt, hfi⟩ hs2 nD hg2 hK
      have hG := Lib.hid (((Grow.of_below (O := fun b => b = F + 2) hbw2).trans hg2 (Sub.refl _ _)).taken (D := W2.heap.size) (by omega) (.deferred none))
      have hc' : (W3.putObj W2.heap.size (.deferred none)).cell? ⟨F + 2, 0, none⟩ = some (.bool false) := (World.cell?_of_block (World.putObj_heap_other (by show F + 2 ≠ _; omega))).trans hc
      have HFi := Lib.hid hfi
      clear hbox hbw2 hs2 hg2 ho hfi hb2 hbw
      gi_wp2
      refine ⟨by simp, .inl ⟨_, _, rfl, run_takeDeferred hK, ?_⟩⟩
      refine ⟨.bool false, by simp [results, Tryd.results23, go_sem, hc'], ?_⟩
      exact ⟨by rw [HB.out, HFi.out], hG.out.below (Nat.le_refl _) fun b hb => by omega⟩
    case done =>
      rintro O2 W3 hj hs2 nD hg2 hK
      have hfin : allB sc f = true := List.all_eq_true.2 fun x hx => hj.l x (by rw [List.take_length]; exact hx)
      obtain ⟨ho, c1, c2, f3, hlt, _, _⟩ := hj
      have e4 := World.cell?_setCell_same' W3 ⟨F + 2, 0, none⟩ (.bool true) (by rw [c2]; rfl)
      have hK4 : (W3.setCell ⟨F + 2, 0, none⟩ (.bool true)).heap[W2.heap.size]? = some (.deferred (some [])) := (Below.heap_setCell W3 ⟨F + 2, 0, none⟩ _ _ (by show W2.heap.size ≠ F + 2; omega)).trans hK
      have hc' : ((W3.setCell ⟨F + 2, 0, none⟩ (.bool true)).putObj W2.heap.size (.deferred none)).cell? ⟨F + 2, 0, none⟩ = some (.bool true) := (World.cell?_of_block (World.putObj_heap_other (by show F + 2 ≠ _; omega))).trans e4
      have hG := Lib.hid ((((Grow.of_below (O := fun b => b = F + 2) hbw2).trans hg2 (Sub.refl _ _)).trans (Grow.setCell (O := fun b => b = F + 2) W3 (p := ⟨F + 2, 0, none⟩) (.bool true) rfl) (fun b hb => .inl hb)).taken (D := W2.heap.size) (by omega) (.deferred none))
      have HFi := Lib.hid hfin
      clear hbox hbw2 hs2 hg2 ho hfin hb2 hbw e4 c1
      gi_wp2
      refine ⟨by simp, .inl ⟨_, _, rfl, run_takeDeferred hK4, ?_⟩⟩
      refine ⟨.bool true, by simp [results, Tryd.results23, go_sem, hc'], ?_⟩
      exact ⟨by rw [HB.out, HFi.out], hG.out.below (Nat.le_refl _) fun b hb => by omega⟩
theorem schema_c (v0 v1 v2 v3 : Value) (f : Fo) (dn : Nat) (w : World) (hf : FoV dn w v0 v1 v2 v3 f) (hd : dn ≤ w.heap.size) (hT : RTab w) :
    Calls Tryd.prog 8 #[.agg #[v0, v1, v2, v3]] w fun e w' => e = .returned (.bool (rightB true f)) ∧ Below w.heap.size w w' := by
  have hb0 : Below w.heap.size w (w.alloc (.cells #[v0, v1, v2, v3] 25)) := (Below.refl _ _).alloc (Nat.le_refl _) _
  have hr := Lib.hid (callsIn_wide.1 (rightForm_in true v0 v1 v2 v3 f dn _ (hf.below hb0 hd) (by simp; omega) (hT.below hb0 hT.1)))
  obtain ⟨rfl, _, rfl, _, hA, hS⟩ := hf
  obtain ⟨⟨a1', k1, rfl⟩, _⟩ := hA.form
  obtain ⟨⟨a2, k2, rfl⟩, _⟩ := hS.form
  go_enter Tryd.func8, Tryd.ntmps8
  go_wp2_with fail
  refine hr.out.mono ?_
  rintro e w1 ⟨rfl, hb⟩
  have hb2 := hb0.trans (hb.mono (by simp))
  clear hb hb0
  go_wp2_with fail
  go_ret
  exact ⟨rfl, hb2⟩
end Go.Proofs.YtdapnjnmhkdnpaaDoor.Fm
