/-
  The contract of the statements' own Copy: a copy in memory of its own.
-/
import Derived.Test.YtnadjkofjgpabaaDoorFmAppF
import Derived.Test.YtnadjkofjgpabaaDoorFmPts
namespace Go.Proofs.YtnadjkofjgpabaaDoor.Fm
open Go Go.RowKit Go.Shelf
set_option linter.unusedVariables false
set_option linter.unusedSimpArgs false
structure RegC (R : Nat) (x0 x1 x2 x3 : Value) (W' : World) : Prop where
  c0 : W'.cell? ⟨R, 0, none⟩ = some x0
  c1 : W'.cell? ⟨R, 1, none⟩ = some x1
  c2 : W'.cell? ⟨R, 2, none⟩ = some x2
  c3 : W'.cell? ⟨R, 3, none⟩ = some x3
theorem RegC.below {R n : Nat} {x0 x1 x2 x3 : Value} {W W' : World} (h : RegC R x0 x1 x2 x3 W) (hb : Below n W W') (hn : R < n) : RegC R x0 x1 x2 x3 W' :=
  ⟨(hb.cell (p := ⟨R, 0, none⟩) hn).trans h.c0, (hb.cell (p := ⟨R, 1, none⟩) hn).trans h.c1, (hb.cell (p := ⟨R, 2, none⟩) hn).trans h.c2, (hb.cell (p := ⟨R, 3, none⟩) hn).trans h.c3⟩
set_option maxHeartbeats 2000000 in
set_option maxRecDepth 20000 in
theorem ownF_c (N : Nat) : ∀ (t : Fo), SizeOf.sizeOf t < N → ∀ (x0 x1 x2 x3 : Value) (dn : Nat) (w : World), FoV dn w x0 x1 x2 x3 t → dn ≤ w.heap.size → Calls Tryd.prog 11 #[.agg #[x0, x1, x2, x3]] w (CopF t w) := by
  induction N with
  | zero => exact fun t h => absurd h (Nat.not_lt_zero _)
  | succ N ih =>
    intro t hN x0 x1 x2 x3 dn w ht hd
    obtain ⟨rfl, hop, rfl, _, ha, hs⟩ := ht
    obtain ⟨⟨sa, ka, rfl⟩, hla⟩ := ha.form
    obtain ⟨⟨sb, kb, rfl⟩, hlb⟩ := hs.form
    have hb0 : Below w.heap.size w ((w.alloc (.cells #[.int .u8 t.op, .string t.n, .slice sa t.args.length ka, .slice sb t.sub.length kb] 25)).alloc (.cells #[.int .u8 0, .string ByteArray.empty, .slice none 0 0, .slice none 0 0] 25)) := ((Below.refl _ _).alloc (Nat.le_refl _) _).alloc (by simp) _
    have H2 := two_boxesT w #[.int .u8 t.op, .string t.n, .slice sa t.args.length ka, .slice sb t.sub.length kb] #[.int .u8 0, .string ByteArray.empty, .slice none 0 0, .slice none 0 0] 25
    have HL := Lib.hid (fun W (h : Below w.heap.size w W) => ownT_c (SizeOf.sizeOf t.args + 1) t.args (Nat.lt_succ_self _) _ dn W (ha.below h hd) (Nat.le_trans hd h.size))
    have HM := Lib.hid (fun W (h : Below w.heap.size w W) => ownLF_c t.sub _ dn W (hs.below h hd) (Nat.le_trans hd h.size) fun t' ht' x0 x1 x2 x3 W h1 h2 => by
      obtain ⟨q, hq, rfl⟩ := List.getElem_of_mem ht'
      exact ih _ (by have := size_sub t q hq; omega) x0 x1 x2 x3 dn W h1 h2)
    clear ha hs ih
    go_enter Tryd.func11, Tryd.ntmps11
    go_wp2_with fail
    obtain ⟨W, hW⟩ : ∃ W, (w.alloc (.cells #[.int .u8 t.op, .string t.n, .slice sa t.args.length ka, .slice sb t.sub.length kb] 25)).alloc (.cells #[.int .u8 0, .string ByteArray.empty, .slice none 0 0, .slice none 0 0] 25) = W := ⟨_, rfl⟩
    have hsW : W.heap.size = w.heap.size + 2 := by rw [← hW]; simp
    rw [hW] at hb0 H2
    rw [show (⟨#[]⟩ : ByteArray) = ByteArray.empty from rfl, hW]
    obtain ⟨p1, p2, p3, p4⟩ := H2
    have a0 := p1 0
    have a1 := p1 1
    have a2 := p1 2
    have a3 := p1 3
    have d0 := p2 0
    have d1 := p2 1
    have d2 := p2 2
    have d3 := p2 3
    have f0 := p4 0
    have f1 := p4 1
    have f2 := p4 2
    have f3 := p4 3
    simp only [List.getElem?_toArray, List.getElem?_cons_zero, List.getElem?_cons_succ] at a0 a1 a2 a3 d0 d1 d2 d3
    clear p1 p2 p3 p4 hW
    refine wp_region_S (RegC w.heap.size (.int .u8 t.op) (.string t.n) (.slice sa t.args.length ka) (.slice sb t.sub.length kb)) [11] 12 #[false, false, false, false, false, false, false, false, false, false, false, false] (by kernel_rfl) (by kernel_rfl) (by kernel_rfl) ⟨a0, a1, a2, a3⟩ (fun hHeld => ?_)
    refine wpAnyS_take (i := 0) (oi := ⟨some 3, _, _, _, _, _⟩) (v := .pointer (some ⟨w.heap.size, 0, none⟩)) rfl (by kernel_rfl) (by kernel_rfl) (by kernel_rfl) (by kernel_rfl) (fun _ _ _ h => Norm.panic h) (Or.inl ⟨by rfl, ?_⟩) (by assumption) ?_
    · intro w' hSw
      obtain ⟨t0, t1, t2, t3⟩ := hSw
      go_simp
    simp only [Act.put, List.setIfInBounds_toArray, List.set_cons_zero, List.set_cons_succ]
    refine wpAnyS_take (i := 1) (oi := ⟨some 4, _, _, _, _, _⟩) (v := .int .u8 t.op) rfl (by kernel_rfl) (by kernel_rfl) (by kernel_rfl) (by kernel_rfl) (fun _ _ _ h => Norm.panic h) (Or.inl ⟨by rfl, ?_⟩) (by assumption) ?_
    · intro w' hSw
      obtain ⟨t0, t1, t2, t3⟩ := hSw
      go_simp
    simp only [Act.put, List.setIfInBounds_toArray, List.set_cons_zero, List.set_cons_succ]
    refine wpAnyS_take (i := 2) (oi := ⟨some 5, _, _, _, _, _⟩) (v := .pointer (some ⟨w.heap.size, 1, none⟩)) rfl (by kernel_rfl) (by kernel_rfl) (by kernel_rfl) (by kernel_rfl) (fun _ _ _ h => Norm.panic h) (Or.inl ⟨by rfl, ?_⟩) (by assumption) ?_
    · intro w' hSw
      obtain ⟨t0, t1, t2, t3⟩ := hSw
      go_simp
    simp only [Act.put, List.setIfInBounds_toArray, List.set_cons_zero, List.set_cons_succ]
    refine wpAnyS_take (i := 3) (oi := ⟨some 6, _, _, _, _, _⟩) (v := .string t.n) rfl (by kernel_rfl) (by kernel_rfl) (by kernel_rfl) (by kernel_rfl) (fun _ _ _ h => Norm.panic h) (Or.inl ⟨by rfl, ?_⟩) (by assumption) ?_
    · intro w' hSw
      obtain ⟨t0, t1, t2, t3⟩ := hSw
      go_simp
    simp only [Act.put, List.setIfInBounds_toArray, List.set_cons_zero, List.set_cons_succ]
    refine wpAnyS_take (i := 4) (oi := ⟨some 7, _, _, _, _, _⟩) (v := .pointer (some ⟨w.heap.size, 2, none⟩)) rfl (by kernel_rfl) (by kernel_rfl) (by kernel_rfl) (by kernel_rfl) (fun _ _ _ h => Norm.panic h) (Or.inl ⟨by rfl, ?_⟩) (by assumption) ?_
    · intro w' hSw
      obtain ⟨t0, t1, t2, t3⟩ := hSw
      go_simp
    simp only [Act.put, List.setIfInBounds_toArray, List.set_cons_zero, List.set_cons_succ]
    refine wpAnyS_take (i := 5) (oi := ⟨some 8, _, _, _, _, _⟩) (v := .slice sa t.args.length ka) rfl (by kernel_rfl) (by kernel_rfl) (by kernel_rfl) (by kernel_rfl) (fun _ _ _ h => Norm.panic h) (Or.inl ⟨by rfl, ?_⟩) (by assumption) ?_
    · intro w' hSw
      obtain ⟨t0, t1, t2, t3⟩ := hSw
      go_simp
    simp only [Act.put, List.setIfInBounds_toArray, List.set_cons_zero, List.set_cons_succ]
    refine wpAnyS_take (i := 7) (oi := ⟨some 10, _, _, _, _, _⟩) (v := .pointer (some ⟨w.heap.size, 3, none⟩)) rfl (by kernel_rfl) (by kernel_rfl) (by kernel_rfl) (by kernel_rfl) (fun _ _ _ h => Norm.panic h) (Or.inl ⟨by rfl, ?_⟩) (by assumption) ?_
    · intro w' hSw
      obtain ⟨t0, t1, t2, t3⟩ := hSw
      go_simp
    simp only [Act.put, List.setIfInBounds_toArray, List.set_cons_zero, List.set_cons_succ]
    refine wpAnyS_take (i := 8) (oi := ⟨some 11, _, _, _, _, _⟩) (v := .slice sb t.sub.length kb) rfl (by kernel_rfl) (by kernel_rfl) (by kernel_rfl) (by kernel_rfl) (fun _ _ _ h => Norm.panic h) (Or.inl ⟨by rfl, ?_⟩) (by assumption) ?_
    · intro w' hSw
      obtain ⟨t0, t1, t2, t3⟩ := hSw
      go_simp
    simp only [Act.put, List.setIfInBounds_toArray, List.set_cons_zero, List.set_cons_succ]
    have HSd := Lib.hid hHeld
    clear hHeld a0 a1 a2 a3
    refine wpAnyS_one (i := 6) (oi := ⟨some 9, _, _, _, _, _⟩) rfl (by kernel_rfl) (by rfl) (fun K hK => ?_)
    go_simp
    refine (HL.out _ (Below.drew hb0)).mono ?_
    rintro e w1 ⟨b2, k2, rfl, htd, hb⟩
    have hb1 : Below (w.heap.size + 2) W w1 := (Below.drew (Below.refl _ _)).trans (hb.mono (by simp; omega))
    have hHeld := HSd.out.below hb (by simp; omega)
    refine hK _ _ (fun _ => hHeld) ?_
    clear hK K
    simp only [Act.put, List.setIfInBounds_toArray, List.set_cons_zero, List.set_cons_succ]
    refine wpAnyS_one (i := 9) (oi := ⟨some 12, _, _, _, _, _⟩) rfl (by kernel_rfl) (by rfl) (fun K hK => ?_)
    go_simp
    refine (HM.out _ (hb0.trans (hb1.mono (by omega)))).mono ?_
    rintro e w2 ⟨b3, k3, rfl, hfd, hb2⟩
    have hz1 := hb.size
    rw [World.size_drew, hsW] at hz1
    have hb12 : Below (w.heap.size + 2) W w2 := hb1.trans (hb2.mono (by omega))
    have hHeld2 := hHeld.below hb2 (by omega)
    refine hK _ _ (fun _ => hHeld2) ?_
    clear hK K
    simp only [Act.put, List.setIfInBounds_toArray, List.set_cons_zero, List.set_cons_succ]
    refine wpAnyS_take (i := 10) (oi := ⟨some 13, _, _, _, _, _⟩) (v := .agg #[.int .u8 t.op, .string t.n, .slice b2 t.args.length k2, .slice b3 t.sub.length k3]) rfl (by kernel_rfl) (by kernel_rfl) (by kernel_rfl) (by kernel_rfl) (fun _ _ _ h => Norm.panic h) (Or.inl ⟨by rfl, ?_⟩) (by assumption) ?_
    · intro w' hSw
      obtain ⟨t0, t1, t2, t3⟩ := hSw
      go_simp
    simp only [Act.put, List.setIfInBounds_toArray, List.set_cons_zero, List.set_cons_succ]
    have d0 := (hb12.cell (p := ⟨w.heap.size + 1, 0, none⟩) (show w.heap.size + 1 < w.heap.size + 2 by omega)).trans d0
    have d1 := (hb12.cell (p := ⟨w.heap.size + 1, 1, none⟩) (show w.heap.size + 1 < w.heap.size + 2 by omega)).trans d1
    have d2 := (hb12.cell (p := ⟨w.heap.size + 1, 2, none⟩) (show w.heap.size + 1 < w.heap.size + 2 by omega)).trans d2
    have d3 := (hb12.cell (p := ⟨w.heap.size + 1, 3, none⟩) (show w.heap.size + 1 < w.heap.size + 2 by omega)).trans d3
    have f0 := (hb12.frozen (p := ⟨w.heap.size + 1, 0, none⟩) (show w.heap.size + 1 < w.heap.size + 2 by omega)).trans f0
    have f1 := (hb12.frozen (p := ⟨w.heap.size + 1, 1, none⟩) (show w.heap.size + 1 < w.heap.size + 2 by omega)).trans f1
    have f2 := (hb12.frozen (p := ⟨w.heap.size + 1, 2, none⟩) (show w.heap.size + 1 < w.heap.size + 2 by omega)).trans f2
    have f3 := (hb12.frozen (p := ⟨w.heap.size + 1, 3, none⟩) (show w.heap.size + 1 < w.heap.size + 2 by omega)).trans f3
    have hz2 := hb2.size
    have hfree : Free w2 (w.heap.size + 1) 4 := ⟨by omega, fun j hj => by
      rcases j with _ | _ | _ | _ | j
      · exact ⟨by rw [d0]; rfl, f0⟩
      · exact ⟨by rw [d1]; rfl, f1⟩
      · exact ⟨by rw [d2]; rfl, f2⟩
      · exact ⟨by rw [d3]; rfl, f3⟩
      · omega⟩
    obtain ⟨W3, hW3⟩ : ∃ W3, set4w w2 (w.heap.size + 1) 0 (.int .u8 t.op) (.string t.n) (.slice b2 t.args.length k2) (.slice b3 t.sub.length k3) = W3 := ⟨_, rfl⟩
    have hs4 := set4 (i := 0) hfree (by omega) (.int .u8 t.op) (.string t.n) (.slice b2 t.args.length k2) (.slice b3 t.sub.length k3)
    unfold set4w at hW3
    rw [hW3] at hs4
    rw [Nat.zero_add] at hW3
    obtain ⟨_, s2, s3, _, r0, r1, r2, r3⟩ := hs4
    rw [Nat.zero_add] at r1 r2 r3
    have S2 := Lib.hid s2
    have S3 := Lib.hid s3
    have HTD := Lib.hid htd
    have HFD := Lib.hid hfd
    have HB12 := Lib.hid hb12
    have HB2 := Lib.hid hb2
    have HB0 := Lib.hid hb0
    clear s2 s3 htd hfd hb12 hb2 hb1 hb hb0 hfree
    refine wpAnyS_one (i := 11) (oi := ⟨none, _, _, _, _, _⟩) rfl (by kernel_rfl) (by rfl) (fun K hK => ?_)
    go_simp
    refine hK _ _ (fun h => absurd (by decide) h) ?_
    clear hK K
    refine wpAnyS_done (by kernel_rfl) ?_
    refine Norm.normal ?_
    go_wp2_with fail
    refine bodyPost_ret (v := .agg #[.int .u8 t.op, .string t.n, .slice b2 t.args.length k2, .slice b3 t.sub.length k3]) (by simp [results, Tryd.results11, go_sem, r0, r1, r2, r3]) rfl ?_
    have hz3 := S2.out.size
    refine ⟨b2, k2, b3, k3, rfl, HTD.out.keep (fun b hb j => ?_) (fun b hb => ?_), HFD.out.keep (fun b hb j => ?_) (fun b hb => ?_), (HB0.out.trans (HB12.out.mono (by omega))).trans (S2.out.mono (by omega))⟩
    · have h1 := hb.1
      rw [World.size_drew, hsW] at h1
      rw [S3.out b (by omega) j, HB2.out.cell (p := ⟨b, j, none⟩) hb.2]
    · have h1 := hb.1
      rw [World.size_drew, hsW] at h1
      have := hb.2
      exact ⟨by omega, by omega⟩
    · rw [S3.out b (by have := hb.1; omega) j]
    · have := hb.1
      have := hb.2
      exact ⟨by omega, by omega⟩
end Go.Proofs.YtnadjkofjgpabaaDoor.Fm
