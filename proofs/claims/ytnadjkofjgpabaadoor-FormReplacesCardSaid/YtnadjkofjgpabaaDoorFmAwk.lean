/-
  The contract of awake: the chapter's examples hold.
-/
import Derived.Test.YtnadjkofjgpabaaDoorFmMake
import Derived.Test.YtnadjkofjgpabaaDoorFmCmpF
import Derived.Test.YtnadjkofjgpabaaDoorFmMono
import Derived.Test.YtnadjkofjgpabaaDoorFmRight
import Derived.Deep.RegionHeld3
namespace Go.Proofs.YtnadjkofjgpabaaDoor.Fm
open Go Go.RowKit Go.Shelf
set_option linter.unusedVariables false
set_option linter.unusedSimpArgs false
structure AwS (B R gp gu : Nat) (x0 x1 x2 x3 y0 y1 y2 y3 : Value) (W' : World) : Prop where
  a : RegC B x0 x1 x2 x3 W'
  b : RegC R y0 y1 y2 y3 W'
  p0 : W'.cell? ⟨gp, 0 + 0 * 2, none⟩ = some (.string ⟨#[80]⟩)
  p1 : W'.cell? ⟨gp, 0 + 0 * 2 + 1, none⟩ = some (.int .i64 2)
  u0 : W'.cell? ⟨gu, 0 + 1 * 2, none⟩ = some (.string ⟨#[102]⟩)
  u1 : W'.cell? ⟨gu, 0 + 1 * 2 + 1, none⟩ = some (.int .i64 1)
theorem predX (v0 v1 v2 v3 : Value) (dn : Nat) (W : World) (hf : FoV dn W v0 v1 v2 v3 exF) (hd : dn ≤ W.heap.size) : Calls Tryd.prog 22 #[.agg #[v0, v1, v2, v3]] W fun e w' =>
    ∃ g cap, e = .returned (.slice (some ⟨g, 0, none⟩) 2 cap) ∧ RowS w' g 0 [(⟨#[80]⟩, 2), (⟨#[81]⟩, 0)] ∧ Below W.heap.size W w' := by
  refine (callsIn_wide.1 (predicates_in inOrder_c v0 v1 v2 v3 exF dn W hf hd ex_fine (by rw [ex_len]; decide) ?_)).mono ?_
  · rw [ex_preds, ex_srt1]
    intro j hj
    obtain rfl : j = 0 := by simp at hj; omega
    intro h
    have := congrArg Prod.snd h
    simp at this
  · rintro e w' ⟨a, cap, rfl, h, hb⟩
    rw [ex_preds, ex_srt1] at h
    rcases h with h | ⟨g, rfl, _, hr⟩
    · cases h
    · exact ⟨g, cap, by rw [ex_preds, ex_srt1]; rfl, hr, hb⟩
theorem funcX (v0 v1 v2 v3 : Value) (dn : Nat) (W : World) (hf : FoV dn W v0 v1 v2 v3 exF) (hd : dn ≤ W.heap.size) : Calls Tryd.prog 23 #[.agg #[v0, v1, v2, v3]] W fun e w' =>
    ∃ g cap, e = .returned (.slice (some ⟨g, 0, none⟩) 2 cap) ∧ RowS w' g 0 [(⟨#[97]⟩, 0), (⟨#[102]⟩, 1)] ∧ Below W.heap.size W w' := by
  refine (callsIn_wide.1 (functions_in inOrder_c v0 v1 v2 v3 exF dn W hf hd ex_fine (by rw [ex_terms]; decide) ?_)).mono ?_
  · rw [ex_funcs, ex_srt2]
    intro j hj
    obtain rfl : j = 0 := by simp at hj; omega
    intro h
    have := congrArg Prod.snd h
    simp at this
  · rintro e w' ⟨a, cap, rfl, h, hb⟩
    rw [ex_funcs, ex_srt2] at h
    rcases h with h | ⟨g, rfl, _, hr⟩
    · cases h
    · exact ⟨g, cap, by rw [ex_funcs, ex_srt2]; rfl, hr, hb⟩
theorem partsX (v0 v1 v2 v3 : Value) (dn : Nat) (W : World) (hf : FoV dn W v0 v1 v2 v3 exF) (hd : dn ≤ W.heap.size) : Calls Tryd.prog 16 #[.agg #[v0, v1, v2, v3]] W fun e w' =>
    ∃ a cap, e = .returned (.slice a 5 cap) ∧ Below W.heap.size W w' := by
  refine (callsIn_wide.1 (parts_c v0 v1 v2 v3 exF dn W hf hd ex_fine ex_fines (ex_fits 1000 1000 (by omega) (by omega)) (by rw [ex_len]; decide) ex_nodup)).mono ?_
  rintro e w' ⟨a, cap, rfl, hb⟩
  exact ⟨a, cap, by rw [ex_len], hb⟩
set_option maxHeartbeats 4000000 in
set_option maxRecDepth 100000 in
theorem awake_c (w : World) (hT : RTab w) : Calls Tryd.prog 7 #[] w fun e w' => e = .returned (.bool true) ∧ Below w.heap.size w w' := by
  go_enter Tryd.func7, Tryd.ntmps7
  go_wp2_with fail
  refine (example_c _).mono ?_
  rintro e w1 ⟨v0, v1, v2, v3, rfl, hv, hb1⟩
  have HV := Lib.hid hv
  obtain ⟨rfl, hop, rfl, _, hA, hS⟩ := hv
  obtain ⟨⟨a1, k1, rfl⟩, _⟩ := hA.form
  obtain ⟨⟨a2, k2, rfl⟩, _⟩ := hS.form
  clear hA hS
  obtain ⟨s, hs⟩ : ∃ s, w1.heap.size = s := ⟨_, rfl⟩
  have hz1 := hb1.size
  have hbp : Below s w1 ((w1.alloc (.cells #[.int .u8 exF.op, .string exF.n, .slice a1 exF.args.length k1, .slice a2 exF.sub.length k2] 25)).alloc (.cells #[.int .i64 0, .int .i64 1, .int .i64 0] 3)) := ((Below.refl s w1).alloc (by omega) _).alloc (by simp; omega) _
  have l1 := Lay.new w1 [.int .u8 exF.op, .string exF.n, .slice a1 exF.args.length k1, .slice a2 exF.sub.length k2] 25
  have l2 := Lay.new (w1.alloc (.cells #[.int .u8 exF.op, .string exF.n, .slice a1 exF.args.length k1, .slice a2 exF.sub.length k2] 25)) [.int .i64 0, .int .i64 1, .int .i64 0] 3
  have hat := at_c _ _ _ _ (.slice (some ⟨s + 1, 0, none⟩) 3 3) exF [0, 1, 0] (s + 2) _ ((HV.out.below hbp (by omega)).mono (by omega)) ⟨some ⟨s + 1, 0, none⟩, 3, s + 1, 0, rfl, by decide, .inr ⟨rfl, by omega⟩, fun q hq => by
    have h := l2
    rw [World.size_alloc, hs] at h
    rw [Nat.zero_add]
    rcases q with _ | _ | _ | q
    · exact h 0 _ rfl
    · exact h 1 _ rfl
    · exact h 2 _ rfl
    · simp at hq; omega⟩ (by simp; omega)
  rw [ex_at] at hat
  have HAT := Lib.hid hat
  clear hat l2
  go_wp2_with fail
  refine HAT.out.mono ?_
  rintro e w2 ⟨a3, k3, a4, k4, rfl, -, -, hb2⟩
  rw [World.size_alloc, World.size_alloc] at hb2
  rw [hs] at hb2
  clear HAT
  go_wp2_with fail
  obtain ⟨W, hW⟩ : ∃ W, w2.alloc (.cells #[.int .u8 fQ.op, .string fQ.n, .slice a3 fQ.args.length k3, .slice a4 fQ.sub.length k4] 25) = W := ⟨_, rfl⟩
  have l2 := Lay.new w2 [.int .u8 fQ.op, .string fQ.n, .slice a3 fQ.args.length k3, .slice a4 fQ.sub.length k4] 25
  have hz2 := hb2.size
  rw [World.size_alloc, World.size_alloc, hs] at hz2
  have hbW : Below w2.heap.size w2 W := by rw [← hW]; exact (Below.refl _ _).alloc (Nat.le_refl _) _
  rw [hs] at l1
  have l1' := ((l1.below ((Below.refl (s + 1) _).alloc (by simp; omega) _) (by omega)).below hb2 (by omega)).below hbW (by omega)
  have hbs : Below s w1 W := (hbp.trans (hb2.mono (by omega))).trans (hbW.mono (by omega))
  have a0 := l1' 0 _ rfl
  have a1' := l1' 1 _ rfl
  have a2' := l1' 2 _ rfl
  have a3' := l1' 3 _ rfl
  have hWz := hbW.size
  have hWz2 : w2.heap.size + 1 ≤ W.heap.size := by rw [← hW]; simp
  rw [hW] at l2 ⊢
  have hsW : s ≤ W.heap.size := by omega
  have HF := Lib.hid (fun W' (h : Below W.heap.size W W') => (HV.out.below (by rw [hs]; exact hbs.trans (h.mono hsW)) (Nat.le_refl _)).mono (show w1.heap.size ≤ s by omega))
  clear hW
  refine wp_region_S (RegC s (.int .u8 exF.op) (.string exF.n) (.slice a1 exF.args.length k1) (.slice a2 exF.sub.length k2)) [] 6 #[false, false, false, false, false, false] (by kernel_rfl) (by kernel_rfl) (by kernel_rfl) ⟨a0, a1', a2', a3'⟩ (fun hHeld => ?_)
  refine wpAnyS_take (i := 0) (oi := ⟨some 13, _, _, _, _, _⟩) (v := .agg #[.int .u8 exF.op, .string exF.n, .slice a1 exF.args.length k1, .slice a2 exF.sub.length k2]) rfl (by kernel_rfl) (by kernel_rfl) (by kernel_rfl) (by kernel_rfl) (fun _ _ _ h => Norm.panic h) (Or.inl ⟨by rfl, ?_⟩) (by assumption) ?_
  · intro w' hSw
    obtain ⟨t0, t1, t2, t3⟩ := hSw
    go_simp
  simp only [Act.put, List.setIfInBounds_toArray, List.set_cons_zero, List.set_cons_succ]
  refine wpAnyS_take (i := 2) (oi := ⟨some 15, _, _, _, _, _⟩) (v := .agg #[.int .u8 exF.op, .string exF.n, .slice a1 exF.args.length k1, .slice a2 exF.sub.length k2]) rfl (by kernel_rfl) (by kernel_rfl) (by kernel_rfl) (by kernel_rfl) (fun _ _ _ h => Norm.panic h) (Or.inl ⟨by rfl, ?_⟩) (by assumption) ?_
  · intro w' hSw
    obtain ⟨t0, t1, t2, t3⟩ := hSw
    go_simp
  simp only [Act.put, List.setIfInBounds_toArray, List.set_cons_zero, List.set_cons_succ]
  have HSd := Lib.hid hHeld
  clear hHeld
  refine wpAnyS_one (i := 1) (oi := ⟨some 14, _, _, _, _, _⟩) rfl (by kernel_rfl) (by rfl) (fun K hK => ?_)
  go_simp
  refine (predX _ _ _ _ s _ (HF.out _ (Below.drew (Below.refl _ _))) (by simp; omega)).mono ?_
  rintro e w3 ⟨gp, cp, rfl, hrp, hb3⟩
  have hb03 : Below W.heap.size W w3 := (Below.drew (Below.refl _ _)).trans (hb3.mono (by simp))
  refine hK _ _ (fun _ => HSd.out.below hb3 (by simp; omega)) ?_
  clear hK K hb3
  simp only [Act.put, List.setIfInBounds_toArray, List.set_cons_zero, List.set_cons_succ]
  refine wpAnyS_one (i := 3) (oi := ⟨some 16, _, _, _, _, _⟩) rfl (by kernel_rfl) (by rfl) (fun K hK => ?_)
  go_simp
  refine (funcX _ _ _ _ s _ (HF.out _ hb03) (Nat.le_trans hsW hb03.size)).mono ?_
  rintro e w4 ⟨gu, cu, rfl, hru, hb4⟩
  have hb04 := hb03.trans (hb4.mono hb03.size)
  have hrp4 := hrp.below hb4
  refine hK _ _ (fun _ => HSd.out.below (n := W.heap.size) ⟨hb04.os, hb04.tape, hb04.output, hb04.size, hb04.block⟩ (by omega)) ?_
  clear hK K hb4 hrp hb03
  simp only [Act.put, List.setIfInBounds_toArray, List.set_cons_zero, List.set_cons_succ]
  refine wpAnyS_one (i := 4) (oi := ⟨some 4, _, _, _, _, _⟩) rfl (by kernel_rfl) (by rfl) (fun K hK => ?_)
  go_simp
  refine hK _ _ (fun _ => HSd.out.below (n := W.heap.size) ⟨hb04.os, hb04.tape, hb04.output, hb04.size, hb04.block⟩ (by omega)) ?_
  clear hK K
  simp only [Act.put, List.setIfInBounds_toArray, List.set_cons_zero, List.set_cons_succ]
  refine wpAnyS_one (i := 5) (oi := ⟨some 5, _, _, _, _, _⟩) rfl (by kernel_rfl) (by rfl) (fun K hK => ?_)
  go_simp
  refine hK _ _ (fun _ => HSd.out.below (n := W.heap.size) ⟨hb04.os, hb04.tape, hb04.output, hb04.size, hb04.block⟩ (by omega)) ?_
  clear hK K
  simp only [Act.put, List.setIfInBounds_toArray, List.set_cons_zero, List.set_cons_succ]
  refine wpAnyS_done (by kernel_rfl) ?_
  refine Norm.normal ?_
  have HC := Lib.hid (fun W' (h : Below w4.heap.size w4 W') => HSd.out.below (n := W.heap.size) (W' := W') ⟨(hb04.trans (h.mono hb04.size)).os, (hb04.trans (h.mono hb04.size)).tape, (hb04.trans (h.mono hb04.size)).output, (hb04.trans (h.mono hb04.size)).size, (hb04.trans (h.mono hb04.size)).block⟩ (by omega))
  have HV4 := Lib.hid (fun W' (h : Below w4.heap.size w4 W') => And.intro (HF.out _ (hb04.trans (h.mono hb04.size))) (Nat.le_trans hsW (hb04.trans (h.mono hb04.size)).size))
  have L2 := Lib.hid (fun W' (h : Below w4.heap.size w4 W') => (l2.below (hb04.trans (h.mono hb04.size)) (by omega) : Lay W' w2.heap.size _))
  have RP := Lib.hid (fun W' (h : Below w4.heap.size w4 W') => hrp4.below h)
  have RU := Lib.hid (fun W' (h : Below w4.heap.size w4 W') => hru.below h)
  have hT4 : RTab w4 := hT.below ((hb1.trans (hbs.mono (by omega))).trans (hb04.mono (by omega))) hT.1
  have HT := Lib.hid (fun W' (h : Below w4.heap.size w4 W') => hT4.below h hT4.1)
  have HBW := Lib.hid ((hb1.trans (hbs.mono (by omega))).trans (hb04.mono (by omega)) : Below w.heap.size w w4)
  have HS := Lib.hid (fun W' (h : Below w4.heap.size w4 W') => show AwS s w2.heap.size gp gu (.int .u8 exF.op) (.string exF.n) (.slice a1 exF.args.length k1) (.slice a2 exF.sub.length k2) (.int .u8 fQ.op) (.string fQ.n) (.slice a3 fQ.args.length k3) (.slice a4 fQ.sub.length k4) W' from
    ⟨HC.out W' h, ⟨L2.out W' h 0 _ rfl, L2.out W' h 1 _ rfl, L2.out W' h 2 _ rfl, L2.out W' h 3 _ rfl⟩, ((RP.out W' h).2 0 (by decide)).1, ((RP.out W' h).2 0 (by decide)).2, ((RU.out W' h).2 1 (by decide)).1, ((RU.out W' h).2 1 (by decide)).2⟩)
  have HQ := Lib.hid (fun W' => show FoV s W' (.int .u8 fQ.op) (.string fQ.n) (.slice a3 fQ.args.length k3) (.slice a4 fQ.sub.length k4) fQ from ⟨rfl, by decide, rfl, by unfold okStr; decide, ⟨a3, k3, 0, 0, rfl, by decide, .inl rfl, by simp [fQ, Fo.args, TsAt]⟩, ⟨a4, k4, 0, 0, rfl, by decide, .inl rfl, by simp [fQ, Fo.sub, FsAt]⟩⟩)
  have HQ2 := Lib.hid (fun W' => show FoV s W' (.int .u8 1) (.string ⟨#[81]⟩) (.slice none 0 0) (.slice none 0 0) fQ from ⟨rfl, by decide, rfl, by unfold okStr; decide, ⟨none, 0, 0, 0, rfl, by decide, .inl rfl, by simp [fQ, Fo.args, TsAt]⟩, ⟨none, 0, 0, 0, rfl, by decide, .inl rfl, by simp [fQ, Fo.sub, FsAt]⟩⟩)
  have heq1 := fun W => eqSy (⟨#[80]⟩, 2) (⟨#[80]⟩, 2) W
  have heq2 := fun W => eqSy (⟨#[102]⟩, 1) (⟨#[102]⟩, 1) W
  rw [decide_eq_true rfl] at heq1 heq2
  clear hT4 hrp4 hru l2 hb04 hbs hbp hbW hb2 hb1 HF HSd a0 a1' a2' a3' l1 l1'
  go_wp2_with fail
  refine wp_region_S (AwS s w2.heap.size gp gu (.int .u8 exF.op) (.string exF.n) (.slice a1 exF.args.length k1) (.slice a2 exF.sub.length k2) (.int .u8 fQ.op) (.string fQ.n) (.slice a3 fQ.args.length k3) (.slice a4 fQ.sub.length k4)) [] 73 #[false, false, false, false, false, false, false, false, false, false, false, false, false, false, false, false, false, false, false, false, false, false, false, false, false, false, false, false, false, false, false, false, false, false, false, false, false, false, false, false, false, false, false, false, false, false, false, false, false, false, false, false, false, false, false, false, false, false, false, false, false, false, false, false, false, false, false, false, false, false, false, false, false] (by kernel_rfl) (by kernel_rfl) (by kernel_rfl) (HS.out w4.drew (Below.drew (Below.refl _ _))) (fun hHeld => ?_)
  have HBk : Below w4.heap.size w4 w4.drew := Below.drew (Below.refl _ _)
  refine wpAnyS_take (i := 0) (oi := ⟨some 17, _, _, _, _, _⟩) (v := .agg #[.int .u8 exF.op, .string exF.n, .slice a1 exF.args.length k1, .slice a2 exF.sub.length k2]) rfl (by kernel_rfl) (by kernel_rfl) (by kernel_rfl) (by kernel_rfl) (fun _ _ _ h => Norm.panic h) (Or.inl ⟨by rfl, ?_⟩) (by assumption) ?_
  · intro w' hSw
    obtain ⟨⟨t0, t1, t2, t3⟩, ⟨t4, t5, t6, t7⟩, t8, t9, t10, t11⟩ := hSw
    go_simp
  simp only [Act.put, List.setIfInBounds_toArray, List.set_cons_zero, List.set_cons_succ]
  refine wpAnyS_one (i := 1) (oi := ⟨some 18, _, _, _, _, _⟩) rfl (by kernel_rfl) (by rfl) (fun K hK => ?_)
  go_simp
  refine (right_c _ _ _ _ exF s _ (HV4.out _ HBk).1 (HV4.out _ HBk).2 ex_fine (HT.out _ HBk)).mono ?_
  rintro e wn ⟨rfl, hbn⟩
  rw [ex_right]
  have HBn := HBk.trans (hbn.mono HBk.size)
  clear HBk hbn
  have HBk := HBn
  clear HBn
  have hHeld := HS.out _ HBk
  refine hK _ _ (fun _ => hHeld) ?_
  clear hK K
  simp only [Act.put, List.setIfInBounds_toArray, List.set_cons_zero, List.set_cons_succ]
  refine wpAnyS_take (i := 2) (oi := ⟨some 19, _, _, _, _, _⟩) (v := .bool true) rfl (by kernel_rfl) (by kernel_rfl) (by kernel_rfl) (by kernel_rfl) (fun _ _ _ h => Norm.panic h) (Or.inl ⟨by rfl, ?_⟩) (by assumption) ?_
  · intro w' hSw
    obtain ⟨⟨t0, t1, t2, t3⟩, ⟨t4, t5, t6, t7⟩, t8, t9, t10, t11⟩ := hSw
    go_simp
  simp only [Act.put, List.setIfInBounds_toArray, List.set_cons_zero, List.set_cons_succ]
  refine wpAnyS_take (i := 3) (oi := ⟨some 20, _, _, _, _, _⟩) (v := .agg #[.int .u8 exF.op, .string exF.n, .slice a1 exF.args.length k1, .slice a2 exF.sub.length k2]) rfl (by kernel_rfl) (by kernel_rfl) (by kernel_rfl) (by kernel_rfl) (fun _ _ _ h => Norm.panic h) (Or.inl ⟨by rfl, ?_⟩) (by assumption) ?_
  · intro w' hSw
    obtain ⟨⟨t0, t1, t2, t3⟩, ⟨t4, t5, t6, t7⟩, t8, t9, t10, t11⟩ := hSw
    go_simp
  simp only [Act.put, List.setIfInBounds_toArray, List.set_cons_zero, List.set_cons_succ]
  refine wpAnyS_one (i := 4) (oi := ⟨some 21, _, _, _, _, _⟩) rfl (by kernel_rfl) (by rfl) (fun K hK => ?_)
  go_simp
  refine (callsIn_wide.1 (nodes_in _ _ _ _ exF s _ (HV4.out _ HBk).1 (HV4.out _ HBk).2 ex_fine)).mono ?_
  rintro e wn ⟨rfl, hbn⟩
  rw [ex_levels]
  have HBn := HBk.trans (hbn.mono HBk.size)
  clear HBk hbn
  have HBk := HBn
  clear HBn
  have hHeld := HS.out _ HBk
  refine hK _ _ (fun _ => hHeld) ?_
  clear hK K
  simp only [Act.put, List.setIfInBounds_toArray, List.set_cons_zero, List.set_cons_succ]
  refine wpAnyS_take (i := 5) (oi := ⟨some 22, _, _, _, _, _⟩) (v := .bool true) rfl (by kernel_rfl) (by kernel_rfl) (by kernel_rfl) (by kernel_rfl) (fun _ _ _ h => Norm.panic h) (Or.inl ⟨by rfl, ?_⟩) (by assumption) ?_
  · intro w' hSw
    obtain ⟨⟨t0, t1, t2, t3⟩, ⟨t4, t5, t6, t7⟩, t8, t9, t10, t11⟩ := hSw
    go_simp
  simp only [Act.put, List.setIfInBounds_toArray, List.set_cons_zero, List.set_cons_succ]
  refine wpAnyS_take (i := 6) (oi := ⟨some 23, _, _, _, _, _⟩) (v := .bool true) rfl (by kernel_rfl) (by kernel_rfl) (by kernel_rfl) (by kernel_rfl) (fun _ _ _ h => Norm.panic h) (Or.inl ⟨by rfl, ?_⟩) (by assumption) ?_
  · intro w' hSw
    obtain ⟨⟨t0, t1, t2, t3⟩, ⟨t4, t5, t6, t7⟩, t8, t9, t10, t11⟩ := hSw
    go_simp
  simp only [Act.put, List.setIfInBounds_toArray, List.set_cons_zero, List.set_cons_succ]
  refine wpAnyS_take (i := 7) (oi := ⟨some 24, _, _, _, _, _⟩) (v := .bool true) rfl (by kernel_rfl) (by kernel_rfl) (by kernel_rfl) (by kernel_rfl) (fun _ _ _ h => Norm.panic h) (Or.inl ⟨by rfl, ?_⟩) (by assumption) ?_
  · intro w' hSw
    obtain ⟨⟨t0, t1, t2, t3⟩, ⟨t4, t5, t6, t7⟩, t8, t9, t10, t11⟩ := hSw
    go_simp
  simp only [Act.put, List.setIfInBounds_toArray, List.set_cons_zero, List.set_cons_succ]
  refine wpAnyS_take (i := 8) (oi := ⟨some 25, _, _, _, _, _⟩) (v := .agg #[.int .u8 exF.op, .string exF.n, .slice a1 exF.args.length k1, .slice a2 exF.sub.length k2]) rfl (by kernel_rfl) (by kernel_rfl) (by kernel_rfl) (by kernel_rfl) (fun _ _ _ h => Norm.panic h) (Or.inl ⟨by rfl, ?_⟩) (by assumption) ?_
  · intro w' hSw
    obtain ⟨⟨t0, t1, t2, t3⟩, ⟨t4, t5, t6, t7⟩, t8, t9, t10, t11⟩ := hSw
    go_simp
  simp only [Act.put, List.setIfInBounds_toArray, List.set_cons_zero, List.set_cons_succ]
  refine wpAnyS_one (i := 9) (oi := ⟨some 26, _, _, _, _, _⟩) rfl (by kernel_rfl) (by rfl) (fun K hK => ?_)
  go_simp
  refine (callsIn_wide.1 (depth_in _ _ _ _ exF s _ (HV4.out _ HBk).1 (HV4.out _ HBk).2 ex_fine)).mono ?_
  rintro e wn ⟨rfl, hbn⟩
  rw [ex_depth]
  have HBn := HBk.trans (hbn.mono HBk.size)
  clear HBk hbn
  have HBk := HBn
  clear HBn
  have hHeld := HS.out _ HBk
  refine hK _ _ (fun _ => hHeld) ?_
  clear hK K
  simp only [Act.put, List.setIfInBounds_toArray, List.set_cons_zero, List.set_cons_succ]
  refine wpAnyS_take (i := 10) (oi := ⟨some 27, _, _, _, _, _⟩) (v := .bool true) rfl (by kernel_rfl) (by kernel_rfl) (by kernel_rfl) (by kernel_rfl) (fun _ _ _ h => Norm.panic h) (Or.inl ⟨by rfl, ?_⟩) (by assumption) ?_
  · intro w' hSw
    obtain ⟨⟨t0, t1, t2, t3⟩, ⟨t4, t5, t6, t7⟩, t8, t9, t10, t11⟩ := hSw
    go_simp
  simp only [Act.put, List.setIfInBounds_toArray, List.set_cons_zero, List.set_cons_succ]
  refine wpAnyS_take (i := 11) (oi := ⟨some 28, _, _, _, _, _⟩) (v := .bool true) rfl (by kernel_rfl) (by kernel_rfl) (by kernel_rfl) (by kernel_rfl) (fun _ _ _ h => Norm.panic h) (Or.inl ⟨by rfl, ?_⟩) (by assumption) ?_
  · intro w' hSw
    obtain ⟨⟨t0, t1, t2, t3⟩, ⟨t4, t5, t6, t7⟩, t8, t9, t10, t11⟩ := hSw
    go_simp
  simp only [Act.put, List.setIfInBounds_toArray, List.set_cons_zero, List.set_cons_succ]
  refine wpAnyS_take (i := 12) (oi := ⟨some 29, _, _, _, _, _⟩) (v := .bool true) rfl (by kernel_rfl) (by kernel_rfl) (by kernel_rfl) (by kernel_rfl) (fun _ _ _ h => Norm.panic h) (Or.inl ⟨by rfl, ?_⟩) (by assumption) ?_
  · intro w' hSw
    obtain ⟨⟨t0, t1, t2, t3⟩, ⟨t4, t5, t6, t7⟩, t8, t9, t10, t11⟩ := hSw
    go_simp
  simp only [Act.put, List.setIfInBounds_toArray, List.set_cons_zero, List.set_cons_succ]
  refine wpAnyS_take (i := 13) (oi := ⟨some 30, _, _, _, _, _⟩) (v := .agg #[.int .u8 exF.op, .string exF.n, .slice a1 exF.args.length k1, .slice a2 exF.sub.length k2]) rfl (by kernel_rfl) (by kernel_rfl) (by kernel_rfl) (by kernel_rfl) (fun _ _ _ h => Norm.panic h) (Or.inl ⟨by rfl, ?_⟩) (by assumption) ?_
  · intro w' hSw
    obtain ⟨⟨t0, t1, t2, t3⟩, ⟨t4, t5, t6, t7⟩, t8, t9, t10, t11⟩ := hSw
    go_simp
  simp only [Act.put, List.setIfInBounds_toArray, List.set_cons_zero, List.set_cons_succ]
  refine wpAnyS_one (i := 14) (oi := ⟨some 31, _, _, _, _, _⟩) rfl (by kernel_rfl) (by rfl) (fun K hK => ?_)
  go_simp
  refine (partsX _ _ _ _ s _ (HV4.out _ HBk).1 (HV4.out _ HBk).2).mono ?_
  rintro e wn ⟨ap, cpp, rfl, hbn⟩
  have HBn := HBk.trans (hbn.mono HBk.size)
  clear HBk hbn
  have HBk := HBn
  clear HBn
  have hHeld := HS.out _ HBk
  refine hK _ _ (fun _ => hHeld) ?_
  clear hK K
  simp only [Act.put, List.setIfInBounds_toArray, List.set_cons_zero, List.set_cons_succ]
  refine wpAnyS_take (i := 15) (oi := ⟨some 32, _, _, _, _, _⟩) (v := .int .i64 5) rfl (by kernel_rfl) (by kernel_rfl) (by kernel_rfl) (by kernel_rfl) (fun _ _ _ h => Norm.panic h) (Or.inl ⟨by rfl, ?_⟩) (by assumption) ?_
  · intro w' hSw
    obtain ⟨⟨t0, t1, t2, t3⟩, ⟨t4, t5, t6, t7⟩, t8, t9, t10, t11⟩ := hSw
    go_simp
  simp only [Act.put, List.setIfInBounds_toArray, List.set_cons_zero, List.set_cons_succ]
  refine wpAnyS_take (i := 16) (oi := ⟨some 33, _, _, _, _, _⟩) (v := .bool true) rfl (by kernel_rfl) (by kernel_rfl) (by kernel_rfl) (by kernel_rfl) (fun _ _ _ h => Norm.panic h) (Or.inl ⟨by rfl, ?_⟩) (by assumption) ?_
  · intro w' hSw
    obtain ⟨⟨t0, t1, t2, t3⟩, ⟨t4, t5, t6, t7⟩, t8, t9, t10, t11⟩ := hSw
    go_simp
  simp only [Act.put, List.setIfInBounds_toArray, List.set_cons_zero, List.set_cons_succ]
  refine wpAnyS_take (i := 17) (oi := ⟨some 34, _, _, _, _, _⟩) (v := .bool true) rfl (by kernel_rfl) (by kernel_rfl) (by kernel_rfl) (by kernel_rfl) (fun _ _ _ h => Norm.panic h) (Or.inl ⟨by rfl, ?_⟩) (by assumption) ?_
  · intro w' hSw
    obtain ⟨⟨t0, t1, t2, t3⟩, ⟨t4, t5, t6, t7⟩, t8, t9, t10, t11⟩ := hSw
    go_simp
  simp only [Act.put, List.setIfInBounds_toArray, List.set_cons_zero, List.set_cons_succ]
  refine wpAnyS_take (i := 18) (oi := ⟨some 35, _, _, _, _, _⟩) (v := .bool true) rfl (by kernel_rfl) (by kernel_rfl) (by kernel_rfl) (by kernel_rfl) (fun _ _ _ h => Norm.panic h) (Or.inl ⟨by rfl, ?_⟩) (by assumption) ?_
  · intro w' hSw
    obtain ⟨⟨t0, t1, t2, t3⟩, ⟨t4, t5, t6, t7⟩, t8, t9, t10, t11⟩ := hSw
    go_simp
  simp only [Act.put, List.setIfInBounds_toArray, List.set_cons_zero, List.set_cons_succ]
  refine wpAnyS_take (i := 19) (oi := ⟨some 36, _, _, _, _, _⟩) (v := .int .i64 0) rfl (by kernel_rfl) (by kernel_rfl) (by kernel_rfl) (by kernel_rfl) (fun _ _ _ h => Norm.panic h) (Or.inl ⟨by rfl, ?_⟩) (by assumption) ?_
  · intro w' hSw
    obtain ⟨⟨t0, t1, t2, t3⟩, ⟨t4, t5, t6, t7⟩, t8, t9, t10, t11⟩ := hSw
    go_simp
  simp only [Act.put, List.setIfInBounds_toArray, List.set_cons_zero, List.set_cons_succ]
  refine wpAnyS_take (i := 20) (oi := ⟨some 37, _, _, _, _, _⟩) (v := .bool true) rfl (by kernel_rfl) (by kernel_rfl) (by kernel_rfl) (by kernel_rfl) (fun _ _ _ h => Norm.panic h) (Or.inl ⟨by rfl, ?_⟩) (by assumption) ?_
  · intro w' hSw
    obtain ⟨⟨t0, t1, t2, t3⟩, ⟨t4, t5, t6, t7⟩, t8, t9, t10, t11⟩ := hSw
    go_simp
  simp only [Act.put, List.setIfInBounds_toArray, List.set_cons_zero, List.set_cons_succ]
  refine wpAnyS_take (i := 21) (oi := ⟨some 38, _, _, _, _, _⟩) (v := .bool true) rfl (by kernel_rfl) (by kernel_rfl) (by kernel_rfl) (by kernel_rfl) (fun _ _ _ h => Norm.panic h) (Or.inl ⟨by rfl, ?_⟩) (by assumption) ?_
  · intro w' hSw
    obtain ⟨⟨t0, t1, t2, t3⟩, ⟨t4, t5, t6, t7⟩, t8, t9, t10, t11⟩ := hSw
    go_simp
  simp only [Act.put, List.setIfInBounds_toArray, List.set_cons_zero, List.set_cons_succ]
  refine wpAnyS_take (i := 22) (oi := ⟨some 39, _, _, _, _, _⟩) (v := .bool true) rfl (by kernel_rfl) (by kernel_rfl) (by kernel_rfl) (by kernel_rfl) (fun _ _ _ h => Norm.panic h) (Or.inl ⟨by rfl, ?_⟩) (by assumption) ?_
  · intro w' hSw
    obtain ⟨⟨t0, t1, t2, t3⟩, ⟨t4, t5, t6, t7⟩, t8, t9, t10, t11⟩ := hSw
    go_simp
  simp only [Act.put, List.setIfInBounds_toArray, List.set_cons_zero, List.set_cons_succ]
  refine wpAnyS_take (i := 23) (oi := ⟨some 40, _, _, _, _, _⟩) (v := .agg #[.int .u8 fQ.op, .string fQ.n, .slice a3 fQ.args.length k3, .slice a4 fQ.sub.length k4]) rfl (by kernel_rfl) (by kernel_rfl) (by kernel_rfl) (by kernel_rfl) (fun _ _ _ h => Norm.panic h) (Or.inl ⟨by rfl, ?_⟩) (by assumption) ?_
  · intro w' hSw
    obtain ⟨⟨t0, t1, t2, t3⟩, ⟨t4, t5, t6, t7⟩, t8, t9, t10, t11⟩ := hSw
    go_simp
  simp only [Act.put, List.setIfInBounds_toArray, List.set_cons_zero, List.set_cons_succ]
  refine wpAnyS_one (i := 24) (oi := ⟨some 41, _, _, _, _, _⟩) rfl (by kernel_rfl) (by rfl) (fun K hK => ?_)
  go_simp
  refine (atom_c _ _ _ _ _).mono ?_
  rintro e wn ⟨rfl, hbn⟩
  have HBn := HBk.trans (hbn.mono HBk.size)
  clear HBk hbn
  have HBk := HBn
  clear HBn
  have hHeld := HS.out _ HBk
  refine hK _ _ (fun _ => hHeld) ?_
  clear hK K
  simp only [Act.put, List.setIfInBounds_toArray, List.set_cons_zero, List.set_cons_succ]
  refine wpAnyS_one (i := 25) (oi := ⟨some 42, _, _, _, _, _⟩) rfl (by kernel_rfl) (by rfl) (fun K hK => ?_)
  go_simp
  refine (eqF_c (SizeOf.sizeOf fQ + 1) fQ (Nat.lt_succ_self _) fQ _ _ _ _ _ _ _ _ s _ (HQ.out _) (HQ2.out _) (HV4.out _ HBk).2).mono ?_
  rintro e wn ⟨rfl, hbn⟩
  rw [(cmpF_zero fQ fQ).1 (cmpF_self fQ)]
  have HBn := HBk.trans (hbn.mono HBk.size)
  clear HBk hbn
  have HBk := HBn
  clear HBn
  have hHeld := HS.out _ HBk
  refine hK _ _ (fun _ => hHeld) ?_
  clear hK K
  simp only [Act.put, List.setIfInBounds_toArray, List.set_cons_zero, List.set_cons_succ]
  refine wpAnyS_take (i := 26) (oi := ⟨some 43, _, _, _, _, _⟩) (v := .bool true) rfl (by kernel_rfl) (by kernel_rfl) (by kernel_rfl) (by kernel_rfl) (fun _ _ _ h => Norm.panic h) (Or.inl ⟨by rfl, ?_⟩) (by assumption) ?_
  · intro w' hSw
    obtain ⟨⟨t0, t1, t2, t3⟩, ⟨t4, t5, t6, t7⟩, t8, t9, t10, t11⟩ := hSw
    go_simp
  simp only [Act.put, List.setIfInBounds_toArray, List.set_cons_zero, List.set_cons_succ]
  refine wpAnyS_take (i := 27) (oi := ⟨some 44, _, _, _, _, _⟩) (v := .bool true) rfl (by kernel_rfl) (by kernel_rfl) (by kernel_rfl) (by kernel_rfl) (fun _ _ _ h => Norm.panic h) (Or.inl ⟨by rfl, ?_⟩) (by assumption) ?_
  · intro w' hSw
    obtain ⟨⟨t0, t1, t2, t3⟩, ⟨t4, t5, t6, t7⟩, t8, t9, t10, t11⟩ := hSw
    go_simp
  simp only [Act.put, List.setIfInBounds_toArray, List.set_cons_zero, List.set_cons_succ]
  refine wpAnyS_take (i := 28) (oi := ⟨some 45, _, _, _, _, _⟩) (v := .slice (some ⟨gp, 0, none⟩) 2 cp) rfl (by kernel_rfl) (by kernel_rfl) (by kernel_rfl) (by kernel_rfl) (fun _ _ _ h => Norm.panic h) (Or.inl ⟨by rfl, ?_⟩) (by assumption) ?_
  · intro w' hSw
    obtain ⟨⟨t0, t1, t2, t3⟩, ⟨t4, t5, t6, t7⟩, t8, t9, t10, t11⟩ := hSw
    go_simp
  simp only [Act.put, List.setIfInBounds_toArray, List.set_cons_zero, List.set_cons_succ]
  refine wpAnyS_take (i := 29) (oi := ⟨some 46, _, _, _, _, _⟩) (v := .int .i64 2) rfl (by kernel_rfl) (by kernel_rfl) (by kernel_rfl) (by kernel_rfl) (fun _ _ _ h => Norm.panic h) (Or.inl ⟨by rfl, ?_⟩) (by assumption) ?_
  · intro w' hSw
    obtain ⟨⟨t0, t1, t2, t3⟩, ⟨t4, t5, t6, t7⟩, t8, t9, t10, t11⟩ := hSw
    go_simp
  simp only [Act.put, List.setIfInBounds_toArray, List.set_cons_zero, List.set_cons_succ]
  refine wpAnyS_take (i := 30) (oi := ⟨some 47, _, _, _, _, _⟩) (v := .bool true) rfl (by kernel_rfl) (by kernel_rfl) (by kernel_rfl) (by kernel_rfl) (fun _ _ _ h => Norm.panic h) (Or.inl ⟨by rfl, ?_⟩) (by assumption) ?_
  · intro w' hSw
    obtain ⟨⟨t0, t1, t2, t3⟩, ⟨t4, t5, t6, t7⟩, t8, t9, t10, t11⟩ := hSw
    go_simp
  simp only [Act.put, List.setIfInBounds_toArray, List.set_cons_zero, List.set_cons_succ]
  refine wpAnyS_take (i := 31) (oi := ⟨some 48, _, _, _, _, _⟩) (v := .bool true) rfl (by kernel_rfl) (by kernel_rfl) (by kernel_rfl) (by kernel_rfl) (fun _ _ _ h => Norm.panic h) (Or.inl ⟨by rfl, ?_⟩) (by assumption) ?_
  · intro w' hSw
    obtain ⟨⟨t0, t1, t2, t3⟩, ⟨t4, t5, t6, t7⟩, t8, t9, t10, t11⟩ := hSw
    go_simp
  simp only [Act.put, List.setIfInBounds_toArray, List.set_cons_zero, List.set_cons_succ]
  refine wpAnyS_take (i := 32) (oi := ⟨some 49, _, _, _, _, _⟩) (v := .bool true) rfl (by kernel_rfl) (by kernel_rfl) (by kernel_rfl) (by kernel_rfl) (fun _ _ _ h => Norm.panic h) (Or.inl ⟨by rfl, ?_⟩) (by assumption) ?_
  · intro w' hSw
    obtain ⟨⟨t0, t1, t2, t3⟩, ⟨t4, t5, t6, t7⟩, t8, t9, t10, t11⟩ := hSw
    go_simp
  simp only [Act.put, List.setIfInBounds_toArray, List.set_cons_zero, List.set_cons_succ]
  refine wpAnyS_take (i := 33) (oi := ⟨some 50, _, _, _, _, _⟩) (v := .slice (some ⟨gp, 0, none⟩) 2 cp) rfl (by kernel_rfl) (by kernel_rfl) (by kernel_rfl) (by kernel_rfl) (fun _ _ _ h => Norm.panic h) (Or.inl ⟨by rfl, ?_⟩) (by assumption) ?_
  · intro w' hSw
    obtain ⟨⟨t0, t1, t2, t3⟩, ⟨t4, t5, t6, t7⟩, t8, t9, t10, t11⟩ := hSw
    go_simp
  simp only [Act.put, List.setIfInBounds_toArray, List.set_cons_zero, List.set_cons_succ]
  refine wpAnyS_take (i := 34) (oi := ⟨some 51, _, _, _, _, _⟩) (v := .pointer (some ⟨gp, 0, none⟩)) rfl (by kernel_rfl) (by kernel_rfl) (by kernel_rfl) (by kernel_rfl) (fun _ _ _ h => Norm.panic h) (Or.inl ⟨by rfl, ?_⟩) (by assumption) ?_
  · intro w' hSw
    obtain ⟨⟨t0, t1, t2, t3⟩, ⟨t4, t5, t6, t7⟩, t8, t9, t10, t11⟩ := hSw
    go_simp
  simp only [Act.put, List.setIfInBounds_toArray, List.set_cons_zero, List.set_cons_succ]
  refine wpAnyS_take (i := 35) (oi := ⟨some 52, _, _, _, _, _⟩) (v := .agg #[.string ⟨#[80]⟩, .int .i64 2]) rfl (by kernel_rfl) (by kernel_rfl) (by kernel_rfl) (by kernel_rfl) (fun _ _ _ h => Norm.panic h) (Or.inl ⟨by rfl, ?_⟩) (by assumption) ?_
  · intro w' hSw
    obtain ⟨⟨t0, t1, t2, t3⟩, ⟨t4, t5, t6, t7⟩, t8, t9, t10, t11⟩ := hSw
    go_simp
  simp only [Act.put, List.setIfInBounds_toArray, List.set_cons_zero, List.set_cons_succ]
  refine wpAnyS_take (i := 36) (oi := ⟨some 53, _, _, _, _, _⟩) (v := .agg #[.string ⟨#[80]⟩, .int .i64 2]) rfl (by kernel_rfl) (by kernel_rfl) (by kernel_rfl) (by kernel_rfl) (fun _ _ _ h => Norm.panic h) (Or.inl ⟨by rfl, ?_⟩) (by assumption) ?_
  · intro w' hSw
    obtain ⟨⟨t0, t1, t2, t3⟩, ⟨t4, t5, t6, t7⟩, t8, t9, t10, t11⟩ := hSw
    go_simp
  simp only [Act.put, List.setIfInBounds_toArray, List.set_cons_zero, List.set_cons_succ]
  refine wpAnyS_take (i := 37) (oi := ⟨some 54, _, _, _, _, _⟩) (v := .bool true) rfl (by kernel_rfl) (by kernel_rfl) (by kernel_rfl) (by kernel_rfl) (fun _ _ _ h => Norm.panic h) (Or.inl ⟨by rfl, ?_⟩) (by assumption) ?_
  · intro w' hSw
    obtain ⟨⟨t0, t1, t2, t3⟩, ⟨t4, t5, t6, t7⟩, t8, t9, t10, t11⟩ := hSw
    go_simp
  simp only [Act.put, List.setIfInBounds_toArray, List.set_cons_zero, List.set_cons_succ]
  refine wpAnyS_take (i := 38) (oi := ⟨some 55, _, _, _, _, _⟩) (v := .bool true) rfl (by kernel_rfl) (by kernel_rfl) (by kernel_rfl) (by kernel_rfl) (fun _ _ _ h => Norm.panic h) (Or.inl ⟨by rfl, ?_⟩) (by assumption) ?_
  · intro w' hSw
    obtain ⟨⟨t0, t1, t2, t3⟩, ⟨t4, t5, t6, t7⟩, t8, t9, t10, t11⟩ := hSw
    go_simp
  simp only [Act.put, List.setIfInBounds_toArray, List.set_cons_zero, List.set_cons_succ]
  refine wpAnyS_take (i := 39) (oi := ⟨some 56, _, _, _, _, _⟩) (v := .bool true) rfl (by kernel_rfl) (by kernel_rfl) (by kernel_rfl) (by kernel_rfl) (fun _ _ _ h => Norm.panic h) (Or.inl ⟨by rfl, ?_⟩) (by assumption) ?_
  · intro w' hSw
    obtain ⟨⟨t0, t1, t2, t3⟩, ⟨t4, t5, t6, t7⟩, t8, t9, t10, t11⟩ := hSw
    go_simp
  simp only [Act.put, List.setIfInBounds_toArray, List.set_cons_zero, List.set_cons_succ]
  refine wpAnyS_take (i := 40) (oi := ⟨some 57, _, _, _, _, _⟩) (v := .slice (some ⟨gu, 0, none⟩) 2 cu) rfl (by kernel_rfl) (by kernel_rfl) (by kernel_rfl) (by kernel_rfl) (fun _ _ _ h => Norm.panic h) (Or.inl ⟨by rfl, ?_⟩) (by assumption) ?_
  · intro w' hSw
    obtain ⟨⟨t0, t1, t2, t3⟩, ⟨t4, t5, t6, t7⟩, t8, t9, t10, t11⟩ := hSw
    go_simp
  simp only [Act.put, List.setIfInBounds_toArray, List.set_cons_zero, List.set_cons_succ]
  refine wpAnyS_take (i := 41) (oi := ⟨some 58, _, _, _, _, _⟩) (v := .int .i64 2) rfl (by kernel_rfl) (by kernel_rfl) (by kernel_rfl) (by kernel_rfl) (fun _ _ _ h => Norm.panic h) (Or.inl ⟨by rfl, ?_⟩) (by assumption) ?_
  · intro w' hSw
    obtain ⟨⟨t0, t1, t2, t3⟩, ⟨t4, t5, t6, t7⟩, t8, t9, t10, t11⟩ := hSw
    go_simp
  simp only [Act.put, List.setIfInBounds_toArray, List.set_cons_zero, List.set_cons_succ]
  refine wpAnyS_take (i := 42) (oi := ⟨some 59, _, _, _, _, _⟩) (v := .bool true) rfl (by kernel_rfl) (by kernel_rfl) (by kernel_rfl) (by kernel_rfl) (fun _ _ _ h => Norm.panic h) (Or.inl ⟨by rfl, ?_⟩) (by assumption) ?_
  · intro w' hSw
    obtain ⟨⟨t0, t1, t2, t3⟩, ⟨t4, t5, t6, t7⟩, t8, t9, t10, t11⟩ := hSw
    go_simp
  simp only [Act.put, List.setIfInBounds_toArray, List.set_cons_zero, List.set_cons_succ]
  refine wpAnyS_take (i := 43) (oi := ⟨some 60, _, _, _, _, _⟩) (v := .bool true) rfl (by kernel_rfl) (by kernel_rfl) (by kernel_rfl) (by kernel_rfl) (fun _ _ _ h => Norm.panic h) (Or.inl ⟨by rfl, ?_⟩) (by assumption) ?_
  · intro w' hSw
    obtain ⟨⟨t0, t1, t2, t3⟩, ⟨t4, t5, t6, t7⟩, t8, t9, t10, t11⟩ := hSw
    go_simp
  simp only [Act.put, List.setIfInBounds_toArray, List.set_cons_zero, List.set_cons_succ]
  refine wpAnyS_take (i := 44) (oi := ⟨some 61, _, _, _, _, _⟩) (v := .bool true) rfl (by kernel_rfl) (by kernel_rfl) (by kernel_rfl) (by kernel_rfl) (fun _ _ _ h => Norm.panic h) (Or.inl ⟨by rfl, ?_⟩) (by assumption) ?_
  · intro w' hSw
    obtain ⟨⟨t0, t1, t2, t3⟩, ⟨t4, t5, t6, t7⟩, t8, t9, t10, t11⟩ := hSw
    go_simp
  simp only [Act.put, List.setIfInBounds_toArray, List.set_cons_zero, List.set_cons_succ]
  refine wpAnyS_take (i := 45) (oi := ⟨some 62, _, _, _, _, _⟩) (v := .slice (some ⟨gu, 0, none⟩) 2 cu) rfl (by kernel_rfl) (by kernel_rfl) (by kernel_rfl) (by kernel_rfl) (fun _ _ _ h => Norm.panic h) (Or.inl ⟨by rfl, ?_⟩) (by assumption) ?_
  · intro w' hSw
    obtain ⟨⟨t0, t1, t2, t3⟩, ⟨t4, t5, t6, t7⟩, t8, t9, t10, t11⟩ := hSw
    go_simp
  simp only [Act.put, List.setIfInBounds_toArray, List.set_cons_zero, List.set_cons_succ]
  refine wpAnyS_take (i := 46) (oi := ⟨some 63, _, _, _, _, _⟩) (v := .pointer (some ⟨gu, 2, none⟩)) rfl (by kernel_rfl) (by kernel_rfl) (by kernel_rfl) (by kernel_rfl) (fun _ _ _ h => Norm.panic h) (Or.inl ⟨by rfl, ?_⟩) (by assumption) ?_
  · intro w' hSw
    obtain ⟨⟨t0, t1, t2, t3⟩, ⟨t4, t5, t6, t7⟩, t8, t9, t10, t11⟩ := hSw
    go_simp
  simp only [Act.put, List.setIfInBounds_toArray, List.set_cons_zero, List.set_cons_succ]
  refine wpAnyS_take (i := 47) (oi := ⟨some 64, _, _, _, _, _⟩) (v := .agg #[.string ⟨#[102]⟩, .int .i64 1]) rfl (by kernel_rfl) (by kernel_rfl) (by kernel_rfl) (by kernel_rfl) (fun _ _ _ h => Norm.panic h) (Or.inl ⟨by rfl, ?_⟩) (by assumption) ?_
  · intro w' hSw
    obtain ⟨⟨t0, t1, t2, t3⟩, ⟨t4, t5, t6, t7⟩, t8, t9, t10, t11⟩ := hSw
    go_simp
  simp only [Act.put, List.setIfInBounds_toArray, List.set_cons_zero, List.set_cons_succ]
  refine wpAnyS_take (i := 48) (oi := ⟨some 65, _, _, _, _, _⟩) (v := .agg #[.string ⟨#[102]⟩, .int .i64 1]) rfl (by kernel_rfl) (by kernel_rfl) (by kernel_rfl) (by kernel_rfl) (fun _ _ _ h => Norm.panic h) (Or.inl ⟨by rfl, ?_⟩) (by assumption) ?_
  · intro w' hSw
    obtain ⟨⟨t0, t1, t2, t3⟩, ⟨t4, t5, t6, t7⟩, t8, t9, t10, t11⟩ := hSw
    go_simp
  simp only [Act.put, List.setIfInBounds_toArray, List.set_cons_zero, List.set_cons_succ]
  refine wpAnyS_take (i := 49) (oi := ⟨some 66, _, _, _, _, _⟩) (v := .bool true) rfl (by kernel_rfl) (by kernel_rfl) (by kernel_rfl) (by kernel_rfl) (fun _ _ _ h => Norm.panic h) (Or.inl ⟨by rfl, ?_⟩) (by assumption) ?_
  · intro w' hSw
    obtain ⟨⟨t0, t1, t2, t3⟩, ⟨t4, t5, t6, t7⟩, t8, t9, t10, t11⟩ := hSw
    go_simp
  simp only [Act.put, List.setIfInBounds_toArray, List.set_cons_zero, List.set_cons_succ]
  refine wpAnyS_take (i := 50) (oi := ⟨some 67, _, _, _, _, _⟩) (v := .bool true) rfl (by kernel_rfl) (by kernel_rfl) (by kernel_rfl) (by kernel_rfl) (fun _ _ _ h => Norm.panic h) (Or.inl ⟨by rfl, ?_⟩) (by assumption) ?_
  · intro w' hSw
    obtain ⟨⟨t0, t1, t2, t3⟩, ⟨t4, t5, t6, t7⟩, t8, t9, t10, t11⟩ := hSw
    go_simp
  simp only [Act.put, List.setIfInBounds_toArray, List.set_cons_zero, List.set_cons_succ]
  refine wpAnyS_take (i := 51) (oi := ⟨some 68, _, _, _, _, _⟩) (v := .bool true) rfl (by kernel_rfl) (by kernel_rfl) (by kernel_rfl) (by kernel_rfl) (fun _ _ _ h => Norm.panic h) (Or.inl ⟨by rfl, ?_⟩) (by assumption) ?_
  · intro w' hSw
    obtain ⟨⟨t0, t1, t2, t3⟩, ⟨t4, t5, t6, t7⟩, t8, t9, t10, t11⟩ := hSw
    go_simp
  simp only [Act.put, List.setIfInBounds_toArray, List.set_cons_zero, List.set_cons_succ]
  refine wpAnyS_one (i := 52) (oi := ⟨some 69, _, _, _, _, _⟩) rfl (by kernel_rfl) (by rfl) (fun K hK => ?_)
  go_simp
  refine (variable_c _ _ (by decide)).mono ?_
  rintro e wn ⟨rfl, hbn⟩
  rw [Fm.w1]
  have HBn := HBk.trans (hbn.mono HBk.size)
  clear HBk hbn
  have HBk := HBn
  clear HBn
  have hHeld := HS.out _ HBk
  refine hK _ _ (fun _ => hHeld) ?_
  clear hK K
  simp only [Act.put, List.setIfInBounds_toArray, List.set_cons_zero, List.set_cons_succ]
  refine wpAnyS_take (i := 53) (oi := ⟨some 70, _, _, _, _, _⟩) (v := .bool true) rfl (by kernel_rfl) (by kernel_rfl) (by kernel_rfl) (by kernel_rfl) (fun _ _ _ h => Norm.panic h) (Or.inl ⟨by rfl, ?_⟩) (by assumption) ?_
  · intro w' hSw
    obtain ⟨⟨t0, t1, t2, t3⟩, ⟨t4, t5, t6, t7⟩, t8, t9, t10, t11⟩ := hSw
    go_simp
  simp only [Act.put, List.setIfInBounds_toArray, List.set_cons_zero, List.set_cons_succ]
  refine wpAnyS_take (i := 54) (oi := ⟨some 71, _, _, _, _, _⟩) (v := .bool true) rfl (by kernel_rfl) (by kernel_rfl) (by kernel_rfl) (by kernel_rfl) (fun _ _ _ h => Norm.panic h) (Or.inl ⟨by rfl, ?_⟩) (by assumption) ?_
  · intro w' hSw
    obtain ⟨⟨t0, t1, t2, t3⟩, ⟨t4, t5, t6, t7⟩, t8, t9, t10, t11⟩ := hSw
    go_simp
  simp only [Act.put, List.setIfInBounds_toArray, List.set_cons_zero, List.set_cons_succ]
  refine wpAnyS_one (i := 55) (oi := ⟨some 72, _, _, _, _, _⟩) rfl (by kernel_rfl) (by rfl) (fun K hK => ?_)
  go_simp
  refine (variable_c _ _ (by decide)).mono ?_
  rintro e wn ⟨rfl, hbn⟩
  rw [Fm.w2]
  have HBn := HBk.trans (hbn.mono HBk.size)
  clear HBk hbn
  have HBk := HBn
  clear HBn
  have hHeld := HS.out _ HBk
  refine hK _ _ (fun _ => hHeld) ?_
  clear hK K
  simp only [Act.put, List.setIfInBounds_toArray, List.set_cons_zero, List.set_cons_succ]
  refine wpAnyS_take (i := 56) (oi := ⟨some 73, _, _, _, _, _⟩) (v := .bool true) rfl (by kernel_rfl) (by kernel_rfl) (by kernel_rfl) (by kernel_rfl) (fun _ _ _ h => Norm.panic h) (Or.inl ⟨by rfl, ?_⟩) (by assumption) ?_
  · intro w' hSw
    obtain ⟨⟨t0, t1, t2, t3⟩, ⟨t4, t5, t6, t7⟩, t8, t9, t10, t11⟩ := hSw
    go_simp
  simp only [Act.put, List.setIfInBounds_toArray, List.set_cons_zero, List.set_cons_succ]
  refine wpAnyS_take (i := 57) (oi := ⟨some 74, _, _, _, _, _⟩) (v := .bool true) rfl (by kernel_rfl) (by kernel_rfl) (by kernel_rfl) (by kernel_rfl) (fun _ _ _ h => Norm.panic h) (Or.inl ⟨by rfl, ?_⟩) (by assumption) ?_
  · intro w' hSw
    obtain ⟨⟨t0, t1, t2, t3⟩, ⟨t4, t5, t6, t7⟩, t8, t9, t10, t11⟩ := hSw
    go_simp
  simp only [Act.put, List.setIfInBounds_toArray, List.set_cons_zero, List.set_cons_succ]
  refine wpAnyS_take (i := 58) (oi := ⟨some 75, _, _, _, _, _⟩) (v := .bool true) rfl (by kernel_rfl) (by kernel_rfl) (by kernel_rfl) (by kernel_rfl) (fun _ _ _ h => Norm.panic h) (Or.inl ⟨by rfl, ?_⟩) (by assumption) ?_
  · intro w' hSw
    obtain ⟨⟨t0, t1, t2, t3⟩, ⟨t4, t5, t6, t7⟩, t8, t9, t10, t11⟩ := hSw
    go_simp
  simp only [Act.put, List.setIfInBounds_toArray, List.set_cons_zero, List.set_cons_succ]
  refine wpAnyS_one (i := 59) (oi := ⟨some 76, _, _, _, _, _⟩) rfl (by kernel_rfl) (by rfl) (fun K hK => ?_)
  go_simp
  refine (function_c _ _ (by decide)).mono ?_
  rintro e wn ⟨rfl, hbn⟩
  rw [Fm.w3]
  have HBn := HBk.trans (hbn.mono HBk.size)
  clear HBk hbn
  have HBk := HBn
  clear HBn
  have hHeld := HS.out _ HBk
  refine hK _ _ (fun _ => hHeld) ?_
  clear hK K
  simp only [Act.put, List.setIfInBounds_toArray, List.set_cons_zero, List.set_cons_succ]
  refine wpAnyS_take (i := 60) (oi := ⟨some 77, _, _, _, _, _⟩) (v := .bool true) rfl (by kernel_rfl) (by kernel_rfl) (by kernel_rfl) (by kernel_rfl) (fun _ _ _ h => Norm.panic h) (Or.inl ⟨by rfl, ?_⟩) (by assumption) ?_
  · intro w' hSw
    obtain ⟨⟨t0, t1, t2, t3⟩, ⟨t4, t5, t6, t7⟩, t8, t9, t10, t11⟩ := hSw
    go_simp
  simp only [Act.put, List.setIfInBounds_toArray, List.set_cons_zero, List.set_cons_succ]
  refine wpAnyS_take (i := 61) (oi := ⟨some 78, _, _, _, _, _⟩) (v := .bool true) rfl (by kernel_rfl) (by kernel_rfl) (by kernel_rfl) (by kernel_rfl) (fun _ _ _ h => Norm.panic h) (Or.inl ⟨by rfl, ?_⟩) (by assumption) ?_
  · intro w' hSw
    obtain ⟨⟨t0, t1, t2, t3⟩, ⟨t4, t5, t6, t7⟩, t8, t9, t10, t11⟩ := hSw
    go_simp
  simp only [Act.put, List.setIfInBounds_toArray, List.set_cons_zero, List.set_cons_succ]
  refine wpAnyS_one (i := 62) (oi := ⟨some 79, _, _, _, _, _⟩) rfl (by kernel_rfl) (by rfl) (fun K hK => ?_)
  go_simp
  refine (function_c _ _ (by decide)).mono ?_
  rintro e wn ⟨rfl, hbn⟩
  rw [Fm.w4]
  have HBn := HBk.trans (hbn.mono HBk.size)
  clear HBk hbn
  have HBk := HBn
  clear HBn
  have hHeld := HS.out _ HBk
  refine hK _ _ (fun _ => hHeld) ?_
  clear hK K
  simp only [Act.put, List.setIfInBounds_toArray, List.set_cons_zero, List.set_cons_succ]
  refine wpAnyS_take (i := 63) (oi := ⟨some 80, _, _, _, _, _⟩) (v := .bool true) rfl (by kernel_rfl) (by kernel_rfl) (by kernel_rfl) (by kernel_rfl) (fun _ _ _ h => Norm.panic h) (Or.inl ⟨by rfl, ?_⟩) (by assumption) ?_
  · intro w' hSw
    obtain ⟨⟨t0, t1, t2, t3⟩, ⟨t4, t5, t6, t7⟩, t8, t9, t10, t11⟩ := hSw
    go_simp
  simp only [Act.put, List.setIfInBounds_toArray, List.set_cons_zero, List.set_cons_succ]
  refine wpAnyS_take (i := 64) (oi := ⟨some 81, _, _, _, _, _⟩) (v := .bool true) rfl (by kernel_rfl) (by kernel_rfl) (by kernel_rfl) (by kernel_rfl) (fun _ _ _ h => Norm.panic h) (Or.inl ⟨by rfl, ?_⟩) (by assumption) ?_
  · intro w' hSw
    obtain ⟨⟨t0, t1, t2, t3⟩, ⟨t4, t5, t6, t7⟩, t8, t9, t10, t11⟩ := hSw
    go_simp
  simp only [Act.put, List.setIfInBounds_toArray, List.set_cons_zero, List.set_cons_succ]
  refine wpAnyS_take (i := 65) (oi := ⟨some 82, _, _, _, _, _⟩) (v := .bool true) rfl (by kernel_rfl) (by kernel_rfl) (by kernel_rfl) (by kernel_rfl) (fun _ _ _ h => Norm.panic h) (Or.inl ⟨by rfl, ?_⟩) (by assumption) ?_
  · intro w' hSw
    obtain ⟨⟨t0, t1, t2, t3⟩, ⟨t4, t5, t6, t7⟩, t8, t9, t10, t11⟩ := hSw
    go_simp
  simp only [Act.put, List.setIfInBounds_toArray, List.set_cons_zero, List.set_cons_succ]
  refine wpAnyS_one (i := 66) (oi := ⟨some 83, _, _, _, _, _⟩) rfl (by kernel_rfl) (by rfl) (fun K hK => ?_)
  go_simp
  refine (meta_c _ _ (by decide)).mono ?_
  rintro e wn ⟨rfl, hbn⟩
  rw [Fm.w5]
  have HBn := HBk.trans (hbn.mono HBk.size)
  clear HBk hbn
  have HBk := HBn
  clear HBn
  have hHeld := HS.out _ HBk
  refine hK _ _ (fun _ => hHeld) ?_
  clear hK K
  simp only [Act.put, List.setIfInBounds_toArray, List.set_cons_zero, List.set_cons_succ]
  refine wpAnyS_take (i := 67) (oi := ⟨some 84, _, _, _, _, _⟩) (v := .bool true) rfl (by kernel_rfl) (by kernel_rfl) (by kernel_rfl) (by kernel_rfl) (fun _ _ _ h => Norm.panic h) (Or.inl ⟨by rfl, ?_⟩) (by assumption) ?_
  · intro w' hSw
    obtain ⟨⟨t0, t1, t2, t3⟩, ⟨t4, t5, t6, t7⟩, t8, t9, t10, t11⟩ := hSw
    go_simp
  simp only [Act.put, List.setIfInBounds_toArray, List.set_cons_zero, List.set_cons_succ]
  refine wpAnyS_take (i := 68) (oi := ⟨some 85, _, _, _, _, _⟩) (v := .bool true) rfl (by kernel_rfl) (by kernel_rfl) (by kernel_rfl) (by kernel_rfl) (fun _ _ _ h => Norm.panic h) (Or.inl ⟨by rfl, ?_⟩) (by assumption) ?_
  · intro w' hSw
    obtain ⟨⟨t0, t1, t2, t3⟩, ⟨t4, t5, t6, t7⟩, t8, t9, t10, t11⟩ := hSw
    go_simp
  simp only [Act.put, List.setIfInBounds_toArray, List.set_cons_zero, List.set_cons_succ]
  refine wpAnyS_one (i := 69) (oi := ⟨some 86, _, _, _, _, _⟩) rfl (by kernel_rfl) (by rfl) (fun K hK => ?_)
  go_simp
  refine (meta_c _ _ (by decide)).mono ?_
  rintro e wn ⟨rfl, hbn⟩
  rw [Fm.w6]
  have HBn := HBk.trans (hbn.mono HBk.size)
  clear HBk hbn
  have HBk := HBn
  clear HBn
  have hHeld := HS.out _ HBk
  refine hK _ _ (fun _ => hHeld) ?_
  clear hK K
  simp only [Act.put, List.setIfInBounds_toArray, List.set_cons_zero, List.set_cons_succ]
  refine wpAnyS_take (i := 70) (oi := ⟨some 87, _, _, _, _, _⟩) (v := .bool true) rfl (by kernel_rfl) (by kernel_rfl) (by kernel_rfl) (by kernel_rfl) (fun _ _ _ h => Norm.panic h) (Or.inl ⟨by rfl, ?_⟩) (by assumption) ?_
  · intro w' hSw
    obtain ⟨⟨t0, t1, t2, t3⟩, ⟨t4, t5, t6, t7⟩, t8, t9, t10, t11⟩ := hSw
    go_simp
  simp only [Act.put, List.setIfInBounds_toArray, List.set_cons_zero, List.set_cons_succ]
  refine wpAnyS_take (i := 71) (oi := ⟨some 88, _, _, _, _, _⟩) (v := .bool true) rfl (by kernel_rfl) (by kernel_rfl) (by kernel_rfl) (by kernel_rfl) (fun _ _ _ h => Norm.panic h) (Or.inl ⟨by rfl, ?_⟩) (by assumption) ?_
  · intro w' hSw
    obtain ⟨⟨t0, t1, t2, t3⟩, ⟨t4, t5, t6, t7⟩, t8, t9, t10, t11⟩ := hSw
    go_simp
  simp only [Act.put, List.setIfInBounds_toArray, List.set_cons_zero, List.set_cons_succ]
  refine wpAnyS_take (i := 72) (oi := ⟨some 0, _, _, _, _, _⟩) (v := .bool true) rfl (by kernel_rfl) (by kernel_rfl) (by kernel_rfl) (by kernel_rfl) (fun _ _ _ h => Norm.panic h) (Or.inl ⟨by rfl, ?_⟩) (by assumption) ?_
  · intro w' hSw
    obtain ⟨⟨t0, t1, t2, t3⟩, ⟨t4, t5, t6, t7⟩, t8, t9, t10, t11⟩ := hSw
    go_simp
  simp only [Act.put, List.setIfInBounds_toArray, List.set_cons_zero, List.set_cons_succ]
  refine wpAnyS_done (by kernel_rfl) ?_
  refine Norm.normal ?_
  go_wp2_with fail
  go_ret
  exact ⟨rfl, HBW.out.trans (HBk.mono HBW.out.size)⟩
end Go.Proofs.YtnadjkofjgpabaaDoor.Fm
