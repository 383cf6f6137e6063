/-
  The chapter's examples.
-/
import Derived.Test.YtdapnjnmhkdnpaaDoorFtMake
import Derived.Deep.Cut
namespace Go.Proofs.YtdapnjnmhkdnpaaDoor.Fb
open Go Go.RowKit Go.Shelf Go.Proofs.YtdapnjnmhkdnpaaDoor.Fm Go.Proofs.YtdapnjnmhkdnpaaDoor.Lx Go.Proofs.YtdapnjnmhkdnpaaDoor.Ps Go.Proofs.YtdapnjnmhkdnpaaDoor.Ft
set_option linter.unusedVariables false
set_option linter.unusedSimpArgs false
set_option maxRecDepth 20000 in
set_option maxHeartbeats 16000000 in
theorem awake_c (W : World) (hT : RTab W) (hS : STab W) : Calls Tryd.prog 6 #[] W fun e w' => e = .returned (.bool true) ∧ Below W.heap.size W w' := by
  obtain ⟨Q, hQ⟩ : ∃ Q : Ending → World → Prop, Q = fun e w' => e = .returned (.bool true) ∧ Below W.heap.size W w' := ⟨_, rfl⟩
  rw [← hQ]
  have HQ := Lib.hid hQ
  have HR := Lib.hid (fun w (h : Below W.heap.size W w) => (⟨hT.below h hT.1, hS.below h⟩ : RTab w ∧ STab w))
  have HB := Lib.hid (Below.refl W.heap.size W)
  clear hQ hT hS
  go_enter Tryd.func6, Tryd.ntmps6
  go_wp2_with fail
  obtain ⟨w0, hw0⟩ : ∃ w0, w0 = W := ⟨_, rfl⟩
  clear w0 hw0
  refine (p_c ⟨#[80]⟩ none 0 0 W).mono ?_
  rintro e w1 ⟨rfl, hb⟩
  replace HB := Lib.hid (HB.out.trans hb)
  clear hb
  go_wp2_with fail
  refine (p_c ⟨#[81]⟩ none 0 0 _).mono ?_
  rintro e w2 ⟨rfl, hb⟩
  replace HB := Lib.hid (HB.out.trans (hb.mono HB.out.size))
  clear hb
  go_wp2_with fail
  refine (p_c ⟨#[82]⟩ none 0 0 _).mono ?_
  rintro e w3 ⟨rfl, hb⟩
  replace HB := Lib.hid (HB.out.trans (hb.mono HB.out.size))
  clear hb
  go_wp2_with fail
  refine (p_c ⟨#[83]⟩ none 0 0 _).mono ?_
  rintro e w4 ⟨rfl, hb⟩
  replace HB := Lib.hid (HB.out.trans (hb.mono HB.out.size))
  clear hb
  go_upto_region 2 with fail
  generalize hX : w4.alloc (.cells #[.int .u8 1, .string ⟨#[80]⟩, .slice none 0 0, .slice none 0 0] 25) = w5
  have hb : Below w4.heap.size w4 w5 := by rw [← hX]; exact (Below.refl _ _).alloc (Nat.le_refl _) _
  have hc : ∀ j u, [Value.int .u8 1, .string ⟨#[80]⟩, .slice none 0 0, .slice none 0 0][j]? = some u → w5.cell? ⟨w4.heap.size, j, none⟩ = some u := fun j u hj => by rw [← hX, World.cell?_alloc_at _ _ _ _ rfl, ← hj]; simp
  have ho : w4.heap.size < w5.heap.size := by rw [← hX]; simp
  replace HB := Lib.hid (HB.out.trans (hb.mono HB.out.size))
  have hs1 : w5.heap.size = w4.heap.size + 1 := by rw [← hX]; simp
  have B0 := Lib.hid (show BxA w5 (w4.heap.size) (.int .u8 1) (.string ⟨#[80]⟩) (.slice none 0 0) (.slice none 0 0) from ⟨hc 0 _ rfl, hc 1 _ rfl, hc 2 _ rfl, hc 3 _ rfl, ho⟩)
  clear hX hb hc ho
  generalize hX : w5.alloc (.cells #[.int .u8 1, .string ⟨#[81]⟩, .slice none 0 0, .slice none 0 0] 25) = w6
  have hb : Below w5.heap.size w5 w6 := by rw [← hX]; exact (Below.refl _ _).alloc (Nat.le_refl _) _
  have hc : ∀ j u, [Value.int .u8 1, .string ⟨#[81]⟩, .slice none 0 0, .slice none 0 0][j]? = some u → w6.cell? ⟨w5.heap.size, j, none⟩ = some u := fun j u hj => by rw [← hX, World.cell?_alloc_at _ _ _ _ rfl, ← hj]; simp
  have ho : w5.heap.size < w6.heap.size := by rw [← hX]; simp
  replace B0 := Lib.hid (B0.out.below hb)
  replace HB := Lib.hid (HB.out.trans (hb.mono HB.out.size))
  have hs2 : w6.heap.size = w4.heap.size + 1 + 1 := by rw [← hX]; simp [hs1]
  rw [hs1] at hc ho
  have B1 := Lib.hid (show BxA w6 (w4.heap.size + 1) (.int .u8 1) (.string ⟨#[81]⟩) (.slice none 0 0) (.slice none 0 0) from ⟨hc 0 _ rfl, hc 1 _ rfl, hc 2 _ rfl, hc 3 _ rfl, ho⟩)
  clear hX hb hc ho
  generalize hX : w6.alloc (.cells #[.int .u8 1, .string ⟨#[82]⟩, .slice none 0 0, .slice none 0 0] 25) = w7
  have hb : Below w6.heap.size w6 w7 := by rw [← hX]; exact (Below.refl _ _).alloc (Nat.le_refl _) _
  have hc : ∀ j u, [Value.int .u8 1, .string ⟨#[82]⟩, .slice none 0 0, .slice none 0 0][j]? = some u → w7.cell? ⟨w6.heap.size, j, none⟩ = some u := fun j u hj => by rw [← hX, World.cell?_alloc_at _ _ _ _ rfl, ← hj]; simp
  have ho : w6.heap.size < w7.heap.size := by rw [← hX]; simp
  replace B0 := Lib.hid (B0.out.below hb)
  replace B1 := Lib.hid (B1.out.below hb)
  replace HB := Lib.hid (HB.out.trans (hb.mono HB.out.size))
  have hs3 : w7.heap.size = w4.heap.size + 1 + 1 + 1 := by rw [← hX]; simp [hs2]
  rw [hs2] at hc ho
  have B2 := Lib.hid (show BxA w7 (w4.heap.size + 1 + 1) (.int .u8 1) (.string ⟨#[82]⟩) (.slice none 0 0) (.slice none 0 0) from ⟨hc 0 _ rfl, hc 1 _ rfl, hc 2 _ rfl, hc 3 _ rfl, ho⟩)
  clear hX hb hc ho
  generalize hX : w7.alloc (.cells #[.int .u8 1, .string ⟨#[83]⟩, .slice none 0 0, .slice none 0 0] 25) = w8
  have hb : Below w7.heap.size w7 w8 := by rw [← hX]; exact (Below.refl _ _).alloc (Nat.le_refl _) _
  have hc : ∀ j u, [Value.int .u8 1, .string ⟨#[83]⟩, .slice none 0 0, .slice none 0 0][j]? = some u → w8.cell? ⟨w7.heap.size, j, none⟩ = some u := fun j u hj => by rw [← hX, World.cell?_alloc_at _ _ _ _ rfl, ← hj]; simp
  have ho : w7.heap.size < w8.heap.size := by rw [← hX]; simp
  replace B0 := Lib.hid (B0.out.below hb)
  replace B1 := Lib.hid (B1.out.below hb)
  replace B2 := Lib.hid (B2.out.below hb)
  replace HB := Lib.hid (HB.out.trans (hb.mono HB.out.size))
  have hs4 : w8.heap.size = w4.heap.size + 1 + 1 + 1 + 1 := by rw [← hX]; simp [hs3]
  rw [hs3] at hc ho
  have B3 := Lib.hid (show BxA w8 (w4.heap.size + 1 + 1 + 1) (.int .u8 1) (.string ⟨#[83]⟩) (.slice none 0 0) (.slice none 0 0) from ⟨hc 0 _ rfl, hc 1 _ rfl, hc 2 _ rfl, hc 3 _ rfl, ho⟩)
  clear hX hb hc ho
  clear hs1 hs2 hs3 hs4
  go_wp2_with fail
  refine (v_c ⟨#[120]⟩ _).mono ?_
  rintro e w9 ⟨rfl, hb⟩
  replace B0 := Lib.hid (B0.out.below hb)
  replace B1 := Lib.hid (B1.out.below hb)
  replace B2 := Lib.hid (B2.out.below hb)
  replace B3 := Lib.hid (B3.out.below hb)
  replace HB := Lib.hid (HB.out.trans (hb.mono HB.out.size))
  clear hb
  go_wp2_with fail
  refine (v_c ⟨#[63, 116]⟩ _).mono ?_
  rintro e w10 ⟨rfl, hb⟩
  replace B0 := Lib.hid (B0.out.below hb)
  replace B1 := Lib.hid (B1.out.below hb)
  replace B2 := Lib.hid (B2.out.below hb)
  replace B3 := Lib.hid (B3.out.below hb)
  replace HB := Lib.hid (HB.out.trans (hb.mono HB.out.size))
  clear hb
  go_upto_region 3 with fail
  generalize hX : w10.alloc (.cells #[.bool true, .string ⟨#[120]⟩, .slice none 0 0, .bool true, .string ⟨#[63, 116]⟩, .slice none 0 0] 39) = w11
  have hb : Below w10.heap.size w10 w11 := by rw [← hX]; exact (Below.refl _ _).alloc (Nat.le_refl _) _
  have hc : ∀ j u, [Value.bool true, .string ⟨#[120]⟩, .slice none 0 0, .bool true, .string ⟨#[63, 116]⟩, .slice none 0 0][j]? = some u → w11.cell? ⟨w10.heap.size, j, none⟩ = some u := fun j u hj => by rw [← hX, World.cell?_alloc_at _ _ _ _ rfl, ← hj]; simp
  have ho : w10.heap.size < w11.heap.size := by rw [← hX]; simp
  replace B0 := Lib.hid (B0.out.below hb)
  replace B1 := Lib.hid (B1.out.below hb)
  replace B2 := Lib.hid (B2.out.below hb)
  replace B3 := Lib.hid (B3.out.below hb)
  replace HB := Lib.hid (HB.out.trans (hb.mono HB.out.size))
  have F1 := Lib.hid (show AF w11 (.int .u8 16) (.string ⟨#[63, 65]⟩) (.slice (some ⟨w10.heap.size, 0, none⟩) 2 2) (.slice none 0 0) fI from af_args 16 ⟨#[63, 65]⟩ (by omega) (ok_lit (by decide)) (slT_2 ho (at_mk true ⟨#[120]⟩ (ok_lit (by decide)) (nilT _ _)) (at_mk true ⟨#[63, 116]⟩ (ok_lit (by decide)) (nilT _ _)) hc))
  have hs5 : w11.heap.size = w10.heap.size + 1 := by rw [← hX]; simp
  clear hX hb hc ho
  generalize hX : w11.alloc (.cells #[.int .u8 16, .string ⟨#[63, 65]⟩, .slice (some ⟨w10.heap.size, 0, none⟩) 2 2, .slice none 0 0] 25) = w12
  have hb : Below w11.heap.size w11 w12 := by rw [← hX]; exact (Below.refl _ _).alloc (Nat.le_refl _) _
  have hc : ∀ j u, [Value.int .u8 16, .string ⟨#[63, 65]⟩, .slice (some ⟨w10.heap.size, 0, none⟩) 2 2, .slice none 0 0][j]? = some u → w12.cell? ⟨w11.heap.size, j, none⟩ = some u := fun j u hj => by rw [← hX, World.cell?_alloc_at _ _ _ _ rfl, ← hj]; simp
  have ho : w11.heap.size < w12.heap.size := by rw [← hX]; simp
  replace B0 := Lib.hid (B0.out.below hb)
  replace B1 := Lib.hid (B1.out.below hb)
  replace B2 := Lib.hid (B2.out.below hb)
  replace B3 := Lib.hid (B3.out.below hb)
  replace F1 := Lib.hid (F1.out.below hb)
  replace HB := Lib.hid (HB.out.trans (hb.mono HB.out.size))
  rw [hs5] at hc ho
  have B4 := Lib.hid (show BxA w12 (w10.heap.size + 1) (.int .u8 16) (.string ⟨#[63, 65]⟩) (.slice (some ⟨w10.heap.size, 0, none⟩) 2 2) (.slice none 0 0) from ⟨hc 0 _ rfl, hc 1 _ rfl, hc 2 _ rfl, hc 3 _ rfl, ho⟩)
  clear hX hb hc ho hs5
  have HS := Lib.hid (show ∀ w' : World, BxA w' (w4.heap.size) (.int .u8 1) (.string ⟨#[80]⟩) (.slice none 0 0) (.slice none 0 0) → BxA w' (w4.heap.size + 1) (.int .u8 1) (.string ⟨#[81]⟩) (.slice none 0 0) (.slice none 0 0) → BxA w' (w4.heap.size + 1 + 1) (.int .u8 1) (.string ⟨#[82]⟩) (.slice none 0 0) (.slice none 0 0) → BxA w' (w4.heap.size + 1 + 1 + 1) (.int .u8 1) (.string ⟨#[83]⟩) (.slice none 0 0) (.slice none 0 0) → BxA w' (w10.heap.size + 1) (.int .u8 16) (.string ⟨#[63, 65]⟩) (.slice (some ⟨w10.heap.size, 0, none⟩) 2 2) (.slice none 0 0) → (fun w' => w'.cell? ⟨w4.heap.size, 0, none⟩ = some (.int .u8 1) ∧ w'.cell? ⟨w4.heap.size, 1, none⟩ = some (.string ⟨#[80]⟩) ∧ w'.cell? ⟨w4.heap.size, 2, none⟩ = some (.slice none 0 0) ∧ w'.cell? ⟨w4.heap.size, 3, none⟩ = some (.slice none 0 0) ∧ w'.cell? ⟨w4.heap.size + 1, 0, none⟩ = some (.int .u8 1) ∧ w'.cell? ⟨w4.heap.size + 1, 1, none⟩ = some (.string ⟨#[81]⟩) ∧ w'.cell? ⟨w4.heap.size + 1, 2, none⟩ = some (.slice none 0 0) ∧ w'.cell? ⟨w4.heap.size + 1, 3, none⟩ = some (.slice none 0 0) ∧ w'.cell? ⟨w4.heap.size + 1 + 1, 0, none⟩ = some (.int .u8 1) ∧ w'.cell? ⟨w4.heap.size + 1 + 1, 1, none⟩ = some (.string ⟨#[82]⟩) ∧ w'.cell? ⟨w4.heap.size + 1 + 1, 2, none⟩ = some (.slice none 0 0) ∧ w'.cell? ⟨w4.heap.size + 1 + 1, 3, none⟩ = some (.slice none 0 0) ∧ w'.cell? ⟨w4.heap.size + 1 + 1 + 1, 0, none⟩ = some (.int .u8 1) ∧ w'.cell? ⟨w4.heap.size + 1 + 1 + 1, 1, none⟩ = some (.string ⟨#[83]⟩) ∧ w'.cell? ⟨w4.heap.size + 1 + 1 + 1, 2, none⟩ = some (.slice none 0 0) ∧ w'.cell? ⟨w4.heap.size + 1 + 1 + 1, 3, none⟩ = some (.slice none 0 0) ∧ w'.cell? ⟨w10.heap.size + 1, 0, none⟩ = some (.int .u8 16) ∧ w'.cell? ⟨w10.heap.size + 1, 1, none⟩ = some (.string ⟨#[63, 65]⟩) ∧ w'.cell? ⟨w10.heap.size + 1, 2, none⟩ = some (.slice (some ⟨w10.heap.size, 0, none⟩) 2 2) ∧ w'.cell? ⟨w10.heap.size + 1, 3, none⟩ = some (.slice none 0 0)) w' from fun w' h0 h1 h2 h3 h4 => ⟨h0.c0, h0.c1, h0.c2, h0.c3, h1.c0, h1.c1, h1.c2, h1.c3, h2.c0, h2.c1, h2.c2, h2.c3, h3.c0, h3.c1, h3.c2, h3.c3, h4.c0, h4.c1, h4.c2, h4.c3⟩)
  have hb : Below w12.heap.size w12 w12.drew := Below.drew (Below.refl _ _)
  generalize hwd : w12.drew = w13 at hb
  replace B0 := Lib.hid (B0.out.below hb)
  replace B1 := Lib.hid (B1.out.below hb)
  replace B2 := Lib.hid (B2.out.below hb)
  replace B3 := Lib.hid (B3.out.below hb)
  replace F1 := Lib.hid (F1.out.below hb)
  replace B4 := Lib.hid (B4.out.below hb)
  replace HB := Lib.hid (HB.out.trans (hb.mono HB.out.size))
  clear hb
  refine wp_region_S (fun w' => w'.cell? ⟨w4.heap.size, 0, none⟩ = some (.int .u8 1) ∧ w'.cell? ⟨w4.heap.size, 1, none⟩ = some (.string ⟨#[80]⟩) ∧ w'.cell? ⟨w4.heap.size, 2, none⟩ = some (.slice none 0 0) ∧ w'.cell? ⟨w4.heap.size, 3, none⟩ = some (.slice none 0 0) ∧ w'.cell? ⟨w4.heap.size + 1, 0, none⟩ = some (.int .u8 1) ∧ w'.cell? ⟨w4.heap.size + 1, 1, none⟩ = some (.string ⟨#[81]⟩) ∧ w'.cell? ⟨w4.heap.size + 1, 2, none⟩ = some (.slice none 0 0) ∧ w'.cell? ⟨w4.heap.size + 1, 3, none⟩ = some (.slice none 0 0) ∧ w'.cell? ⟨w4.heap.size + 1 + 1, 0, none⟩ = some (.int .u8 1) ∧ w'.cell? ⟨w4.heap.size + 1 + 1, 1, none⟩ = some (.string ⟨#[82]⟩) ∧ w'.cell? ⟨w4.heap.size + 1 + 1, 2, none⟩ = some (.slice none 0 0) ∧ w'.cell? ⟨w4.heap.size + 1 + 1, 3, none⟩ = some (.slice none 0 0) ∧ w'.cell? ⟨w4.heap.size + 1 + 1 + 1, 0, none⟩ = some (.int .u8 1) ∧ w'.cell? ⟨w4.heap.size + 1 + 1 + 1, 1, none⟩ = some (.string ⟨#[83]⟩) ∧ w'.cell? ⟨w4.heap.size + 1 + 1 + 1, 2, none⟩ = some (.slice none 0 0) ∧ w'.cell? ⟨w4.heap.size + 1 + 1 + 1, 3, none⟩ = some (.slice none 0 0) ∧ w'.cell? ⟨w10.heap.size + 1, 0, none⟩ = some (.int .u8 16) ∧ w'.cell? ⟨w10.heap.size + 1, 1, none⟩ = some (.string ⟨#[63, 65]⟩) ∧ w'.cell? ⟨w10.heap.size + 1, 2, none⟩ = some (.slice (some ⟨w10.heap.size, 0, none⟩) 2 2) ∧ w'.cell? ⟨w10.heap.size + 1, 3, none⟩ = some (.slice none 0 0)) [] 12 #[false, false, false, false, false, false, false, false, false, false, false, false] (by kernel_rfl) (by kernel_rfl) (by kernel_rfl) (by rw [hwd]; exact HS.out _ B0.out B1.out B2.out B3.out B4.out) (fun hHeld => ?_)
  rw [hwd] at hHeld ⊢
  clear hwd
  refine wpAnyS_take (i := 0) (oi := ⟨some 17, _, _, _, _, _⟩) (v := .agg #[.int .u8 1, .string ⟨#[80]⟩, .slice none 0 0, .slice none 0 0]) rfl (by kernel_rfl) (by kernel_rfl) (by kernel_rfl) (by kernel_rfl) (fun _ _ _ h => Norm.panic h) (Or.inl ⟨by rfl, ?_⟩) (by assumption) ?_
  · intro w' hSw
    obtain ⟨k0', k1', k2', k3', k4', k5', k6', k7', k8', k9', k10', k11', k12', k13', k14', k15', k16', k17', k18', k19'⟩ := hSw
    go_simp
  simp only [Act.put, List.setIfInBounds_toArray, List.set_cons_zero, List.set_cons_succ]
  refine wpAnyS_take (i := 1) (oi := ⟨some 18, _, _, _, _, _⟩) (v := .agg #[.int .u8 1, .string ⟨#[81]⟩, .slice none 0 0, .slice none 0 0]) rfl (by kernel_rfl) (by kernel_rfl) (by kernel_rfl) (by kernel_rfl) (fun _ _ _ h => Norm.panic h) (Or.inl ⟨by rfl, ?_⟩) (by assumption) ?_
  · intro w' hSw
    obtain ⟨k0', k1', k2', k3', k4', k5', k6', k7', k8', k9', k10', k11', k12', k13', k14', k15', k16', k17', k18', k19'⟩ := hSw
    go_simp
  simp only [Act.put, List.setIfInBounds_toArray, List.set_cons_zero, List.set_cons_succ]
  refine wpAnyS_take (i := 4) (oi := ⟨some 21, _, _, _, _, _⟩) (v := .agg #[.int .u8 1, .string ⟨#[82]⟩, .slice none 0 0, .slice none 0 0]) rfl (by kernel_rfl) (by kernel_rfl) (by kernel_rfl) (by kernel_rfl) (fun _ _ _ h => Norm.panic h) (Or.inl ⟨by rfl, ?_⟩) (by assumption) ?_
  · intro w' hSw
    obtain ⟨k0', k1', k2', k3', k4', k5', k6', k7', k8', k9', k10', k11', k12', k13', k14', k15', k16', k17', k18', k19'⟩ := hSw
    go_simp
  simp only [Act.put, List.setIfInBounds_toArray, List.set_cons_zero, List.set_cons_succ]
  refine wpAnyS_one (i := 2) (oi := ⟨some 19, _, _, _, _, _⟩) rfl (by kernel_rfl) (by rfl) (fun K hK => ?_)
  clear hHeld
  go_simp
  generalize hX : w13.alloc (.cells #[.int .u8 1, .string ⟨#[80]⟩, .slice none 0 0, .slice none 0 0, .int .u8 1, .string ⟨#[81]⟩, .slice none 0 0, .slice none 0 0] 25) = w14
  have hb : Below w13.heap.size w13 w14 := by rw [← hX]; exact (Below.refl _ _).alloc (Nat.le_refl _) _
  have hc : ∀ j u, [Value.int .u8 1, .string ⟨#[80]⟩, .slice none 0 0, .slice none 0 0, .int .u8 1, .string ⟨#[81]⟩, .slice none 0 0, .slice none 0 0][j]? = some u → w14.cell? ⟨w13.heap.size, j, none⟩ = some u := fun j u hj => by rw [← hX, World.cell?_alloc_at _ _ _ _ rfl, ← hj]; simp
  have ho : w13.heap.size < w14.heap.size := by rw [← hX]; simp
  replace B0 := Lib.hid (B0.out.below hb)
  replace B1 := Lib.hid (B1.out.below hb)
  replace B2 := Lib.hid (B2.out.below hb)
  replace B3 := Lib.hid (B3.out.below hb)
  replace F1 := Lib.hid (F1.out.below hb)
  replace B4 := Lib.hid (B4.out.below hb)
  replace HB := Lib.hid (HB.out.trans (hb.mono HB.out.size))
  have hsl := slF_2 ho (af_leaf _ 1 ⟨#[80]⟩ (by omega) (ok_lit (by decide))) (af_leaf _ 1 ⟨#[81]⟩ (by omega) (ok_lit (by decide))) hc
  have F2 := Lib.hid (show AF w14 (.int .u8 5) (.string ⟨#[]⟩) (.slice none 0 0) (.slice (some ⟨w13.heap.size, 0, none⟩) 2 2) (.mk 5 ⟨#[]⟩ [] [(fP 80), (fP 81)]) from af_sub 5 ⟨#[]⟩ (by omega) (ok_lit (by decide)) hsl)
  clear hX hb hc ho hsl
  have hHeld := HS.out _ B0.out B1.out B2.out B3.out B4.out
  refine hK _ _ (fun _ => hHeld) ?_
  clear hK K
  simp only [Act.put, List.setIfInBounds_toArray, List.set_cons_zero, List.set_cons_succ]
  refine wpAnyS_one (i := 3) (oi := ⟨some 20, _, _, _, _, _⟩) rfl (by kernel_rfl) (by rfl) (fun K hK => ?_)
  clear hHeld
  go_simp
  refine (of_c 5 ⟨#[]⟩ (some ⟨w13.heap.size, 0, none⟩) 2 2 _).mono ?_
  rintro e w15 ⟨rfl, hb⟩
  replace B0 := Lib.hid (B0.out.below hb)
  replace B1 := Lib.hid (B1.out.below hb)
  replace B2 := Lib.hid (B2.out.below hb)
  replace B3 := Lib.hid (B3.out.below hb)
  replace F1 := Lib.hid (F1.out.below hb)
  replace B4 := Lib.hid (B4.out.below hb)
  replace F2 := Lib.hid (F2.out.below hb)
  replace HB := Lib.hid (HB.out.trans (hb.mono HB.out.size))
  clear hb
  have hHeld := HS.out _ B0.out B1.out B2.out B3.out B4.out
  refine hK _ _ (fun _ => hHeld) ?_
  clear hK K
  simp only [Act.put, List.setIfInBounds_toArray, List.set_cons_zero, List.set_cons_succ]
  refine wpAnyS_one (i := 5) (oi := ⟨some 22, _, _, _, _, _⟩) rfl (by kernel_rfl) (by rfl) (fun K hK => ?_)
  clear hHeld
  go_simp
  generalize hX : w15.alloc (.cells #[.int .u8 5, .string ⟨#[]⟩, .slice none 0 0, .slice (some ⟨w13.heap.size, 0, none⟩) 2 2, .int .u8 1, .string ⟨#[82]⟩, .slice none 0 0, .slice none 0 0] 25) = w16
  have hb : Below w15.heap.size w15 w16 := by rw [← hX]; exact (Below.refl _ _).alloc (Nat.le_refl _) _
  have hc : ∀ j u, [Value.int .u8 5, .string ⟨#[]⟩, .slice none 0 0, .slice (some ⟨w13.heap.size, 0, none⟩) 2 2, .int .u8 1, .string ⟨#[82]⟩, .slice none 0 0, .slice none 0 0][j]? = some u → w16.cell? ⟨w15.heap.size, j, none⟩ = some u := fun j u hj => by rw [← hX, World.cell?_alloc_at _ _ _ _ rfl, ← hj]; simp
  have ho : w15.heap.size < w16.heap.size := by rw [← hX]; simp
  replace B0 := Lib.hid (B0.out.below hb)
  replace B1 := Lib.hid (B1.out.below hb)
  replace B2 := Lib.hid (B2.out.below hb)
  replace B3 := Lib.hid (B3.out.below hb)
  replace F1 := Lib.hid (F1.out.below hb)
  replace B4 := Lib.hid (B4.out.below hb)
  replace F2 := Lib.hid (F2.out.below hb)
  replace HB := Lib.hid (HB.out.trans (hb.mono HB.out.size))
  have hsl := slF_2 ho F2.out (af_leaf _ 1 ⟨#[82]⟩ (by omega) (ok_lit (by decide))) hc
  have F3 := Lib.hid (show AF w16 (.int .u8 0) (.string ⟨#[]⟩) (.slice none 0 0) (.slice (some ⟨w15.heap.size, 0, none⟩) 2 2) (.mk 0 ⟨#[]⟩ [] eL) from af_sub 0 ⟨#[]⟩ (by omega) (ok_lit (by decide)) hsl)
  clear hX hb hc ho hsl
  have hHeld := HS.out _ B0.out B1.out B2.out B3.out B4.out
  refine hK _ _ (fun _ => hHeld) ?_
  clear hK K
  simp only [Act.put, List.setIfInBounds_toArray, List.set_cons_zero, List.set_cons_succ]
  clear F2
  refine wpAnyS_one (i := 6) (oi := ⟨some 23, _, _, _, _, _⟩) rfl (by kernel_rfl) (by rfl) (fun K hK => ?_)
  clear hHeld
  go_simp
  have hfo := forms_c eL _ _ _ F3.out.sub (Nat.le_refl _) (HR.out _ HB.out).1 (HR.out _ HB.out).2 eL_o (fun _ => eL_n)
  rw [eL_r, TxtR_ok, eL_t] at hfo
  refine (hfo).mono ?_
  rintro e w17 ⟨rfl, hb⟩
  replace B0 := Lib.hid (B0.out.below hb)
  replace B1 := Lib.hid (B1.out.below hb)
  replace B2 := Lib.hid (B2.out.below hb)
  replace B3 := Lib.hid (B3.out.below hb)
  replace F1 := Lib.hid (F1.out.below hb)
  replace B4 := Lib.hid (B4.out.below hb)
  replace F3 := Lib.hid (F3.out.below hb)
  replace HB := Lib.hid (HB.out.trans (hb.mono HB.out.size))
  clear hb
  clear hfo
  have hHeld := HS.out _ B0.out B1.out B2.out B3.out B4.out
  refine hK _ _ (fun _ => hHeld) ?_
  clear hK K
  simp only [Act.put, List.setIfInBounds_toArray, List.set_cons_zero, List.set_cons_succ]
  clear F3
  refine wpAnyS_take (i := 7) (oi := ⟨some 16, _, _, _, _, _⟩) (v := .tuple #[.string ⟨#[80, 32, 124, 32, 81, 44, 32, 82]⟩, .int .i64 0]) rfl (by kernel_rfl) (by kernel_rfl) (by kernel_rfl) (by kernel_rfl) (fun _ _ _ h => Norm.panic h) (Or.inl ⟨by rfl, ?_⟩) (by assumption) ?_
  · intro w' hSw
    obtain ⟨k0', k1', k2', k3', k4', k5', k6', k7', k8', k9', k10', k11', k12', k13', k14', k15', k16', k17', k18', k19'⟩ := hSw
    go_simp
  simp only [Act.put, List.setIfInBounds_toArray, List.set_cons_zero, List.set_cons_succ]
  refine wpAnyS_take (i := 8) (oi := ⟨some 24, _, _, _, _, _⟩) (v := .string ⟨#[80, 32, 124, 32, 81, 44, 32, 82]⟩) rfl (by kernel_rfl) (by kernel_rfl) (by kernel_rfl) (by kernel_rfl) (fun _ _ _ h => Norm.panic h) (Or.inl ⟨by rfl, ?_⟩) (by assumption) ?_
  · intro w' hSw
    obtain ⟨k0', k1', k2', k3', k4', k5', k6', k7', k8', k9', k10', k11', k12', k13', k14', k15', k16', k17', k18', k19'⟩ := hSw
    go_simp
  simp only [Act.put, List.setIfInBounds_toArray, List.set_cons_zero, List.set_cons_succ]
  refine wpAnyS_take (i := 9) (oi := ⟨some 25, _, _, _, _, _⟩) (v := .int .i64 0) rfl (by kernel_rfl) (by kernel_rfl) (by kernel_rfl) (by kernel_rfl) (fun _ _ _ h => Norm.panic h) (Or.inl ⟨by rfl, ?_⟩) (by assumption) ?_
  · intro w' hSw
    obtain ⟨k0', k1', k2', k3', k4', k5', k6', k7', k8', k9', k10', k11', k12', k13', k14', k15', k16', k17', k18', k19'⟩ := hSw
    go_simp
  simp only [Act.put, List.setIfInBounds_toArray, List.set_cons_zero, List.set_cons_succ]
  refine wpAnyS_take (i := 10) (oi := ⟨some 6, _, _, _, _, _⟩) (v := .string ⟨#[80, 32, 124, 32, 81, 44, 32, 82]⟩) rfl (by kernel_rfl) (by kernel_rfl) (by kernel_rfl) (by kernel_rfl) (fun _ _ _ h => Norm.panic h) (Or.inl ⟨by rfl, ?_⟩) (by assumption) ?_
  · intro w' hSw
    obtain ⟨k0', k1', k2', k3', k4', k5', k6', k7', k8', k9', k10', k11', k12', k13', k14', k15', k16', k17', k18', k19'⟩ := hSw
    go_simp
  simp only [Act.put, List.setIfInBounds_toArray, List.set_cons_zero, List.set_cons_succ]
  refine wpAnyS_take (i := 11) (oi := ⟨some 7, _, _, _, _, _⟩) (v := .int .i64 0) rfl (by kernel_rfl) (by kernel_rfl) (by kernel_rfl) (by kernel_rfl) (fun _ _ _ h => Norm.panic h) (Or.inl ⟨by rfl, ?_⟩) (by assumption) ?_
  · intro w' hSw
    obtain ⟨k0', k1', k2', k3', k4', k5', k6', k7', k8', k9', k10', k11', k12', k13', k14', k15', k16', k17', k18', k19'⟩ := hSw
    go_simp
  simp only [Act.put, List.setIfInBounds_toArray, List.set_cons_zero, List.set_cons_succ]
  refine wpAnyS_done (by kernel_rfl) ?_
  refine Norm.normal ?_
  clear hHeld
  go_wp2_with fail
  have hb : Below w17.heap.size w17 w17.drew := Below.drew (Below.refl _ _)
  generalize hwd : w17.drew = w18 at hb
  replace B0 := Lib.hid (B0.out.below hb)
  replace B1 := Lib.hid (B1.out.below hb)
  replace B2 := Lib.hid (B2.out.below hb)
  replace B3 := Lib.hid (B3.out.below hb)
  replace F1 := Lib.hid (F1.out.below hb)
  replace B4 := Lib.hid (B4.out.below hb)
  replace HB := Lib.hid (HB.out.trans (hb.mono HB.out.size))
  clear hb
  refine wp_region_S (fun w' => w'.cell? ⟨w4.heap.size, 0, none⟩ = some (.int .u8 1) ∧ w'.cell? ⟨w4.heap.size, 1, none⟩ = some (.string ⟨#[80]⟩) ∧ w'.cell? ⟨w4.heap.size, 2, none⟩ = some (.slice none 0 0) ∧ w'.cell? ⟨w4.heap.size, 3, none⟩ = some (.slice none 0 0) ∧ w'.cell? ⟨w4.heap.size + 1, 0, none⟩ = some (.int .u8 1) ∧ w'.cell? ⟨w4.heap.size + 1, 1, none⟩ = some (.string ⟨#[81]⟩) ∧ w'.cell? ⟨w4.heap.size + 1, 2, none⟩ = some (.slice none 0 0) ∧ w'.cell? ⟨w4.heap.size + 1, 3, none⟩ = some (.slice none 0 0) ∧ w'.cell? ⟨w4.heap.size + 1 + 1, 0, none⟩ = some (.int .u8 1) ∧ w'.cell? ⟨w4.heap.size + 1 + 1, 1, none⟩ = some (.string ⟨#[82]⟩) ∧ w'.cell? ⟨w4.heap.size + 1 + 1, 2, none⟩ = some (.slice none 0 0) ∧ w'.cell? ⟨w4.heap.size + 1 + 1, 3, none⟩ = some (.slice none 0 0) ∧ w'.cell? ⟨w4.heap.size + 1 + 1 + 1, 0, none⟩ = some (.int .u8 1) ∧ w'.cell? ⟨w4.heap.size + 1 + 1 + 1, 1, none⟩ = some (.string ⟨#[83]⟩) ∧ w'.cell? ⟨w4.heap.size + 1 + 1 + 1, 2, none⟩ = some (.slice none 0 0) ∧ w'.cell? ⟨w4.heap.size + 1 + 1 + 1, 3, none⟩ = some (.slice none 0 0) ∧ w'.cell? ⟨w10.heap.size + 1, 0, none⟩ = some (.int .u8 16) ∧ w'.cell? ⟨w10.heap.size + 1, 1, none⟩ = some (.string ⟨#[63, 65]⟩) ∧ w'.cell? ⟨w10.heap.size + 1, 2, none⟩ = some (.slice (some ⟨w10.heap.size, 0, none⟩) 2 2) ∧ w'.cell? ⟨w10.heap.size + 1, 3, none⟩ = some (.slice none 0 0)) [] 77 #[false, false, false, false, false, false, false, false, false, false, false, false, false, false, false, false, false, false, false, false, false, false, false, false, false, false, false, false, false, false, false, false, false, false, false, false, false, false, false, false, false, false, false, false, false, false, false, false, false, false, false, false, false, false, false, false, false, false, false, false, false, false, false, false, false, false, false, false, false, false, false, false, false, false, false, false, false] (by kernel_rfl) (by kernel_rfl) (by kernel_rfl) (by rw [hwd]; exact HS.out _ B0.out B1.out B2.out B3.out B4.out) (fun hHeld => ?_)
  rw [hwd] at hHeld ⊢
  clear hwd
  refine wpAnyS_take (i := 0) (oi := ⟨some 26, _, _, _, _, _⟩) (v := .agg #[.int .u8 1, .string ⟨#[80]⟩, .slice none 0 0, .slice none 0 0]) rfl (by kernel_rfl) (by kernel_rfl) (by kernel_rfl) (by kernel_rfl) (fun _ _ _ h => Norm.panic h) (Or.inl ⟨by rfl, ?_⟩) (by assumption) ?_
  · intro w' hSw
    obtain ⟨k0', k1', k2', k3', k4', k5', k6', k7', k8', k9', k10', k11', k12', k13', k14', k15', k16', k17', k18', k19'⟩ := hSw
    go_simp
  simp only [Act.put, List.setIfInBounds_toArray, List.set_cons_zero, List.set_cons_succ]
  refine wpAnyS_take (i := 1) (oi := ⟨some 27, _, _, _, _, _⟩) (v := .agg #[.int .u8 1, .string ⟨#[81]⟩, .slice none 0 0, .slice none 0 0]) rfl (by kernel_rfl) (by kernel_rfl) (by kernel_rfl) (by kernel_rfl) (fun _ _ _ h => Norm.panic h) (Or.inl ⟨by rfl, ?_⟩) (by assumption) ?_
  · intro w' hSw
    obtain ⟨k0', k1', k2', k3', k4', k5', k6', k7', k8', k9', k10', k11', k12', k13', k14', k15', k16', k17', k18', k19'⟩ := hSw
    go_simp
  simp only [Act.put, List.setIfInBounds_toArray, List.set_cons_zero, List.set_cons_succ]
  refine wpAnyS_take (i := 4) (oi := ⟨some 30, _, _, _, _, _⟩) (v := .agg #[.int .u8 1, .string ⟨#[82]⟩, .slice none 0 0, .slice none 0 0]) rfl (by kernel_rfl) (by kernel_rfl) (by kernel_rfl) (by kernel_rfl) (fun _ _ _ h => Norm.panic h) (Or.inl ⟨by rfl, ?_⟩) (by assumption) ?_
  · intro w' hSw
    obtain ⟨k0', k1', k2', k3', k4', k5', k6', k7', k8', k9', k10', k11', k12', k13', k14', k15', k16', k17', k18', k19'⟩ := hSw
    go_simp
  simp only [Act.put, List.setIfInBounds_toArray, List.set_cons_zero, List.set_cons_succ]
  refine wpAnyS_one (i := 2) (oi := ⟨some 28, _, _, _, _, _⟩) rfl (by kernel_rfl) (by rfl) (fun K hK => ?_)
  clear hHeld
  go_simp
  generalize hX : w18.alloc (.cells #[.int .u8 1, .string ⟨#[80]⟩, .slice none 0 0, .slice none 0 0, .int .u8 1, .string ⟨#[81]⟩, .slice none 0 0, .slice none 0 0] 25) = w19
  have hb : Below w18.heap.size w18 w19 := by rw [← hX]; exact (Below.refl _ _).alloc (Nat.le_refl _) _
  have hc : ∀ j u, [Value.int .u8 1, .string ⟨#[80]⟩, .slice none 0 0, .slice none 0 0, .int .u8 1, .string ⟨#[81]⟩, .slice none 0 0, .slice none 0 0][j]? = some u → w19.cell? ⟨w18.heap.size, j, none⟩ = some u := fun j u hj => by rw [← hX, World.cell?_alloc_at _ _ _ _ rfl, ← hj]; simp
  have ho : w18.heap.size < w19.heap.size := by rw [← hX]; simp
  replace B0 := Lib.hid (B0.out.below hb)
  replace B1 := Lib.hid (B1.out.below hb)
  replace B2 := Lib.hid (B2.out.below hb)
  replace B3 := Lib.hid (B3.out.below hb)
  replace F1 := Lib.hid (F1.out.below hb)
  replace B4 := Lib.hid (B4.out.below hb)
  replace HB := Lib.hid (HB.out.trans (hb.mono HB.out.size))
  have hsl := slF_2 ho (af_leaf _ 1 ⟨#[80]⟩ (by omega) (ok_lit (by decide))) (af_leaf _ 1 ⟨#[81]⟩ (by omega) (ok_lit (by decide))) hc
  have F4 := Lib.hid (show AF w19 (.int .u8 4) (.string ⟨#[]⟩) (.slice none 0 0) (.slice (some ⟨w18.heap.size, 0, none⟩) 2 2) (.mk 4 ⟨#[]⟩ [] [(fP 80), (fP 81)]) from af_sub 4 ⟨#[]⟩ (by omega) (ok_lit (by decide)) hsl)
  clear hX hb hc ho hsl
  have hHeld := HS.out _ B0.out B1.out B2.out B3.out B4.out
  refine hK _ _ (fun _ => hHeld) ?_
  clear hK K
  simp only [Act.put, List.setIfInBounds_toArray, List.set_cons_zero, List.set_cons_succ]
  refine wpAnyS_one (i := 3) (oi := ⟨some 29, _, _, _, _, _⟩) rfl (by kernel_rfl) (by rfl) (fun K hK => ?_)
  clear hHeld
  go_simp
  refine (of_c 4 ⟨#[]⟩ (some ⟨w18.heap.size, 0, none⟩) 2 2 _).mono ?_
  rintro e w20 ⟨rfl, hb⟩
  replace B0 := Lib.hid (B0.out.below hb)
  replace B1 := Lib.hid (B1.out.below hb)
  replace B2 := Lib.hid (B2.out.below hb)
  replace B3 := Lib.hid (B3.out.below hb)
  replace F1 := Lib.hid (F1.out.below hb)
  replace B4 := Lib.hid (B4.out.below hb)
  replace F4 := Lib.hid (F4.out.below hb)
  replace HB := Lib.hid (HB.out.trans (hb.mono HB.out.size))
  clear hb
  have hHeld := HS.out _ B0.out B1.out B2.out B3.out B4.out
  refine hK _ _ (fun _ => hHeld) ?_
  clear hK K
  simp only [Act.put, List.setIfInBounds_toArray, List.set_cons_zero, List.set_cons_succ]
  refine wpAnyS_one (i := 5) (oi := ⟨some 31, _, _, _, _, _⟩) rfl (by kernel_rfl) (by rfl) (fun K hK => ?_)
  clear hHeld
  go_simp
  generalize hX : w20.alloc (.cells #[.int .u8 4, .string ⟨#[]⟩, .slice none 0 0, .slice (some ⟨w18.heap.size, 0, none⟩) 2 2, .int .u8 1, .string ⟨#[82]⟩, .slice none 0 0, .slice none 0 0] 25) = w21
  have hb : Below w20.heap.size w20 w21 := by rw [← hX]; exact (Below.refl _ _).alloc (Nat.le_refl _) _
  have hc : ∀ j u, [Value.int .u8 4, .string ⟨#[]⟩, .slice none 0 0, .slice (some ⟨w18.heap.size, 0, none⟩) 2 2, .int .u8 1, .string ⟨#[82]⟩, .slice none 0 0, .slice none 0 0][j]? = some u → w21.cell? ⟨w20.heap.size, j, none⟩ = some u := fun j u hj => by rw [← hX, World.cell?_alloc_at _ _ _ _ rfl, ← hj]; simp
  have ho : w20.heap.size < w21.heap.size := by rw [← hX]; simp
  replace B0 := Lib.hid (B0.out.below hb)
  replace B1 := Lib.hid (B1.out.below hb)
  replace B2 := Lib.hid (B2.out.below hb)
  replace B3 := Lib.hid (B3.out.below hb)
  replace F1 := Lib.hid (F1.out.below hb)
  replace B4 := Lib.hid (B4.out.below hb)
  replace F4 := Lib.hid (F4.out.below hb)
  replace HB := Lib.hid (HB.out.trans (hb.mono HB.out.size))
  have hsl := slF_2 ho F4.out (af_leaf _ 1 ⟨#[82]⟩ (by omega) (ok_lit (by decide))) hc
  have F5 := Lib.hid (show AF w21 (.int .u8 4) (.string ⟨#[]⟩) (.slice none 0 0) (.slice (some ⟨w20.heap.size, 0, none⟩) 2 2) (.mk 4 ⟨#[]⟩ [] [(.mk 4 ⟨#[]⟩ [] [(fP 80), (fP 81)]), (fP 82)]) from af_sub 4 ⟨#[]⟩ (by omega) (ok_lit (by decide)) hsl)
  clear hX hb hc ho hsl
  have hHeld := HS.out _ B0.out B1.out B2.out B3.out B4.out
  refine hK _ _ (fun _ => hHeld) ?_
  clear hK K
  simp only [Act.put, List.setIfInBounds_toArray, List.set_cons_zero, List.set_cons_succ]
  clear F4
  refine wpAnyS_one (i := 6) (oi := ⟨some 32, _, _, _, _, _⟩) rfl (by kernel_rfl) (by rfl) (fun K hK => ?_)
  clear hHeld
  go_simp
  refine (of_c 4 ⟨#[]⟩ (some ⟨w20.heap.size, 0, none⟩) 2 2 _).mono ?_
  rintro e w22 ⟨rfl, hb⟩
  replace B0 := Lib.hid (B0.out.below hb)
  replace B1 := Lib.hid (B1.out.below hb)
  replace B2 := Lib.hid (B2.out.below hb)
  replace B3 := Lib.hid (B3.out.below hb)
  replace F1 := Lib.hid (F1.out.below hb)
  replace B4 := Lib.hid (B4.out.below hb)
  replace F5 := Lib.hid (F5.out.below hb)
  replace HB := Lib.hid (HB.out.trans (hb.mono HB.out.size))
  clear hb
  have hHeld := HS.out _ B0.out B1.out B2.out B3.out B4.out
  refine hK _ _ (fun _ => hHeld) ?_
  clear hK K
  simp only [Act.put, List.setIfInBounds_toArray, List.set_cons_zero, List.set_cons_succ]
  refine wpAnyS_one (i := 7) (oi := ⟨some 33, _, _, _, _, _⟩) rfl (by kernel_rfl) (by rfl) (fun K hK => ?_)
  clear hHeld
  go_simp
  refine (writes_c _ _ _ _ e0 _ _ F5.out (Nat.le_refl _) (HR.out _ HB.out).1 (HR.out _ HB.out).2 e0_r _ _ _ e0_t e0_u e0_x).mono ?_
  rintro e w23 ⟨rfl, hb⟩
  replace B0 := Lib.hid (B0.out.below hb)
  replace B1 := Lib.hid (B1.out.below hb)
  replace B2 := Lib.hid (B2.out.below hb)
  replace B3 := Lib.hid (B3.out.below hb)
  replace F1 := Lib.hid (F1.out.below hb)
  replace B4 := Lib.hid (B4.out.below hb)
  replace F5 := Lib.hid (F5.out.below hb)
  replace HB := Lib.hid (HB.out.trans (hb.mono HB.out.size))
  clear hb
  have hHeld := HS.out _ B0.out B1.out B2.out B3.out B4.out
  refine hK _ _ (fun _ => hHeld) ?_
  clear hK K
  simp only [Act.put, List.setIfInBounds_toArray, List.set_cons_zero, List.set_cons_succ]
  clear F5
  refine wpAnyS_take (i := 8) (oi := ⟨some 34, _, _, _, _, _⟩) (v := .bool true) rfl (by kernel_rfl) (by kernel_rfl) (by kernel_rfl) (by kernel_rfl) (fun _ _ _ h => Norm.panic h) (Or.inl ⟨by rfl, ?_⟩) (by assumption) ?_
  · intro w' hSw
    obtain ⟨k0', k1', k2', k3', k4', k5', k6', k7', k8', k9', k10', k11', k12', k13', k14', k15', k16', k17', k18', k19'⟩ := hSw
    go_simp
  simp only [Act.put, List.setIfInBounds_toArray, List.set_cons_zero, List.set_cons_succ]
  refine wpAnyS_take (i := 9) (oi := ⟨some 35, _, _, _, _, _⟩) (v := .agg #[.int .u8 1, .string ⟨#[80]⟩, .slice none 0 0, .slice none 0 0]) rfl (by kernel_rfl) (by kernel_rfl) (by kernel_rfl) (by kernel_rfl) (fun _ _ _ h => Norm.panic h) (Or.inl ⟨by rfl, ?_⟩) (by assumption) ?_
  · intro w' hSw
    obtain ⟨k0', k1', k2', k3', k4', k5', k6', k7', k8', k9', k10', k11', k12', k13', k14', k15', k16', k17', k18', k19'⟩ := hSw
    go_simp
  simp only [Act.put, List.setIfInBounds_toArray, List.set_cons_zero, List.set_cons_succ]
  refine wpAnyS_take (i := 10) (oi := ⟨some 36, _, _, _, _, _⟩) (v := .agg #[.int .u8 1, .string ⟨#[81]⟩, .slice none 0 0, .slice none 0 0]) rfl (by kernel_rfl) (by kernel_rfl) (by kernel_rfl) (by kernel_rfl) (fun _ _ _ h => Norm.panic h) (Or.inl ⟨by rfl, ?_⟩) (by assumption) ?_
  · intro w' hSw
    obtain ⟨k0', k1', k2', k3', k4', k5', k6', k7', k8', k9', k10', k11', k12', k13', k14', k15', k16', k17', k18', k19'⟩ := hSw
    go_simp
  simp only [Act.put, List.setIfInBounds_toArray, List.set_cons_zero, List.set_cons_succ]
  refine wpAnyS_take (i := 11) (oi := ⟨some 37, _, _, _, _, _⟩) (v := .agg #[.int .u8 1, .string ⟨#[82]⟩, .slice none 0 0, .slice none 0 0]) rfl (by kernel_rfl) (by kernel_rfl) (by kernel_rfl) (by kernel_rfl) (fun _ _ _ h => Norm.panic h) (Or.inl ⟨by rfl, ?_⟩) (by assumption) ?_
  · intro w' hSw
    obtain ⟨k0', k1', k2', k3', k4', k5', k6', k7', k8', k9', k10', k11', k12', k13', k14', k15', k16', k17', k18', k19'⟩ := hSw
    go_simp
  simp only [Act.put, List.setIfInBounds_toArray, List.set_cons_zero, List.set_cons_succ]
  refine wpAnyS_one (i := 12) (oi := ⟨some 38, _, _, _, _, _⟩) rfl (by kernel_rfl) (by rfl) (fun K hK => ?_)
  clear hHeld
  go_simp
  generalize hX : w23.alloc (.cells #[.int .u8 1, .string ⟨#[81]⟩, .slice none 0 0, .slice none 0 0, .int .u8 1, .string ⟨#[82]⟩, .slice none 0 0, .slice none 0 0] 25) = w24
  have hb : Below w23.heap.size w23 w24 := by rw [← hX]; exact (Below.refl _ _).alloc (Nat.le_refl _) _
  have hc : ∀ j u, [Value.int .u8 1, .string ⟨#[81]⟩, .slice none 0 0, .slice none 0 0, .int .u8 1, .string ⟨#[82]⟩, .slice none 0 0, .slice none 0 0][j]? = some u → w24.cell? ⟨w23.heap.size, j, none⟩ = some u := fun j u hj => by rw [← hX, World.cell?_alloc_at _ _ _ _ rfl, ← hj]; simp
  have ho : w23.heap.size < w24.heap.size := by rw [← hX]; simp
  replace B0 := Lib.hid (B0.out.below hb)
  replace B1 := Lib.hid (B1.out.below hb)
  replace B2 := Lib.hid (B2.out.below hb)
  replace B3 := Lib.hid (B3.out.below hb)
  replace F1 := Lib.hid (F1.out.below hb)
  replace B4 := Lib.hid (B4.out.below hb)
  replace HB := Lib.hid (HB.out.trans (hb.mono HB.out.size))
  have hsl := slF_2 ho (af_leaf _ 1 ⟨#[81]⟩ (by omega) (ok_lit (by decide))) (af_leaf _ 1 ⟨#[82]⟩ (by omega) (ok_lit (by decide))) hc
  have F6 := Lib.hid (show AF w24 (.int .u8 4) (.string ⟨#[]⟩) (.slice none 0 0) (.slice (some ⟨w23.heap.size, 0, none⟩) 2 2) (.mk 4 ⟨#[]⟩ [] [(fP 81), (fP 82)]) from af_sub 4 ⟨#[]⟩ (by omega) (ok_lit (by decide)) hsl)
  clear hX hb hc ho hsl
  have hHeld := HS.out _ B0.out B1.out B2.out B3.out B4.out
  refine hK _ _ (fun _ => hHeld) ?_
  clear hK K
  simp only [Act.put, List.setIfInBounds_toArray, List.set_cons_zero, List.set_cons_succ]
  refine wpAnyS_one (i := 13) (oi := ⟨some 39, _, _, _, _, _⟩) rfl (by kernel_rfl) (by rfl) (fun K hK => ?_)
  clear hHeld
  go_simp
  refine (of_c 4 ⟨#[]⟩ (some ⟨w23.heap.size, 0, none⟩) 2 2 _).mono ?_
  rintro e w25 ⟨rfl, hb⟩
  replace B0 := Lib.hid (B0.out.below hb)
  replace B1 := Lib.hid (B1.out.below hb)
  replace B2 := Lib.hid (B2.out.below hb)
  replace B3 := Lib.hid (B3.out.below hb)
  replace F1 := Lib.hid (F1.out.below hb)
  replace B4 := Lib.hid (B4.out.below hb)
  replace F6 := Lib.hid (F6.out.below hb)
  replace HB := Lib.hid (HB.out.trans (hb.mono HB.out.size))
  clear hb
  have hHeld := HS.out _ B0.out B1.out B2.out B3.out B4.out
  refine hK _ _ (fun _ => hHeld) ?_
  clear hK K
  simp only [Act.put, List.setIfInBounds_toArray, List.set_cons_zero, List.set_cons_succ]
  refine wpAnyS_one (i := 14) (oi := ⟨some 40, _, _, _, _, _⟩) rfl (by kernel_rfl) (by rfl) (fun K hK => ?_)
  clear hHeld
  go_simp
  generalize hX : w25.alloc (.cells #[.int .u8 1, .string ⟨#[80]⟩, .slice none 0 0, .slice none 0 0, .int .u8 4, .string ⟨#[]⟩, .slice none 0 0, .slice (some ⟨w23.heap.size, 0, none⟩) 2 2] 25) = w26
  have hb : Below w25.heap.size w25 w26 := by rw [← hX]; exact (Below.refl _ _).alloc (Nat.le_refl _) _
  have hc : ∀ j u, [Value.int .u8 1, .string ⟨#[80]⟩, .slice none 0 0, .slice none 0 0, .int .u8 4, .string ⟨#[]⟩, .slice none 0 0, .slice (some ⟨w23.heap.size, 0, none⟩) 2 2][j]? = some u → w26.cell? ⟨w25.heap.size, j, none⟩ = some u := fun j u hj => by rw [← hX, World.cell?_alloc_at _ _ _ _ rfl, ← hj]; simp
  have ho : w25.heap.size < w26.heap.size := by rw [← hX]; simp
  replace B0 := Lib.hid (B0.out.below hb)
  replace B1 := Lib.hid (B1.out.below hb)
  replace B2 := Lib.hid (B2.out.below hb)
  replace B3 := Lib.hid (B3.out.below hb)
  replace F1 := Lib.hid (F1.out.below hb)
  replace B4 := Lib.hid (B4.out.below hb)
  replace F6 := Lib.hid (F6.out.below hb)
  replace HB := Lib.hid (HB.out.trans (hb.mono HB.out.size))
  have hsl := slF_2 ho (af_leaf _ 1 ⟨#[80]⟩ (by omega) (ok_lit (by decide))) F6.out hc
  have F7 := Lib.hid (show AF w26 (.int .u8 4) (.string ⟨#[]⟩) (.slice none 0 0) (.slice (some ⟨w25.heap.size, 0, none⟩) 2 2) (.mk 4 ⟨#[]⟩ [] [(fP 80), (.mk 4 ⟨#[]⟩ [] [(fP 81), (fP 82)])]) from af_sub 4 ⟨#[]⟩ (by omega) (ok_lit (by decide)) hsl)
  clear hX hb hc ho hsl
  have hHeld := HS.out _ B0.out B1.out B2.out B3.out B4.out
  refine hK _ _ (fun _ => hHeld) ?_
  clear hK K
  simp only [Act.put, List.setIfInBounds_toArray, List.set_cons_zero, List.set_cons_succ]
  clear F6
  refine wpAnyS_one (i := 15) (oi := ⟨some 41, _, _, _, _, _⟩) rfl (by kernel_rfl) (by rfl) (fun K hK => ?_)
  clear hHeld
  go_simp
  refine (of_c 4 ⟨#[]⟩ (some ⟨w25.heap.size, 0, none⟩) 2 2 _).mono ?_
  rintro e w27 ⟨rfl, hb⟩
  replace B0 := Lib.hid (B0.out.below hb)
  replace B1 := Lib.hid (B1.out.below hb)
  replace B2 := Lib.hid (B2.out.below hb)
  replace B3 := Lib.hid (B3.out.below hb)
  replace F1 := Lib.hid (F1.out.below hb)
  replace B4 := Lib.hid (B4.out.below hb)
  replace F7 := Lib.hid (F7.out.below hb)
  replace HB := Lib.hid (HB.out.trans (hb.mono HB.out.size))
  clear hb
  have hHeld := HS.out _ B0.out B1.out B2.out B3.out B4.out
  refine hK _ _ (fun _ => hHeld) ?_
  clear hK K
  simp only [Act.put, List.setIfInBounds_toArray, List.set_cons_zero, List.set_cons_succ]
  refine wpAnyS_one (i := 16) (oi := ⟨some 42, _, _, _, _, _⟩) rfl (by kernel_rfl) (by rfl) (fun K hK => ?_)
  clear hHeld
  go_simp
  refine (writes_c _ _ _ _ e1 _ _ F7.out (Nat.le_refl _) (HR.out _ HB.out).1 (HR.out _ HB.out).2 e1_r _ _ _ e1_t e1_u e1_x).mono ?_
  rintro e w28 ⟨rfl, hb⟩
  replace B0 := Lib.hid (B0.out.below hb)
  replace B1 := Lib.hid (B1.out.below hb)
  replace B2 := Lib.hid (B2.out.below hb)
  replace B3 := Lib.hid (B3.out.below hb)
  replace F1 := Lib.hid (F1.out.below hb)
  replace B4 := Lib.hid (B4.out.below hb)
  replace F7 := Lib.hid (F7.out.below hb)
  replace HB := Lib.hid (HB.out.trans (hb.mono HB.out.size))
  clear hb
  have hHeld := HS.out _ B0.out B1.out B2.out B3.out B4.out
  refine hK _ _ (fun _ => hHeld) ?_
  clear hK K
  simp only [Act.put, List.setIfInBounds_toArray, List.set_cons_zero, List.set_cons_succ]
  clear F7
  refine wpAnyS_take (i := 17) (oi := ⟨some 43, _, _, _, _, _⟩) (v := .bool true) rfl (by kernel_rfl) (by kernel_rfl) (by kernel_rfl) (by kernel_rfl) (fun _ _ _ h => Norm.panic h) (Or.inl ⟨by rfl, ?_⟩) (by assumption) ?_
  · intro w' hSw
    obtain ⟨k0', k1', k2', k3', k4', k5', k6', k7', k8', k9', k10', k11', k12', k13', k14', k15', k16', k17', k18', k19'⟩ := hSw
    go_simp
  simp only [Act.put, List.setIfInBounds_toArray, List.set_cons_zero, List.set_cons_succ]
  refine wpAnyS_take (i := 18) (oi := ⟨some 44, _, _, _, _, _⟩) (v := .bool true) rfl (by kernel_rfl) (by kernel_rfl) (by kernel_rfl) (by kernel_rfl) (fun _ _ _ h => Norm.panic h) (Or.inl ⟨by rfl, ?_⟩) (by assumption) ?_
  · intro w' hSw
    obtain ⟨k0', k1', k2', k3', k4', k5', k6', k7', k8', k9', k10', k11', k12', k13', k14', k15', k16', k17', k18', k19'⟩ := hSw
    go_simp
  simp only [Act.put, List.setIfInBounds_toArray, List.set_cons_zero, List.set_cons_succ]
  refine wpAnyS_take (i := 19) (oi := ⟨some 45, _, _, _, _, _⟩) (v := .agg #[.int .u8 1, .string ⟨#[80]⟩, .slice none 0 0, .slice none 0 0]) rfl (by kernel_rfl) (by kernel_rfl) (by kernel_rfl) (by kernel_rfl) (fun _ _ _ h => Norm.panic h) (Or.inl ⟨by rfl, ?_⟩) (by assumption) ?_
  · intro w' hSw
    obtain ⟨k0', k1', k2', k3', k4', k5', k6', k7', k8', k9', k10', k11', k12', k13', k14', k15', k16', k17', k18', k19'⟩ := hSw
    go_simp
  simp only [Act.put, List.setIfInBounds_toArray, List.set_cons_zero, List.set_cons_succ]
  refine wpAnyS_take (i := 20) (oi := ⟨some 46, _, _, _, _, _⟩) (v := .agg #[.int .u8 1, .string ⟨#[81]⟩, .slice none 0 0, .slice none 0 0]) rfl (by kernel_rfl) (by kernel_rfl) (by kernel_rfl) (by kernel_rfl) (fun _ _ _ h => Norm.panic h) (Or.inl ⟨by rfl, ?_⟩) (by assumption) ?_
  · intro w' hSw
    obtain ⟨k0', k1', k2', k3', k4', k5', k6', k7', k8', k9', k10', k11', k12', k13', k14', k15', k16', k17', k18', k19'⟩ := hSw
    go_simp
  simp only [Act.put, List.setIfInBounds_toArray, List.set_cons_zero, List.set_cons_succ]
  refine wpAnyS_take (i := 21) (oi := ⟨some 47, _, _, _, _, _⟩) (v := .agg #[.int .u8 1, .string ⟨#[82]⟩, .slice none 0 0, .slice none 0 0]) rfl (by kernel_rfl) (by kernel_rfl) (by kernel_rfl) (by kernel_rfl) (fun _ _ _ h => Norm.panic h) (Or.inl ⟨by rfl, ?_⟩) (by assumption) ?_
  · intro w' hSw
    obtain ⟨k0', k1', k2', k3', k4', k5', k6', k7', k8', k9', k10', k11', k12', k13', k14', k15', k16', k17', k18', k19'⟩ := hSw
    go_simp
  simp only [Act.put, List.setIfInBounds_toArray, List.set_cons_zero, List.set_cons_succ]
  refine wpAnyS_take (i := 22) (oi := ⟨some 48, _, _, _, _, _⟩) (v := .agg #[.int .u8 1, .string ⟨#[83]⟩, .slice none 0 0, .slice none 0 0]) rfl (by kernel_rfl) (by kernel_rfl) (by kernel_rfl) (by kernel_rfl) (fun _ _ _ h => Norm.panic h) (Or.inl ⟨by rfl, ?_⟩) (by assumption) ?_
  · intro w' hSw
    obtain ⟨k0', k1', k2', k3', k4', k5', k6', k7', k8', k9', k10', k11', k12', k13', k14', k15', k16', k17', k18', k19'⟩ := hSw
    go_simp
  simp only [Act.put, List.setIfInBounds_toArray, List.set_cons_zero, List.set_cons_succ]
  refine wpAnyS_one (i := 23) (oi := ⟨some 49, _, _, _, _, _⟩) rfl (by kernel_rfl) (by rfl) (fun K hK => ?_)
  clear hHeld
  go_simp
  generalize hX : w28.alloc (.cells #[.int .u8 1, .string ⟨#[82]⟩, .slice none 0 0, .slice none 0 0, .int .u8 1, .string ⟨#[83]⟩, .slice none 0 0, .slice none 0 0] 25) = w29
  have hb : Below w28.heap.size w28 w29 := by rw [← hX]; exact (Below.refl _ _).alloc (Nat.le_refl _) _
  have hc : ∀ j u, [Value.int .u8 1, .string ⟨#[82]⟩, .slice none 0 0, .slice none 0 0, .int .u8 1, .string ⟨#[83]⟩, .slice none 0 0, .slice none 0 0][j]? = some u → w29.cell? ⟨w28.heap.size, j, none⟩ = some u := fun j u hj => by rw [← hX, World.cell?_alloc_at _ _ _ _ rfl, ← hj]; simp
  have ho : w28.heap.size < w29.heap.size := by rw [← hX]; simp
  replace B0 := Lib.hid (B0.out.below hb)
  replace B1 := Lib.hid (B1.out.below hb)
  replace B2 := Lib.hid (B2.out.below hb)
  replace B3 := Lib.hid (B3.out.below hb)
  replace F1 := Lib.hid (F1.out.below hb)
  replace B4 := Lib.hid (B4.out.below hb)
  replace HB := Lib.hid (HB.out.trans (hb.mono HB.out.size))
  have hsl := slF_2 ho (af_leaf _ 1 ⟨#[82]⟩ (by omega) (ok_lit (by decide))) (af_leaf _ 1 ⟨#[83]⟩ (by omega) (ok_lit (by decide))) hc
  have F8 := Lib.hid (show AF w29 (.int .u8 5) (.string ⟨#[]⟩) (.slice none 0 0) (.slice (some ⟨w28.heap.size, 0, none⟩) 2 2) (.mk 5 ⟨#[]⟩ [] [(fP 82), (fP 83)]) from af_sub 5 ⟨#[]⟩ (by omega) (ok_lit (by decide)) hsl)
  clear hX hb hc ho hsl
  have hHeld := HS.out _ B0.out B1.out B2.out B3.out B4.out
  refine hK _ _ (fun _ => hHeld) ?_
  clear hK K
  simp only [Act.put, List.setIfInBounds_toArray, List.set_cons_zero, List.set_cons_succ]
  refine wpAnyS_one (i := 24) (oi := ⟨some 50, _, _, _, _, _⟩) rfl (by kernel_rfl) (by rfl) (fun K hK => ?_)
  clear hHeld
  go_simp
  refine (of_c 5 ⟨#[]⟩ (some ⟨w28.heap.size, 0, none⟩) 2 2 _).mono ?_
  rintro e w30 ⟨rfl, hb⟩
  replace B0 := Lib.hid (B0.out.below hb)
  replace B1 := Lib.hid (B1.out.below hb)
  replace B2 := Lib.hid (B2.out.below hb)
  replace B3 := Lib.hid (B3.out.below hb)
  replace F1 := Lib.hid (F1.out.below hb)
  replace B4 := Lib.hid (B4.out.below hb)
  replace F8 := Lib.hid (F8.out.below hb)
  replace HB := Lib.hid (HB.out.trans (hb.mono HB.out.size))
  clear hb
  have hHeld := HS.out _ B0.out B1.out B2.out B3.out B4.out
  refine hK _ _ (fun _ => hHeld) ?_
  clear hK K
  simp only [Act.put, List.setIfInBounds_toArray, List.set_cons_zero, List.set_cons_succ]
  refine wpAnyS_one (i := 25) (oi := ⟨some 51, _, _, _, _, _⟩) rfl (by kernel_rfl) (by rfl) (fun K hK => ?_)
  clear hHeld
  go_simp
  generalize hX : w30.alloc (.cells #[.int .u8 5, .string ⟨#[]⟩, .slice none 0 0, .slice (some ⟨w28.heap.size, 0, none⟩) 2 2] 25) = w31
  have hb : Below w30.heap.size w30 w31 := by rw [← hX]; exact (Below.refl _ _).alloc (Nat.le_refl _) _
  have hc : ∀ j u, [Value.int .u8 5, .string ⟨#[]⟩, .slice none 0 0, .slice (some ⟨w28.heap.size, 0, none⟩) 2 2][j]? = some u → w31.cell? ⟨w30.heap.size, j, none⟩ = some u := fun j u hj => by rw [← hX, World.cell?_alloc_at _ _ _ _ rfl, ← hj]; simp
  have ho : w30.heap.size < w31.heap.size := by rw [← hX]; simp
  replace B0 := Lib.hid (B0.out.below hb)
  replace B1 := Lib.hid (B1.out.below hb)
  replace B2 := Lib.hid (B2.out.below hb)
  replace B3 := Lib.hid (B3.out.below hb)
  replace F1 := Lib.hid (F1.out.below hb)
  replace B4 := Lib.hid (B4.out.below hb)
  replace F8 := Lib.hid (F8.out.below hb)
  replace HB := Lib.hid (HB.out.trans (hb.mono HB.out.size))
  have hsl := slF_1 ho F8.out hc
  have F9 := Lib.hid (show AF w31 (.int .u8 3) (.string ⟨#[]⟩) (.slice none 0 0) (.slice (some ⟨w30.heap.size, 0, none⟩) 1 1) (.mk 3 ⟨#[]⟩ [] [(.mk 5 ⟨#[]⟩ [] [(fP 82), (fP 83)])]) from af_sub 3 ⟨#[]⟩ (by omega) (ok_lit (by decide)) hsl)
  clear hX hb hc ho hsl
  have hHeld := HS.out _ B0.out B1.out B2.out B3.out B4.out
  refine hK _ _ (fun _ => hHeld) ?_
  clear hK K
  simp only [Act.put, List.setIfInBounds_toArray, List.set_cons_zero, List.set_cons_succ]
  clear F8
  refine wpAnyS_one (i := 26) (oi := ⟨some 52, _, _, _, _, _⟩) rfl (by kernel_rfl) (by rfl) (fun K hK => ?_)
  clear hHeld
  go_simp
  refine (of_c 3 ⟨#[]⟩ (some ⟨w30.heap.size, 0, none⟩) 1 1 _).mono ?_
  rintro e w32 ⟨rfl, hb⟩
  replace B0 := Lib.hid (B0.out.below hb)
  replace B1 := Lib.hid (B1.out.below hb)
  replace B2 := Lib.hid (B2.out.below hb)
  replace B3 := Lib.hid (B3.out.below hb)
  replace F1 := Lib.hid (F1.out.below hb)
  replace B4 := Lib.hid (B4.out.below hb)
  replace F9 := Lib.hid (F9.out.below hb)
  replace HB := Lib.hid (HB.out.trans (hb.mono HB.out.size))
  clear hb
  have hHeld := HS.out _ B0.out B1.out B2.out B3.out B4.out
  refine hK _ _ (fun _ => hHeld) ?_
  clear hK K
  simp only [Act.put, List.setIfInBounds_toArray, List.set_cons_zero, List.set_cons_succ]
  refine wpAnyS_one (i := 27) (oi := ⟨some 53, _, _, _, _, _⟩) rfl (by kernel_rfl) (by rfl) (fun K hK => ?_)
  clear hHeld
  go_simp
  generalize hX : w32.alloc (.cells #[.int .u8 1, .string ⟨#[81]⟩, .slice none 0 0, .slice none 0 0, .int .u8 3, .string ⟨#[]⟩, .slice none 0 0, .slice (some ⟨w30.heap.size, 0, none⟩) 1 1] 25) = w33
  have hb : Below w32.heap.size w32 w33 := by rw [← hX]; exact (Below.refl _ _).alloc (Nat.le_refl _) _
  have hc : ∀ j u, [Value.int .u8 1, .string ⟨#[81]⟩, .slice none 0 0, .slice none 0 0, .int .u8 3, .string ⟨#[]⟩, .slice none 0 0, .slice (some ⟨w30.heap.size, 0, none⟩) 1 1][j]? = some u → w33.cell? ⟨w32.heap.size, j, none⟩ = some u := fun j u hj => by rw [← hX, World.cell?_alloc_at _ _ _ _ rfl, ← hj]; simp
  have ho : w32.heap.size < w33.heap.size := by rw [← hX]; simp
  replace B0 := Lib.hid (B0.out.below hb)
  replace B1 := Lib.hid (B1.out.below hb)
  replace B2 := Lib.hid (B2.out.below hb)
  replace B3 := Lib.hid (B3.out.below hb)
  replace F1 := Lib.hid (F1.out.below hb)
  replace B4 := Lib.hid (B4.out.below hb)
  replace F9 := Lib.hid (F9.out.below hb)
  replace HB := Lib.hid (HB.out.trans (hb.mono HB.out.size))
  have hsl := slF_2 ho (af_leaf _ 1 ⟨#[81]⟩ (by omega) (ok_lit (by decide))) F9.out hc
  have F10 := Lib.hid (show AF w33 (.int .u8 6) (.string ⟨#[]⟩) (.slice none 0 0) (.slice (some ⟨w32.heap.size, 0, none⟩) 2 2) (.mk 6 ⟨#[]⟩ [] [(fP 81), (.mk 3 ⟨#[]⟩ [] [(.mk 5 ⟨#[]⟩ [] [(fP 82), (fP 83)])])]) from af_sub 6 ⟨#[]⟩ (by omega) (ok_lit (by decide)) hsl)
  clear hX hb hc ho hsl
  have hHeld := HS.out _ B0.out B1.out B2.out B3.out B4.out
  refine hK _ _ (fun _ => hHeld) ?_
  clear hK K
  simp only [Act.put, List.setIfInBounds_toArray, List.set_cons_zero, List.set_cons_succ]
  clear F9
  refine wpAnyS_one (i := 28) (oi := ⟨some 54, _, _, _, _, _⟩) rfl (by kernel_rfl) (by rfl) (fun K hK => ?_)
  clear hHeld
  go_simp
  refine (of_c 6 ⟨#[]⟩ (some ⟨w32.heap.size, 0, none⟩) 2 2 _).mono ?_
  rintro e w34 ⟨rfl, hb⟩
  replace B0 := Lib.hid (B0.out.below hb)
  replace B1 := Lib.hid (B1.out.below hb)
  replace B2 := Lib.hid (B2.out.below hb)
  replace B3 := Lib.hid (B3.out.below hb)
  replace F1 := Lib.hid (F1.out.below hb)
  replace B4 := Lib.hid (B4.out.below hb)
  replace F10 := Lib.hid (F10.out.below hb)
  replace HB := Lib.hid (HB.out.trans (hb.mono HB.out.size))
  clear hb
  have hHeld := HS.out _ B0.out B1.out B2.out B3.out B4.out
  refine hK _ _ (fun _ => hHeld) ?_
  clear hK K
  simp only [Act.put, List.setIfInBounds_toArray, List.set_cons_zero, List.set_cons_succ]
  refine wpAnyS_one (i := 29) (oi := ⟨some 55, _, _, _, _, _⟩) rfl (by kernel_rfl) (by rfl) (fun K hK => ?_)
  clear hHeld
  go_simp
  generalize hX : w34.alloc (.cells #[.int .u8 1, .string ⟨#[80]⟩, .slice none 0 0, .slice none 0 0, .int .u8 6, .string ⟨#[]⟩, .slice none 0 0, .slice (some ⟨w32.heap.size, 0, none⟩) 2 2] 25) = w35
  have hb : Below w34.heap.size w34 w35 := by rw [← hX]; exact (Below.refl _ _).alloc (Nat.le_refl _) _
  have hc : ∀ j u, [Value.int .u8 1, .string ⟨#[80]⟩, .slice none 0 0, .slice none 0 0, .int .u8 6, .string ⟨#[]⟩, .slice none 0 0, .slice (some ⟨w32.heap.size, 0, none⟩) 2 2][j]? = some u → w35.cell? ⟨w34.heap.size, j, none⟩ = some u := fun j u hj => by rw [← hX, World.cell?_alloc_at _ _ _ _ rfl, ← hj]; simp
  have ho : w34.heap.size < w35.heap.size := by rw [← hX]; simp
  replace B0 := Lib.hid (B0.out.below hb)
  replace B1 := Lib.hid (B1.out.below hb)
  replace B2 := Lib.hid (B2.out.below hb)
  replace B3 := Lib.hid (B3.out.below hb)
  replace F1 := Lib.hid (F1.out.below hb)
  replace B4 := Lib.hid (B4.out.below hb)
  replace F10 := Lib.hid (F10.out.below hb)
  replace HB := Lib.hid (HB.out.trans (hb.mono HB.out.size))
  have hsl := slF_2 ho (af_leaf _ 1 ⟨#[80]⟩ (by omega) (ok_lit (by decide))) F10.out hc
  have F11 := Lib.hid (show AF w35 (.int .u8 6) (.string ⟨#[]⟩) (.slice none 0 0) (.slice (some ⟨w34.heap.size, 0, none⟩) 2 2) (.mk 6 ⟨#[]⟩ [] [(fP 80), (.mk 6 ⟨#[]⟩ [] [(fP 81), (.mk 3 ⟨#[]⟩ [] [(.mk 5 ⟨#[]⟩ [] [(fP 82), (fP 83)])])])]) from af_sub 6 ⟨#[]⟩ (by omega) (ok_lit (by decide)) hsl)
  clear hX hb hc ho hsl
  have hHeld := HS.out _ B0.out B1.out B2.out B3.out B4.out
  refine hK _ _ (fun _ => hHeld) ?_
  clear hK K
  simp only [Act.put, List.setIfInBounds_toArray, List.set_cons_zero, List.set_cons_succ]
  clear F10
  refine wpAnyS_one (i := 30) (oi := ⟨some 56, _, _, _, _, _⟩) rfl (by kernel_rfl) (by rfl) (fun K hK => ?_)
  clear hHeld
  go_simp
  refine (of_c 6 ⟨#[]⟩ (some ⟨w34.heap.size, 0, none⟩) 2 2 _).mono ?_
  rintro e w36 ⟨rfl, hb⟩
  replace B0 := Lib.hid (B0.out.below hb)
  replace B1 := Lib.hid (B1.out.below hb)
  replace B2 := Lib.hid (B2.out.below hb)
  replace B3 := Lib.hid (B3.out.below hb)
  replace F1 := Lib.hid (F1.out.below hb)
  replace B4 := Lib.hid (B4.out.below hb)
  replace F11 := Lib.hid (F11.out.below hb)
  replace HB := Lib.hid (HB.out.trans (hb.mono HB.out.size))
  clear hb
  have hHeld := HS.out _ B0.out B1.out B2.out B3.out B4.out
  refine hK _ _ (fun _ => hHeld) ?_
  clear hK K
  simp only [Act.put, List.setIfInBounds_toArray, List.set_cons_zero, List.set_cons_succ]
  refine wpAnyS_one (i := 31) (oi := ⟨some 57, _, _, _, _, _⟩) rfl (by kernel_rfl) (by rfl) (fun K hK => ?_)
  clear hHeld
  go_simp
  refine (writes_c _ _ _ _ e2 _ _ F11.out (Nat.le_refl _) (HR.out _ HB.out).1 (HR.out _ HB.out).2 e2_r _ _ _ e2_t e2_u e2_x).mono ?_
  rintro e w37 ⟨rfl, hb⟩
  replace B0 := Lib.hid (B0.out.below hb)
  replace B1 := Lib.hid (B1.out.below hb)
  replace B2 := Lib.hid (B2.out.below hb)
  replace B3 := Lib.hid (B3.out.below hb)
  replace F1 := Lib.hid (F1.out.below hb)
  replace B4 := Lib.hid (B4.out.below hb)
  replace F11 := Lib.hid (F11.out.below hb)
  replace HB := Lib.hid (HB.out.trans (hb.mono HB.out.size))
  clear hb
  have hHeld := HS.out _ B0.out B1.out B2.out B3.out B4.out
  refine hK _ _ (fun _ => hHeld) ?_
  clear hK K
  simp only [Act.put, List.setIfInBounds_toArray, List.set_cons_zero, List.set_cons_succ]
  clear F11
  refine wpAnyS_take (i := 32) (oi := ⟨some 58, _, _, _, _, _⟩) (v := .bool true) rfl (by kernel_rfl) (by kernel_rfl) (by kernel_rfl) (by kernel_rfl) (fun _ _ _ h => Norm.panic h) (Or.inl ⟨by rfl, ?_⟩) (by assumption) ?_
  · intro w' hSw
    obtain ⟨k0', k1', k2', k3', k4', k5', k6', k7', k8', k9', k10', k11', k12', k13', k14', k15', k16', k17', k18', k19'⟩ := hSw
    go_simp
  simp only [Act.put, List.setIfInBounds_toArray, List.set_cons_zero, List.set_cons_succ]
  refine wpAnyS_take (i := 33) (oi := ⟨some 59, _, _, _, _, _⟩) (v := .bool true) rfl (by kernel_rfl) (by kernel_rfl) (by kernel_rfl) (by kernel_rfl) (fun _ _ _ h => Norm.panic h) (Or.inl ⟨by rfl, ?_⟩) (by assumption) ?_
  · intro w' hSw
    obtain ⟨k0', k1', k2', k3', k4', k5', k6', k7', k8', k9', k10', k11', k12', k13', k14', k15', k16', k17', k18', k19'⟩ := hSw
    go_simp
  simp only [Act.put, List.setIfInBounds_toArray, List.set_cons_zero, List.set_cons_succ]
  refine wpAnyS_take (i := 40) (oi := ⟨some 66, _, _, _, _, _⟩) (v := .agg #[.int .u8 1, .string ⟨#[81]⟩, .slice none 0 0, .slice none 0 0]) rfl (by kernel_rfl) (by kernel_rfl) (by kernel_rfl) (by kernel_rfl) (fun _ _ _ h => Norm.panic h) (Or.inl ⟨by rfl, ?_⟩) (by assumption) ?_
  · intro w' hSw
    obtain ⟨k0', k1', k2', k3', k4', k5', k6', k7', k8', k9', k10', k11', k12', k13', k14', k15', k16', k17', k18', k19'⟩ := hSw
    go_simp
  simp only [Act.put, List.setIfInBounds_toArray, List.set_cons_zero, List.set_cons_succ]
  refine wpAnyS_one (i := 34) (oi := ⟨some 60, _, _, _, _, _⟩) rfl (by kernel_rfl) (by rfl) (fun K hK => ?_)
  clear hHeld
  go_simp
  refine (v_c ⟨#[120]⟩ _).mono ?_
  rintro e w38 ⟨rfl, hb⟩
  replace B0 := Lib.hid (B0.out.below hb)
  replace B1 := Lib.hid (B1.out.below hb)
  replace B2 := Lib.hid (B2.out.below hb)
  replace B3 := Lib.hid (B3.out.below hb)
  replace F1 := Lib.hid (F1.out.below hb)
  replace B4 := Lib.hid (B4.out.below hb)
  replace HB := Lib.hid (HB.out.trans (hb.mono HB.out.size))
  clear hb
  have hHeld := HS.out _ B0.out B1.out B2.out B3.out B4.out
  refine hK _ _ (fun _ => hHeld) ?_
  clear hK K
  simp only [Act.put, List.setIfInBounds_toArray, List.set_cons_zero, List.set_cons_succ]
  refine wpAnyS_one (i := 35) (oi := ⟨some 61, _, _, _, _, _⟩) rfl (by kernel_rfl) (by rfl) (fun K hK => ?_)
  clear hHeld
  go_simp
  refine (k_c ⟨#[97]⟩ none 0 0 _).mono ?_
  rintro e w39 ⟨rfl, hb⟩
  replace B0 := Lib.hid (B0.out.below hb)
  replace B1 := Lib.hid (B1.out.below hb)
  replace B2 := Lib.hid (B2.out.below hb)
  replace B3 := Lib.hid (B3.out.below hb)
  replace F1 := Lib.hid (F1.out.below hb)
  replace B4 := Lib.hid (B4.out.below hb)
  replace HB := Lib.hid (HB.out.trans (hb.mono HB.out.size))
  clear hb
  have hHeld := HS.out _ B0.out B1.out B2.out B3.out B4.out
  refine hK _ _ (fun _ => hHeld) ?_
  clear hK K
  simp only [Act.put, List.setIfInBounds_toArray, List.set_cons_zero, List.set_cons_succ]
  refine wpAnyS_one (i := 36) (oi := ⟨some 62, _, _, _, _, _⟩) rfl (by kernel_rfl) (by rfl) (fun K hK => ?_)
  clear hHeld
  go_simp
  generalize hX : w39.alloc (.cells #[.bool false, .string ⟨#[97]⟩, .slice none 0 0] 39) = w40
  have hb : Below w39.heap.size w39 w40 := by rw [← hX]; exact (Below.refl _ _).alloc (Nat.le_refl _) _
  have hc : ∀ j u, [Value.bool false, .string ⟨#[97]⟩, .slice none 0 0][j]? = some u → w40.cell? ⟨w39.heap.size, j, none⟩ = some u := fun j u hj => by rw [← hX, World.cell?_alloc_at _ _ _ _ rfl, ← hj]; simp
  have ho : w39.heap.size < w40.heap.size := by rw [← hX]; simp
  replace B0 := Lib.hid (B0.out.below hb)
  replace B1 := Lib.hid (B1.out.below hb)
  replace B2 := Lib.hid (B2.out.below hb)
  replace B3 := Lib.hid (B3.out.below hb)
  replace F1 := Lib.hid (F1.out.below hb)
  replace B4 := Lib.hid (B4.out.below hb)
  replace HB := Lib.hid (HB.out.trans (hb.mono HB.out.size))
  have F12 := Lib.hid (show AT w40 (.bool false) (.string ⟨#[102]⟩) (.slice (some ⟨w39.heap.size, 0, none⟩) 1 1) (.mk false ⟨#[102]⟩ [.mk false ⟨#[97]⟩ []]) from at_mk false ⟨#[102]⟩ (ok_lit (by decide)) (slT_1 ho (at_mk false ⟨#[97]⟩ (ok_lit (by decide)) (nilT _ _)) hc))
  clear hX hb hc ho
  have hHeld := HS.out _ B0.out B1.out B2.out B3.out B4.out
  refine hK _ _ (fun _ => hHeld) ?_
  clear hK K
  simp only [Act.put, List.setIfInBounds_toArray, List.set_cons_zero, List.set_cons_succ]
  refine wpAnyS_one (i := 37) (oi := ⟨some 63, _, _, _, _, _⟩) rfl (by kernel_rfl) (by rfl) (fun K hK => ?_)
  clear hHeld
  go_simp
  refine (k_c ⟨#[102]⟩ (some ⟨w39.heap.size, 0, none⟩) 1 1 _).mono ?_
  rintro e w41 ⟨rfl, hb⟩
  replace B0 := Lib.hid (B0.out.below hb)
  replace B1 := Lib.hid (B1.out.below hb)
  replace B2 := Lib.hid (B2.out.below hb)
  replace B3 := Lib.hid (B3.out.below hb)
  replace F1 := Lib.hid (F1.out.below hb)
  replace B4 := Lib.hid (B4.out.below hb)
  replace F12 := Lib.hid (F12.out.below hb)
  replace HB := Lib.hid (HB.out.trans (hb.mono HB.out.size))
  clear hb
  have hHeld := HS.out _ B0.out B1.out B2.out B3.out B4.out
  refine hK _ _ (fun _ => hHeld) ?_
  clear hK K
  simp only [Act.put, List.setIfInBounds_toArray, List.set_cons_zero, List.set_cons_succ]
  refine wpAnyS_one (i := 38) (oi := ⟨some 64, _, _, _, _, _⟩) rfl (by kernel_rfl) (by rfl) (fun K hK => ?_)
  clear hHeld
  go_simp
  generalize hX : w41.alloc (.cells #[.bool true, .string ⟨#[120]⟩, .slice none 0 0, .bool false, .string ⟨#[102]⟩, .slice (some ⟨w39.heap.size, 0, none⟩) 1 1] 39) = w42
  have hb : Below w41.heap.size w41 w42 := by rw [← hX]; exact (Below.refl _ _).alloc (Nat.le_refl _) _
  have hc : ∀ j u, [Value.bool true, .string ⟨#[120]⟩, .slice none 0 0, .bool false, .string ⟨#[102]⟩, .slice (some ⟨w39.heap.size, 0, none⟩) 1 1][j]? = some u → w42.cell? ⟨w41.heap.size, j, none⟩ = some u := fun j u hj => by rw [← hX, World.cell?_alloc_at _ _ _ _ rfl, ← hj]; simp
  have ho : w41.heap.size < w42.heap.size := by rw [← hX]; simp
  replace B0 := Lib.hid (B0.out.below hb)
  replace B1 := Lib.hid (B1.out.below hb)
  replace B2 := Lib.hid (B2.out.below hb)
  replace B3 := Lib.hid (B3.out.below hb)
  replace F1 := Lib.hid (F1.out.below hb)
  replace B4 := Lib.hid (B4.out.below hb)
  replace F12 := Lib.hid (F12.out.below hb)
  replace HB := Lib.hid (HB.out.trans (hb.mono HB.out.size))
  have F13 := Lib.hid (show AF w42 (.int .u8 1) (.string ⟨#[80]⟩) (.slice (some ⟨w41.heap.size, 0, none⟩) 2 2) (.slice none 0 0) (.mk 1 ⟨#[80]⟩ [.mk true ⟨#[120]⟩ [], .mk false ⟨#[102]⟩ [.mk false ⟨#[97]⟩ []]] []) from af_args 1 ⟨#[80]⟩ (by omega) (ok_lit (by decide)) (slT_2 ho (at_mk true ⟨#[120]⟩ (ok_lit (by decide)) (nilT _ _)) F12.out hc))
  clear hX hb hc ho
  have hHeld := HS.out _ B0.out B1.out B2.out B3.out B4.out
  refine hK _ _ (fun _ => hHeld) ?_
  clear hK K
  simp only [Act.put, List.setIfInBounds_toArray, List.set_cons_zero, List.set_cons_succ]
  clear F12
  refine wpAnyS_one (i := 39) (oi := ⟨some 65, _, _, _, _, _⟩) rfl (by kernel_rfl) (by rfl) (fun K hK => ?_)
  clear hHeld
  go_simp
  refine (p_c ⟨#[80]⟩ (some ⟨w41.heap.size, 0, none⟩) 2 2 _).mono ?_
  rintro e w43 ⟨rfl, hb⟩
  replace B0 := Lib.hid (B0.out.below hb)
  replace B1 := Lib.hid (B1.out.below hb)
  replace B2 := Lib.hid (B2.out.below hb)
  replace B3 := Lib.hid (B3.out.below hb)
  replace F1 := Lib.hid (F1.out.below hb)
  replace B4 := Lib.hid (B4.out.below hb)
  replace F13 := Lib.hid (F13.out.below hb)
  replace HB := Lib.hid (HB.out.trans (hb.mono HB.out.size))
  clear hb
  have hHeld := HS.out _ B0.out B1.out B2.out B3.out B4.out
  refine hK _ _ (fun _ => hHeld) ?_
  clear hK K
  simp only [Act.put, List.setIfInBounds_toArray, List.set_cons_zero, List.set_cons_succ]
  refine wpAnyS_one (i := 41) (oi := ⟨some 67, _, _, _, _, _⟩) rfl (by kernel_rfl) (by rfl) (fun K hK => ?_)
  clear hHeld
  go_simp
  generalize hX : w43.alloc (.cells #[.int .u8 1, .string ⟨#[80]⟩, .slice (some ⟨w41.heap.size, 0, none⟩) 2 2, .slice none 0 0, .int .u8 1, .string ⟨#[81]⟩, .slice none 0 0, .slice none 0 0] 25) = w44
  have hb : Below w43.heap.size w43 w44 := by rw [← hX]; exact (Below.refl _ _).alloc (Nat.le_refl _) _
  have hc : ∀ j u, [Value.int .u8 1, .string ⟨#[80]⟩, .slice (some ⟨w41.heap.size, 0, none⟩) 2 2, .slice none 0 0, .int .u8 1, .string ⟨#[81]⟩, .slice none 0 0, .slice none 0 0][j]? = some u → w44.cell? ⟨w43.heap.size, j, none⟩ = some u := fun j u hj => by rw [← hX, World.cell?_alloc_at _ _ _ _ rfl, ← hj]; simp
  have ho : w43.heap.size < w44.heap.size := by rw [← hX]; simp
  replace B0 := Lib.hid (B0.out.below hb)
  replace B1 := Lib.hid (B1.out.below hb)
  replace B2 := Lib.hid (B2.out.below hb)
  replace B3 := Lib.hid (B3.out.below hb)
  replace F1 := Lib.hid (F1.out.below hb)
  replace B4 := Lib.hid (B4.out.below hb)
  replace F13 := Lib.hid (F13.out.below hb)
  replace HB := Lib.hid (HB.out.trans (hb.mono HB.out.size))
  have hsl := slF_2 ho F13.out (af_leaf _ 1 ⟨#[81]⟩ (by omega) (ok_lit (by decide))) hc
  have F14 := Lib.hid (show AF w44 (.int .u8 6) (.string ⟨#[]⟩) (.slice none 0 0) (.slice (some ⟨w43.heap.size, 0, none⟩) 2 2) (.mk 6 ⟨#[]⟩ [] [(.mk 1 ⟨#[80]⟩ [.mk true ⟨#[120]⟩ [], .mk false ⟨#[102]⟩ [.mk false ⟨#[97]⟩ []]] []), (fP 81)]) from af_sub 6 ⟨#[]⟩ (by omega) (ok_lit (by decide)) hsl)
  clear hX hb hc ho hsl
  have hHeld := HS.out _ B0.out B1.out B2.out B3.out B4.out
  refine hK _ _ (fun _ => hHeld) ?_
  clear hK K
  simp only [Act.put, List.setIfInBounds_toArray, List.set_cons_zero, List.set_cons_succ]
  clear F13
  refine wpAnyS_one (i := 42) (oi := ⟨some 68, _, _, _, _, _⟩) rfl (by kernel_rfl) (by rfl) (fun K hK => ?_)
  clear hHeld
  go_simp
  refine (of_c 6 ⟨#[]⟩ (some ⟨w43.heap.size, 0, none⟩) 2 2 _).mono ?_
  rintro e w45 ⟨rfl, hb⟩
  replace B0 := Lib.hid (B0.out.below hb)
  replace B1 := Lib.hid (B1.out.below hb)
  replace B2 := Lib.hid (B2.out.below hb)
  replace B3 := Lib.hid (B3.out.below hb)
  replace F1 := Lib.hid (F1.out.below hb)
  replace B4 := Lib.hid (B4.out.below hb)
  replace F14 := Lib.hid (F14.out.below hb)
  replace HB := Lib.hid (HB.out.trans (hb.mono HB.out.size))
  clear hb
  have hHeld := HS.out _ B0.out B1.out B2.out B3.out B4.out
  refine hK _ _ (fun _ => hHeld) ?_
  clear hK K
  simp only [Act.put, List.setIfInBounds_toArray, List.set_cons_zero, List.set_cons_succ]
  refine wpAnyS_one (i := 43) (oi := ⟨some 69, _, _, _, _, _⟩) rfl (by kernel_rfl) (by rfl) (fun K hK => ?_)
  clear hHeld
  go_simp
  generalize hX : w45.alloc (.cells #[.int .u8 6, .string ⟨#[]⟩, .slice none 0 0, .slice (some ⟨w43.heap.size, 0, none⟩) 2 2] 25) = w46
  have hb : Below w45.heap.size w45 w46 := by rw [← hX]; exact (Below.refl _ _).alloc (Nat.le_refl _) _
  have hc : ∀ j u, [Value.int .u8 6, .string ⟨#[]⟩, .slice none 0 0, .slice (some ⟨w43.heap.size, 0, none⟩) 2 2][j]? = some u → w46.cell? ⟨w45.heap.size, j, none⟩ = some u := fun j u hj => by rw [← hX, World.cell?_alloc_at _ _ _ _ rfl, ← hj]; simp
  have ho : w45.heap.size < w46.heap.size := by rw [← hX]; simp
  replace B0 := Lib.hid (B0.out.below hb)
  replace B1 := Lib.hid (B1.out.below hb)
  replace B2 := Lib.hid (B2.out.below hb)
  replace B3 := Lib.hid (B3.out.below hb)
  replace F1 := Lib.hid (F1.out.below hb)
  replace B4 := Lib.hid (B4.out.below hb)
  replace F14 := Lib.hid (F14.out.below hb)
  replace HB := Lib.hid (HB.out.trans (hb.mono HB.out.size))
  have hsl := slF_1 ho F14.out hc
  have F15 := Lib.hid (show AF w46 (.int .u8 8) (.string ⟨#[120]⟩) (.slice none 0 0) (.slice (some ⟨w45.heap.size, 0, none⟩) 1 1) (.mk 8 ⟨#[120]⟩ [] [(.mk 6 ⟨#[]⟩ [] [(.mk 1 ⟨#[80]⟩ [.mk true ⟨#[120]⟩ [], .mk false ⟨#[102]⟩ [.mk false ⟨#[97]⟩ []]] []), (fP 81)])]) from af_sub 8 ⟨#[120]⟩ (by omega) (ok_lit (by decide)) hsl)
  clear hX hb hc ho hsl
  have hHeld := HS.out _ B0.out B1.out B2.out B3.out B4.out
  refine hK _ _ (fun _ => hHeld) ?_
  clear hK K
  simp only [Act.put, List.setIfInBounds_toArray, List.set_cons_zero, List.set_cons_succ]
  clear F14
  refine wpAnyS_one (i := 44) (oi := ⟨some 70, _, _, _, _, _⟩) rfl (by kernel_rfl) (by rfl) (fun K hK => ?_)
  clear hHeld
  go_simp
  refine (of_c 8 ⟨#[120]⟩ (some ⟨w45.heap.size, 0, none⟩) 1 1 _).mono ?_
  rintro e w47 ⟨rfl, hb⟩
  replace B0 := Lib.hid (B0.out.below hb)
  replace B1 := Lib.hid (B1.out.below hb)
  replace B2 := Lib.hid (B2.out.below hb)
  replace B3 := Lib.hid (B3.out.below hb)
  replace F1 := Lib.hid (F1.out.below hb)
  replace B4 := Lib.hid (B4.out.below hb)
  replace F15 := Lib.hid (F15.out.below hb)
  replace HB := Lib.hid (HB.out.trans (hb.mono HB.out.size))
  clear hb
  have hHeld := HS.out _ B0.out B1.out B2.out B3.out B4.out
  refine hK _ _ (fun _ => hHeld) ?_
  clear hK K
  simp only [Act.put, List.setIfInBounds_toArray, List.set_cons_zero, List.set_cons_succ]
  refine wpAnyS_one (i := 45) (oi := ⟨some 71, _, _, _, _, _⟩) rfl (by kernel_rfl) (by rfl) (fun K hK => ?_)
  clear hHeld
  go_simp
  refine (writes_c _ _ _ _ e3 _ _ F15.out (Nat.le_refl _) (HR.out _ HB.out).1 (HR.out _ HB.out).2 e3_r _ _ _ e3_t e3_u e3_x).mono ?_
  rintro e w48 ⟨rfl, hb⟩
  replace B0 := Lib.hid (B0.out.below hb)
  replace B1 := Lib.hid (B1.out.below hb)
  replace B2 := Lib.hid (B2.out.below hb)
  replace B3 := Lib.hid (B3.out.below hb)
  replace F1 := Lib.hid (F1.out.below hb)
  replace B4 := Lib.hid (B4.out.below hb)
  replace F15 := Lib.hid (F15.out.below hb)
  replace HB := Lib.hid (HB.out.trans (hb.mono HB.out.size))
  clear hb
  have hHeld := HS.out _ B0.out B1.out B2.out B3.out B4.out
  refine hK _ _ (fun _ => hHeld) ?_
  clear hK K
  simp only [Act.put, List.setIfInBounds_toArray, List.set_cons_zero, List.set_cons_succ]
  clear F15
  refine wpAnyS_take (i := 46) (oi := ⟨some 72, _, _, _, _, _⟩) (v := .bool true) rfl (by kernel_rfl) (by kernel_rfl) (by kernel_rfl) (by kernel_rfl) (fun _ _ _ h => Norm.panic h) (Or.inl ⟨by rfl, ?_⟩) (by assumption) ?_
  · intro w' hSw
    obtain ⟨k0', k1', k2', k3', k4', k5', k6', k7', k8', k9', k10', k11', k12', k13', k14', k15', k16', k17', k18', k19'⟩ := hSw
    go_simp
  simp only [Act.put, List.setIfInBounds_toArray, List.set_cons_zero, List.set_cons_succ]
  refine wpAnyS_take (i := 47) (oi := ⟨some 73, _, _, _, _, _⟩) (v := .bool true) rfl (by kernel_rfl) (by kernel_rfl) (by kernel_rfl) (by kernel_rfl) (fun _ _ _ h => Norm.panic h) (Or.inl ⟨by rfl, ?_⟩) (by assumption) ?_
  · intro w' hSw
    obtain ⟨k0', k1', k2', k3', k4', k5', k6', k7', k8', k9', k10', k11', k12', k13', k14', k15', k16', k17', k18', k19'⟩ := hSw
    go_simp
  simp only [Act.put, List.setIfInBounds_toArray, List.set_cons_zero, List.set_cons_succ]
  refine wpAnyS_take (i := 48) (oi := ⟨some 74, _, _, _, _, _⟩) (v := .agg #[.int .u8 1, .string ⟨#[80]⟩, .slice none 0 0, .slice none 0 0]) rfl (by kernel_rfl) (by kernel_rfl) (by kernel_rfl) (by kernel_rfl) (fun _ _ _ h => Norm.panic h) (Or.inl ⟨by rfl, ?_⟩) (by assumption) ?_
  · intro w' hSw
    obtain ⟨k0', k1', k2', k3', k4', k5', k6', k7', k8', k9', k10', k11', k12', k13', k14', k15', k16', k17', k18', k19'⟩ := hSw
    go_simp
  simp only [Act.put, List.setIfInBounds_toArray, List.set_cons_zero, List.set_cons_succ]
  refine wpAnyS_take (i := 49) (oi := ⟨some 75, _, _, _, _, _⟩) (v := .agg #[.int .u8 1, .string ⟨#[81]⟩, .slice none 0 0, .slice none 0 0]) rfl (by kernel_rfl) (by kernel_rfl) (by kernel_rfl) (by kernel_rfl) (fun _ _ _ h => Norm.panic h) (Or.inl ⟨by rfl, ?_⟩) (by assumption) ?_
  · intro w' hSw
    obtain ⟨k0', k1', k2', k3', k4', k5', k6', k7', k8', k9', k10', k11', k12', k13', k14', k15', k16', k17', k18', k19'⟩ := hSw
    go_simp
  simp only [Act.put, List.setIfInBounds_toArray, List.set_cons_zero, List.set_cons_succ]
  refine wpAnyS_take (i := 52) (oi := ⟨some 78, _, _, _, _, _⟩) (v := .agg #[.int .u8 1, .string ⟨#[82]⟩, .slice none 0 0, .slice none 0 0]) rfl (by kernel_rfl) (by kernel_rfl) (by kernel_rfl) (by kernel_rfl) (fun _ _ _ h => Norm.panic h) (Or.inl ⟨by rfl, ?_⟩) (by assumption) ?_
  · intro w' hSw
    obtain ⟨k0', k1', k2', k3', k4', k5', k6', k7', k8', k9', k10', k11', k12', k13', k14', k15', k16', k17', k18', k19'⟩ := hSw
    go_simp
  simp only [Act.put, List.setIfInBounds_toArray, List.set_cons_zero, List.set_cons_succ]
  refine wpAnyS_one (i := 50) (oi := ⟨some 76, _, _, _, _, _⟩) rfl (by kernel_rfl) (by rfl) (fun K hK => ?_)
  clear hHeld
  go_simp
  generalize hX : w48.alloc (.cells #[.int .u8 1, .string ⟨#[80]⟩, .slice none 0 0, .slice none 0 0, .int .u8 1, .string ⟨#[81]⟩, .slice none 0 0, .slice none 0 0] 25) = w49
  have hb : Below w48.heap.size w48 w49 := by rw [← hX]; exact (Below.refl _ _).alloc (Nat.le_refl _) _
  have hc : ∀ j u, [Value.int .u8 1, .string ⟨#[80]⟩, .slice none 0 0, .slice none 0 0, .int .u8 1, .string ⟨#[81]⟩, .slice none 0 0, .slice none 0 0][j]? = some u → w49.cell? ⟨w48.heap.size, j, none⟩ = some u := fun j u hj => by rw [← hX, World.cell?_alloc_at _ _ _ _ rfl, ← hj]; simp
  have ho : w48.heap.size < w49.heap.size := by rw [← hX]; simp
  replace B0 := Lib.hid (B0.out.below hb)
  replace B1 := Lib.hid (B1.out.below hb)
  replace B2 := Lib.hid (B2.out.below hb)
  replace B3 := Lib.hid (B3.out.below hb)
  replace F1 := Lib.hid (F1.out.below hb)
  replace B4 := Lib.hid (B4.out.below hb)
  replace HB := Lib.hid (HB.out.trans (hb.mono HB.out.size))
  have hsl := slF_2 ho (af_leaf _ 1 ⟨#[80]⟩ (by omega) (ok_lit (by decide))) (af_leaf _ 1 ⟨#[81]⟩ (by omega) (ok_lit (by decide))) hc
  have F16 := Lib.hid (show AF w49 (.int .u8 14) (.string ⟨#[]⟩) (.slice none 0 0) (.slice (some ⟨w48.heap.size, 0, none⟩) 2 2) (.mk 14 ⟨#[]⟩ [] [(fP 80), (fP 81)]) from af_sub 14 ⟨#[]⟩ (by omega) (ok_lit (by decide)) hsl)
  clear hX hb hc ho hsl
  have hHeld := HS.out _ B0.out B1.out B2.out B3.out B4.out
  refine hK _ _ (fun _ => hHeld) ?_
  clear hK K
  simp only [Act.put, List.setIfInBounds_toArray, List.set_cons_zero, List.set_cons_succ]
  refine wpAnyS_one (i := 51) (oi := ⟨some 77, _, _, _, _, _⟩) rfl (by kernel_rfl) (by rfl) (fun K hK => ?_)
  clear hHeld
  go_simp
  refine (of_c 14 ⟨#[]⟩ (some ⟨w48.heap.size, 0, none⟩) 2 2 _).mono ?_
  rintro e w50 ⟨rfl, hb⟩
  replace B0 := Lib.hid (B0.out.below hb)
  replace B1 := Lib.hid (B1.out.below hb)
  replace B2 := Lib.hid (B2.out.below hb)
  replace B3 := Lib.hid (B3.out.below hb)
  replace F1 := Lib.hid (F1.out.below hb)
  replace B4 := Lib.hid (B4.out.below hb)
  replace F16 := Lib.hid (F16.out.below hb)
  replace HB := Lib.hid (HB.out.trans (hb.mono HB.out.size))
  clear hb
  have hHeld := HS.out _ B0.out B1.out B2.out B3.out B4.out
  refine hK _ _ (fun _ => hHeld) ?_
  clear hK K
  simp only [Act.put, List.setIfInBounds_toArray, List.set_cons_zero, List.set_cons_succ]
  refine wpAnyS_one (i := 53) (oi := ⟨some 79, _, _, _, _, _⟩) rfl (by kernel_rfl) (by rfl) (fun K hK => ?_)
  clear hHeld
  go_simp
  generalize hX : w50.alloc (.cells #[.int .u8 14, .string ⟨#[]⟩, .slice none 0 0, .slice (some ⟨w48.heap.size, 0, none⟩) 2 2, .int .u8 1, .string ⟨#[82]⟩, .slice none 0 0, .slice none 0 0] 25) = w51
  have hb : Below w50.heap.size w50 w51 := by rw [← hX]; exact (Below.refl _ _).alloc (Nat.le_refl _) _
  have hc : ∀ j u, [Value.int .u8 14, .string ⟨#[]⟩, .slice none 0 0, .slice (some ⟨w48.heap.size, 0, none⟩) 2 2, .int .u8 1, .string ⟨#[82]⟩, .slice none 0 0, .slice none 0 0][j]? = some u → w51.cell? ⟨w50.heap.size, j, none⟩ = some u := fun j u hj => by rw [← hX, World.cell?_alloc_at _ _ _ _ rfl, ← hj]; simp
  have ho : w50.heap.size < w51.heap.size := by rw [← hX]; simp
  replace B0 := Lib.hid (B0.out.below hb)
  replace B1 := Lib.hid (B1.out.below hb)
  replace B2 := Lib.hid (B2.out.below hb)
  replace B3 := Lib.hid (B3.out.below hb)
  replace F1 := Lib.hid (F1.out.below hb)
  replace B4 := Lib.hid (B4.out.below hb)
  replace F16 := Lib.hid (F16.out.below hb)
  replace HB := Lib.hid (HB.out.trans (hb.mono HB.out.size))
  have hsl := slF_2 ho F16.out (af_leaf _ 1 ⟨#[82]⟩ (by omega) (ok_lit (by decide))) hc
  have F17 := Lib.hid (show AF w51 (.int .u8 14) (.string ⟨#[]⟩) (.slice none 0 0) (.slice (some ⟨w50.heap.size, 0, none⟩) 2 2) (.mk 14 ⟨#[]⟩ [] [(.mk 14 ⟨#[]⟩ [] [(fP 80), (fP 81)]), (fP 82)]) from af_sub 14 ⟨#[]⟩ (by omega) (ok_lit (by decide)) hsl)
  clear hX hb hc ho hsl
  have hHeld := HS.out _ B0.out B1.out B2.out B3.out B4.out
  refine hK _ _ (fun _ => hHeld) ?_
  clear hK K
  simp only [Act.put, List.setIfInBounds_toArray, List.set_cons_zero, List.set_cons_succ]
  clear F16
  refine wpAnyS_one (i := 54) (oi := ⟨some 80, _, _, _, _, _⟩) rfl (by kernel_rfl) (by rfl) (fun K hK => ?_)
  clear hHeld
  go_simp
  refine (of_c 14 ⟨#[]⟩ (some ⟨w50.heap.size, 0, none⟩) 2 2 _).mono ?_
  rintro e w52 ⟨rfl, hb⟩
  replace B0 := Lib.hid (B0.out.below hb)
  replace B1 := Lib.hid (B1.out.below hb)
  replace B2 := Lib.hid (B2.out.below hb)
  replace B3 := Lib.hid (B3.out.below hb)
  replace F1 := Lib.hid (F1.out.below hb)
  replace B4 := Lib.hid (B4.out.below hb)
  replace F17 := Lib.hid (F17.out.below hb)
  replace HB := Lib.hid (HB.out.trans (hb.mono HB.out.size))
  clear hb
  have hHeld := HS.out _ B0.out B1.out B2.out B3.out B4.out
  refine hK _ _ (fun _ => hHeld) ?_
  clear hK K
  simp only [Act.put, List.setIfInBounds_toArray, List.set_cons_zero, List.set_cons_succ]
  refine wpAnyS_one (i := 55) (oi := ⟨some 81, _, _, _, _, _⟩) rfl (by kernel_rfl) (by rfl) (fun K hK => ?_)
  clear hHeld
  go_simp
  refine (writes_c _ _ _ _ e4 _ _ F17.out (Nat.le_refl _) (HR.out _ HB.out).1 (HR.out _ HB.out).2 e4_r _ _ _ e4_t e4_u e4_x).mono ?_
  rintro e w53 ⟨rfl, hb⟩
  replace B0 := Lib.hid (B0.out.below hb)
  replace B1 := Lib.hid (B1.out.below hb)
  replace B2 := Lib.hid (B2.out.below hb)
  replace B3 := Lib.hid (B3.out.below hb)
  replace F1 := Lib.hid (F1.out.below hb)
  replace B4 := Lib.hid (B4.out.below hb)
  replace F17 := Lib.hid (F17.out.below hb)
  replace HB := Lib.hid (HB.out.trans (hb.mono HB.out.size))
  clear hb
  have hHeld := HS.out _ B0.out B1.out B2.out B3.out B4.out
  refine hK _ _ (fun _ => hHeld) ?_
  clear hK K
  simp only [Act.put, List.setIfInBounds_toArray, List.set_cons_zero, List.set_cons_succ]
  clear F17
  refine wpAnyS_take (i := 56) (oi := ⟨some 82, _, _, _, _, _⟩) (v := .bool true) rfl (by kernel_rfl) (by kernel_rfl) (by kernel_rfl) (by kernel_rfl) (fun _ _ _ h => Norm.panic h) (Or.inl ⟨by rfl, ?_⟩) (by assumption) ?_
  · intro w' hSw
    obtain ⟨k0', k1', k2', k3', k4', k5', k6', k7', k8', k9', k10', k11', k12', k13', k14', k15', k16', k17', k18', k19'⟩ := hSw
    go_simp
  simp only [Act.put, List.setIfInBounds_toArray, List.set_cons_zero, List.set_cons_succ]
  refine wpAnyS_take (i := 57) (oi := ⟨some 83, _, _, _, _, _⟩) (v := .bool true) rfl (by kernel_rfl) (by kernel_rfl) (by kernel_rfl) (by kernel_rfl) (fun _ _ _ h => Norm.panic h) (Or.inl ⟨by rfl, ?_⟩) (by assumption) ?_
  · intro w' hSw
    obtain ⟨k0', k1', k2', k3', k4', k5', k6', k7', k8', k9', k10', k11', k12', k13', k14', k15', k16', k17', k18', k19'⟩ := hSw
    go_simp
  simp only [Act.put, List.setIfInBounds_toArray, List.set_cons_zero, List.set_cons_succ]
  refine wpAnyS_take (i := 58) (oi := ⟨some 84, _, _, _, _, _⟩) (v := .agg #[.int .u8 16, .string ⟨#[63, 65]⟩, .slice (some ⟨w10.heap.size, 0, none⟩) 2 2, .slice none 0 0]) rfl (by kernel_rfl) (by kernel_rfl) (by kernel_rfl) (by kernel_rfl) (fun _ _ _ h => Norm.panic h) (Or.inl ⟨by rfl, ?_⟩) (by assumption) ?_
  · intro w' hSw
    obtain ⟨k0', k1', k2', k3', k4', k5', k6', k7', k8', k9', k10', k11', k12', k13', k14', k15', k16', k17', k18', k19'⟩ := hSw
    go_simp
  simp only [Act.put, List.setIfInBounds_toArray, List.set_cons_zero, List.set_cons_succ]
  refine wpAnyS_one (i := 59) (oi := ⟨some 85, _, _, _, _, _⟩) rfl (by kernel_rfl) (by rfl) (fun K hK => ?_)
  clear hHeld
  go_simp
  generalize hX : w53.alloc (.cells #[.int .u8 16, .string ⟨#[63, 65]⟩, .slice (some ⟨w10.heap.size, 0, none⟩) 2 2, .slice none 0 0] 25) = w54
  have hb : Below w53.heap.size w53 w54 := by rw [← hX]; exact (Below.refl _ _).alloc (Nat.le_refl _) _
  have hc : ∀ j u, [Value.int .u8 16, .string ⟨#[63, 65]⟩, .slice (some ⟨w10.heap.size, 0, none⟩) 2 2, .slice none 0 0][j]? = some u → w54.cell? ⟨w53.heap.size, j, none⟩ = some u := fun j u hj => by rw [← hX, World.cell?_alloc_at _ _ _ _ rfl, ← hj]; simp
  have ho : w53.heap.size < w54.heap.size := by rw [← hX]; simp
  replace B0 := Lib.hid (B0.out.below hb)
  replace B1 := Lib.hid (B1.out.below hb)
  replace B2 := Lib.hid (B2.out.below hb)
  replace B3 := Lib.hid (B3.out.below hb)
  replace F1 := Lib.hid (F1.out.below hb)
  replace B4 := Lib.hid (B4.out.below hb)
  replace HB := Lib.hid (HB.out.trans (hb.mono HB.out.size))
  have hsl := slF_1 ho F1.out hc
  have F18 := Lib.hid (show AF w54 (.int .u8 10) (.string ⟨#[]⟩) (.slice none 0 0) (.slice (some ⟨w53.heap.size, 0, none⟩) 1 1) (.mk 10 ⟨#[]⟩ [] [fI]) from af_sub 10 ⟨#[]⟩ (by omega) (ok_lit (by decide)) hsl)
  clear hX hb hc ho hsl
  have hHeld := HS.out _ B0.out B1.out B2.out B3.out B4.out
  refine hK _ _ (fun _ => hHeld) ?_
  clear hK K
  simp only [Act.put, List.setIfInBounds_toArray, List.set_cons_zero, List.set_cons_succ]
  refine wpAnyS_one (i := 60) (oi := ⟨some 86, _, _, _, _, _⟩) rfl (by kernel_rfl) (by rfl) (fun K hK => ?_)
  clear hHeld
  go_simp
  refine (of_c 10 ⟨#[]⟩ (some ⟨w53.heap.size, 0, none⟩) 1 1 _).mono ?_
  rintro e w55 ⟨rfl, hb⟩
  replace B0 := Lib.hid (B0.out.below hb)
  replace B1 := Lib.hid (B1.out.below hb)
  replace B2 := Lib.hid (B2.out.below hb)
  replace B3 := Lib.hid (B3.out.below hb)
  replace F1 := Lib.hid (F1.out.below hb)
  replace B4 := Lib.hid (B4.out.below hb)
  replace F18 := Lib.hid (F18.out.below hb)
  replace HB := Lib.hid (HB.out.trans (hb.mono HB.out.size))
  clear hb
  have hHeld := HS.out _ B0.out B1.out B2.out B3.out B4.out
  refine hK _ _ (fun _ => hHeld) ?_
  clear hK K
  simp only [Act.put, List.setIfInBounds_toArray, List.set_cons_zero, List.set_cons_succ]
  refine wpAnyS_one (i := 61) (oi := ⟨some 87, _, _, _, _, _⟩) rfl (by kernel_rfl) (by rfl) (fun K hK => ?_)
  clear hHeld
  go_simp
  generalize hX : w55.alloc (.cells #[.int .u8 10, .string ⟨#[]⟩, .slice none 0 0, .slice (some ⟨w53.heap.size, 0, none⟩) 1 1] 25) = w56
  have hb : Below w55.heap.size w55 w56 := by rw [← hX]; exact (Below.refl _ _).alloc (Nat.le_refl _) _
  have hc : ∀ j u, [Value.int .u8 10, .string ⟨#[]⟩, .slice none 0 0, .slice (some ⟨w53.heap.size, 0, none⟩) 1 1][j]? = some u → w56.cell? ⟨w55.heap.size, j, none⟩ = some u := fun j u hj => by rw [← hX, World.cell?_alloc_at _ _ _ _ rfl, ← hj]; simp
  have ho : w55.heap.size < w56.heap.size := by rw [← hX]; simp
  replace B0 := Lib.hid (B0.out.below hb)
  replace B1 := Lib.hid (B1.out.below hb)
  replace B2 := Lib.hid (B2.out.below hb)
  replace B3 := Lib.hid (B3.out.below hb)
  replace F1 := Lib.hid (F1.out.below hb)
  replace B4 := Lib.hid (B4.out.below hb)
  replace F18 := Lib.hid (F18.out.below hb)
  replace HB := Lib.hid (HB.out.trans (hb.mono HB.out.size))
  have hsl := slF_1 ho F18.out hc
  have F19 := Lib.hid (show AF w56 (.int .u8 12) (.string ⟨#[]⟩) (.slice none 0 0) (.slice (some ⟨w55.heap.size, 0, none⟩) 1 1) (.mk 12 ⟨#[]⟩ [] [(.mk 10 ⟨#[]⟩ [] [fI])]) from af_sub 12 ⟨#[]⟩ (by omega) (ok_lit (by decide)) hsl)
  clear hX hb hc ho hsl
  have hHeld := HS.out _ B0.out B1.out B2.out B3.out B4.out
  refine hK _ _ (fun _ => hHeld) ?_
  clear hK K
  simp only [Act.put, List.setIfInBounds_toArray, List.set_cons_zero, List.set_cons_succ]
  clear F18
  refine wpAnyS_one (i := 62) (oi := ⟨some 88, _, _, _, _, _⟩) rfl (by kernel_rfl) (by rfl) (fun K hK => ?_)
  clear hHeld
  go_simp
  refine (of_c 12 ⟨#[]⟩ (some ⟨w55.heap.size, 0, none⟩) 1 1 _).mono ?_
  rintro e w57 ⟨rfl, hb⟩
  replace B0 := Lib.hid (B0.out.below hb)
  replace B1 := Lib.hid (B1.out.below hb)
  replace B2 := Lib.hid (B2.out.below hb)
  replace B3 := Lib.hid (B3.out.below hb)
  replace F1 := Lib.hid (F1.out.below hb)
  replace B4 := Lib.hid (B4.out.below hb)
  replace F19 := Lib.hid (F19.out.below hb)
  replace HB := Lib.hid (HB.out.trans (hb.mono HB.out.size))
  clear hb
  have hHeld := HS.out _ B0.out B1.out B2.out B3.out B4.out
  refine hK _ _ (fun _ => hHeld) ?_
  clear hK K
  simp only [Act.put, List.setIfInBounds_toArray, List.set_cons_zero, List.set_cons_succ]
  refine wpAnyS_one (i := 63) (oi := ⟨some 89, _, _, _, _, _⟩) rfl (by kernel_rfl) (by rfl) (fun K hK => ?_)
  clear hHeld
  go_simp
  refine (of_c 2 ⟨#[]⟩ none 0 0 _).mono ?_
  rintro e w58 ⟨rfl, hb⟩
  replace B0 := Lib.hid (B0.out.below hb)
  replace B1 := Lib.hid (B1.out.below hb)
  replace B2 := Lib.hid (B2.out.below hb)
  replace B3 := Lib.hid (B3.out.below hb)
  replace F1 := Lib.hid (F1.out.below hb)
  replace B4 := Lib.hid (B4.out.below hb)
  replace F19 := Lib.hid (F19.out.below hb)
  replace HB := Lib.hid (HB.out.trans (hb.mono HB.out.size))
  clear hb
  have hHeld := HS.out _ B0.out B1.out B2.out B3.out B4.out
  refine hK _ _ (fun _ => hHeld) ?_
  clear hK K
  simp only [Act.put, List.setIfInBounds_toArray, List.set_cons_zero, List.set_cons_succ]
  refine wpAnyS_one (i := 64) (oi := ⟨some 90, _, _, _, _, _⟩) rfl (by kernel_rfl) (by rfl) (fun K hK => ?_)
  clear hHeld
  go_simp
  generalize hX : w58.alloc (.cells #[.int .u8 12, .string ⟨#[]⟩, .slice none 0 0, .slice (some ⟨w55.heap.size, 0, none⟩) 1 1, .int .u8 2, .string ⟨#[]⟩, .slice none 0 0, .slice none 0 0] 25) = w59
  have hb : Below w58.heap.size w58 w59 := by rw [← hX]; exact (Below.refl _ _).alloc (Nat.le_refl _) _
  have hc : ∀ j u, [Value.int .u8 12, .string ⟨#[]⟩, .slice none 0 0, .slice (some ⟨w55.heap.size, 0, none⟩) 1 1, .int .u8 2, .string ⟨#[]⟩, .slice none 0 0, .slice none 0 0][j]? = some u → w59.cell? ⟨w58.heap.size, j, none⟩ = some u := fun j u hj => by rw [← hX, World.cell?_alloc_at _ _ _ _ rfl, ← hj]; simp
  have ho : w58.heap.size < w59.heap.size := by rw [← hX]; simp
  replace B0 := Lib.hid (B0.out.below hb)
  replace B1 := Lib.hid (B1.out.below hb)
  replace B2 := Lib.hid (B2.out.below hb)
  replace B3 := Lib.hid (B3.out.below hb)
  replace F1 := Lib.hid (F1.out.below hb)
  replace B4 := Lib.hid (B4.out.below hb)
  replace F19 := Lib.hid (F19.out.below hb)
  replace HB := Lib.hid (HB.out.trans (hb.mono HB.out.size))
  have hsl := slF_2 ho F19.out (af_leaf _ 2 ⟨#[]⟩ (by omega) (ok_lit (by decide))) hc
  have F20 := Lib.hid (show AF w59 (.int .u8 7) (.string ⟨#[]⟩) (.slice none 0 0) (.slice (some ⟨w58.heap.size, 0, none⟩) 2 2) (.mk 7 ⟨#[]⟩ [] [(.mk 12 ⟨#[]⟩ [] [(.mk 10 ⟨#[]⟩ [] [fI])]), (.mk 2 ⟨#[]⟩ [] [])]) from af_sub 7 ⟨#[]⟩ (by omega) (ok_lit (by decide)) hsl)
  clear hX hb hc ho hsl
  have hHeld := HS.out _ B0.out B1.out B2.out B3.out B4.out
  refine hK _ _ (fun _ => hHeld) ?_
  clear hK K
  simp only [Act.put, List.setIfInBounds_toArray, List.set_cons_zero, List.set_cons_succ]
  clear F19
  refine wpAnyS_one (i := 65) (oi := ⟨some 91, _, _, _, _, _⟩) rfl (by kernel_rfl) (by rfl) (fun K hK => ?_)
  clear hHeld
  go_simp
  refine (of_c 7 ⟨#[]⟩ (some ⟨w58.heap.size, 0, none⟩) 2 2 _).mono ?_
  rintro e w60 ⟨rfl, hb⟩
  replace B0 := Lib.hid (B0.out.below hb)
  replace B1 := Lib.hid (B1.out.below hb)
  replace B2 := Lib.hid (B2.out.below hb)
  replace B3 := Lib.hid (B3.out.below hb)
  replace F1 := Lib.hid (F1.out.below hb)
  replace B4 := Lib.hid (B4.out.below hb)
  replace F20 := Lib.hid (F20.out.below hb)
  replace HB := Lib.hid (HB.out.trans (hb.mono HB.out.size))
  clear hb
  have hHeld := HS.out _ B0.out B1.out B2.out B3.out B4.out
  refine hK _ _ (fun _ => hHeld) ?_
  clear hK K
  simp only [Act.put, List.setIfInBounds_toArray, List.set_cons_zero, List.set_cons_succ]
  refine wpAnyS_one (i := 66) (oi := ⟨some 92, _, _, _, _, _⟩) rfl (by kernel_rfl) (by rfl) (fun K hK => ?_)
  clear hHeld
  go_simp
  refine (writes_c _ _ _ _ e5 _ _ F20.out (Nat.le_refl _) (HR.out _ HB.out).1 (HR.out _ HB.out).2 e5_r _ _ _ e5_t e5_u e5_x).mono ?_
  rintro e w61 ⟨rfl, hb⟩
  replace B0 := Lib.hid (B0.out.below hb)
  replace B1 := Lib.hid (B1.out.below hb)
  replace B2 := Lib.hid (B2.out.below hb)
  replace B3 := Lib.hid (B3.out.below hb)
  replace F1 := Lib.hid (F1.out.below hb)
  replace B4 := Lib.hid (B4.out.below hb)
  replace F20 := Lib.hid (F20.out.below hb)
  replace HB := Lib.hid (HB.out.trans (hb.mono HB.out.size))
  clear hb
  have hHeld := HS.out _ B0.out B1.out B2.out B3.out B4.out
  refine hK _ _ (fun _ => hHeld) ?_
  clear hK K
  simp only [Act.put, List.setIfInBounds_toArray, List.set_cons_zero, List.set_cons_succ]
  clear F20
  refine wpAnyS_take (i := 67) (oi := ⟨some 93, _, _, _, _, _⟩) (v := .bool true) rfl (by kernel_rfl) (by kernel_rfl) (by kernel_rfl) (by kernel_rfl) (fun _ _ _ h => Norm.panic h) (Or.inl ⟨by rfl, ?_⟩) (by assumption) ?_
  · intro w' hSw
    obtain ⟨k0', k1', k2', k3', k4', k5', k6', k7', k8', k9', k10', k11', k12', k13', k14', k15', k16', k17', k18', k19'⟩ := hSw
    go_simp
  simp only [Act.put, List.setIfInBounds_toArray, List.set_cons_zero, List.set_cons_succ]
  refine wpAnyS_take (i := 68) (oi := ⟨some 94, _, _, _, _, _⟩) (v := .bool true) rfl (by kernel_rfl) (by kernel_rfl) (by kernel_rfl) (by kernel_rfl) (fun _ _ _ h => Norm.panic h) (Or.inl ⟨by rfl, ?_⟩) (by assumption) ?_
  · intro w' hSw
    obtain ⟨k0', k1', k2', k3', k4', k5', k6', k7', k8', k9', k10', k11', k12', k13', k14', k15', k16', k17', k18', k19'⟩ := hSw
    go_simp
  simp only [Act.put, List.setIfInBounds_toArray, List.set_cons_zero, List.set_cons_succ]
  refine wpAnyS_take (i := 69) (oi := ⟨some 95, _, _, _, _, _⟩) (v := .int .i64 0) rfl (by kernel_rfl) (by kernel_rfl) (by kernel_rfl) (by kernel_rfl) (fun _ _ _ h => Norm.panic h) (Or.inl ⟨by rfl, ?_⟩) (by assumption) ?_
  · intro w' hSw
    obtain ⟨k0', k1', k2', k3', k4', k5', k6', k7', k8', k9', k10', k11', k12', k13', k14', k15', k16', k17', k18', k19'⟩ := hSw
    go_simp
  simp only [Act.put, List.setIfInBounds_toArray, List.set_cons_zero, List.set_cons_succ]
  refine wpAnyS_take (i := 70) (oi := ⟨some 96, _, _, _, _, _⟩) (v := .bool true) rfl (by kernel_rfl) (by kernel_rfl) (by kernel_rfl) (by kernel_rfl) (fun _ _ _ h => Norm.panic h) (Or.inl ⟨by rfl, ?_⟩) (by assumption) ?_
  · intro w' hSw
    obtain ⟨k0', k1', k2', k3', k4', k5', k6', k7', k8', k9', k10', k11', k12', k13', k14', k15', k16', k17', k18', k19'⟩ := hSw
    go_simp
  simp only [Act.put, List.setIfInBounds_toArray, List.set_cons_zero, List.set_cons_succ]
  refine wpAnyS_take (i := 71) (oi := ⟨some 97, _, _, _, _, _⟩) (v := .bool true) rfl (by kernel_rfl) (by kernel_rfl) (by kernel_rfl) (by kernel_rfl) (fun _ _ _ h => Norm.panic h) (Or.inl ⟨by rfl, ?_⟩) (by assumption) ?_
  · intro w' hSw
    obtain ⟨k0', k1', k2', k3', k4', k5', k6', k7', k8', k9', k10', k11', k12', k13', k14', k15', k16', k17', k18', k19'⟩ := hSw
    go_simp
  simp only [Act.put, List.setIfInBounds_toArray, List.set_cons_zero, List.set_cons_succ]
  refine wpAnyS_take (i := 72) (oi := ⟨some 98, _, _, _, _, _⟩) (v := .bool true) rfl (by kernel_rfl) (by kernel_rfl) (by kernel_rfl) (by kernel_rfl) (fun _ _ _ h => Norm.panic h) (Or.inl ⟨by rfl, ?_⟩) (by assumption) ?_
  · intro w' hSw
    obtain ⟨k0', k1', k2', k3', k4', k5', k6', k7', k8', k9', k10', k11', k12', k13', k14', k15', k16', k17', k18', k19'⟩ := hSw
    go_simp
  simp only [Act.put, List.setIfInBounds_toArray, List.set_cons_zero, List.set_cons_succ]
  refine wpAnyS_take (i := 73) (oi := ⟨some 99, _, _, _, _, _⟩) (v := .string ⟨#[80, 32, 124, 32, 81, 44, 32, 82]⟩) rfl (by kernel_rfl) (by kernel_rfl) (by kernel_rfl) (by kernel_rfl) (fun _ _ _ h => Norm.panic h) (Or.inl ⟨by rfl, ?_⟩) (by assumption) ?_
  · intro w' hSw
    obtain ⟨k0', k1', k2', k3', k4', k5', k6', k7', k8', k9', k10', k11', k12', k13', k14', k15', k16', k17', k18', k19'⟩ := hSw
    go_simp
  simp only [Act.put, List.setIfInBounds_toArray, List.set_cons_zero, List.set_cons_succ]
  refine wpAnyS_take (i := 74) (oi := ⟨some 100, _, _, _, _, _⟩) (v := .bool true) rfl (by kernel_rfl) (by kernel_rfl) (by kernel_rfl) (by kernel_rfl) (fun _ _ _ h => Norm.panic h) (Or.inl ⟨by rfl, ?_⟩) (by assumption) ?_
  · intro w' hSw
    obtain ⟨k0', k1', k2', k3', k4', k5', k6', k7', k8', k9', k10', k11', k12', k13', k14', k15', k16', k17', k18', k19'⟩ := hSw
    go_simp
  simp only [Act.put, List.setIfInBounds_toArray, List.set_cons_zero, List.set_cons_succ]
  refine wpAnyS_take (i := 75) (oi := ⟨some 101, _, _, _, _, _⟩) (v := .bool true) rfl (by kernel_rfl) (by kernel_rfl) (by kernel_rfl) (by kernel_rfl) (fun _ _ _ h => Norm.panic h) (Or.inl ⟨by rfl, ?_⟩) (by assumption) ?_
  · intro w' hSw
    obtain ⟨k0', k1', k2', k3', k4', k5', k6', k7', k8', k9', k10', k11', k12', k13', k14', k15', k16', k17', k18', k19'⟩ := hSw
    go_simp
  simp only [Act.put, List.setIfInBounds_toArray, List.set_cons_zero, List.set_cons_succ]
  refine wpAnyS_take (i := 76) (oi := ⟨some 0, _, _, _, _, _⟩) (v := .bool true) rfl (by kernel_rfl) (by kernel_rfl) (by kernel_rfl) (by kernel_rfl) (fun _ _ _ h => Norm.panic h) (Or.inl ⟨by rfl, ?_⟩) (by assumption) ?_
  · intro w' hSw
    obtain ⟨k0', k1', k2', k3', k4', k5', k6', k7', k8', k9', k10', k11', k12', k13', k14', k15', k16', k17', k18', k19'⟩ := hSw
    go_simp
  simp only [Act.put, List.setIfInBounds_toArray, List.set_cons_zero, List.set_cons_succ]
  refine wpAnyS_done (by kernel_rfl) ?_
  refine Norm.normal ?_
  clear hHeld HS
  clear B0
  clear B1
  clear B2
  clear B3
  clear B4
  go_wp2_with fail
  rw [HQ.out]
  exact ⟨rfl, HB.out⟩
end Go.Proofs.YtdapnjnmhkdnpaaDoor.Fb
