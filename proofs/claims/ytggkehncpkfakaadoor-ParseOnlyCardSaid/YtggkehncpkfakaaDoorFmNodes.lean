/-
  The contracts of Nodes, Depth and fits.
-/
import Derived.Test.YtggkehncpkfakaaDoorFmLevels
import Derived.WalkLawsBesides
namespace Go.Proofs.YtggkehncpkfakaaDoor.Fm
open Go Go.RowKit Go.Shelf
set_option linter.unusedVariables false
set_option linter.unusedSimpArgs false
attribute [local go_sem] Oper.semAt_some
/-- Sizes at which no number overflows. -/
structure Fine (f : Fo) : Prop where
  p : ∀ x ∈ f.all 1, -9223372036854775808 ≤ x.1 ∧ x.1 ≤ 9223372036854775807
  t : ∀ x ∈ termsL f, -9223372036854775808 ≤ x.1 ∧ x.1 ≤ 9223372036854775807
  n : (levelsL f).length ≤ 4611686018427387904
def NJ (C : Nat) (k : Nat) (O : Nat → Prop) (W : World) : Prop := (∀ b, O b ↔ b = C) ∧ W.cell? ⟨C, 0, none⟩ = some (.int .i64 (wrap64 (k : Int))) ∧ W.frozen? ⟨C, 0, none⟩ = false ∧ C < W.heap.size
theorem NJ.fr (C n : Nat) : Fr n (NJ C) where
  lt h b hb := by rw [(h.1 b).1 hb]; exact h.2.2.2
  keep h hb ho := by
    have e := ho C ((h.1 C).2 rfl)
    exact ⟨h.1, (World.cell?_of_block e).trans h.2.1, (World.frozen?_of_block e).trans h.2.2.1, Nat.lt_of_lt_of_le h.2.2.2 hb.size⟩
def mx (a b : Int) : Int := if b > a then b else a
def depthL (f : Fo) : Int := (levelsL f).foldl mx 0
def DJ (f : Fo) (C : Nat) (k : Nat) (O : Nat → Prop) (W : World) : Prop := (∀ b, O b ↔ b = C) ∧ W.cell? ⟨C, 0, none⟩ = some (.int .i64 (((levelsL f).take k).foldl mx 0)) ∧ W.frozen? ⟨C, 0, none⟩ = false ∧ C < W.heap.size
theorem DJ.fr (f : Fo) (C n : Nat) : Fr n (DJ f C) where
  lt h b hb := by rw [(h.1 b).1 hb]; exact h.2.2.2
  keep h hb ho := by
    have e := ho C ((h.1 C).2 rfl)
    exact ⟨h.1, (World.cell?_of_block e).trans h.2.1, (World.frozen?_of_block e).trans h.2.2.1, Nat.lt_of_lt_of_le h.2.2.2 hb.size⟩
theorem wrap_rng (x : Int) : -9223372036854775808 ≤ wrap64 x ∧ wrap64 x ≤ 9223372036854775807 := by unfold wrap64; omega
theorem wrap_add (x y : Int) : wrap64 (wrap64 x + y) = wrap64 (x + y) := by
  unfold wrap64
  have h : (x + 9223372036854775808) % 18446744073709551616 - 9223372036854775808 + y + 9223372036854775808 = (x + 9223372036854775808) % 18446744073709551616 + y := by omega
  rw [h, Int.emod_add_emod]
  congr 2
  omega
theorem wrap_succ (k : Nat) : wrap64 (wrap64 (k : Int) + 1) = wrap64 ((k + 1 : Nat) : Int) := by
  rw [wrap_add]
  rfl
theorem wrap_zero : wrap64 ((0 : Nat) : Int) = ((0 : Nat) : Int) := by
  unfold wrap64
  omega
theorem all_rngT : ∀ (N : Nat) (t : Tm), SizeOf.sizeOf t < N → ∀ (lv : Int), (-9223372036854775808 ≤ lv ∧ lv ≤ 9223372036854775807) → ∀ x ∈ t.all lv, -9223372036854775808 ≤ x.1 ∧ x.1 ≤ 9223372036854775807
  | 0, _, h, _, _, _, _ => absurd h (Nat.not_lt_zero _)
  | N + 1, t, h, lv, hlv, x, hx => by
    rw [Tm.all_eq] at hx
    rcases List.mem_cons.1 hx with rfl | hx
    · exact hlv
    · obtain ⟨u, hu, hxu⟩ := List.mem_flatMap.1 hx
      obtain ⟨q, hq, rfl⟩ := List.getElem_of_mem hu
      exact all_rngT N _ (by have := size_arg t q hq; omega) _ (wrap_rng _) x hxu
theorem all_rngF : ∀ (N : Nat) (t : Fo), SizeOf.sizeOf t < N → ∀ (lv : Int), (-9223372036854775808 ≤ lv ∧ lv ≤ 9223372036854775807) → ∀ x ∈ t.all lv, -9223372036854775808 ≤ x.1 ∧ x.1 ≤ 9223372036854775807
  | 0, _, h, _, _, _, _ => absurd h (Nat.not_lt_zero _)
  | N + 1, t, h, lv, hlv, x, hx => by
    rw [Fo.all_eq] at hx
    rcases List.mem_cons.1 hx with rfl | hx
    · exact hlv
    · obtain ⟨u, hu, hxu⟩ := List.mem_flatMap.1 hx
      obtain ⟨q, hq, rfl⟩ := List.getElem_of_mem hu
      exact all_rngF N _ (by have := size_sub t q hq; omega) _ (wrap_rng _) x hxu
theorem rng_p (f : Fo) : ∀ x ∈ f.all 1, -9223372036854775808 ≤ x.1 ∧ x.1 ≤ 9223372036854775807 := all_rngF (SizeOf.sizeOf f + 1) f (Nat.lt_succ_self _) 1 (by omega)
theorem rng_t (f : Fo) : ∀ x ∈ termsL f, -9223372036854775808 ≤ x.1 ∧ x.1 ≤ 9223372036854775807 := fun x hx => by
  rw [termsL] at hx
  obtain ⟨y, hy, hxy⟩ := List.mem_flatMap.1 hx
  rw [termsOf] at hxy
  obtain ⟨t, ht, hxt⟩ := List.mem_flatMap.1 hxy
  exact all_rngT (SizeOf.sizeOf t + 1) t (Nat.lt_succ_self _) _ (wrap_rng _) x hxt
theorem wrap_id {x : Int} (h0 : -9223372036854775808 ≤ x) (h1 : x ≤ 9223372036854775807) : wrap64 x = x := by unfold wrap64; omega
theorem nodes_w (v0 v1 v2 v3 : Value) (f : Fo) (dn : Nat) (w : World) (hf : FoV dn w v0 v1 v2 v3 f) (hd : dn ≤ w.heap.size) :
    CallsIn Fence.wide 0 Tryd.prog 64 #[.agg #[v0, v1, v2, v3]] w fun e w' => e = .returned (.int .i64 (wrap64 ((levelsL f).length : Int))) ∧ Below w.heap.size w w' := by
  have hb0 : Below w.heap.size w ((w.alloc (.cells #[v0, v1, v2, v3] 25)).alloc (.cells #[.int .i64 0] 3)) := ((Below.refl _ w).alloc (Nat.le_refl _) _).alloc (by simp) _
  have hw := Lib.hid (levels_in v0 v1 v2 v3 f dn _ (hf.below hb0 hd) (by simp; omega))
  obtain ⟨rfl, _, rfl, _, hA, hS⟩ := hf
  obtain ⟨⟨a1', k1, rfl⟩, _⟩ := hA.form
  obtain ⟨⟨a2, k2, rfl⟩, _⟩ := hS.form
  refine callsIn_of_wp_marks Tryd.func64 rfl trivial ?_ rfl
  simp only [Tryd.ntmps64, List.size_toArray, List.length_cons, List.length_nil, Nat.reduceAdd, Nat.reduceSub, Array.replicate_succ, Array.replicate_zero, List.push_toArray, List.append_toArray, List.nil_append, List.cons_append]
  gi_wp2_with fail
  refine ⟨trivial, rfl, hw.out.mono ?_⟩
  clear hw
  rintro e W1 ⟨rfl, hb1, hbox, hz1⟩
  rw [World.size_alloc, World.size_alloc] at hb1 hbox hz1
  rw [World.size_alloc, World.size_alloc]
  have hz : W1.heap.size ≤ w.heap.size + 3 ∧ w.heap.size + 3 ≤ W1.heap.size := by omega
  clear hz1
  have hbw : Below w.heap.size w W1 := hb0.trans (hb1.mono (by omega))
  have cC : W1.cell? ⟨w.heap.size + 1, 0, none⟩ = some (.int .i64 ((0 : Nat) : Int)) := by rw [hb1.cell (p := ⟨w.heap.size + 1, 0, none⟩) (by simp)]; rw [World.cell?_alloc_at _ _ _ _ (by simp)]; rfl
  have fC : W1.frozen? ⟨w.heap.size + 1, 0, none⟩ = false := by rw [hb1.frozen (p := ⟨w.heap.size + 1, 0, none⟩) (by simp)]; rw [World.frozen?_alloc_at _ _ _ _ (by simp)]
  have hC := Lib.hid cC
  clear cC
  gi_wp2_with fail
  refine range_law (gf := 96) (lb := #[.pointer (some ⟨w.heap.size + 2, 0, none⟩)]) rfl (enters_of Tryd.func96 (by kernel_rfl) rfl) (levels_iter f (w.heap.size + 2) dn (rng_p f) (rng_t f))
    (by rintro W x args rfl; rfl) (NJ (w.heap.size + 1)) (fun _ _ _ => False) (fun b => b = w.heap.size + 1) (NJ.fr _ _) (fun c => ⟨fun h => h.elim, fun h => h.elim⟩)
    ⟨fun _ => Iff.rfl, by rw [wrap_zero]; exact hC.out, fC, by omega⟩
    (fun O' W' hb' hs' => ⟨hbox.below hb' (by omega) (by omega), fun h => (hs' _ h).elim (fun h => by omega) fun h => by omega, fun b hb => (hs' b hb).elim (fun h => by omega) fun h => by omega⟩)
    (fun k x args W2 a1 W3 => W3 = W2 ∧ a1 = { tmps := #[.agg #[.int .u8 f.op, .string f.n, .slice a1' f.args.length k1, .slice a2 f.sub.length k2], .pointer (some ⟨w.heap.size, 0, none⟩), .int .i64 0, .pointer (some ⟨w.heap.size + 1, 0, none⟩), .agg #[.int .u8 f.op, .string f.n, .slice a1' f.args.length k1, .slice a2 f.sub.length k2], .func (.func 96) #[] #[.pointer (some ⟨w.heap.size + 1 + 1, 0, none⟩)], .int .i64 x, undef, undef, undef], defers := [] }) ?assign ?body ?done ?stop
  case assign =>
    rintro l2 k x O2 W2 args hj hx rfl
    clear hj hbox
    gi_wp2
    exact ⟨Below.refl _ _, trivial, by simp⟩
  case body =>
    rintro l2 k x O2 W2 args _ _ W3 ⟨rfl, rfl⟩ hj hx hrep hbb hbl hz3 hne hl2 hl3 hol
    obtain ⟨ho, hc, hf, hl⟩ := hj
    obtain ⟨c, hcE⟩ : ∃ c, wrap64 (k : Int) = c := ⟨_, rfl⟩
    rw [hcE] at hc
    have HK := Lib.hid (show wrap64 (c + 1) = wrap64 ((k + 1 : Nat) : Int) from hcE ▸ wrap_succ k)
    clear hcE
    obtain ⟨c', hc'⟩ : ∃ c', wrap64 (c + 1) = c' := ⟨_, rfl⟩
    rw [hc'] at HK
    have HG := Lib.hid (Grow.setCell (O := O2) W3 (p := ⟨w.heap.size + 1, 0, none⟩) (.int .i64 c') ((ho _).2 rfl))
    have HC := Lib.hid (World.cell?_setCell_same' W3 ⟨w.heap.size + 1, 0, none⟩ (.int .i64 c') (by rw [hc]; rfl))
    have HO := Lib.hid ho
    clear hne hbl hbb hx hrep hbox hb1 hbw hA hS hb0 ho
    gi_wp2
    exact ⟨O2, Sub.refl _ _, HG.out, HO.out, by rw [← HK.out]; exact HC.out, by rw [World.frozen?_setCell]; exact hf, by simp; omega⟩
  case stop => exact fun c O' W h => h.elim
  case done =>
    rintro O2 W2 ⟨ho, hc, hf, hl⟩ hs2 nD hg2 hK
    have hG := Lib.hid (((Grow.of_below (O := fun b => b = w.heap.size + 1) hbw).trans hg2 (Sub.refl _ _)).taken (D := W1.heap.size) (by omega) (.deferred none))
    clear hbox hb1 hbw hA hS hb0 ho hs2 hg2
    gi_wp2
    refine ⟨by simp, .inl ⟨_, _, rfl, run_takeDeferred hK, ?_⟩⟩
    exact ⟨_, results_tmp rfl _ _ _, rfl, hG.out.below (Nat.le_refl _) fun b hb => by omega⟩
theorem nodes_in (v0 v1 v2 v3 : Value) (f : Fo) (dn : Nat) (w : World) (hf : FoV dn w v0 v1 v2 v3 f) (hd : dn ≤ w.heap.size) (hF : Fine f) :
    CallsIn Fence.wide 0 Tryd.prog 64 #[.agg #[v0, v1, v2, v3]] w fun e w' => e = .returned (.int .i64 ((levelsL f).length : Int)) ∧ Below w.heap.size w w' := by
  have h := nodes_w v0 v1 v2 v3 f dn w hf hd
  rwa [wrap_id (by omega) (by have := hF.n; omega)] at h
theorem depth_in (v0 v1 v2 v3 : Value) (f : Fo) (dn : Nat) (w : World) (hf : FoV dn w v0 v1 v2 v3 f) (hd : dn ≤ w.heap.size) (hF : Fine f) :
    CallsIn Fence.wide 0 Tryd.prog 65 #[.agg #[v0, v1, v2, v3]] w fun e w' => e = .returned (.int .i64 (depthL f)) ∧ Below w.heap.size w w' := by
  have hb0 : Below w.heap.size w ((w.alloc (.cells #[v0, v1, v2, v3] 25)).alloc (.cells #[.int .i64 0] 3)) := ((Below.refl _ w).alloc (Nat.le_refl _) _).alloc (by simp) _
  have hw := Lib.hid (levels_in v0 v1 v2 v3 f dn _ (hf.below hb0 hd) (by simp; omega))
  obtain ⟨rfl, _, rfl, _, hA, hS⟩ := hf
  obtain ⟨⟨a1', k1, rfl⟩, _⟩ := hA.form
  obtain ⟨⟨a2, k2, rfl⟩, _⟩ := hS.form
  refine callsIn_of_wp_marks Tryd.func65 rfl trivial ?_ rfl
  simp only [Tryd.ntmps65, List.size_toArray, List.length_cons, List.length_nil, Nat.reduceAdd, Nat.reduceSub, Array.replicate_succ, Array.replicate_zero, List.push_toArray, List.append_toArray, List.nil_append, List.cons_append]
  gi_wp2_with fail
  refine ⟨trivial, rfl, hw.out.mono ?_⟩
  clear hw
  rintro e W1 ⟨rfl, hb1, hbox, hz1⟩
  rw [World.size_alloc, World.size_alloc] at hb1 hbox hz1
  rw [World.size_alloc, World.size_alloc]
  have hz : W1.heap.size ≤ w.heap.size + 3 ∧ w.heap.size + 3 ≤ W1.heap.size := by omega
  clear hz1
  have hbw : Below w.heap.size w W1 := hb0.trans (hb1.mono (by omega))
  have cC : W1.cell? ⟨w.heap.size + 1, 0, none⟩ = some (.int .i64 (((levelsL f).take 0).foldl mx 0)) := by rw [hb1.cell (p := ⟨w.heap.size + 1, 0, none⟩) (by simp)]; rw [World.cell?_alloc_at _ _ _ _ (by simp)]; rfl
  have fC : W1.frozen? ⟨w.heap.size + 1, 0, none⟩ = false := by rw [hb1.frozen (p := ⟨w.heap.size + 1, 0, none⟩) (by simp)]; rw [World.frozen?_alloc_at _ _ _ _ (by simp)]
  have hC := Lib.hid cC
  clear cC
  gi_wp2_with fail
  refine range_law (gf := 96) (lb := #[.pointer (some ⟨w.heap.size + 2, 0, none⟩)]) rfl (enters_of Tryd.func96 (by kernel_rfl) rfl) (levels_iter f (w.heap.size + 2) dn hF.p hF.t)
    (by rintro W x args rfl; rfl) (DJ f (w.heap.size + 1)) (fun _ _ _ => False) (fun b => b = w.heap.size + 1) (DJ.fr _ _ _) (fun c => ⟨fun h => h.elim, fun h => h.elim⟩)
    ⟨fun _ => Iff.rfl, hC.out, fC, by omega⟩
    (fun O' W' hb' hs' => ⟨hbox.below hb' (by omega) (by omega), fun h => (hs' _ h).elim (fun h => by omega) fun h => by omega, fun b hb => (hs' b hb).elim (fun h => by omega) fun h => by omega⟩)
    (fun k x args W2 a1 W3 => W3 = W2 ∧ a1 = { tmps := #[.agg #[.int .u8 f.op, .string f.n, .slice a1' f.args.length k1, .slice a2 f.sub.length k2], .pointer (some ⟨w.heap.size, 0, none⟩), .int .i64 0, .pointer (some ⟨w.heap.size + 1, 0, none⟩), .int .i64 x, .agg #[.int .u8 f.op, .string f.n, .slice a1' f.args.length k1, .slice a2 f.sub.length k2], .func (.func 96) #[] #[.pointer (some ⟨w.heap.size + 1 + 1, 0, none⟩)], .int .i64 x, undef, undef, undef, undef], defers := [] }) ?assign ?body ?done ?stop
  case assign =>
    rintro l2 k x O2 W2 args hj hx rfl
    clear hj hbox
    gi_wp2
    exact ⟨Below.refl _ _, trivial, trivial⟩
  case body =>
    rintro l2 k x O2 W2 args _ _ W3 ⟨rfl, rfl⟩ hj hx hrep hbb hbl hz3 hne hl2 hl3 hol
    obtain ⟨ho, hc, hf, hl⟩ := hj
    have hs : ((levelsL f).take (k + 1)).foldl mx 0 = mx (((levelsL f).take k).foldl mx 0) x := by
      obtain ⟨hk, hx'⟩ := List.getElem?_eq_some_iff.1 hx
      rw [List.take_succ_eq_append_getElem hk, List.foldl_append, hx']; rfl
    have HS := Lib.hid hs
    have hrmax : ∀ ts t W, (Builtin.max_ ts t #[.int .i64 (((levelsL f).take k).foldl mx 0), .int .i64 x]).run Tryd.prog W = .ok (.int .i64 (mx (((levelsL f).take k).foldl mx 0) x)) W := fun ts t W => by
      exact run_max_int2 (w := W) ts t .i64 .i64 (((levelsL f).take k).foldl mx 0) x
    clear hs
    generalize ((levelsL f).take k).foldl mx 0 = v at *
    have HG := Lib.hid (Grow.setCell (O := O2) W3 (p := ⟨w.heap.size + 1, 0, none⟩) (.int .i64 (mx v x)) ((ho _).2 rfl))
    have HC := Lib.hid (World.cell?_setCell_same' W3 ⟨w.heap.size + 1, 0, none⟩ (.int .i64 (mx v x)) (by rw [hc]; rfl))
    have HO := Lib.hid ho
    clear hne hbl hbb hx hrep hbox hb1 hbw hA hS hb0 ho
    gi_wp2
    exact ⟨O2, Sub.refl _ _, HG.out, HO.out, by rw [HS.out]; exact HC.out, by rw [World.frozen?_setCell]; exact hf, by simp; omega⟩
  case stop => exact fun c O' W h => h.elim
  case done =>
    rintro O2 W2 ⟨ho, hc, hf, hl⟩ hs2 nD hg2 hK
    rw [List.take_length] at hc
    have hc' : W2.cell? ⟨w.heap.size + 1, 0, none⟩ = some (.int .i64 (depthL f)) := hc
    clear hc
    have hG := Lib.hid (((Grow.of_below (O := fun b => b = w.heap.size + 1) hbw).trans hg2 (Sub.refl _ _)).taken (D := W1.heap.size) (by omega) (.deferred none))
    clear hbox hb1 hbw hA hS hb0 ho hs2 hg2
    gi_wp2
    refine ⟨by simp, .inl ⟨_, _, rfl, run_takeDeferred hK, ?_⟩⟩
    exact ⟨_, results_tmp rfl _ _ _, rfl, hG.out.below (Nat.le_refl _) fun b hb => by omega⟩
end Go.Proofs.YtggkehncpkfakaaDoor.Fm
