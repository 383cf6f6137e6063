/-
  The contract of fits.
-/
import Derived.Test.YtdapnjnmhkdnpaaDoorFmRng
namespace Go.Proofs.YtdapnjnmhkdnpaaDoor.Fm
open Go Go.RowKit Go.Shelf
set_option linter.unusedVariables false
set_option linter.unusedSimpArgs false
attribute [local go_sem] Oper.semAt_some
def fitsB (f : Fo) (nodes depth : Int) : Bool := decide (((levelsL f).length : Int) ≤ nodes) && (levelsL f).all fun x => decide (x ≤ depth)
structure FJ (f : Fo) (nodes depth : Int) (B : Nat) (k : Nat) (O : Nat → Prop) (W : World) : Prop where
  o : ∀ b, O b ↔ b = B ∨ b = B + 2
  n : W.cell? ⟨B, 0, none⟩ = some (.int .i64 (nodes - k))
  d : W.cell? ⟨B + 1, 0, none⟩ = some (.int .i64 depth)
  r : W.cell? ⟨B + 2, 0, none⟩ = some (.bool false)
  fn : W.frozen? ⟨B, 0, none⟩ = false
  fr : W.frozen? ⟨B + 2, 0, none⟩ = false
  lt : B + 2 < W.heap.size
  kn : (k : Int) ≤ nodes
  l : ∀ x ∈ (levelsL f).take k, x ≤ depth
def FJx (f : Fo) (nodes depth : Int) (B : Nat) (c : Code) (O : Nat → Prop) (W : World) : Prop :=
  c = .ret ∧ (∀ b, O b ↔ b = B ∨ b = B + 2) ∧ W.cell? ⟨B + 2, 0, none⟩ = some (.bool false) ∧ B + 2 < W.heap.size ∧ fitsB f nodes depth = false
theorem FJ.fram {f : Fo} {nodes depth : Int} {B n : Nat} (hB : B + 1 < n) : Fr n (FJ f nodes depth B) where
  lt h b hb := by have := h.lt; rcases (h.o b).1 hb with rfl | rfl <;> omega
  keep h hb ho := by
    have e := ho B ((h.o B).2 (.inl rfl))
    have e2 := ho (B + 2) ((h.o _).2 (.inr rfl))
    exact ⟨h.o, (World.cell?_of_block e).trans h.n, (hb.cell (p := ⟨B + 1, 0, none⟩) hB).trans h.d, (World.cell?_of_block e2).trans h.r, (World.frozen?_of_block e).trans h.fn, (World.frozen?_of_block e2).trans h.fr, Nat.lt_of_lt_of_le h.lt hb.size, h.kn, h.l⟩
theorem FJx.fram {f : Fo} {nodes depth : Int} {B n : Nat} (c : Code) : Fr n (fun _ => FJx f nodes depth B c) where
  lt h b hb := by have := h.2.2.2.1; rcases (h.2.1 b).1 hb with rfl | rfl <;> omega
  keep h hb ho := by
    have e2 := ho (B + 2) ((h.2.1 _).2 (.inr rfl))
    exact ⟨h.1, h.2.1, (World.cell?_of_block e2).trans h.2.2.1, Nat.lt_of_lt_of_le h.2.2.2.1 hb.size, h.2.2.2.2⟩
theorem three_cells (w : World) (n d r : Value) (tn td tr : TypeId) : (((w.alloc (.cells #[n] tn)).alloc (.cells #[d] td)).alloc (.cells #[r] tr)).cell? ⟨w.heap.size, 0, none⟩ = some n ∧
    (((w.alloc (.cells #[n] tn)).alloc (.cells #[d] td)).alloc (.cells #[r] tr)).cell? ⟨w.heap.size + 1, 0, none⟩ = some d ∧ (((w.alloc (.cells #[n] tn)).alloc (.cells #[d] td)).alloc (.cells #[r] tr)).cell? ⟨w.heap.size + 2, 0, none⟩ = some r ∧
    (((w.alloc (.cells #[n] tn)).alloc (.cells #[d] td)).alloc (.cells #[r] tr)).frozen? ⟨w.heap.size, 0, none⟩ = false ∧ (((w.alloc (.cells #[n] tn)).alloc (.cells #[d] td)).alloc (.cells #[r] tr)).frozen? ⟨w.heap.size + 2, 0, none⟩ = false := by
  have h1 : (w.alloc (.cells #[n] tn)).heap.size = w.heap.size + 1 := by simp
  have h2 : ((w.alloc (.cells #[n] tn)).alloc (.cells #[d] td)).heap.size = w.heap.size + 2 := by simp
  refine ⟨?_, ?_, ?_, ?_, ?_⟩
  · rw [((Below.refl _ _).alloc (Nat.le_refl _) (.cells #[r] tr)).cell (p := ⟨w.heap.size, 0, none⟩) (by rw [h2]; show w.heap.size < _; omega), ((Below.refl _ _).alloc (Nat.le_refl _) (.cells #[d] td)).cell (p := ⟨w.heap.size, 0, none⟩) (by rw [h1]; show w.heap.size < _; omega), World.cell?_alloc_at _ _ _ _ rfl]; rfl
  · rw [((Below.refl _ _).alloc (Nat.le_refl _) (.cells #[r] tr)).cell (p := ⟨w.heap.size + 1, 0, none⟩) (by rw [h2]; show w.heap.size + 1 < _; omega), World.cell?_alloc_at _ _ _ _ h1.symm]; rfl
  · rw [World.cell?_alloc_at _ _ _ _ h2.symm]; rfl
  · rw [((Below.refl _ _).alloc (Nat.le_refl _) (.cells #[r] tr)).frozen (p := ⟨w.heap.size, 0, none⟩) (by rw [h2]; show w.heap.size < _; omega), ((Below.refl _ _).alloc (Nat.le_refl _) (.cells #[d] td)).frozen (p := ⟨w.heap.size, 0, none⟩) (by rw [h1]; show w.heap.size < _; omega), World.frozen?_alloc_at _ _ _ _ rfl]
  · rw [World.frozen?_alloc_at _ _ _ _ h2.symm]
set_option maxHeartbeats 1000000 in
theorem fits_in (v0 v1 v2 v3 : Value) (f : Fo) (nodes depth : Int) (dn : Nat) (w : World) (hf : FoV dn w v0 v1 v2 v3 f) (hd : dn ≤ w.heap.size) (hn0 : 0 ≤ nodes) (hn1 : nodes ≤ 4611686018427387904) :
    CallsIn Fence.wide 0 Tryd.prog 44 #[.agg #[v0, v1, v2, v3], .int .i64 nodes, .int .i64 depth] w fun e w' => e = .returned (.bool (fitsB f nodes depth)) ∧ Below w.heap.size w w' := by
  have hb0 : Below w.heap.size w ((((w.alloc (.cells #[v0, v1, v2, v3] 25)).alloc (.cells #[.int .i64 nodes] 3)).alloc (.cells #[.int .i64 depth] 3)).alloc (.cells #[.bool false] 4)) := ((((Below.refl _ w).alloc (Nat.le_refl _) _).alloc (by simp) _).alloc (by simp; omega) _).alloc (by simp; omega) _
  have hw := Lib.hid (levels_in v0 v1 v2 v3 f dn _ (hf.below hb0 hd) (by simp; omega))
  obtain ⟨rfl, _, rfl, _, hA, hS⟩ := hf
  obtain ⟨⟨a1', k1, rfl⟩, _⟩ := hA.form
  obtain ⟨⟨a2, k2, rfl⟩, _⟩ := hS.form
  refine callsIn_of_wp_marks Tryd.func44 rfl trivial ?_ rfl
  simp only [Tryd.ntmps44, List.size_toArray, List.length_cons, List.length_nil, Nat.reduceAdd, Nat.reduceSub, Array.replicate_succ, Array.replicate_zero, List.push_toArray, List.append_toArray, List.nil_append, List.cons_append]
  gi_wp2_with fail
  refine ⟨trivial, rfl, hw.out.mono ?_⟩
  clear hw
  rintro e W1 ⟨rfl, hb1, hbox, hz1⟩
  have h3 := three_cells (w.alloc (.cells #[.int .u8 f.op, .string f.n, .slice a1' f.args.length k1, .slice a2 f.sub.length k2] 25)) (.int .i64 nodes) (.int .i64 depth) (.bool false) 3 3 4
  rw [World.size_alloc] at h3
  obtain ⟨B, hB⟩ : ∃ B, w.heap.size + 1 = B := ⟨_, rfl⟩
  rw [World.size_alloc, World.size_alloc, World.size_alloc, World.size_alloc, hB] at hb1 hbox hz1
  rw [World.size_alloc, World.size_alloc, World.size_alloc, World.size_alloc]
  rw [hB] at h3
  have hz : W1.heap.size ≤ B + 4 ∧ B + 4 ≤ W1.heap.size := by omega
  have hBw : B ≤ w.heap.size + 1 ∧ w.heap.size + 1 ≤ B := by omega
  clear hz1
  have hbw : Below w.heap.size w W1 := hb0.trans (hb1.mono (by omega))
  obtain ⟨g1, g2, g3, g4, g5⟩ := h3
  rw [← hb1.cell (p := ⟨B, 0, none⟩) (show B < B + 3 by omega)] at g1
  rw [← hb1.cell (p := ⟨B + 1, 0, none⟩) (show B + 1 < B + 3 by omega)] at g2
  rw [← hb1.cell (p := ⟨B + 2, 0, none⟩) (show B + 2 < B + 3 by omega)] at g3
  rw [← hb1.frozen (p := ⟨B, 0, none⟩) (show B < B + 3 by omega)] at g4
  rw [← hb1.frozen (p := ⟨B + 2, 0, none⟩) (show B + 2 < B + 3 by omega)] at g5
  have cN := Lib.hid g1
  have cD := Lib.hid g2
  have cR := Lib.hid g3
  have fN := Lib.hid g4
  have fR := Lib.hid g5
  clear g1 g2 g3 g4 g5
  rw [hB]
  clear hB
  gi_wp2_with fail
  refine range_law (gf := 89) (lb := #[.pointer (some ⟨B + 3, 0, none⟩)]) rfl (enters_of Tryd.func89 (by kernel_rfl) rfl) (levels_iter f (B + 3) dn (rng_p f) (rng_t f))
    (by rintro W x args rfl; rfl) (FJ f nodes depth B) (FJx f nodes depth B) (fun b => b = B ∨ b = B + 2) (FJ.fram (by omega)) (fun c => FJx.fram c)
    ⟨fun _ => Iff.rfl, by rw [cN.out]; simp, cD.out, cR.out, fN.out, fR.out, by omega, by simpa using hn0, by simp⟩
    (fun O' W' hb' hs' => ⟨hbox.below hb' (by omega) (by omega), fun h => (hs' _ h).elim (fun h => by omega) fun h => by omega, fun b hb => (hs' b hb).elim (fun h => by omega) fun h => by omega⟩)
    (fun k x args W2 a1 W3 => W3 = W2 ∧ ∃ u0 u1 u2 u3 u8 u9 u10, a1 = { tmps := #[u0, u1, u2, u3, .pointer (some ⟨B, 0, none⟩), .pointer (some ⟨B + 1, 0, none⟩), .pointer (some ⟨B + 2, 0, none⟩), .int .i64 x, u8, u9, u10, undef, undef, undef, undef, undef, undef, undef, undef, undef], defers := [] }) ?assign ?body ?done ?stop
  case assign =>
    rintro l2 k x O2 W2 args hj hx rfl
    clear hj hbox
    gi_wp2
    exact ⟨Below.refl _ _, trivial, _, _, _, _, _, _, _, rfl⟩
  case body =>
    rintro l2 k x O2 W2 args _ _ W3 ⟨rfl, u0, u1, u2, u3, u8, u9, u10, rfl⟩ hj hx hrep hbb hbl hz3 hne hl2 hl3 hol
    obtain ⟨hk, hxe⟩ := List.getElem?_eq_some_iff.1 hx
    obtain ⟨m, hm⟩ : ∃ m : Int, nodes - k = m := ⟨_, rfl⟩
    have hm0 : 0 ≤ m := by have := hj.kn; omega
    have hm1 : m ≤ 4611686018427387904 := by omega
    obtain ⟨ho, c1, c2, c3, f1, f3, hlt, hkn, hall⟩ := hj
    rw [hm] at c1
    have hBlt : B < W3.heap.size := by omega
    have HM := Lib.hid hm
    have HO := Lib.hid ho
    have HA := Lib.hid hall
    have HX := Lib.hid hxe
    have g1 := Lib.hid (Grow.setCell (O := O2) W3 (p := ⟨B, 0, none⟩) (.int .i64 (m - 1)) ((ho _).2 (.inl rfl)))
    have g2 := Lib.hid ((Grow.setCell (O := O2) W3 (p := ⟨B, 0, none⟩) (.int .i64 (m - 1)) ((ho _).2 (.inl rfl))).trans (Grow.setCell (O := O2) _ (p := ⟨B + 2, 0, none⟩) (.bool false) ((ho _).2 (.inr rfl))) (Sub.refl _ _))
    have e1 := Lib.hid (World.cell?_setCell_same' W3 ⟨B, 0, none⟩ (.int .i64 (m - 1)) (by rw [c1]; rfl))
    have o2 : ∀ v, (W3.setCell ⟨B, 0, none⟩ v).cell? ⟨B + 1, 0, none⟩ = W3.cell? ⟨B + 1, 0, none⟩ := fun v => World.cell?_of_block (Below.heap_setCell W3 ⟨B, 0, none⟩ v _ (by show B + 1 ≠ B; omega))
    have o3 : ∀ v, (W3.setCell ⟨B, 0, none⟩ v).cell? ⟨B + 2, 0, none⟩ = W3.cell? ⟨B + 2, 0, none⟩ := fun v => World.cell?_of_block (Below.heap_setCell W3 ⟨B, 0, none⟩ v _ (by show B + 2 ≠ B; omega))
    have e2 := Lib.hid ((o2 (.int .i64 (m - 1))).trans c2)
    have e3 := Lib.hid ((o3 (.int .i64 (m - 1))).trans c3)
    have e4 := Lib.hid (World.cell?_setCell_same' (W3.setCell ⟨B, 0, none⟩ (.int .i64 (m - 1))) ⟨B + 2, 0, none⟩ (.bool false) (by rw [o3, c3]; rfl))
    clear o2 o3 hm hxe ho hall hne hbl hbb hrep hbox hb1 hbw hA hS hb0 hx
    by_cases hm2 : m = 0
    · have hfin : fitsB f nodes depth = false := by
        unfold fitsB
        rw [Bool.and_eq_false_iff]
        exact .inl (decide_eq_false (by have := HM.out; omega))
      have HFi := Lib.hid hfin
      subst hm2
      clear hfin
      gi_wp2
      exact ⟨O2, Sub.refl _ _, g2.out, rfl, HO.out, e4.out, by simp; omega, HFi.out⟩
    · have hm3 : 1 ≤ m := by omega
      have d1 : decide (m - 1 < 0) = false := decide_eq_false (by omega)
      clear hm2
      by_cases hxd : depth < x
      · have hfin : fitsB f nodes depth = false := by
          unfold fitsB
          rw [Bool.and_eq_false_iff]
          refine .inr (List.all_eq_false.2 ⟨x, ?_, by simp; omega⟩)
          rw [← HX.out]; exact List.getElem_mem hk
        have HFi := Lib.hid hfin
        clear hfin
        gi_wp2
        exact ⟨O2, Sub.refl _ _, g2.out, rfl, HO.out, e4.out, by simp; omega, HFi.out⟩
      · gi_wp2
        refine ⟨O2, Sub.refl _ _, g1.out, ⟨HO.out, ?_, e2.out, e3.out, by rw [World.frozen?_setCell]; exact f1, by rw [World.frozen?_setCell]; exact f3, by simp; omega, by have := HM.out; omega, ?_⟩⟩
        · rw [e1.out]; congr 2; have := HM.out; omega
        · intro y hy
          rw [List.take_succ_eq_append_getElem hk, List.mem_append] at hy
          rcases hy with hy | hy
          · exact HA.out y hy
          · rw [List.mem_singleton] at hy; rw [hy, HX.out]; omega
  case stop =>
    rintro c O2 W2 ⟨rfl, ho, hc, hlt, hfi⟩ hs2 nD hg2 hK
    have hG := Lib.hid (((Grow.of_below (O := fun b => b = B ∨ b = B + 2) hbw).trans hg2 (Sub.refl _ _)).taken (D := W1.heap.size) (by omega) (.deferred none))
    have hc' : (W2.putObj W1.heap.size (.deferred none)).cell? ⟨B + 2, 0, none⟩ = some (.bool false) := (World.cell?_of_block (World.putObj_heap_other (by show B + 2 ≠ _; omega))).trans hc
    have HFi := Lib.hid hfi
    clear hbox hb1 hbw hA hS hb0 hs2 hg2 ho hfi
    gi_wp2
    refine ⟨by simp, .inl ⟨_, _, rfl, run_takeDeferred hK, ?_⟩⟩
    refine ⟨.bool false, by simp [results, Tryd.results44, go_sem, hc'], ?_⟩
    exact ⟨by rw [HFi.out], hG.out.below (Nat.le_refl _) fun b hb => by omega⟩
  case done =>
    rintro O2 W2 hj hs2 nD hg2 hK
    have hfin : fitsB f nodes depth = true := by
      unfold fitsB
      rw [Bool.and_eq_true]
      refine ⟨decide_eq_true hj.kn, List.all_eq_true.2 fun x hx => decide_eq_true (hj.l x (by rw [List.take_length]; exact hx))⟩
    obtain ⟨ho, c1, c2, c3, f1, f3, hlt, hkn, hall⟩ := hj
    have e4 := World.cell?_setCell_same' W2 ⟨B + 2, 0, none⟩ (.bool true) (by rw [c3]; rfl)
    have hK4 : (W2.setCell ⟨B + 2, 0, none⟩ (.bool true)).heap[W1.heap.size]? = some (.deferred (some [])) := (Below.heap_setCell W2 ⟨B + 2, 0, none⟩ _ _ (by show W1.heap.size ≠ B + 2; omega)).trans hK
    have hc' : ((W2.setCell ⟨B + 2, 0, none⟩ (.bool true)).putObj W1.heap.size (.deferred none)).cell? ⟨B + 2, 0, none⟩ = some (.bool true) := (World.cell?_of_block (World.putObj_heap_other (by show B + 2 ≠ _; omega))).trans e4
    have hG := Lib.hid ((((Grow.of_below (O := fun b => b = B ∨ b = B + 2) hbw).trans hg2 (Sub.refl _ _)).trans (Grow.setCell (O := fun b => b = B + 2) W2 (p := ⟨B + 2, 0, none⟩) (.bool true) rfl) (fun b hb => .inl (.inr hb))).taken (D := W1.heap.size) (by omega) (.deferred none))
    have HFi := Lib.hid hfin
    clear hbox hb1 hbw hA hS hb0 hs2 hg2 ho hfin hall e4 c1 c2
    gi_wp2
    refine ⟨by simp, .inl ⟨_, _, rfl, run_takeDeferred hK4, ?_⟩⟩
    refine ⟨.bool true, by simp [results, Tryd.results44, go_sem, hc'], ?_⟩
    exact ⟨by rw [HFi.out], hG.out.below (Nat.le_refl _) fun b hb => by omega⟩
end Go.Proofs.YtdapnjnmhkdnpaaDoor.Fm
