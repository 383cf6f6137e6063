/-
  The iterator levels: the levels of all parts, then those of all terms.
-/
import Derived.Test.YtdapnjnmhkdnpaaDoorFmParts
namespace Go.Proofs.YtdapnjnmhkdnpaaDoor.Fm
open Go Go.RowKit Go.Shelf
set_option linter.unusedVariables false
set_option linter.unusedSimpArgs false
attribute [local go_sem] Oper.semAt_some
def RepL (W : World) (x : Int) (args : Array Value) : Prop := args = #[.int .i64 x]
def levelsL (f : Fo) : List Int := (f.all 1).map (·.1) ++ (termsL f).map (·.1)
theorem levels_in (v0 v1 v2 v3 : Value) (f : Fo) (dn : Nat) (w : World) (hf : FoV dn w v0 v1 v2 v3 f) (hd : dn ≤ w.heap.size) :
    CallsIn Fence.wide 0 Tryd.prog 69 #[.agg #[v0, v1, v2, v3]] w fun e w' => e = .returned (.func (.func 89) #[] #[.pointer (some ⟨w.heap.size, 0, none⟩)]) ∧ Below w.heap.size w w' ∧ BoxF dn w.heap.size f w' ∧ w'.heap.size = w.heap.size + 1 := by
  have hf2 := hf.below (m := w.heap.size) ((Below.refl _ w).alloc (Nat.le_refl _) (.cells #[v0, v1, v2, v3] 25)) hd
  obtain ⟨rfl, _, rfl, _, hA, hS⟩ := hf
  obtain ⟨⟨a1, c1, rfl⟩, _⟩ := hA.form
  obtain ⟨⟨a2, c2, rfl⟩, _⟩ := hS.form
  have hF := Lib.hid hf2
  clear hf2
  refine callsIn_of_wp Tryd.func69 rfl trivial ?_ rfl
  simp only [Tryd.ntmps69, List.size_toArray, List.length_cons, List.length_nil, Nat.reduceAdd, Nat.reduceSub, Array.replicate_succ, Array.replicate_zero, List.push_toArray, List.append_toArray, List.nil_append, List.cons_append]
  gi_wp2_with fail
  go_ret
  exact ⟨rfl, (Below.refl _ _).alloc (Nat.le_refl _) _, ⟨⟨_, _, _, _, by simp, by simp, by simp, by simp, hF.out⟩, by simp, by simp; omega⟩, by simp⟩
/-- The state of a range in levels. -/
structure LJ (f : Fo) (dn B Y l m : Nat) (J : Nat → (Nat → Prop) → World → Prop) (k : Nat) (O : Nat → Prop) (W : World) : Prop where
  j : J (m + k) O W
  y : W.cell? ⟨Y, 0, none⟩ = some (.func (.yield l) #[] #[])
  yl : Y < W.heap.size
  ny : ¬ O Y
  b : BoxF dn B f W
  nb : ¬ O B
  od : ∀ b, O b → dn ≤ b
theorem LJ.fr {f : Fo} {dn B Y l m n N : Nat} {J : Nat → (Nat → Prop) → World → Prop} (hJ : Fr n J) (hn : n ≤ N) (hY : Y < N) (hB : B < N) (hd : dn ≤ N) : Fr N (LJ f dn B Y l m J) where
  lt h b hb := hJ.lt h.j b hb
  keep h hb ho := ⟨hJ.keep h.j (hb.mono hn) ho, by rw [hb.cell (p := ⟨Y, 0, none⟩) hY]; exact h.y, Nat.lt_of_lt_of_le h.yl hb.size, h.ny, h.b.below hb hB hd, h.nb, h.od⟩
set_option maxHeartbeats 1000000 in
theorem levels_iter (f : Fo) (B dn : Nat) (hbd : ∀ x ∈ f.all 1, -9223372036854775808 ≤ x.1 ∧ x.1 ≤ 9223372036854775807) (hbt : ∀ x ∈ termsL f, -9223372036854775808 ≤ x.1 ∧ x.1 ≤ 9223372036854775807) :
    IterOf Tryd.prog 89 #[.pointer (some ⟨B, 0, none⟩)] RepL (levelsL f) (fun O W => BoxF dn B f W ∧ ¬ O B ∧ ∀ b, O b → dn ≤ b) := by
  intro l n J Jx O W hJ hJx hn hR h0 ⟨hB, nB, hO⟩
  have hOW := hJ.lt h0
  have nY : ¬ O W.heap.size := fun h => by have := hOW _ h; omega
  have hb0 : Below W.heap.size W (W.alloc (.cells #[.func (.yield l) #[] #[]] 121)) := (Below.refl _ _).alloc (Nat.le_refl _) _
  have hBX := Lib.hid hB
  obtain ⟨⟨v0, v1, v2, v3, c0, c1, c2, c3, hv⟩, hl, hd⟩ := hB
  have hw := Lib.hid (parts_in v0 v1 v2 v3 f dn _ (hv.below hb0 hd) (by simp; omega))
  obtain ⟨rfl, _, rfl, _, hA, hS⟩ := hv
  obtain ⟨⟨a1, k1, rfl⟩, _⟩ := hA.form
  obtain ⟨⟨a2, k2, rfl⟩, _⟩ := hS.form
  refine callsIn_of_wp_marks Tryd.func89 rfl trivial ?_ rfl
  simp only [Tryd.ntmps89, List.size_toArray, List.length_cons, List.length_nil, Nat.reduceAdd, Nat.reduceSub, Array.replicate_succ, Array.replicate_zero, List.push_toArray, List.append_toArray, List.nil_append, List.cons_append]
  gi_wp2_with fail
  refine ⟨trivial, rfl, hw.out.mono ?_⟩
  clear hw
  rintro e W1 ⟨rfl, hb1, hbox, hz1⟩
  rw [World.size_alloc] at hb1 hbox hz1
  rw [World.size_alloc]
  have hz : W1.heap.size ≤ W.heap.size + 2 ∧ W.heap.size + 2 ≤ W1.heap.size := by omega
  clear hz1
  have hbw : Below W.heap.size W W1 := hb0.trans (hb1.mono (by omega))
  have cY : W1.cell? ⟨W.heap.size, 0, none⟩ = some (.func (.yield l) #[] #[]) := by rw [hb1.cell (p := ⟨W.heap.size, 0, none⟩) (by simp)]; simp
  clear c0 c1 c2 c3 hA hS
  gi_wp2_with fail
  refine range_law (gf := 70) (lb := #[.pointer (some ⟨W.heap.size + 1, 0, none⟩)]) rfl (enters_of Tryd.func70 (by kernel_rfl) rfl) (parts_iter f (W.heap.size + 1) dn hbd)
    (by rintro W x args ⟨_, _, _, _, rfl, _⟩; rfl) (LJ f dn B W.heap.size l 0 J) (TJx Jx) O (LJ.fr hJ (by omega) (by omega) (by omega) (by omega)) (fun c => TJx.fr hJx (by omega) c)
    ⟨by rw [Nat.zero_add]; exact hJ.keep h0 (hbw.mono hn) (fun b hb => hbw.block b (hOW b hb)), cY, by omega, nY, hBX.out.below hbw hl hd, nB, hO⟩
    (fun O' W' hb' hs' => ⟨hbox.below hb' (by omega) (by omega), fun b hb => (hs' b hb).elim (hO b) fun h => by omega⟩)
    (fun k x args W2 a1 W3 => W3 = W2 ∧ ∃ u5 u8, a1 = { tmps := #[.func (.yield l) #[] #[], .pointer (some ⟨B, 0, none⟩), .pointer (some ⟨W.heap.size, 0, none⟩), .int .i64 x.1, undef, u5, .func (.func 70) #[] #[.pointer (some ⟨W.heap.size + 1, 0, none⟩)], .int .i64 x.1, u8,
        undef, undef, undef, undef, undef, undef, undef, undef, undef, undef, undef, undef], defers := [] }) ?assign ?body ?done ?stop
  case assign =>
    rintro l2 k x O2 W2 args hj hx ⟨v0, v1, v2, v3, rfl, hv⟩
    clear hj hv hbox
    gi_wp2
    exact ⟨Below.refl _ _, trivial, _, _, rfl⟩
  case body =>
    rintro l2 k x O2 W2 args _ _ W3 ⟨rfl, u5, u8, rfl⟩ hj hx hrep hbb hbl hz3 hne hl2 hl3 hol
    have hxl : (levelsL f)[0 + k]? = some x.1 := by
      rw [Nat.zero_add, levelsL, List.getElem?_append_left (by rw [List.length_map]; exact (List.getElem?_eq_some_iff.1 hx).1), List.getElem?_map, hx]; rfl
    obtain ⟨fn, tmps, assign, body, hy, hRd⟩ := hR (0 + k) x.1 O2 W3 #[.int .i64 x.1] hj.j hxl rfl
    have hj1 := hj.y
    have HJ := Lib.hid hj
    clear hj hx hxl hrep hbb hbl hne hbox cY hbw hb0 hb1 h0
    gi_wp2_with fail
    refine ⟨rfl, RoundIn.mono hRd ?_⟩
    clear hRd hy
    rintro e W4 ⟨O4, hs4, hg4, (⟨rfl, h4⟩ | ⟨rfl, h4⟩)⟩
    · have hz4 := hg4.size
      have hj4 : LJ f dn B W.heap.size l 0 J (k + 1) O4 W4 := ⟨h4, by rw [hg4.cell (p := ⟨W.heap.size, 0, none⟩) HJ.out.yl HJ.out.ny]; exact HJ.out.y, Nat.lt_of_lt_of_le HJ.out.yl hz4, fun h => (hs4 _ h).elim HJ.out.ny fun h => by have := HJ.out.yl; omega,
        HJ.out.b.grow hg4 HJ.out.nb HJ.out.od, fun h => (hs4 _ h).elim HJ.out.nb fun h => by have := HJ.out.b.lt; omega, fun b hb => (hs4 b hb).elim (HJ.out.od b) fun h => by have := HJ.out.b.dn; omega⟩
      have HJ4 := Lib.hid hj4
      clear hj4
      gi_wp2
      exact ⟨O4, hs4, hg4, HJ4.out⟩
    · gi_wp2
      exact ⟨O4, hs4, hg4, rfl, h4⟩
  case stop =>
    rintro c O2 W2 ⟨rfl, hx⟩ hs2 nD hg2 hK
    have hF := hJx.taken (k := 0) hx (D := W1.heap.size) (by omega) nD (.deferred none)
    have hG := ((Grow.of_below (O := O) hbw).trans hg2 (Sub.refl _ _)).taken (D := W1.heap.size) (by omega) (.deferred none)
    have hS : Sub O W.heap.size O2 := (Sub.refl _ _).trans hs2 (by omega)
    gi_wp2
    refine ⟨by simp, .inl ⟨_, _, rfl, run_takeDeferred hK, ?_⟩⟩
    exact ⟨_, results_none rfl _ _ _, ⟨_, rfl⟩, O2, hS, hG, .inr hF⟩
  case done =>
    rintro O2 W2 hj hs2 nD hg2 hK
    have HJ := Lib.hid hj
    have hG1 := (Grow.of_below (O := O) hbw).trans hg2 (Sub.refl _ _)
    have hS1 : Sub O W.heap.size O2 := (Sub.refl _ _).trans hs2 (by omega)
    have hzz := hg2.size
    have hlt2 := hJ.lt hj.j
    obtain ⟨⟨v0, v1, v2, v3, c0, c1, c2, c3, hv⟩, hl3, hd3⟩ := hj.b
    have hw := Lib.hid (terms_in v0 v1 v2 v3 f dn W2 hv hd3)
    obtain ⟨rfl, _, rfl, _, hA, hS⟩ := hv
    obtain ⟨⟨a3, k3, rfl⟩, _⟩ := hA.form
    obtain ⟨⟨a4, k4, rfl⟩, _⟩ := hS.form
    clear hj hbox cY hbw hb0 hb1 h0 hs2 hg2 hA hS
    gi_wp2_with fail
    refine ⟨trivial, rfl, hw.out.mono ?_⟩
    clear hw
    rintro e W3 ⟨rfl, hb3, hbox3, hz3e⟩
    have hz3 : W3.heap.size ≤ W2.heap.size + 1 ∧ W2.heap.size + 1 ≤ W3.heap.size := by omega
    clear hz3e
    clear c0 c1 c2 c3
    have hK3 : W3.heap[W1.heap.size]? = some (.deferred (some [])) := (hb3.block _ (lt_of_heap hK)).trans hK
    have nD2 := nD
    have hnW3 : n ≤ W3.heap.size := by omega
    have hyl := HJ.out.yl
    have hbl := HJ.out.b.lt
    gi_wp2_with fail
    refine range_law (gf := 99) (lb := #[.pointer (some ⟨W2.heap.size, 0, none⟩)]) rfl (enters_of Tryd.func99 (by kernel_rfl) rfl) (terms_iter f W2.heap.size dn hbd hbt)
      (by rintro W x args ⟨_, _, _, rfl, _⟩; rfl) (LJ f dn B W.heap.size l (f.all 1).length J) (TJx Jx) O2 (LJ.fr hJ hnW3 (by omega) (by omega) (by omega)) (fun c => TJx.fr hJx hnW3 c)
      ⟨by rw [Nat.add_zero]; exact hJ.below (by have := HJ.out.j; rwa [Nat.zero_add] at this) hb3 (by omega), by rw [hb3.cell (p := ⟨W.heap.size, 0, none⟩) hyl]; exact HJ.out.y, by omega, HJ.out.ny, HJ.out.b.below hb3 hbl hd3, HJ.out.nb, HJ.out.od⟩
      (fun O' W' hb' hs' => ⟨hbox3.below hb' (by omega) (by omega), fun h => (hs' _ h).elim (fun h => by have := hlt2 _ h; omega) fun h => by omega, fun b hb => (hs' b hb).elim (HJ.out.od b) fun h => by omega⟩)
      (fun k x args W2' a1 W3 => W3 = W2' ∧ ∃ u3 u5 u7 u8 u13 u16, a1 = { tmps := #[.func (.yield l) #[] #[], .pointer (some ⟨B, 0, none⟩), .pointer (some ⟨W.heap.size, 0, none⟩), u3, .int .i64 x.1, u5, .func (.func 70) #[] #[.pointer (some ⟨W.heap.size + 1, 0, none⟩)], u7, u8,
        undef, undef, undef, undef, u13, .func (.func 99) #[] #[.pointer (some ⟨W2.heap.size, 0, none⟩)], .int .i64 x.1, u16, undef, undef, undef, undef], defers := [] }) ?assign2 ?body2 ?done2 ?stop2
    case assign2 =>
      rintro l2 k x O2 W2 args hj hx ⟨v0, v1, v2, rfl, hv⟩
      clear hj hv hbox3
      gi_wp2
      exact ⟨Below.refl _ _, trivial, _, _, _, _, _, _, rfl⟩
    case body2 =>
      rintro l2 k x O2 W2 args _ _ W3 ⟨rfl, u3, u5, u7, u8, u13, u16, rfl⟩ hj hx hrep hbb hbl hz3 hne hl2 hl3 hol
      have hxl : (levelsL f)[(f.all 1).length + k]? = some x.1 := by
        rw [levelsL, List.getElem?_append_right (by rw [List.length_map]; omega), List.length_map, Nat.add_sub_cancel_left, List.getElem?_map, hx]; rfl
      obtain ⟨fn, tmps, assign, body, hy, hRd⟩ := hR ((f.all 1).length + k) x.1 O2 W3 #[.int .i64 x.1] hj.j hxl rfl
      have hj1 := hj.y
      have HJ := Lib.hid hj
      clear hj hx hxl hrep hbb hbl hne hbox3 hb3
      gi_wp2_with fail
      refine ⟨rfl, RoundIn.mono hRd ?_⟩
      clear hRd hy
      rintro e W4 ⟨O4, hs4, hg4, (⟨rfl, h4⟩ | ⟨rfl, h4⟩)⟩
      · have hz4 := hg4.size
        have hj4 : LJ f dn B W.heap.size l (f.all 1).length J (k + 1) O4 W4 := ⟨h4, by rw [hg4.cell (p := ⟨W.heap.size, 0, none⟩) HJ.out.yl HJ.out.ny]; exact HJ.out.y, Nat.lt_of_lt_of_le HJ.out.yl hz4, fun h => (hs4 _ h).elim HJ.out.ny fun h => by have := HJ.out.yl; omega,
          HJ.out.b.grow hg4 HJ.out.nb HJ.out.od, fun h => (hs4 _ h).elim HJ.out.nb fun h => by have := HJ.out.b.lt; omega, fun b hb => (hs4 b hb).elim (HJ.out.od b) fun h => by have := HJ.out.b.dn; omega⟩
        have HJ4 := Lib.hid hj4
        clear hj4
        gi_wp2
        exact ⟨O4, hs4, hg4, HJ4.out⟩
      · gi_wp2
        exact ⟨O4, hs4, hg4, rfl, h4⟩
    case stop2 =>
      rintro c O4 W4 ⟨rfl, hx⟩ hs4 nD4 hg4 hK4
      have hz4 := hg4.size
      have hn1 : ¬ O4 W1.heap.size := fun h => (hs4 _ h).elim nD2 fun h => by omega
      have hK1 : W4.heap[W1.heap.size]? = some (.deferred (some [])) := (hg4.block _ (lt_of_heap hK3) nD2).trans hK3
      have hF := hJx.taken (k := 0) (hJx.taken (k := 0) hx (D := W3.heap.size) (by omega) nD4 (.deferred none)) (D := W1.heap.size) (by omega) hn1 (.deferred none)
      have hG := ((((hG1.trans (Grow.of_below (O := O2) hb3) hS1).trans hg4 hS1)).taken (D := W3.heap.size) (by omega) (.deferred none)).taken (D := W1.heap.size) (by omega) (.deferred none)
      have hS : Sub O W.heap.size O4 := hS1.trans hs4 (by omega)
      have hne1 : (W4.putObj W3.heap.size (.deferred none)).heap[W1.heap.size]? = some (.deferred (some [])) := (World.putObj_heap_other (by have := lt_of_heap hK3; omega)).trans hK1
      gi_wp2
      refine ⟨by simp, .inl ⟨_, _, rfl, run_takeDeferred hK4, ?_⟩⟩
      refine ⟨by simp, .inl ⟨_, _, rfl, run_takeDeferred hne1, ?_⟩⟩
      exact ⟨_, results_none rfl _ _ _, ⟨_, rfl⟩, O4, hS, hG, .inr hF⟩
    case done2 =>
      rintro O4 W4 hj4 hs4 nD4 hg4 hK4
      have hz4 := hg4.size
      have hn1 : ¬ O4 W1.heap.size := fun h => (hs4 _ h).elim nD2 fun h => by omega
      have hK1 : W4.heap[W1.heap.size]? = some (.deferred (some [])) := (hg4.block _ (lt_of_heap hK3) nD2).trans hK3
      have hx := hj4.j
      rw [show (f.all 1).length + (termsL f).length = (levelsL f).length by simp [levelsL]] at hx
      have hF := hJ.taken (hJ.taken hx (D := W3.heap.size) (by omega) nD4 (.deferred none)) (D := W1.heap.size) (by omega) hn1 (.deferred none)
      have hG := ((((hG1.trans (Grow.of_below (O := O2) hb3) hS1).trans hg4 hS1)).taken (D := W3.heap.size) (by omega) (.deferred none)).taken (D := W1.heap.size) (by omega) (.deferred none)
      have hS : Sub O W.heap.size O4 := hS1.trans hs4 (by omega)
      have hne1 : (W4.putObj W3.heap.size (.deferred none)).heap[W1.heap.size]? = some (.deferred (some [])) := (World.putObj_heap_other (by have := lt_of_heap hK3; omega)).trans hK1
      clear hj4 hx
      gi_wp2
      refine ⟨by simp, .inl ⟨_, _, rfl, run_takeDeferred hK4, ?_⟩⟩
      refine ⟨by simp, .inl ⟨_, _, rfl, run_takeDeferred hne1, ?_⟩⟩
      exact ⟨_, results_none rfl _ _ _, ⟨_, rfl⟩, O4, hS, hG, .inl hF⟩
end Go.Proofs.YtdapnjnmhkdnpaaDoor.Fm
