/-
  The contracts of total, Weigh and SameInts: slices that are only read.
-/
import Derived.Test.YtkcifgnlkdicgaaDoorSdDr
namespace Go.Proofs.YtkcifgnlkdicgaaDoor.Sd
open Go Go.RowKit
set_option linter.unusedVariables false
set_option linter.unusedSimpArgs false

/-- A slice value that reads as the integers xs. -/
def RInts (w : World) (v : Value) (xs : List Int) : Prop :=
  ∃ a cap, v = .slice a xs.length cap ∧ (xs = [] ∨ ∃ g off, a = some ⟨g, off, none⟩ ∧ g < w.heap.size ∧ ∀ q, q < xs.length → w.cell? ⟨g, off + q, none⟩ = some (.int .i64 (xs.getD q 0)))
theorem RInts.below {B : Nat} {w w' : World} {v : Value} {xs : List Int} (h : RInts w v xs) (hb : Below B w w') (hB : w.heap.size ≤ B) : RInts w' v xs := by
  obtain ⟨a, cap, rfl, h⟩ := h
  refine ⟨a, cap, rfl, h.imp id fun ⟨g, off, h1, h2, h3⟩ => ⟨g, off, h1, Nat.lt_of_lt_of_le h2 hb.size, fun q hq => ?_⟩⟩
  rw [hb.cell (p := ⟨g, off + q, none⟩) (show g < B by omega)]; exact h3 q hq
def totF : List Int → Int → Option Int
  | [], s => some s
  | x :: r, s => if x < 0 ∨ 1099511627776 < x then none else totF r (s + x)
/-- The sum of the weights, if there are weights of which one can be drawn. -/
def total (xs : List Int) : Option Int :=
  if 1000 < xs.length then none else match totF xs 0 with
  | none => none
  | some s => some s
def totV (xs : List Int) : Int := (total xs).getD 0
def totOk (xs : List Int) : Bool := match total xs with
  | none => false
  | some s => decide (0 < s)
theorem drop_cons (xs : List Int) (q : Nat) (h : q < xs.length) : xs.drop q = xs.getD q 0 :: xs.drop (q + 1) := by
  rw [List.drop_eq_getElem_cons h]
  simp [List.getD_eq_getElem?_getD, h]
def TotRel (xs : List Int) (s x : Value) : Prop :=
  ∃ (q : Nat) (t : Int), x = .int .i64 (q : Int) ∧ s = .int .i64 t ∧ q ≤ xs.length ∧ 0 ≤ t ∧ t ≤ q * 1099511627776 ∧ totF (xs.drop q) t = totF xs 0
set_option maxHeartbeats 400000 in
theorem total_c (xs : List Int) (v : Value) (w : World) (hv : RInts w v xs) (hl : xs.length ≤ 9223372036854775807) :
    Calls Tryd.prog 47 #[v] w fun e w' => e = .returned (.tuple #[.int .i64 (totV xs), .bool (totOk xs)]) ∧ w = w' := by
  obtain ⟨a, cap, rfl, hv⟩ := hv
  by_cases hlen : 1000 < xs.length
  · have H1 : Hid (totV xs = 0) := by show totV xs = 0; unfold totV total; rw [if_pos hlen]; rfl
    have H2 : Hid (totOk xs = false) := by show totOk xs = false; unfold totOk total; rw [if_pos hlen]
    go_enter Tryd.func47, Tryd.ntmps47
    go_wp2
    go_ret2
    exact ⟨by rw [H1.out, H2.out]; rfl, rfl⟩
  · have H0 : Hid (total xs = totF xs 0) := by
      show total xs = totF xs 0
      unfold total; rw [if_neg hlen]; cases totF xs 0 <;> rfl
    go_enter Tryd.func47, Tryd.ntmps47
    go_wp2
    go_loop [4, 6, 12] (fun s _ x => TotRel xs s x) (fun _ _ x => xs.length - (intOf x).toNat)
    case atStart => exact ⟨0, 0, rfl, rfl, Nat.zero_le _, by omega, by omega, rfl⟩
    case round =>
      obtain ⟨q, t, rfl, rfl, hq, ht0, ht1, htf⟩ := hrel
      by_cases hlt : q < xs.length
      · rcases hv with rfl | ⟨g, off, rfl, hg, hc⟩
        · simp at hlt
        · have cq := hc q hlt
          rw [drop_cons xs q hlt, totF] at htf
          generalize xs.getD q 0 = x at *
          by_cases hx : x < 0 ∨ 1099511627776 < x
          · rw [if_pos hx] at htf
            have H1 : Hid (totV xs = 0) := by show totV xs = 0; unfold totV; rw [H0.out, ← htf]; rfl
            have H2 : Hid (totOk xs = false) := by show totOk xs = false; unfold totOk; rw [H0.out, ← htf]
            clear htf hc
            rcases hx with hx | hx
            · go_wp2
              go_ret2
              exact ⟨by rw [H1.out, H2.out]; rfl, rfl⟩
            · have hx' : ¬ x < 0 := by omega
              go_wp2
              go_ret2
              exact ⟨by rw [H1.out, H2.out]; rfl, rfl⟩
          · rw [if_neg hx] at htf
            have HT : Hid (totF (xs.drop (q + 1)) (t + x) = totF xs 0) := htf
            have hx1 : ¬ x < 0 := by omega
            have hx2 : ¬ 1099511627776 < x := by omega
            clear htf hc hx
            go_wp2
            exact ⟨⟨q + 1, t + x, by go_num, rfl, by omega, by omega, by omega, HT.out⟩, by simp [intOf]; omega⟩
      · rw [List.drop_eq_nil_of_le (by omega), totF] at htf
        have H1 : Hid (totV xs = t) := by show totV xs = t; unfold totV; rw [H0.out, ← htf]; rfl
        have H2 : Hid (totOk xs = decide (0 < t)) := by show totOk xs = decide (0 < t); unfold totOk; rw [H0.out, ← htf]
        clear htf hv
        go_wp2
        go_ret2
        exact ⟨by rw [H1.out, H2.out]; rfl, rfl⟩
def SameRel (xs ys : List Int) (w : World) (x : Value) (wr : World) : Prop :=
  ∃ q : Nat, x = .int .i64 (q : Int) ∧ q ≤ xs.length ∧ Below w.heap.size w wr ∧ ∀ r, r < q → xs.getD r 0 = ys.getD r 0
theorem same_ext {xs ys : List Int} (h : xs.length = ys.length) (hs : ∀ r, r < xs.length → xs.getD r 0 = ys.getD r 0) : xs = ys := by
  apply List.ext_getElem h
  intro r h1 h2
  have := hs r h1
  simpa [List.getD_eq_getElem?_getD, h1, h2] using this
set_option maxHeartbeats 400000 in
theorem same_ints_c (xs ys : List Int) (v u : Value) (w : World) (hv : RInts w v xs) (hu : RInts w u ys) (hl : xs.length ≤ 9223372036854775807) (hl2 : ys.length ≤ 9223372036854775807) :
    Calls Tryd.prog 28 #[v, u] w fun e w' => e = .returned (.bool (decide (xs = ys))) ∧ Below w.heap.size w w' := by
  obtain ⟨a, cap, rfl, hv⟩ := hv
  obtain ⟨b, cap2, rfl, hu⟩ := hu
  by_cases hne : xs.length = ys.length
  · have HN : Hid (xs.length = ys.length) := hne
    have hbn : (((xs.length : Nat) : Int) != ((ys.length : Nat) : Int)) = false := by rw [hne]; simp
    clear hne
    go_enter Tryd.func28, Tryd.ntmps28
    go_wp2
    go_loopw [5] (fun x wr => SameRel xs ys w x wr) (fun x _ => xs.length - (intOf x).toNat)
    case atStart => exact ⟨0, rfl, Nat.zero_le _, Below.refl _ _, fun r hr => absurd hr (Nat.not_lt_zero _)⟩
    case round =>
      obtain ⟨q, rfl, hq, hb, hsame⟩ := hrel
      have HS : Hid (∀ r, r < q → xs.getD r 0 = ys.getD r 0) := hsame
      clear hsame
      by_cases hlt : q < xs.length
      · rcases hv with rfl | ⟨g, off, rfl, hg, hc⟩
        · simp at hlt
        rcases hu with rfl | ⟨g2, off2, rfl, hg2, hc2⟩
        · have h := HN.out; rw [List.length_nil] at h; omega
        have cq : wr.cell? ⟨g, off + q, none⟩ = some (.int .i64 (xs.getD q 0)) := by rw [hb.cell (p := ⟨g, off + q, none⟩) hg]; exact hc q hlt
        have cq2 : wr.cell? ⟨g2, off2 + q, none⟩ = some (.int .i64 (ys.getD q 0)) := by rw [hb.cell (p := ⟨g2, off2 + q, none⟩) hg2]; exact hc2 q (by have := HN.out; omega)
        have hlt2 : q < ys.length := by have := HN.out; omega
        clear hc hc2
        by_cases he : xs.getD q 0 = ys.getD q 0
        · rw [he] at cq
          have HE : Hid (xs.getD q 0 = ys.getD q 0) := he
          clear he
          go_wp2
          go_quiet (fail)
          go_wp2
          refine ⟨⟨q + 1, by go_num, by omega, below_drewN hb _, fun r hr => ?_⟩, by simp [intOf]; omega⟩
          by_cases h : r = q
          · rw [h]; exact HE.out
          · exact HS.out r (by omega)
        · have H1 : Hid (decide (xs = ys) = false) := decide_eq_false (fun h => he (by rw [h]))
          have hn : (xs.getD q 0 != ys.getD q 0) = true := by simpa using he
          clear he
          generalize xs.getD q 0 = x at *
          generalize ys.getD q 0 = y at *
          go_wp2
          go_quiet (fail)
          go_wp2
          go_ret
          exact ⟨by rw [H1.out]; rfl, below_drewN hb _⟩
      · have H1 : Hid (decide (xs = ys) = true) := decide_eq_true (same_ext HN.out fun r hr => HS.out r (by omega))
        go_wp2
        go_ret
        exact ⟨by rw [H1.out]; rfl, hb⟩
  · have H1 : Hid (decide (xs = ys) = false) := decide_eq_false (fun h => hne (by rw [h]))
    go_enter Tryd.func28, Tryd.ntmps28
    go_wp2
    go_ret
    exact ⟨by rw [H1.out]; rfl, Below.refl _ _⟩
/-- The index at which a number below the sum falls. -/
def pickF : List Int → Int → Int → Int
  | [], _, at_ => at_
  | x :: r, t, at_ => if x ≤ t then pickF r (t - x) (at_ + 1) else at_
def sumI (xs : List Int) : Int := xs.foldr (· + ·) 0
theorem totF_sum : ∀ (xs : List Int) (s t : Int), totF xs s = some t → t = s + sumI xs ∧ ∀ x ∈ xs, 0 ≤ x ∧ x ≤ 1099511627776
  | [], s, t, h => by simp only [totF, Option.some.injEq] at h; subst h; simp [sumI]
  | x :: r, s, t, h => by
    rw [totF] at h
    split at h
    · cases h
    · have := totF_sum r (s + x) t h
      refine ⟨by rw [this.1]; simp only [sumI, List.foldr_cons]; omega, fun y hy => ?_⟩
      rcases List.mem_cons.1 hy with rfl | hy
      · omega
      · exact this.2 y hy
def weigh (k i : Int) (xs : List Int) : Option (Int × Int) :=
  match below k i (totV xs) with
  | none => none
  | some (t, j) => some (pickF xs t 0, j)
def WeiRel (xs : List Int) (target : Int) (t x : Value) : Prop :=
  ∃ (q : Nat) (u : Int), x = .int .i64 (q : Int) ∧ t = .int .i64 u ∧ q ≤ xs.length ∧ 0 ≤ u ∧ u ≤ 9223372036854775807 ∧ u < sumI (xs.drop q) ∧ pickF (xs.drop q) u q = target
theorem total_ok {xs : List Int} (h : totOk xs = true) : 1 ≤ totV xs ∧ totV xs = sumI xs ∧ (∀ x ∈ xs, 0 ≤ x ∧ x ≤ 1099511627776) ∧ xs.length ≤ 1000 := by
  unfold totOk at h
  unfold totV
  unfold total at h ⊢
  by_cases hl : 1000 < xs.length
  · rw [if_pos hl] at h; cases h
  · rw [if_neg hl] at h ⊢
    cases ht : totF xs 0 with
    | none => rw [ht] at h; cases h
    | some s =>
      rw [ht] at h
      have := totF_sum xs 0 s ht
      have h0 : 0 < s := by simpa using h
      refine ⟨by show 1 ≤ s; omega, by show s = _; omega, this.2, by omega⟩
theorem sum_bound : ∀ (xs : List Int), (∀ x ∈ xs, 0 ≤ x ∧ x ≤ 1099511627776) → 0 ≤ sumI xs ∧ sumI xs ≤ xs.length * 1099511627776
  | [], _ => by simp [sumI]
  | x :: r, h => by
    have h1 := h x (List.mem_cons_self ..)
    have h2 := sum_bound r fun y hy => h y (List.mem_cons_of_mem _ hy)
    simp only [sumI, List.foldr_cons, List.length_cons] at h2 ⊢
    omega
set_option maxHeartbeats 1000000 in
theorem weigh_some_c (k i t0 j : Int) (xs : List Int) (v : Value) (w : World) (hx0 : 0 ≤ k) (hx1 : k < 18446744073709551616) (hT : Tab w) (h0 : 0 ≤ i) (h1 : i ≤ 1099511627776)
    (hv : RInts w v xs) (hok : totOk xs = true) (h : below k i (totV xs) = some (t0, j)) :
    Calls Tryd.prog 29 #[.agg #[.int .u64 k], .int .i64 i, v] w fun e w' => e = .returned (.tuple #[.int .i64 (pickF xs t0 0), .int .i64 j, .int .i64 0]) ∧ Below w.heap.size w w' := by
  have hd : (decide (0 ≤ i) && decide (i ≤ 1099511627776)) = true := by simp [h0, h1]
  obtain ⟨ht1, ht2, ht3, ht4⟩ := total_ok hok
  have hsb := sum_bound xs ht3
  have hb0 : totV xs ≤ 9223372036854775807 := by omega
  have hvr := below_range ht1 h1 h
  have HB : Hid (below k i (totV xs) = some (t0, j)) := h
  have HS : Hid (totV xs = sumI xs) := ht2
  have HK : Hid (totOk xs = true) := hok
  have H3 : Hid (∀ x ∈ xs, 0 ≤ x ∧ x ≤ 1099511627776) := ht3
  clear h ht2 hok ht3 hsb
  have hv2 := hv.below (B := w.heap.size) (((Below.refl _ w).alloc (Nat.le_refl _) (.cells #[.int .u64 k] 33)).alloc (by simp) (.cells #[.int .i64 i] 3)) (Nat.le_refl _)
  have hvs : ∃ a cap, v = .slice a xs.length cap := by obtain ⟨a, cap, h, _⟩ := hv; exact ⟨a, cap, h⟩
  go_enter Tryd.func29, Tryd.ntmps29
  go_wp2_with fail
  refine (total_c xs v _ hv2 (by omega)).mono ?_
  rw [HK.out]
  rintro e w1 ⟨rfl, rfl⟩
  go_wp2_with fail
  refine (drawable_c i _).mono ?_
  rw [hd]
  clear hd
  rintro e w1 ⟨rfl, rfl⟩
  go_wp2_with fail
  refine (drawer_c _ _ _).mono ?_
  rintro e w1 ⟨rfl, rfl⟩
  go_wp2_with fail
  have hD := Dr.start k i (w.heap.size + 1) (w.heap.size + 2) ((w.alloc (.cells #[.int .u64 k] 33)).alloc (.cells #[.int .i64 i] 3)) (by rw [World.cell?_alloc_at _ _ _ _ (by simp)]; rfl) (by rw [World.frozen?_alloc_at _ _ _ _ (by simp)]) (by simp) (by omega) (by simp) h0 h1
  have hT2 : Tab ((((w.alloc (.cells #[.int .u64 k] 33)).alloc (.cells #[.int .i64 i] 3)).alloc (.cells #[.func (Fn.func 26) #[.agg #[.int .u64 k]] #[]] 45)).alloc (.cells #[.pointer (some ⟨w.heap.size + 1, 0, none⟩)] 73)) := hT.below (show Below w.heap.size w _ by repeat' (first | with_reducible exact Below.refl _ _ | with_reducible assumption | with_reducible refine below_drewN ?_ _ | with_reducible refine Below.drew ?_ | with_reducible refine Below.alloc ?_ ?_ _ | with_reducible refine Below.setCell ?_ ?_ _ | omega | (simp; done) | (simp; omega))) hT.pos
  refine (dr_some_c k i (totV xs) t0 j (w.heap.size + 1) (w.heap.size + 2) _ hx0 hx1 hT2 hD ht1 hb0 HB.out).mono ?_
  rintro e w3 ⟨rfl, hdr⟩
  have hD3 := hdr.dr hD (by omega) (by omega)
  have hB3 : Below w.heap.size w w3 := hdr.below (show Below w.heap.size w _ by repeat' (first | with_reducible exact Below.refl _ _ | with_reducible assumption | with_reducible refine below_drewN ?_ _ | with_reducible refine Below.drew ?_ | with_reducible refine Below.alloc ?_ ?_ _ | with_reducible refine Below.setCell ?_ ?_ _ | omega | (simp; done) | (simp; omega))) (by omega) (by simp; omega)
  have hv3 : RInts w3 v xs := hv.below hB3 (Nat.le_refl _)
  have hat := hD3.at
  have HS2 : Hid (t0 < sumI xs) := (show t0 < sumI xs by have := HS.out; omega)
  clear hdr hD hD3 hT2 hv hv2 hvs
  obtain ⟨a, cap, rfl, hv⟩ := hv3
  go_wp2_with fail
  go_loop [12, 14] (fun t x => WeiRel xs (pickF xs t0 0) t x) (fun _ x => xs.length - (intOf x).toNat)
  case atStart => exact ⟨0, t0, rfl, rfl, Nat.zero_le _, hvr.1, by omega, HS2.out, rfl⟩
  case round =>
    obtain ⟨q, u, rfl, rfl, hq, hu0, hu2, hu1, hp⟩ := hrel
    by_cases hlt : q < xs.length
    · rcases hv with rfl | ⟨g, off, rfl, hg, hc⟩
      · simp at hlt
      have cq := hc q hlt
      obtain ⟨hxa, hxb⟩ := H3.out (xs.getD q 0) (by rw [List.getD_eq_getElem?_getD, List.getElem?_eq_getElem hlt]; exact List.getElem_mem hlt)
      rw [drop_cons xs q hlt] at hp hu1
      simp only [pickF, sumI, List.foldr_cons] at hp hu1
      have HU : Hid (u < xs.getD q 0 + sumI (xs.drop (q + 1))) := hu1
      clear hu1 hc
      generalize xs.getD q 0 = x at *
      by_cases hle : x ≤ u
      · rw [if_pos hle] at hp
        have HP : Hid (pickF (xs.drop (q + 1)) (u - x) ((q : Int) + 1) = pickF xs t0 0) := hp
        clear hp
        go_wp2
        exact ⟨⟨q + 1, u - x, by go_num, rfl, by omega, by omega, by omega, by have := HU.out; omega, HP.out⟩, by simp [intOf]; omega⟩
      · rw [if_neg hle] at hp
        have HP : Hid ((q : Int) = pickF xs t0 0) := hp
        have hle' : u < x := by omega
        clear hp
        go_wp2
        go_quiet (fail)
        go_wp2
        go_ret3
        exact ⟨by rw [← HP.out]; rfl, below_drewN hB3 _⟩
    · rw [List.drop_eq_nil_of_le (by omega)] at hu1
      simp [sumI] at hu1
      omega
set_option maxHeartbeats 1000000 in
theorem weigh_none_c (k i : Int) (xs : List Int) (v : Value) (w : World) (hx0 : 0 ≤ k) (hx1 : k < 18446744073709551616) (hT : Tab w) (h0 : 0 ≤ i) (h1 : i ≤ 1099511627776)
    (hv : RInts w v xs) (hok : totOk xs = true) (h : below k i (totV xs) = none) :
    Calls Tryd.prog 29 #[.agg #[.int .u64 k], .int .i64 i, v] w fun e w' => e = .returned (.tuple #[.int .i64 0, .int .i64 0, .int .i64 4]) ∧ Below w.heap.size w w' := by
  have hd : (decide (0 ≤ i) && decide (i ≤ 1099511627776)) = true := by simp [h0, h1]
  obtain ⟨ht1, ht2, ht3, ht4⟩ := total_ok hok
  have hsb := sum_bound xs ht3
  have hb0 : totV xs ≤ 9223372036854775807 := by omega
  have HB : Hid (below k i (totV xs) = none) := h
  have HK : Hid (totOk xs = true) := hok
  clear h ht2 hok ht3 hsb
  have hv2 := hv.below (B := w.heap.size) (((Below.refl _ w).alloc (Nat.le_refl _) (.cells #[.int .u64 k] 33)).alloc (by simp) (.cells #[.int .i64 i] 3)) (Nat.le_refl _)
  have hvs : ∃ a cap, v = .slice a xs.length cap := by obtain ⟨a, cap, h, _⟩ := hv; exact ⟨a, cap, h⟩
  go_enter Tryd.func29, Tryd.ntmps29
  go_wp2_with fail
  refine (total_c xs v _ hv2 (by omega)).mono ?_
  rw [HK.out]
  rintro e w1 ⟨rfl, rfl⟩
  go_wp2_with fail
  refine (drawable_c i _).mono ?_
  rw [hd]
  clear hd
  rintro e w1 ⟨rfl, rfl⟩
  go_wp2_with fail
  refine (drawer_c _ _ _).mono ?_
  rintro e w1 ⟨rfl, rfl⟩
  go_wp2_with fail
  have hD := Dr.start k i (w.heap.size + 1) (w.heap.size + 2) ((w.alloc (.cells #[.int .u64 k] 33)).alloc (.cells #[.int .i64 i] 3)) (by rw [World.cell?_alloc_at _ _ _ _ (by simp)]; rfl) (by rw [World.frozen?_alloc_at _ _ _ _ (by simp)]) (by simp) (by omega) (by simp) h0 h1
  have hT2 : Tab ((((w.alloc (.cells #[.int .u64 k] 33)).alloc (.cells #[.int .i64 i] 3)).alloc (.cells #[.func (Fn.func 26) #[.agg #[.int .u64 k]] #[]] 45)).alloc (.cells #[.pointer (some ⟨w.heap.size + 1, 0, none⟩)] 73)) := hT.below (show Below w.heap.size w _ by repeat' (first | with_reducible exact Below.refl _ _ | with_reducible assumption | with_reducible refine below_drewN ?_ _ | with_reducible refine Below.drew ?_ | with_reducible refine Below.alloc ?_ ?_ _ | with_reducible refine Below.setCell ?_ ?_ _ | omega | (simp; done) | (simp; omega))) hT.pos
  refine (dr_none_c k i (totV xs) (w.heap.size + 1) (w.heap.size + 2) _ hx0 hx1 hT2 hD ht1 hb0 HB.out).mono ?_
  rintro e w3 ⟨rfl, hdr⟩
  have hB3 : Below w.heap.size w w3 := hdr.below (show Below w.heap.size w _ by repeat' (first | with_reducible exact Below.refl _ _ | with_reducible assumption | with_reducible refine below_drewN ?_ _ | with_reducible refine Below.drew ?_ | with_reducible refine Below.alloc ?_ ?_ _ | with_reducible refine Below.setCell ?_ ?_ _ | omega | (simp; done) | (simp; omega))) (by omega) (by simp; omega)
  clear hdr hD hT2 hv hv2 hvs
  go_wp2
  go_ret3
  exact ⟨rfl, hB3⟩
set_option maxHeartbeats 1000000 in
theorem weigh_err_c (k i : Int) (xs : List Int) (v : Value) (w : World) (hv : RInts w v xs) (hl : xs.length ≤ 9223372036854775807) (h : i < 0 ∨ 1099511627776 < i ∨ totOk xs = false) :
    Calls Tryd.prog 29 #[.agg #[.int .u64 k], .int .i64 i, v] w fun e w' => e = .returned (.tuple #[.int .i64 0, .int .i64 0, .int .i64 2]) ∧ Below w.heap.size w w' := by
  have hv2 := hv.below (B := w.heap.size) (((Below.refl _ w).alloc (Nat.le_refl _) (.cells #[.int .u64 k] 33)).alloc (by simp) (.cells #[.int .i64 i] 3)) (Nat.le_refl _)
  by_cases hd : (decide (0 ≤ i) && decide (i ≤ 1099511627776)) = true
  · have hk : totOk xs = false := by
      rcases h with h | h | h
      · simp at hd; omega
      · simp at hd; omega
      · exact h
    go_enter Tryd.func29, Tryd.ntmps29
    go_wp2_with fail
    refine (total_c xs v _ hv2 hl).mono ?_
    rw [hk]
    rintro e w1 ⟨rfl, rfl⟩
    clear hk h hv hv2
    go_wp2_with fail
    refine (drawable_c i _).mono ?_
    rw [hd]
    clear hd
    rintro e w1 ⟨rfl, rfl⟩
    go_wp2
    go_ret3
    exact ⟨rfl, by repeat' (first | with_reducible exact Below.refl _ _ | with_reducible assumption | with_reducible refine below_drewN ?_ _ | with_reducible refine Below.drew ?_ | with_reducible refine Below.alloc ?_ ?_ _ | with_reducible refine Below.setCell ?_ ?_ _ | omega | (simp; done) | (simp; omega))⟩
  · have hd' : (decide (0 ≤ i) && decide (i ≤ 1099511627776)) = false := by simpa using hd
    clear hd h
    go_enter Tryd.func29, Tryd.ntmps29
    go_wp2_with fail
    refine (total_c xs v _ hv2 hl).mono ?_
    generalize totOk xs = ok
    rintro e w1 ⟨rfl, rfl⟩
    clear hv hv2
    go_wp2_with fail
    refine (drawable_c i _).mono ?_
    rw [hd']
    clear hd'
    rintro e w1 ⟨rfl, rfl⟩
    go_wp2
    go_ret3
    exact ⟨rfl, by repeat' (first | with_reducible exact Below.refl _ _ | with_reducible assumption | with_reducible refine below_drewN ?_ _ | with_reducible refine Below.drew ?_ | with_reducible refine Below.alloc ?_ ?_ _ | with_reducible refine Below.setCell ?_ ?_ _ | omega | (simp; done) | (simp; omega))⟩
end Go.Proofs.YtkcifgnlkdicgaaDoor.Sd
