/-
  SeedApart: mixing can be undone; different numbers, keys and names have different words and streams.
-/
import Derived.Test.YtkcifgnlkdicgaaDoorSdAw
import Derived.Test.YtkcifgnlkdicgaaDoorSdSub
import Derived.Test.YtkcifgnlkdicgaaDoorSdSt
import Derived.Test.YtkcifgnlkdicgaaDoorSdR1
import Derived.Test.YtkcifgnlkdicgaaDoorSdTells
import Derived.Test.YtkcifgnlkdicgaaDoorSdApM
import Derived.Deep.RegionHeld3
import Derived.Sort.AtCall
import Derived.Test.YtkcifgnlkdicgaaDoorSdApB
namespace Go.Proofs.YtkcifgnlkdicgaaDoor.Sd
open Go Go.RowKit
set_option linter.unusedVariables false
set_option linter.unusedSimpArgs false
/-- The table, and what was there before. -/
def SA (w W : World) : Prop := Tab W ∧ Below w.heap.size w W
theorem SA.tab {w W : World} (h : SA w W) : Tab W := h.1
theorem SA.below {w W : World} (h : SA w W) : Below w.heap.size w W := h.2
theorem SA.start {w : World} (h : Tab w) : SA w w := ⟨h, Below.refl _ _⟩
theorem SA.step {w W W' : World} (h : SA w W) (hb : Below W.heap.size W W') : SA w W' :=
  ⟨h.1.below hb h.1.pos, h.2.trans (hb.mono h.2.size)⟩
theorem SA.alloc {w W : World} (h : SA w W) (o : Obj) : SA w (W.alloc o) := h.step ((Below.refl _ _).alloc (Nat.le_refl _) _)
def One (f : FuncId) (a : Int) (r : Value) : Prop := ∀ W : World, Tab W → Calls Tryd.prog f #[.int .u64 a] W fun e w' => e = .returned r ∧ Below W.heap.size W w'
theorem ap_mix (x y : Int) (hx0 : 0 ≤ x) (hx1 : x < 18446744073709551616) (hy0 : 0 ≤ y) (hy1 : y < 18446744073709551616) : ∃ mx my ux : Int,
    One 20 x (.int .u64 mx) ∧ One 19 mx (.int .u64 x) ∧ One 19 x (.int .u64 ux) ∧ One 20 ux (.int .u64 x) ∧ One 20 y (.int .u64 my) ∧
    One 21 x (.agg #[.int .u64 mx]) ∧ One 21 y (.agg #[.int .u64 my]) ∧ (mx == my) = (x == y) := by
  refine ⟨mixI x, mixI y, unmixI x, fun W h => mix_c x W hx0 hx1 h, fun W h => ?_, fun W h => unmix_c x W hx0 hx1 h, fun W h => ?_, fun W h => mix_c y W hy0 hy1 h, fun W h => new_c x W hx0 hx1 h, fun W h => new_c y W hy0 hy1 h,
    beq_of_iff (fun h => mix_inj hx0 hx1 hy0 hy1 h) (fun h => by rw [h])⟩
  · have := unmix_c (mixI x) W (mix_lo x) (mix_hi x) h
    rw [unmix_mix x hx0 hx1] at this; exact this
  · have := mix_c (unmixI x) W (unmix_lo x) (unmix_hi x) h
    rw [mix_unmix x hx0 hx1] at this; exact this
/-- The two boxes of keys. -/
structure SB (w : World) (g : Nat) (W : World) : Prop where
  tab : Tab W
  below : Below w.heap.size w W
  lt : g + 1 < W.heap.size
  le : w.heap.size ≤ g
theorem SB.step {w W W' : World} {g : Nat} (h : SB w g W) (hb : Below W.heap.size W W') : SB w g W' := by
  obtain ⟨h1, h2, h3, h4⟩ := h
  have := hb.size
  exact ⟨h1.below hb h1.pos, h2.trans (hb.mono h2.size), by omega, h4⟩
theorem SB.start {w W : World} {x y : Int} {T : TypeId} {g : Nat} (h : SA w W) (hg : W.heap.size = g) :
    ((W.alloc (.cells #[.int .u64 x] T)).alloc (.cells #[.int .u64 y] T)).cell? ⟨g, 0, none⟩ = some (.int .u64 x) ∧ ((W.alloc (.cells #[.int .u64 x] T)).alloc (.cells #[.int .u64 y] T)).cell? ⟨g + 1, 0, none⟩ = some (.int .u64 y) ∧ SB w g ((W.alloc (.cells #[.int .u64 x] T)).alloc (.cells #[.int .u64 y] T)) := by
  subst hg
  have h2 := (h.alloc (.cells #[.int .u64 x] T)).alloc (.cells #[.int .u64 y] T)
  have hb : Below (W.alloc (.cells #[.int .u64 x] T)).heap.size (W.alloc (.cells #[.int .u64 x] T)) ((W.alloc (.cells #[.int .u64 x] T)).alloc (.cells #[.int .u64 y] T)) := (Below.refl _ _).alloc (Nat.le_refl _) _
  refine ⟨?_, ?_, h2.tab, h2.below, by simp, h.below.size⟩
  · rw [hb.cell (p := ⟨W.heap.size, 0, none⟩) (by simp), World.cell?_alloc_at _ _ _ _ rfl]; rfl
  · rw [World.cell?_alloc_at _ _ _ _ (by simp)]; rfl
theorem SB.cell {w W W' : World} {g q : Nat} {v : Value} (h : SB w g W) (hb : Below W.heap.size W W') (hq : q ≤ g + 1) (hc : W.cell? ⟨q, 0, none⟩ = some v) : W'.cell? ⟨q, 0, none⟩ = some v := by
  have := h.lt
  rw [hb.cell (p := ⟨q, 0, none⟩) (show q < _ by omega)]; exact hc
theorem SB.drew {w W : World} {g : Nat} (h : SB w g W) : SB w g W.drew := h.step (Below.refl _ _).drew
def AtS (x y k n r : Int) : Prop := ∀ (w : World) (g : Nat) (W : World), W.cell? ⟨g, 0, none⟩ = some (.int .u64 x) → W.cell? ⟨g + 1, 0, none⟩ = some (.int .u64 y) → SB w g W →
  Calls Tryd.prog 22 #[.agg #[.int .u64 k], .int .i64 n] W fun e W' => e = .returned (.agg #[.int .u64 r]) ∧ W'.cell? ⟨g, 0, none⟩ = some (.int .u64 x) ∧ W'.cell? ⟨g + 1, 0, none⟩ = some (.int .u64 y) ∧ SB w g W'
theorem at_s (x y k n : Int) (h0 : 0 ≤ k) (h1 : k < 18446744073709551616) : AtS x y k n (atI k n) := by
  intro w g W hc1 hc2 hs
  exact (at_c k n W h0 h1 hs.tab).mono fun e W' ⟨he, hb⟩ => ⟨he, hs.cell hb (by omega) hc1, hs.cell hb (by omega) hc2, hs.step hb⟩
theorem ap_at (x y i j : Int) (hx0 : 0 ≤ x) (hx1 : x < 18446744073709551616) (hy0 : 0 ≤ y) (hy1 : y < 18446744073709551616)
    (hi0 : -9223372036854775808 ≤ i) (hi1 : i ≤ 9223372036854775807) (hj0 : -9223372036854775808 ≤ j) (hj1 : j ≤ 9223372036854775807) : ∃ p q r : Int,
    AtS x y x i p ∧ AtS x y x j q ∧ AtS x y y i r ∧ (p == q) = (i == j) ∧ (p == r) = (x == y) :=
  ⟨atI x i, atI x j, atI y i, at_s x y x i hx0 hx1, at_s x y x j hx0 hx1, at_s x y y i hy0 hy1, beq_of_iff (fun h => at_inj hi0 hi1 hj0 hj1 h) (fun h => by rw [h]), beq_of_iff (fun h => at_inj2 hx0 hx1 hy0 hy1 h) (fun h => by rw [h])⟩
theorem keepc {W W' : World} {q : Nat} {v : Value} (hb : Below W.heap.size W W') (hq : q < W.heap.size) (hc : W.cell? ⟨q, 0, none⟩ = some v) : W'.cell? ⟨q, 0, none⟩ = some v := by
  rw [hb.cell (p := ⟨q, 0, none⟩) hq]; exact hc
def WordS (k n r : Int) : Prop := ∀ W : World, Tab W → Calls Tryd.prog 24 #[.agg #[.int .u64 k], .int .i64 n] W fun e w' => e = .returned (.tuple #[.int .u64 r, .int .i64 0]) ∧ Below W.heap.size W w'
theorem ap_word (x p q : Int) (hx0 : 0 ≤ x) (hx1 : x < 18446744073709551616) (hp0 : 0 ≤ p) (hp1 : p < 1099511627776) (hq0 : 0 ≤ q) (hq1 : q < 1099511627776) : ∃ a b : Int, WordS x p a ∧ WordS x q b ∧ (a == b) = (p == q) :=
  ⟨wordI x p, wordI x q, fun W h => word_c x p W hx0 hx1 h hp0 hp1, fun W h => word_c x q W hx0 hx1 h hq0 hq1, beq_of_iff (fun h => word_inj hp0 hp1 hq0 hq1 h) (fun h => by rw [h])⟩
def SubS (k : Int) (s : ByteArray) (r : Int) : Prop := ∀ W : World, Tab W → Calls Tryd.prog 25 #[.agg #[.int .u64 k], .string s] W fun e w' => e = .returned (.tuple #[.agg #[.int .u64 r], .int .i64 0]) ∧ Below W.heap.size W w'
theorem ap_sub (x y : Int) (s : ByteArray) (hx0 : 0 ≤ x) (hx1 : x < 18446744073709551616) (hy0 : 0 ≤ y) (hy1 : y < 18446744073709551616) (h1 : 1 ≤ s.size) (h2 : s.size ≤ 32) : ∃ a b : Int, SubS x s a ∧ SubS y s b ∧ (a == b) = (x == y) ∧
    ∀ (t : Nat) (v : UInt8) (ht : t < s.data.toList.length), ∃ r : Int, SubS x ⟨(s.data.toList.set t v).toArray⟩ r ∧ (a = r ↔ s.data.toList[t] = v) := by
  refine ⟨subI x s, subI y s, fun W h => sub_c x s W hx0 hx1 h h1 h2, fun W h => sub_c y s W hy0 hy1 h h1 h2, beq_of_iff (fun h => sub_inj hx0 hx1 hy0 hy1 h) (fun h => by rw [h]), fun t v ht => ⟨subI x ⟨(s.data.toList.set t v).toArray⟩, fun W h => ?_, ?_⟩⟩
  · have hz : (⟨(s.data.toList.set t v).toArray⟩ : ByteArray).size = s.size := by
      show ((s.data.toList.set t v).toArray).size = s.data.size
      rw [List.size_toArray, List.length_set, Array.length_toList]
    exact sub_c x _ W hx0 hx1 h (by rw [hz]; exact h1) (by rw [hz]; exact h2)
  · constructor
    · intro h; exact sub_one ht h
    · intro h
      have : s.data.toList.set t v = s.data.toList := by rw [← h]; exact List.set_getElem_self ht
      rw [this]
set_option maxRecDepth 100000 in
set_option maxHeartbeats 2000000 in
theorem apart_c (x y i j a b : Int) (s : ByteArray) (w : World) (hT : Tab w) (hx0 : 0 ≤ x) (hx1 : x < 18446744073709551616) (hy0 : 0 ≤ y) (hy1 : y < 18446744073709551616)
    (hi0 : -9223372036854775808 ≤ i) (hi1 : i ≤ 9223372036854775807) (hj0 : -9223372036854775808 ≤ j) (hj1 : j ≤ 9223372036854775807) (hs : s.size ≤ 140737488351232)
    (ha0 : 0 ≤ a) (ha1 : a ≤ 255) (hb0 : 0 ≤ b) (hb1 : b ≤ 255) :
    Calls Tryd.prog 8 #[.int .u64 x, .int .u64 y, .int .i64 i, .int .i64 j, .string s, .int .u8 a, .int .u8 b] w fun e w' => e = .returned (.bool true) ∧ Below w.heap.size w w' := by
  obtain ⟨mx, my, ux, k1, k2, k3, k4, k5, k6, k7, mm⟩ := ap_mix x y hx0 hx1 hy0 hy1
  obtain ⟨p1, p2, p3, k8, k9, k10, pp, pr⟩ := ap_at x y i j hx0 hx1 hy0 hy1 hi0 hi1 hj0 hj1
  obtain ⟨c, hxy⟩ : ∃ c, (x == y) = c := ⟨_, rfl⟩
  obtain ⟨d, hij⟩ : ∃ d, (i == j) = d := ⟨_, rfl⟩
  rw [hxy] at mm pr
  rw [hij] at pp
  have hi2 := Int.emod_nonneg i (show (1099511627776 : Int) ≠ 0 by decide)
  have hi3 := Int.emod_lt_of_pos i (show (0 : Int) < 1099511627776 by decide)
  have hj2 := Int.emod_nonneg j (show (1099511627776 : Int) ≠ 0 by decide)
  have hj3 := Int.emod_lt_of_pos j (show (0 : Int) < 1099511627776 by decide)
  have hPi := Lib.hid (fun w => pick_c i 1099511627776 w hi0 hi1 (by decide) (by decide))
  have hPj := Lib.hid (fun w => pick_c j 1099511627776 w hj0 hj1 (by decide) (by decide))
  obtain ⟨wi, wj, k11, k12, pw⟩ := ap_word x (i % 1099511627776) (j % 1099511627776) hx0 hx1 hi2 hi3 hj2 hj3
  obtain ⟨f, hpq⟩ : ∃ f, (i % 1099511627776 == j % 1099511627776) = f := ⟨_, rfl⟩
  rw [hpq] at pw
  generalize i % 1099511627776 = p at *
  generalize j % 1099511627776 = q at *
  clear hi2 hi3 hj2 hj3
  cases c <;> cases d
  all_goals
    go_enter Tryd.func8, Tryd.ntmps8
    go_wp2_with fail
    refine (awake_c _ hT).mono ?_
    rintro e w1 ⟨rfl, hb⟩
    have hM1 := (SA.start hT).step hb
    clear hb
    go_wp2_with fail
    refine (k1 _ hM1.tab).mono ?_
    rintro e w2 ⟨rfl, hb⟩
    have hM2 := hM1.step hb
    clear hM1 hb
    go_wp2_with fail
    refine (k2 _ hM2.tab).mono ?_
    rintro e w3 ⟨rfl, hb⟩
    have hM3 := hM2.step hb
    clear hM2 hb
    go_wp2_with fail
    refine (k3 _ hM3.tab).mono ?_
    rintro e w4 ⟨rfl, hb⟩
    have hM4 := hM3.step hb
    clear hM3 hb
    go_wp2_with fail
    refine (k4 _ hM4.tab).mono ?_
    rintro e w5 ⟨rfl, hb⟩
    have hM5 := hM4.step hb
    clear hM4 hb
    go_wp2_with fail
    refine (k1 _ hM5.tab).mono ?_
    rintro e w6 ⟨rfl, hb⟩
    have hM6 := hM5.step hb
    clear hM5 hb
    go_wp2_with fail
    refine (k5 _ hM6.tab).mono ?_
    rintro e w7 ⟨rfl, hb⟩
    have hM7 := hM6.step hb
    clear hM6 hb
    go_wp2_with fail
    refine (k6 _ hM7.tab).mono ?_
    rintro e w8 ⟨rfl, hb⟩
    have hM8 := hM7.step hb
    clear hM7 hb
    go_wp2_with fail
    refine (k7 _ hM8.tab).mono ?_
    rintro e w9 ⟨rfl, hb⟩
    have hM9 := hM8.step hb
    clear hM8 hb
    obtain ⟨g, hg⟩ : ∃ g, w9.heap.size = g := ⟨_, rfl⟩
    go_wp2_with fail
    obtain ⟨hc1, hc2, hS⟩ := SB.start (x := x) (y := y) (T := 33) hM9 hg
    generalize (w9.alloc (.cells #[.int .u64 x] 33)).alloc (.cells #[.int .u64 y] 33) = wa at *
    clear hM9 hg
    go_region_held3 (fun w' => w'.cell? ⟨g, 0, none⟩ = some (.int .u64 x) ∧ w'.cell? ⟨g + 1, 0, none⟩ = some (.int .u64 y) ∧ SB w g w') (exact ⟨by assumption, by assumption, by first | assumption | exact SB.drew (by assumption)⟩)
      (first
        | (go_at_call_has 22 (Value.int .i64 j); refine (k9 _ _ _ (by assumption) (by assumption) (by first | assumption | exact SB.drew (by assumption))).mono ?_; rintro e w' ⟨rfl, o1, o2, o3⟩)
        | (go_at_call_has 22 (Value.agg #[.int .u64 y]); refine (k10 _ _ _ (by assumption) (by assumption) (by first | assumption | exact SB.drew (by assumption))).mono ?_; rintro e w' ⟨rfl, o1, o2, o3⟩)
        | (go_at_call 22; refine (k8 _ _ _ (by assumption) (by assumption) (by first | assumption | exact SB.drew (by assumption))).mono ?_; rintro e w' ⟨rfl, o1, o2, o3⟩))
    cases f
    all_goals
      go_wp2_with fail
      refine (hPi.out _).mono ?_
      rintro e w10 ⟨rfl, rfl⟩
      go_wp2_with fail
      refine (hPj.out _).mono ?_
      rintro e w10 ⟨rfl, rfl⟩
      go_wp2_with fail
      refine (k11 _ o3.tab).mono ?_
      rintro e w11 ⟨rfl, hb⟩
      have hc3 := o3.cell hb (Nat.le_add_right _ _) o1
      have hc4 := o3.cell hb (Nat.le_refl _) o2
      have hS3 := o3.step hb
      clear o1 o2 o3 hb
      go_wp2_with fail
      refine (k12 _ hS3.tab).mono ?_
      rintro e w12 ⟨rfl, hb⟩
      have hc5 := hS3.cell hb (Nat.le_add_right _ _) hc3
      have hc6 := hS3.cell hb (Nat.le_refl _) hc4
      have hS4 := hS3.step hb
      clear hc3 hc4 hS3 hb
      have h3 : (1 ≤ s.size ∧ s.size ≤ 32) ∨ s.size < 1 ∨ (1 ≤ s.size ∧ 32 < s.size) := by omega
      rcases h3 with ⟨h1, h2⟩ | h1 | ⟨h1, h2⟩
      · obtain ⟨sx, sy, k13, k14, pc, k15⟩ := ap_sub x y s hx0 hx1 hy0 hy1 h1 h2
        rw [hxy] at pc
        go_wp2_with fail
        refine (k13 _ hS4.tab).mono ?_
        rintro e w13 ⟨rfl, hb⟩
        have hc7 := hS4.cell hb (Nat.le_add_right _ _) hc5
        have hc8 := hS4.cell hb (Nat.le_refl _) hc6
        have hS5 := hS4.step hb
        clear hc5 hc6 hS4 hb
        obtain ⟨u1, hu1⟩ : ∃ u, w13.heap.size = u := ⟨_, rfl⟩
        have hlt1 : g + 1 < u1 := by rw [← hu1]; exact hS5.lt
        have hlt2 : g < u1 := by omega
        go_wp2_with fail
        have hba : Below w13.heap.size w13 (w13.alloc (.cells #[.int .u64 sx] 33)) := (Below.refl _ _).alloc (Nat.le_refl _) _
        have hSa := hS5.step hba
        have hca1 := hS5.cell hba (Nat.le_add_right _ _) hc7
        have hca2 := hS5.cell hba (Nat.le_refl _) hc8
        have hca3 : (w13.alloc (.cells #[.int .u64 sx] 33)).cell? ⟨u1, 0, none⟩ = some (.int .u64 sx) := by rw [World.cell?_alloc_at _ _ _ _ hu1.symm]; rfl
        have hl3 : u1 < (w13.alloc (.cells #[.int .u64 sx] 33)).heap.size := by simp [hu1]
        refine (k14 _ hSa.tab).mono ?_
        generalize w13.alloc (.cells #[.int .u64 sx] 33) = wc at *
        clear hba hc7 hc8 hS5 hu1
        rintro e w14 ⟨rfl, hb⟩
        have hc5 := hSa.cell hb (Nat.le_add_right _ _) hca1
        have hc6 := hSa.cell hb (Nat.le_refl _) hca2
        have hc7 := keepc hb hl3 hca3
        have hl4 : u1 < w14.heap.size := Nat.lt_of_lt_of_le hl3 hb.size
        have hS4 := hSa.step hb
        clear hca1 hca2 hca3 hl3 hSa hb
        obtain ⟨u2, hu2⟩ : ∃ u, w14.heap.size = u := ⟨_, rfl⟩
        rw [hu2] at hl4
        have kc := fun W => bytes_run W s
        obtain ⟨t, ht⟩ : ∃ t : Nat, (t : Int) = a % (s.size : Int) := ⟨(a % (s.size : Int)).toNat, by have := Int.emod_nonneg a (show (s.size : Int) ≠ 0 by omega); omega⟩
        have ht2 : (t : Int) < s.size := by rw [ht]; exact Int.emod_lt_of_pos a (by omega)
        have hmod : Int.tmod a (s.size : Int) = (t : Int) := by rw [ht]; exact Int.tmod_eq_emod_of_nonneg ha0
        clear ht
        have hw0 : (w14.alloc (.cells #[.int .u64 sy] 33)).heap.size = u2 + 1 := by simp [hu2]
        have htl : t < s.data.toList.length := by
          have : s.size = s.data.size := rfl
          rw [Array.length_toList]; omega
        have hba : Below w14.heap.size w14 (w14.alloc (.cells #[.int .u64 sy] 33)) := (Below.refl _ _).alloc (Nat.le_refl _) _
        have hbn := new_below (w14.alloc (.cells #[.int .u64 sy] 33)) s
        have hn1 := hS4.cell hba (Nat.le_add_right _ _) hc5
        have hn2 := hS4.cell hba (Nat.le_refl _) hc6
        have hn3 := keepc hba (by rw [hu2]; exact hl4) hc7
        have hn4 : (w14.alloc (.cells #[.int .u64 sy] 33)).cell? ⟨u2, 0, none⟩ = some (.int .u64 sy) := by rw [World.cell?_alloc_at _ _ _ _ hu2.symm]; rfl
        have hSn := hS4.step hba
        have hm1 := hSn.cell hbn (Nat.le_add_right _ _) hn1
        have hm2 := hSn.cell hbn (Nat.le_refl _) hn2
        have hm3 := keepc hbn (by rw [hw0]; omega) hn3
        have hm4 := keepc hbn (by rw [hw0]; omega) hn4
        have hSm := hSn.step hbn
        have hms := new_size (w14.alloc (.cells #[.int .u64 sy] 33)) s
        rw [hw0] at hms
        have hmc := new_cell _ s (u2 + 1) t hw0 htl
        have hmf := new_free _ s (u2 + 1) t hw0 htl
        have HC := Lib.hid (fun j hj => new_cell _ s (u2 + 1) j hw0 hj)
        have hB0 := s.data.toList[t].toNat_lt
        have HB : Hid (∃ B : UInt8, s.data.toList[t] = B) := ⟨_, rfl⟩
        clear hba hbn hn1 hn2 hn3 hn4 hSn hc5 hc6 hc7 hS4
        generalize hB : s.data.toList[t] = B at *
        have HB2 := Lib.hid hB
        clear hB HB
        obtain ⟨v, hvb, hrun⟩ := back_turned _ s (u2 + 1) t (CapOf (w14.alloc (.cells #[.int .u64 sy] 33)) s) B b hb0 hb1 HC.out htl HB2.out
        obtain ⟨so, k16, hso⟩ := k15 t v htl
        have hso2 : sx = so ↔ b = 0 := hso.trans hvb
        clear hso k15 HC HB2
        generalize (⟨(s.data.toList.set t v).toArray⟩ : ByteArray) = s2 at *
        have hle := hSm.le
        have hbt : Below w.heap.size w ((NewW (w14.alloc (.cells #[.int .u64 sy] 33)) s).setCell ⟨u2 + 1, t, none⟩ (.int .u8 (bits .xor .u8 B.toNat b))) := hSm.below.setCell (by show w.heap.size ≤ u2 + 1; omega) _
        have hr3 : ((NewW (w14.alloc (.cells #[.int .u64 sy] 33)) s).setCell ⟨u2 + 1, t, none⟩ (.int .u8 (bits .xor .u8 B.toNat b))).cell? ⟨u1, 0, none⟩ = some (.int .u64 sx) := by
          rw [World.cell?_setCell_other (h := fun hh => by have := congrArg Addr.block hh; simp at this <;> omega)]; exact hm3
        have hr4 : ((NewW (w14.alloc (.cells #[.int .u64 sy] 33)) s).setCell ⟨u2 + 1, t, none⟩ (.int .u8 (bits .xor .u8 B.toNat b))).cell? ⟨u2, 0, none⟩ = some (.int .u64 sy) := by
          rw [World.cell?_setCell_other (h := fun hh => by have := congrArg Addr.block hh; simp at this <;> omega)]; exact hm4
        have hr1 : ((NewW (w14.alloc (.cells #[.int .u64 sy] 33)) s).setCell ⟨u2 + 1, t, none⟩ (.int .u8 (bits .xor .u8 B.toNat b))).cell? ⟨g, 0, none⟩ = some (.int .u64 x) := by
          rw [World.cell?_setCell_other (h := fun hh => by have := congrArg Addr.block hh; simp at this <;> omega)]; exact hm1
        have hrs : ((NewW (w14.alloc (.cells #[.int .u64 sy] 33)) s).setCell ⟨u2 + 1, t, none⟩ (.int .u8 (bits .xor .u8 B.toNat b))).heap.size = u2 + 1 + 1 := by rw [size_setCell]; exact hms
        have hSt : SA w ((NewW (w14.alloc (.cells #[.int .u64 sy] 33)) s).setCell ⟨u2 + 1, t, none⟩ (.int .u8 (bits .xor .u8 B.toNat b))) := ⟨hT.below hbt hT.pos, hbt⟩
        clear hbt
        clear hvb
        go_wp2_with fail
        generalize (NewW (w14.alloc (.cells #[.int .u64 sy] 33)) s).setCell ⟨u2 + 1, t, none⟩ (.int .u8 (bits .xor .u8 B.toNat b)) = wt at *
        refine (k16 _ hSt.tab).mono ?_
        rintro e w15 ⟨rfl, hb⟩
        have hq3 := keepc hb (by rw [hrs]; omega) hr3
        have hq4 := keepc hb (by rw [hrs]; omega) hr4
        have hSu := hSt.step hb
        have hsz := hb.size
        rw [hrs] at hsz
        obtain ⟨u3, hu3⟩ : ∃ u, w15.heap.size = u := ⟨_, rfl⟩
        rw [hu3] at hsz
        clear hb hr1 hr3 hr4 hrs hSt
        have hg1 : u1 < u3 := by omega
        have hg2 : u2 < u3 := by omega
        have hSv := hSu.alloc (.cells #[.int .u64 so] 33)
        by_cases hbz : b = 0
        · have f1 : (sx == so) = true := beq_iff_eq.2 (hso2.2 hbz)
          have f2 : (b == 0) = true := beq_iff_eq.2 hbz
          clear hso2
          go_wp2_with fail
          go_ret
          exact ⟨by simp, hSv.below⟩
        · have f1 : (sx == so) = false := beq_eq_false_iff_ne.2 (fun hh => hbz (hso2.1 hh))
          have f2 : (b == 0) = false := beq_eq_false_iff_ne.2 hbz
          clear hso2
          go_wp2_with fail
          go_ret
          exact ⟨by simp, hSv.below⟩
      · go_wp2_with fail
        go_ret
        exact ⟨by simp, hS4.below⟩
      · go_wp2_with fail
        go_ret
        exact ⟨by simp, hS4.below⟩
end Go.Proofs.YtkcifgnlkdicgaaDoor.Sd
