/-
  SeedSmall: the small cases, all at once: by the contracts of its parts.
-/
import Derived.Test.YtkcifgnlkdicgaaDoorSdAw
import Derived.Test.YtkcifgnlkdicgaaDoorSdR1
import Derived.Test.YtkcifgnlkdicgaaDoorSdTells
import Derived.Test.YtkcifgnlkdicgaaDoorSdDraws
import Derived.Test.YtkcifgnlkdicgaaDoorSdWeighs
namespace Go.Proofs.YtkcifgnlkdicgaaDoor.Sd
open Go Go.RowKit
set_option linter.unusedVariables false
set_option linter.unusedSimpArgs false
theorem wr64_lo (n : Int) : -9223372036854775808 ≤ wrap64 n := by unfold wrap64; omega
theorem wr64_hi (n : Int) : wrap64 n ≤ 9223372036854775807 := by unfold wrap64; omega
theorem rests_c (x n : Int) (w : World) (hx0 : 0 ≤ x) (hx1 : x < 18446744073709551616) (h2 : n ≤ 9223372036854775807) :
    Calls Tryd.prog 16 #[.int .u64 x, .int .i64 n] w fun e w' => e = .returned (.bool true) ∧ w = w' := by
  have hp : ∃ a b, (∀ w, Calls Tryd.prog 18 #[.int .u64 x, .int .i64 n] w fun e w' => e = .returned (.tuple #[.int .i64 a, .bool b]) ∧ w = w') ∧
      (∀ w, Calls Tryd.prog 43 #[.int .u64 x, .int .i64 n] w fun e w' => e = .returned (.tuple #[.int .i64 a, .bool b]) ∧ w = w') := by
    by_cases h : n < 1
    · exact ⟨0, false, fun w => rest_no_c x n w h, fun w => rrest_no_c x n w h⟩
    · exact ⟨_, _, fun w => rest_c x n w hx0 hx1 (by omega) h2, fun w => rrest_c x n w hx0 hx1 (by omega) h2⟩
  obtain ⟨a, b, hA, hB⟩ := hp
  have HA := Lib.hid hA
  have HB := Lib.hid hB
  clear hA hB
  go_enter Tryd.func16, Tryd.ntmps16
  go_wp2_with fail
  refine (HA.out _).mono ?_
  rintro e w1 ⟨rfl, rfl⟩
  go_wp2_with fail
  refine (HB.out _).mono ?_
  rintro e w2 ⟨rfl, rfl⟩
  go_wp2_with fail
  go_ret
  exact ⟨by simp, rfl⟩
/-- The table, and what was there before. -/
def SM (w W : World) : Prop := Tab W ∧ Below w.heap.size w W
theorem SM.tab {w W : World} (h : SM w W) : Tab W := h.1
theorem SM.below {w W : World} (h : SM w W) : Below w.heap.size w W := h.2
theorem SM.start {w : World} (h : Tab w) : SM w w := ⟨h, Below.refl _ _⟩
theorem SM.step {w W W' : World} (h : SM w W) (hb : Below W.heap.size W W') : SM w W' :=
  ⟨h.1.below hb h.1.pos, h.2.trans (hb.mono h.2.size)⟩
theorem SM.alloc {w W : World} (h : SM w W) (o : Obj) : SM w (W.alloc o) := h.step ((Below.refl _ _).alloc (Nat.le_refl _) _)
/-- A block of integers. -/
def IRow (n g : Nat) (W : World) : Prop := g < W.heap.size ∧ ∀ q, q < n → ∃ i : Int, W.cell? ⟨g, q, none⟩ = some (.int .i64 i)
theorem IRow.below {n g : Nat} {W W' : World} (h : IRow n g W) (hb : Below W.heap.size W W') : IRow n g W' :=
  ⟨Nat.lt_of_lt_of_le h.1 hb.size, fun q hq => by rw [hb.cell (p := ⟨g, q, none⟩) h.1]; exact h.2 q hq⟩
theorem IRow.start (W : World) (xs : List Int) (T : TypeId) (g : Nat) (hg : W.heap.size = g) : IRow xs.length g (W.alloc (.cells (xs.map (Value.int .i64)).toArray T)) := by
  subst hg
  refine ⟨by simp, fun q hq => ⟨xs.getD q 0, ?_⟩⟩
  rw [World.cell?_alloc_at _ _ _ _ rfl]
  simp [List.getD_eq_getElem?_getD, hq]
def SmRow (w : World) (n g : Nat) (x : Value) (wr : World) : Prop := ∃ q : Nat, x = .int .i64 (q : Int) ∧ q ≤ n ∧ SM w wr ∧ IRow n g wr
def SmName (w : World) (s x : Value) (wr : World) : Prop := ∃ (b : ByteArray) (q : Nat), s = .string b ∧ x = .int .i64 (q : Int) ∧ b.size = q ∧ q ≤ 35 ∧ SM w wr
def SmInt (w : World) (lo hi : Int) (x : Value) (wr : World) : Prop := ∃ n : Int, x = .int .i64 n ∧ lo ≤ n ∧ n ≤ hi ∧ SM w wr
def SmU64 (w : World) (hi : Int) (x : Value) (wr : World) : Prop := ∃ n : Int, x = .int .u64 n ∧ 0 ≤ n ∧ n ≤ hi ∧ SM w wr
theorem Row.comes {w : World} {g n cap : Nat} {xs : List Int} (h : Row w g xs) (hn : n = xs.length) : In w (.slice (some ⟨g, 0, none⟩) n cap) xs := by
  subst hn
  exact .inr ⟨⟨g, 0, none⟩, cap, rfl, fun q hq => ⟨h.lt, by rw [add_at, Nat.zero_add]; exact h.cell q hq⟩, .inr rfl⟩
theorem Row.comesTo {w : World} {g n cap : Nat} {xs : List Int} (h : Row w g xs) (hn : n ≤ xs.length) : In w (.slice (some ⟨g, 0, none⟩) n cap) (xs.take n) := by
  refine .inr ⟨⟨g, 0, none⟩, cap, by rw [List.length_take, Nat.min_eq_left hn], fun q hq => ⟨h.lt, ?_⟩, .inr rfl⟩
  rw [List.length_take] at hq
  rw [add_at, Nat.zero_add, h.cell q (by omega)]
  congr 2
  simp [List.getD_eq_getElem?_getD, List.getElem?_take, show q < n by omega]
theorem In.alloc {w : World} {v : Value} {xs : List Int} (h : In w v xs) (o : Obj) : In (w.alloc o) v xs := h.below ((Below.refl _ _).alloc (Nat.le_refl _) o) (Nat.le_refl _)
theorem lit_in (w : World) (xs : List Int) (T : TypeId) (g : Nat) (hg : w.heap.size = g) : In (w.alloc (.cells (xs.map (Value.int .i64)).toArray T)) (.slice (some ⟨g, 0, none⟩) xs.length xs.length) xs := by
  subst hg
  refine .inr ⟨⟨w.heap.size, 0, none⟩, _, rfl, fun q hq => ⟨by show w.heap.size < _; simp, ?_⟩, .inr rfl⟩
  rw [add_at, Nat.zero_add, World.cell?_alloc_at _ _ _ _ rfl]
  simp [List.getD_eq_getElem?_getD, hq]
/-- A block of slices of integers. -/
def VRow (n g : Nat) (W : World) : Prop := g < W.heap.size ∧ ∀ q, q < n → ∃ v xs, W.cell? ⟨g, q, none⟩ = some v ∧ In W v xs ∧ xs.length ≤ 1001
theorem VRow.below {n g : Nat} {W W' : World} (h : VRow n g W) (hb : Below W.heap.size W W') : VRow n g W' :=
  ⟨Nat.lt_of_lt_of_le h.1 hb.size, fun q hq => by
    obtain ⟨v, xs, h1, h2, h3⟩ := h.2 q hq
    exact ⟨v, xs, by rw [hb.cell (p := ⟨g, q, none⟩) h.1]; exact h1, h2.below hb (Nat.le_refl _), h3⟩⟩
theorem VRow.start (W : World) (vs : List (Value × List Int)) (T : TypeId) (g : Nat) (hg : W.heap.size = g) (hin : ∀ p ∈ vs, In W p.1 p.2 ∧ p.2.length ≤ 1001) : VRow vs.length g (W.alloc (.cells (vs.map Prod.fst).toArray T)) := by
  subst hg
  refine ⟨by simp, fun q hq => ?_⟩
  obtain ⟨h1, h2⟩ := hin vs[q] (List.getElem_mem hq)
  refine ⟨vs[q].1, vs[q].2, ?_, h1.alloc _, h2⟩
  rw [World.cell?_alloc_at _ _ _ _ rfl]
  simp [hq]
def SmRows (w : World) (n g : Nat) (x : Value) (wr : World) : Prop := ∃ q : Nat, x = .int .i64 (q : Int) ∧ q ≤ n ∧ SM w wr ∧ VRow n g wr
def SmRowsI (w : World) (n g : Nat) (v : Value) (xs : List Int) (x : Value) (wr : World) : Prop := ∃ q : Int, x = .int .i64 q ∧ -1 ≤ q ∧ q ≤ 3 ∧ SM w wr ∧ VRow n g wr ∧ In wr v xs
set_option maxRecDepth 100000 in
set_option maxHeartbeats 2000000 in
theorem lists_c (w : World) (hT : Tab w) :
    Calls Tryd.prog 17 #[] w fun e w' => e = .returned (.bool true) ∧ Below w.heap.size w w' := by
  have hM := SM.start hT
  obtain ⟨g, hg⟩ : ∃ g, w.heap.size = g := ⟨_, rfl⟩
  have hmk : ∀ W : World, (Instr.makeSlice 26 (.int .i64 1001) (.int .i64 1001)).run Tryd.prog W = .ok (.slice (some ⟨W.heap.size, 0, none⟩) 1001 1001) (W.alloc (.cells (zer 1001) 3)) := fun W => make_ints 1001 1001 (by omega) (by omega) W
  have hrow := Row.made w 1001
  rw [hg] at hrow
  have hM1 := hM.alloc (.cells (zer 1001) 3)
  have hlen : (List.replicate 1001 (0 : Int)).length = 1001 := List.length_replicate
  generalize List.replicate 1001 (0 : Int) = xs at *
  go_enter Tryd.func17, Tryd.ntmps17
  go_wp2_with fail
  generalize w.alloc (.cells (zer 1001) 3) = wa at *
  clear hM
  refine (weighs_c 1 0 xs _ _ hM1.tab (hrow.comes (n := 1001) (cap := 1001) hlen.symm) (by decide) (by decide) (by omega)).mono ?_
  rintro e w1 ⟨rfl, hb⟩
  have hM2 := hM1.step hb
  have hrow2 := hrow.below hb hrow.lt
  clear hM1 hrow hb
  go_wp2_with fail
  refine (weighs_c 1 0 (xs.take 1000) _ _ hM2.tab (hrow2.comesTo (n := 1000) (cap := 1001) (by omega)) (by decide) (by decide) (by rw [List.length_take]; omega)).mono ?_
  rintro e w2 ⟨rfl, hb⟩
  have hM3 := hM2.step hb
  have hrow3 := hrow2.below hb hrow2.lt
  clear hM2 hrow2 hb
  have hcell := hrow3.cell 999 (by omega)
  have hfree := hrow3.free 999 (by omega)
  have hgs := hrow3.lt
  obtain ⟨d, hd⟩ : ∃ d, w2.heap.size = d := ⟨_, rfl⟩
  go_wp2_with fail
  have hset := hrow3.set 999 (by omega) 1
  have hB4 : Below w.heap.size w (w2.setCell ⟨g, 999, none⟩ (.int .i64 1)) := hM3.below.setCell (by show w.heap.size ≤ g; omega) _
  have hM4 : SM w (w2.setCell ⟨g, 999, none⟩ (.int .i64 1)) := ⟨hT.below hB4 hT.pos, hB4⟩
  have hd4 : (w2.setCell ⟨g, 999, none⟩ (.int .i64 1)).heap.size = d := by rw [size_setCell]; exact hd
  have hl4 : (xs.set 999 1).length = 1001 := by simp [hlen]
  clear hM3 hrow3 hcell hfree hB4 hd hgs hg hmk hlen
  generalize w2.setCell ⟨g, 999, none⟩ (.int .i64 1) = w3 at *
  generalize xs.set 999 1 = ys at *
  have r1 := (hset.comesTo (n := 1000) (cap := 1001) (by omega))
  have r2 := (hset.comes (n := 1001) (cap := 1001) hl4.symm)
  have t1 : (ys.take 1000).length ≤ 1001 := by rw [List.length_take]; omega
  have a1 := lit_in w3 [0] 3 d hd4
  have n1 : (w3.alloc (.cells #[.int .i64 0] 3)).heap.size = d + 1 := by simp [hd4]
  have hM5 := hM4.alloc (.cells #[.int .i64 0] 3)
  have r1 := r1.alloc (.cells #[.int .i64 0] 3)
  have r2 := r2.alloc (.cells #[.int .i64 0] 3)
  change In (w3.alloc (.cells #[.int .i64 0] 3)) _ _ at a1
  generalize w3.alloc (.cells #[.int .i64 0] 3) = w4 at *
  have a2 := lit_in w4 [1] 3 _ n1
  change In (w4.alloc (.cells #[.int .i64 1] 3)) _ _ at a2
  have n2 : (w4.alloc (.cells #[.int .i64 1] 3)).heap.size = d + 1 + 1 := by simp [n1]
  have hM6 := hM5.alloc (.cells #[.int .i64 1] 3)
  have r1 := r1.alloc (.cells #[.int .i64 1] 3)
  have r2 := r2.alloc (.cells #[.int .i64 1] 3)
  have a1 := a1.alloc (.cells #[.int .i64 1] 3)
  generalize w4.alloc (.cells #[.int .i64 1] 3) = w5 at *
  have a3 := lit_in w5 [-1, 5] 3 _ n2
  change In (w5.alloc (.cells #[.int .i64 (-1), .int .i64 5] 3)) _ _ at a3
  have n3 : (w5.alloc (.cells #[.int .i64 (-1), .int .i64 5] 3)).heap.size = d + 1 + 1 + 1 := by simp [n2]
  have hM7 := hM6.alloc (.cells #[.int .i64 (-1), .int .i64 5] 3)
  have r1 := r1.alloc (.cells #[.int .i64 (-1), .int .i64 5] 3)
  have r2 := r2.alloc (.cells #[.int .i64 (-1), .int .i64 5] 3)
  have a1 := a1.alloc (.cells #[.int .i64 (-1), .int .i64 5] 3)
  have a2 := a2.alloc (.cells #[.int .i64 (-1), .int .i64 5] 3)
  generalize w5.alloc (.cells #[.int .i64 (-1), .int .i64 5] 3) = w6 at *
  have a4 := lit_in w6 [5, -1] 3 _ n3
  change In (w6.alloc (.cells #[.int .i64 5, .int .i64 (-1)] 3)) _ _ at a4
  have n4 : (w6.alloc (.cells #[.int .i64 5, .int .i64 (-1)] 3)).heap.size = d + 1 + 1 + 1 + 1 := by simp [n3]
  have hM8 := hM7.alloc (.cells #[.int .i64 5, .int .i64 (-1)] 3)
  have r1 := r1.alloc (.cells #[.int .i64 5, .int .i64 (-1)] 3)
  have r2 := r2.alloc (.cells #[.int .i64 5, .int .i64 (-1)] 3)
  have a1 := a1.alloc (.cells #[.int .i64 5, .int .i64 (-1)] 3)
  have a2 := a2.alloc (.cells #[.int .i64 5, .int .i64 (-1)] 3)
  have a3 := a3.alloc (.cells #[.int .i64 5, .int .i64 (-1)] 3)
  generalize w6.alloc (.cells #[.int .i64 5, .int .i64 (-1)] 3) = w7 at *
  have a5 := lit_in w7 [1099511627776] 3 _ n4
  change In (w7.alloc (.cells #[.int .i64 1099511627776] 3)) _ _ at a5
  have n5 : (w7.alloc (.cells #[.int .i64 1099511627776] 3)).heap.size = d + 1 + 1 + 1 + 1 + 1 := by simp [n4]
  have hM9 := hM8.alloc (.cells #[.int .i64 1099511627776] 3)
  have r1 := r1.alloc (.cells #[.int .i64 1099511627776] 3)
  have r2 := r2.alloc (.cells #[.int .i64 1099511627776] 3)
  have a1 := a1.alloc (.cells #[.int .i64 1099511627776] 3)
  have a2 := a2.alloc (.cells #[.int .i64 1099511627776] 3)
  have a3 := a3.alloc (.cells #[.int .i64 1099511627776] 3)
  have a4 := a4.alloc (.cells #[.int .i64 1099511627776] 3)
  generalize w7.alloc (.cells #[.int .i64 1099511627776] 3) = w8 at *
  have a6 := lit_in w8 [1099511627777] 3 _ n5
  change In (w8.alloc (.cells #[.int .i64 1099511627777] 3)) _ _ at a6
  have n6 : (w8.alloc (.cells #[.int .i64 1099511627777] 3)).heap.size = d + 1 + 1 + 1 + 1 + 1 + 1 := by simp [n5]
  have hM10 := hM9.alloc (.cells #[.int .i64 1099511627777] 3)
  have r1 := r1.alloc (.cells #[.int .i64 1099511627777] 3)
  have r2 := r2.alloc (.cells #[.int .i64 1099511627777] 3)
  have a1 := a1.alloc (.cells #[.int .i64 1099511627777] 3)
  have a2 := a2.alloc (.cells #[.int .i64 1099511627777] 3)
  have a3 := a3.alloc (.cells #[.int .i64 1099511627777] 3)
  have a4 := a4.alloc (.cells #[.int .i64 1099511627777] 3)
  have a5 := a5.alloc (.cells #[.int .i64 1099511627777] 3)
  generalize w8.alloc (.cells #[.int .i64 1099511627777] 3) = w9 at *
  have a7 := lit_in w9 [0, 0, 3] 3 _ n6
  change In (w9.alloc (.cells #[.int .i64 0, .int .i64 0, .int .i64 3] 3)) _ _ at a7
  have n7 : (w9.alloc (.cells #[.int .i64 0, .int .i64 0, .int .i64 3] 3)).heap.size = d + 1 + 1 + 1 + 1 + 1 + 1 + 1 := by simp [n6]
  have hM11 := hM10.alloc (.cells #[.int .i64 0, .int .i64 0, .int .i64 3] 3)
  have r1 := r1.alloc (.cells #[.int .i64 0, .int .i64 0, .int .i64 3] 3)
  have r2 := r2.alloc (.cells #[.int .i64 0, .int .i64 0, .int .i64 3] 3)
  have a1 := a1.alloc (.cells #[.int .i64 0, .int .i64 0, .int .i64 3] 3)
  have a2 := a2.alloc (.cells #[.int .i64 0, .int .i64 0, .int .i64 3] 3)
  have a3 := a3.alloc (.cells #[.int .i64 0, .int .i64 0, .int .i64 3] 3)
  have a4 := a4.alloc (.cells #[.int .i64 0, .int .i64 0, .int .i64 3] 3)
  have a5 := a5.alloc (.cells #[.int .i64 0, .int .i64 0, .int .i64 3] 3)
  have a6 := a6.alloc (.cells #[.int .i64 0, .int .i64 0, .int .i64 3] 3)
  generalize w9.alloc (.cells #[.int .i64 0, .int .i64 0, .int .i64 3] 3) = w10 at *
  have a8 := lit_in w10 [1, 1, 1] 3 _ n7
  change In (w10.alloc (.cells #[.int .i64 1, .int .i64 1, .int .i64 1] 3)) _ _ at a8
  have n8 : (w10.alloc (.cells #[.int .i64 1, .int .i64 1, .int .i64 1] 3)).heap.size = d + 1 + 1 + 1 + 1 + 1 + 1 + 1 + 1 := by simp [n7]
  have hM12 := hM11.alloc (.cells #[.int .i64 1, .int .i64 1, .int .i64 1] 3)
  have r1 := r1.alloc (.cells #[.int .i64 1, .int .i64 1, .int .i64 1] 3)
  have r2 := r2.alloc (.cells #[.int .i64 1, .int .i64 1, .int .i64 1] 3)
  have a1 := a1.alloc (.cells #[.int .i64 1, .int .i64 1, .int .i64 1] 3)
  have a2 := a2.alloc (.cells #[.int .i64 1, .int .i64 1, .int .i64 1] 3)
  have a3 := a3.alloc (.cells #[.int .i64 1, .int .i64 1, .int .i64 1] 3)
  have a4 := a4.alloc (.cells #[.int .i64 1, .int .i64 1, .int .i64 1] 3)
  have a5 := a5.alloc (.cells #[.int .i64 1, .int .i64 1, .int .i64 1] 3)
  have a6 := a6.alloc (.cells #[.int .i64 1, .int .i64 1, .int .i64 1] 3)
  have a7 := a7.alloc (.cells #[.int .i64 1, .int .i64 1, .int .i64 1] 3)
  generalize w10.alloc (.cells #[.int .i64 1, .int .i64 1, .int .i64 1] 3) = w11 at *
  have HV : VRow 11 (d + 1 + 1 + 1 + 1 + 1 + 1 + 1 + 1) (w11.alloc (.cells #[.slice none 0 0, .slice (some ⟨d, 0, none⟩) 1 1, .slice (some ⟨d + 1, 0, none⟩) 1 1, .slice (some ⟨d + 1 + 1, 0, none⟩) 2 2, .slice (some ⟨d + 1 + 1 + 1, 0, none⟩) 2 2, .slice (some ⟨d + 1 + 1 + 1 + 1, 0, none⟩) 1 1, .slice (some ⟨d + 1 + 1 + 1 + 1 + 1, 0, none⟩) 1 1, .slice (some ⟨d + 1 + 1 + 1 + 1 + 1 + 1, 0, none⟩) 3 3, .slice (some ⟨d + 1 + 1 + 1 + 1 + 1 + 1 + 1, 0, none⟩) 3 3, .slice (some ⟨g, 0, none⟩) 1000 1001, .slice (some ⟨g, 0, none⟩) 1001 1001] 26)) := by
    refine VRow.start w11 [(.slice none 0 0, []), (.slice (some ⟨d, 0, none⟩) 1 1, [0]), (.slice (some ⟨d + 1, 0, none⟩) 1 1, [1]), (.slice (some ⟨d + 1 + 1, 0, none⟩) 2 2, [-1, 5]), (.slice (some ⟨d + 1 + 1 + 1, 0, none⟩) 2 2, [5, -1]), (.slice (some ⟨d + 1 + 1 + 1 + 1, 0, none⟩) 1 1, [1099511627776]), (.slice (some ⟨d + 1 + 1 + 1 + 1 + 1, 0, none⟩) 1 1, [1099511627777]), (.slice (some ⟨d + 1 + 1 + 1 + 1 + 1 + 1, 0, none⟩) 3 3, [0, 0, 3]), (.slice (some ⟨d + 1 + 1 + 1 + 1 + 1 + 1 + 1, 0, none⟩) 3 3, [1, 1, 1]), (.slice (some ⟨g, 0, none⟩) 1000 1001, ys.take 1000), (.slice (some ⟨g, 0, none⟩) 1001 1001, ys)] 26 _ n8 ?_
    simp only [List.forall_mem_cons]
    exact ⟨⟨.inl ⟨rfl, rfl⟩, by decide⟩, ⟨a1, by decide⟩, ⟨a2, by decide⟩, ⟨a3, by decide⟩, ⟨a4, by decide⟩, ⟨a5, by decide⟩, ⟨a6, by decide⟩, ⟨a7, by decide⟩, ⟨a8, by decide⟩, ⟨r1, t1⟩, ⟨r2, by omega⟩, fun _ h => by cases h⟩
  have HM := hM12.alloc (.cells #[.slice none 0 0, .slice (some ⟨d, 0, none⟩) 1 1, .slice (some ⟨d + 1, 0, none⟩) 1 1, .slice (some ⟨d + 1 + 1, 0, none⟩) 2 2, .slice (some ⟨d + 1 + 1 + 1, 0, none⟩) 2 2, .slice (some ⟨d + 1 + 1 + 1 + 1, 0, none⟩) 1 1, .slice (some ⟨d + 1 + 1 + 1 + 1 + 1, 0, none⟩) 1 1, .slice (some ⟨d + 1 + 1 + 1 + 1 + 1 + 1, 0, none⟩) 3 3, .slice (some ⟨d + 1 + 1 + 1 + 1 + 1 + 1 + 1, 0, none⟩) 3 3, .slice (some ⟨g, 0, none⟩) 1000 1001, .slice (some ⟨g, 0, none⟩) 1001 1001] 26)
  clear a1 a2 a3 a4 a5 a6 a7 a8 r1 r2 n1 n2 n3 n4 n5 n6 n7 n8 hM4 hM5 hM6 hM7 hM8 hM9 hM10 hM11 hM12 hset hl4 t1 hd4
  go_loopw [30] (fun x wr => SmRows w 11 (d + 1 + 1 + 1 + 1 + 1 + 1 + 1 + 1) x wr) (fun x _ => 11 - (intOf x).toNat)
  case atStart => exact ⟨0, rfl, by omega, HM, HV⟩
  case round =>
    clear HM HV
    obtain ⟨q, rfl, hq, hM, hrow⟩ := hrel
    generalize d + 1 + 1 + 1 + 1 + 1 + 1 + 1 + 1 = G at *
    by_cases hlt : q < 11
    · obtain ⟨v, zs, hcell, hin, hzl⟩ := hrow.2 q hlt
      have hlt2 : (q : Int) < 11 := by omega
      go_wp2_with fail
      obtain ⟨wo, rfl⟩ : ∃ wo : World, wo = wr := ⟨_, rfl⟩
      go_loopw [4] (fun x wr => SmRowsI w 11 G v zs x wr) (fun x _ => (3 - intOf x).toNat)
      case atStart => exact ⟨-1, rfl, by omega, by omega, hM, hrow, hin⟩
      case round =>
        clear hM hrow hin hcell
        obtain ⟨i, rfl, hi0, hi1, hM, hrow, hin⟩ := hrel
        by_cases hlt : i < 3
        · go_wp2_with fail
          refine (weighs_c 9 i zs _ _ hM.tab hin (by decide) (by decide) (by omega)).mono ?_
          rintro e w20 ⟨rfl, hb⟩
          have hM1 := hM.step hb
          have hrow1 := hrow.below hb
          have hin1 := hin.below hb (Nat.le_refl _)
          clear hM hb hrow hin
          go_wp2_with fail
          refine (weighs_c 9 _ zs _ _ hM1.tab hin1 (by decide) (by decide) (by omega)).mono ?_
          rintro e w21 ⟨rfl, hb⟩
          have hM2 := hM1.step hb
          have hrow2 := hrow1.below hb
          have hin2 := hin1.below hb (Nat.le_refl _)
          clear hM1 hb hrow1 hin1
          go_wp2_with fail
          exact ⟨⟨i + 1, by go_num, by omega, by omega, hM2, hrow2, hin2⟩, by simp [intOf]; omega⟩
        · go_wp2_with fail
          exact ⟨⟨q + 1, by go_num, by omega, hM, hrow⟩, by simp [intOf]; omega⟩
    · go_wp2_with fail
      refine (draws_c 3 0 1001 1 _ hM.tab (by decide) (by decide) (by decide) (by decide)).mono ?_
      rintro e w20 ⟨rfl, hb⟩
      have hM1 := hM.step hb
      clear hM hb hrow
      go_wp2_with fail
      refine (awake_c _ hM1.tab).mono ?_
      rintro e w21 ⟨rfl, hb⟩
      have hM2 := hM1.step hb
      clear hM1 hb
      go_wp2_with fail
      go_ret
      exact ⟨by simp, hM2.below⟩
set_option maxRecDepth 100000 in
set_option maxHeartbeats 2000000 in
theorem small_c (w : World) (hT : Tab w) :
    Calls Tryd.prog 6 #[] w fun e w' => e = .returned (.bool true) ∧ Below w.heap.size w w' := by
  have hM := SM.start hT
  go_enter Tryd.func6, Tryd.ntmps6
  go_wp2_with fail
  go_loopw [1] (fun x wr => SmInt w (-1) 301 x wr) (fun x _ => (301 - intOf x).toNat)
  case atStart => exact ⟨-1, rfl, by omega, by omega, hM⟩
  case round =>
    clear hM
    obtain ⟨n, rfl, hn0, hn1, hM⟩ := hrel
    by_cases hlt : n ≤ 300
    · go_wp2_with fail
      obtain ⟨wo, rfl⟩ : ∃ wo : World, wo = wr := ⟨_, rfl⟩
      go_loopw [2] (fun x wr => SmU64 w 300 x wr) (fun x _ => (300 - intOf x).toNat)
      case atStart => exact ⟨0, rfl, by omega, by omega, hM⟩
      case round =>
        clear hM
        obtain ⟨v, rfl, hv0, hv1, hM⟩ := hrel
        by_cases hlv : v < 300
        · go_wp2_with fail
          refine (rests_c v n _ hv0 (by omega) (by omega)).mono ?_
          rintro e w1 ⟨rfl, rfl⟩
          go_wp2_with fail
          refine (rests_c _ n _ (xor_lo _ _) (xor_hi _ _) (by omega)).mono ?_
          rintro e w1 ⟨rfl, rfl⟩
          go_wp2_with fail
          exact ⟨⟨v + 1, by go_num, by omega, by omega, hM⟩, by simp [intOf]; omega⟩
        · go_wp2_with fail
          exact ⟨⟨n + 1, by go_num, by omega, by omega, hM⟩, by simp [intOf]; omega⟩
    · have e : n = 301 := by omega
      subst e
      clear hn0 hn1 hlt
      go_wp2_with fail
      go_loopw [3] (fun x wr => SmInt w 0 64 x wr) (fun x _ => (64 - intOf x).toNat)
      case atStart => exact ⟨0, rfl, by omega, by omega, hM⟩
      case round =>
        clear hM
        obtain ⟨k, rfl, hk0, hk1, hM⟩ := hrel
        by_cases hlt : k < 64
        · go_wp2_with fail
          obtain ⟨wo, rfl⟩ : ∃ wo : World, wo = wr := ⟨_, rfl⟩
          go_loopw [4] (fun x wr => SmInt w (-3) 4 x wr) (fun x _ => (4 - intOf x).toNat)
          case atStart => exact ⟨-3, rfl, by omega, by omega, hM⟩
          case round =>
            clear hM
            obtain ⟨d, rfl, hd0, hd1, hM⟩ := hrel
            by_cases hlt : d ≤ 3
            · go_wp2_with fail
              have N0 := wr64_lo (IntKind.u64.wrap (IntKind.u64.wrap (2 ^ k.toNat) + IntKind.u64.wrap d))
              have N1 := wr64_hi (IntKind.u64.wrap (IntKind.u64.wrap (2 ^ k.toNat) + IntKind.u64.wrap d))
              generalize wrap64 (IntKind.u64.wrap (IntKind.u64.wrap (2 ^ k.toNat) + IntKind.u64.wrap d)) = N at *
              generalize IntKind.u64.wrap (IntKind.u64.wrap (2 ^ k.toNat) + IntKind.u64.wrap d) = N2 at *
              generalize IntKind.u64.wrap (2 ^ k.toNat) = N3 at *
              generalize IntKind.u64.wrap d = N4 at *
              obtain ⟨wo, rfl⟩ : ∃ wo : World, wo = wr := ⟨_, rfl⟩
              go_loopw [6] (fun x wr => SmU64 w 4 x wr) (fun x _ => (4 - intOf x).toNat)
              case atStart => exact ⟨0, rfl, by omega, by omega, hM⟩
              case round =>
                clear hM
                obtain ⟨v, rfl, hv0, hv1, hM⟩ := hrel
                by_cases hlv : v < 4
                · go_wp2_with fail
                  refine (rests_c v N _ hv0 (by omega) (by omega)).mono ?_
                  rintro e w1 ⟨rfl, rfl⟩
                  go_wp2_with fail
                  refine (rests_c _ N _ (xor_lo _ _) (xor_hi _ _) (by omega)).mono ?_
                  rintro e w1 ⟨rfl, rfl⟩
                  go_wp2_with fail
                  refine (rests_c _ N _ (wrap_lo _) (wrap_hi _) (by omega)).mono ?_
                  rintro e w1 ⟨rfl, rfl⟩
                  go_wp2_with fail
                  refine (rests_c _ N _ (wrap_lo _) (wrap_hi _) (by omega)).mono ?_
                  rintro e w1 ⟨rfl, rfl⟩
                  go_wp2_with fail
                  refine (names_c _ _ N N _ hM.tab (wrap_lo _) (wrap_hi _) (by decide)).mono ?_
                  rintro e w1 ⟨rfl, hb⟩
                  have hM1 := hM.step hb
                  clear hM hb
                  go_wp2_with fail
                  exact ⟨⟨v + 1, by go_num, by omega, by omega, hM1⟩, by simp [intOf]; omega⟩
                · go_wp2_with fail
                  exact ⟨⟨d + 1, by go_num, by omega, by omega, hM⟩, by simp [intOf]; omega⟩
            · go_wp2_with fail
              exact ⟨⟨k + 1, by go_num, by omega, by omega, hM⟩, by simp [intOf]; omega⟩
        · have e : k = 64 := by omega
          subst e
          clear hk0 hk1 hlt
          go_wp2_with fail
          go_loopw [7] (fun x wr => SmU64 w 40 x wr) (fun x _ => (40 - intOf x).toNat)
          case atStart => exact ⟨0, rfl, by omega, by omega, hM⟩
          case round =>
            clear hM
            obtain ⟨y, rfl, hy0, hy1, hM⟩ := hrel
            by_cases hlt : y < 40
            · go_wp2_with fail
              obtain ⟨wo, rfl⟩ : ∃ wo : World, wo = wr := ⟨_, rfl⟩
              go_loopw [8] (fun x wr => SmInt w (-1) 8 x wr) (fun x _ => (8 - intOf x).toNat)
              case atStart => exact ⟨-1, rfl, by omega, by omega, hM⟩
              case round =>
                clear hM
                obtain ⟨n, rfl, hn0, hn1, hM⟩ := hrel
                by_cases hlt : n ≤ 7
                · go_wp2_with fail
                  obtain ⟨wo, rfl⟩ : ∃ wo : World, wo = wr := ⟨_, rfl⟩
                  go_loopw [9] (fun x wr => SmInt w (-1) (n + 2) x wr) (fun x _ => (n + 2 - intOf x).toNat)
                  case atStart => exact ⟨-1, rfl, by omega, by omega, hM⟩
                  case round =>
                    clear hM
                    obtain ⟨c, rfl, hc0, hc1, hM⟩ := hrel
                    by_cases hlt : c ≤ n + 1
                    · obtain ⟨g, hg⟩ : ∃ g, wr.heap.size = g := ⟨_, rfl⟩
                      go_wp2_with fail
                      obtain ⟨wo, rfl⟩ : ∃ wo : World, wo = wr := ⟨_, rfl⟩
                      go_loopw [105] (fun x wr => SmRow w 9 g x wr) (fun x _ => 9 - (intOf x).toNat)
                      case atStart => exact ⟨0, rfl, by omega, hM.alloc _, IRow.start _ [-1, 0, 1, 5, 1099511627770, 1099511627773, 1099511627775, 1099511627776, 1099511627777] _ g hg⟩
                      case round =>
                        clear hM hg
                        obtain ⟨q, rfl, hq, hM, hrow⟩ := hrel
                        by_cases hlt : q < 9
                        · obtain ⟨i, hcell⟩ := hrow.2 q hlt
                          go_wp2_with fail
                          refine (draws_c y i n c _ hM.tab hy0 (by omega) (by omega) (by omega)).mono ?_
                          rintro e w1 ⟨rfl, hb⟩
                          have hM1 := hM.step hb
                          have hrow1 := hrow.below hb
                          clear hM hb hrow hcell
                          go_wp2_with fail
                          exact ⟨⟨q + 1, by go_num, by omega, hM1, hrow1⟩, by simp [intOf]; omega⟩
                        · go_wp2_with fail
                          exact ⟨⟨c + 1, by go_num, by omega, by omega, hM⟩, by simp [intOf]; omega⟩
                    · go_wp2_with fail
                      exact ⟨⟨n + 1, by go_num, by omega, by omega, hM⟩, by simp [intOf]; omega⟩
                · go_wp2_with fail
                  exact ⟨⟨y + 1, by go_num, by omega, by omega, hM⟩, by simp [intOf]; omega⟩
            · have e : y = 40 := by omega
              subst e
              clear hy0 hy1 hlt
              go_wp2_with fail
              go_loopw [12, 116] (fun s x wr => SmName w s x wr) (fun _ x _ => 35 - (intOf x).toNat)
              case atStart => exact ⟨ByteArray.empty, 0, rfl, rfl, rfl, by omega, hM⟩
              case round =>
                clear hM
                obtain ⟨b, q, rfl, rfl, hbs, hq, hM⟩ := hrel
                by_cases hlt : q < 35
                · go_wp2_with fail
                  refine (names_c 7 b 1 1 _ hM.tab (by decide) (by decide) (by omega)).mono ?_
                  rintro e w1 ⟨rfl, hb⟩
                  have hM1 := hM.step hb
                  clear hM hb
                  go_wp2_with fail
                  exact ⟨⟨_, q + 1, rfl, by go_num, by rw [ByteArray.size_append, hbs]; rfl, by omega, hM1⟩, by simp [intOf]; omega⟩
                · go_wp2_with fail
                  refine (lists_c _ hM.tab).mono ?_
                  rintro e w1 ⟨rfl, hb⟩
                  have hM1 := hM.step hb
                  clear hM hb
                  go_wp2_with fail
                  refine (awake_c _ hM1.tab).mono ?_
                  rintro e w2 ⟨rfl, hb⟩
                  have hM2 := hM1.step hb
                  clear hM1 hb
                  go_wp2_with fail
                  go_ret
                  exact ⟨by simp, hM2.below⟩
end Go.Proofs.YtkcifgnlkdicgaaDoor.Sd
