/-
  The contracts of mark, LentInts and KeptInts.
-/
import Derived.Test.YtkcifgnlkdicgaaDoorSdW6
import Derived.Test.YtkcifgnlkdicgaaDoorSdW7
import Derived.Laws.AppendOwnNone
namespace Go.Proofs.YtkcifgnlkdicgaaDoor.Sd
open Go Go.RowKit
set_option linter.unusedVariables false
set_option linter.unusedSimpArgs false
theorem mark_c (i : Int) (w : World) (h0 : 0 ≤ i) (h1 : i ≤ 1000) :
    Calls Tryd.prog 50 #[.int .i64 1, .int .i64 i] w fun e w' => e = .returned (.int .i64 (8000024 + i)) ∧ w' = w := by
  go_enter Tryd.func50, Tryd.ntmps50
  go_wp2
  go_ret
  exact ⟨rfl, rfl⟩
theorem mark_c2 (i : Int) (w : World) (h0 : 0 ≤ i) (h1 : i ≤ 1000) :
    Calls Tryd.prog 50 #[.int .i64 1, .int .i64 i] w fun e w' => e = .returned (.int .i64 (8000024 + i)) ∧ w = w' := (mark_c i w h0 h1).mono fun _ _ ⟨h1, h2⟩ => ⟨h1, h2.symm⟩
def tail12 (q : Nat) : List Int := (List.range q).map fun (i : Nat) => 8000024 + (i : Int)
theorem tail12_len (q : Nat) : (tail12 q).length = q := by simp [tail12]
theorem tail12_step (q : Nat) : tail12 (q + 1) = tail12 q ++ [8000024 + (q : Int)] := by
  unfold tail12; rw [List.range_succ, List.map_append]; rfl
def LentRel (xs : List Int) (base : Nat) (w : World) (v x : Value) (wr : World) : Prop :=
  ∃ q : Nat, x = .int .i64 (q : Int) ∧ q ≤ 12 ∧ wr.ownsRow base 3 1 v (xs.length + q) ((xs ++ tail12 q).map (Value.int .i64)) ∧ Below base w wr
/-- A slice that came in: nil, or a row somewhere. -/
def In (w : World) (v : Value) (xs : List Int) : Prop :=
  (v = .slice none 0 0 ∧ xs = []) ∨ ∃ (a : Addr) (cap : Nat), v = .slice (some a) xs.length cap ∧ (∀ q, q < xs.length → a.block < w.heap.size ∧ w.cell? (a.add q) = some (.int .i64 (xs.getD q 0))) ∧ (xs = [] ∨ a.spot = none)
theorem add_block (a : Addr) (q : Nat) : (a.add q).block = a.block := by unfold Addr.add; split <;> rfl
theorem add_at (g off q : Nat) : (⟨g, off, none⟩ : Addr).add q = ⟨g, off + q, none⟩ := by
  unfold Addr.add
  split
  · rename_i h; rw [h]; rfl
  · rfl
theorem In.reads {w : World} {v : Value} {xs : List Int} (h : In w v xs) : RInts w v xs := by
  rcases h with ⟨rfl, rfl⟩ | ⟨a, cap, rfl, hc, hs⟩
  · exact ⟨none, 0, rfl, .inl rfl⟩
  · refine ⟨_, cap, rfl, ?_⟩
    by_cases he : xs = []
    · exact .inl he
    · have hp : 0 < xs.length := List.length_pos_iff.2 he
      have hs2 := hs.resolve_left he
      obtain ⟨g, off, sp⟩ := a
      have hs3 : sp = none := hs2
      subst hs3
      refine .inr ⟨g, off, rfl, (hc 0 hp).1, fun q hq => ?_⟩
      have := (hc q hq).2
      rw [add_at] at this
      exact this
theorem In.below {B : Nat} {w w' : World} {v : Value} {xs : List Int} (h : In w v xs) (hb : Below B w w') (hB : w.heap.size ≤ B) : In w' v xs := by
  rcases h with h | ⟨a, cap, rfl, hc, hs⟩
  · exact .inl h
  · exact .inr ⟨a, cap, rfl, fun q hq => ⟨Nat.lt_of_lt_of_le (hc q hq).1 hb.size, by rw [hb.cell (p := a.add q) (by rw [add_block]; have := (hc q hq).1; omega)]; exact (hc q hq).2⟩, hs⟩
theorem own_make (w : World) (n : Nat) (h : n ≤ 17592186043916) : (w.alloc (.cells (zer n) 3)).ownsRow w.heap.size 3 1 (.slice (some ⟨w.heap.size, 0, none⟩) 0 n) 0 [] :=
  ⟨rfl, .inr ⟨_, n, zer n, rfl, Nat.le_refl _, World.heap_alloc_at _ _, Nat.zero_le _, by unfold maxLen; omega, by simp [zer, size_madeCells], rfl⟩⟩
theorem own_row {w : World} {base n : Nat} {v : Value} {xs : List Int} (h : w.ownsRow base 3 1 v n (xs.map (Value.int .i64))) (hn : 0 < n) : ∃ g cap, v = .slice (some ⟨g, 0, none⟩) n cap ∧ base ≤ g ∧ n ≤ cap ∧ cap ≤ maxLen ∧ Row w g xs := by
  have hx := (Ints.of_owns h)
  obtain ⟨hl, h⟩ := h
  rcases h with ⟨rfl, h0⟩ | ⟨g, cap, cur, rfl, hg, hb, hc1, hc2, hc3, hc4⟩
  · omega
  · refine ⟨g, cap, rfl, hg, hc1, hc2, ?_⟩
    obtain ⟨a, c, e, h⟩ := hx
    rcases h with rfl | ⟨g2, rfl, _, hr⟩
    · simp at hl; omega
    · simp only [Value.slice.injEq, Option.some.injEq, Addr.mk.injEq] at e
      obtain ⟨⟨rfl, _⟩, _⟩ := e
      exact hr
set_option maxHeartbeats 1000000 in
theorem lent_c (xs : List Int) (v : Value) (w : World) (hv : In w v xs) (hl : xs.length ≤ 17592186043904) :
    Calls Tryd.prog 40 #[v] w fun e w' => ∃ g cap, e = .returned (.slice (some ⟨g, 0, none⟩) xs.length cap) ∧ w.heap.size ≤ g ∧ xs.length + 12 ≤ cap ∧ cap ≤ maxLen ∧ Row w' g (xs ++ tail12 12) ∧ Below w.heap.size w w' := by
  obtain ⟨i0, hi, hz0, hz1, hz2⟩ := info_parts info_int
  have hmk : ∀ W : World, (Instr.makeSlice 26 (.int .i64 0) (.int .i64 ((xs.length : Int) + 12))).run Tryd.prog W = .ok (.slice (some ⟨W.heap.size, 0, none⟩) 0 (xs.length + 12)) (W.alloc (.cells (zer (xs.length + 12)) 3)) := by
    intro W
    have := run_make W 26 3 i0 (.int .i64 0) Tryd.underlying26 hi hz0 .i64 .i64 0 ((xs.length : Int) + 12) (by omega) (by omega) (by rw [hz2]; omega) (by omega)
    rw [this, hz1]
    simp [zer, Value.cells]
    constructor <;> congr 1 <;> omega
  have hown0 := own_make w (xs.length + 12) (by omega)
  have hB0 : Below w.heap.size w (w.alloc (.cells (zer (xs.length + 12)) 3)) := (Below.refl _ _).alloc (Nat.le_refl _) _
  rcases hv with ⟨rfl, rfl⟩ | ⟨ad, cap, rfl, hc, _⟩
  · have hmk12 : ∀ W : World, (Instr.makeSlice 26 (.int .i64 0) (.int .i64 12)).run Tryd.prog W = .ok (.slice (some ⟨W.heap.size, 0, none⟩) 0 12) (W.alloc (.cells (zer 12) 3)) := fun W => hmk W
    clear hmk
    go_enter Tryd.func40, Tryd.ntmps40
    go_wp2_with ((at_builtin; refine wpList_append_own_none rfl _ _ 26 rfl w.heap.size 3 i0 1 Tryd.underlying26 hi _ _ _ rfl hown0 rfl ?_))
    go_loopw [3, 4] (fun v x wr => LentRel ([] : List Int) w.heap.size w v x wr) (fun _ x _ => 12 - (intOf x).toNat)
    case atStart => exact ⟨0, rfl, by omega, hown0, hB0⟩
    case round =>
      obtain ⟨q, rfl, hq, hown, hb⟩ := hrel
      by_cases hlt : q < 12
      · have hws : w.heap.size ≤ wr.heap.size := hb.size
        have hstep := tail12_step q
        have HS : Hid (((([] : List Int) ++ tail12 (q + 1)).map (Value.int .i64)) = ((([] : List Int) ++ tail12 q).map (Value.int .i64)) ++ [.int .i64 (8000024 + (q : Int))]) := by
          show _ = _
          rw [hstep, ← List.append_assoc, List.map_append]; rfl
        clear hstep
        go_wp2_with fail
        refine (mark_c2 (q : Int) _ (by omega) (by omega)).mono ?_
        rintro e w2 ⟨rfl, rfl⟩
        go_wp2_with ((at_builtin; refine wpList_append_own _ rfl _ _ 26 rfl w.heap.size 3 i0 (.int .i64 0) 1 8 Tryd.underlying26 hi hz0 hz1 hz2 rfl (by decide) _ _ _ rfl (hown.alloc _) ⟨wr.heap.size, 0, none⟩ 1 1 [.int .i64 (8000024 + (q : Int))] rfl rfl ?c1 ?c2 ?c3 ?c4 ?c5 ?_))
        case c1 => exact new_one _ _ _
        case c2 => simp [Value.oneCell']
        case c3 => unfold maxLen; omega
        case c4 => omega
        case c5 => simp; omega
        intro v' w1 hown' hgrow _
        have hb1 : Below w.heap.size w w1 := (hb.alloc hws _).grown hgrow (by simp; omega) (own_ge hown)
        have HO : Hid (w1.ownsRow w.heap.size 3 1 v' (([] : List Int).length + (q + 1)) ((([] : List Int) ++ tail12 (q + 1)).map (Value.int .i64))) := by
          show w1.ownsRow _ _ _ _ _ _
          rw [HS.out]; simpa [List.map_append, Nat.add_assoc, List.append_assoc] using hown'
        clear hown' hgrow hown hb
        go_wp2
        exact ⟨⟨q + 1, by go_num, by omega, HO.out, hb1⟩, by simp [intOf]; omega⟩
      · have e : q = 12 := by omega
        subst e
        obtain ⟨g2, cap2, hg2, hbase, hn2, hn3, hrow⟩ := own_row hown (by omega)
        have hc1 : 0 ≤ cap2 := by omega
        have hc2 : cap2 ≤ 9223372036854775807 := by unfold maxLen at hn3; omega
        rw [hg2]
        clear hg2 hown
        go_wp2
        go_ret
        exact ⟨g2, cap2, rfl, hbase, by omega, hn3, hrow, hb⟩
  · go_enter Tryd.func40, Tryd.ntmps40
    have hc2 : ∀ q, q < xs.length → (w.alloc (.cells (zer (xs.length + 12)) 3)).cell? (ad.add q) = some (.int .i64 (xs.getD q 0)) := fun q hq => by rw [hB0.cell (p := ad.add q) (by rw [add_block]; exact (hc q hq).1)]; exact (hc q hq).2
    have HC2 := Lib.hid hc2
    clear hc2 hc
    go_wp2_with ((at_builtin; refine wpList_append_own _ rfl _ _ 26 rfl w.heap.size 3 i0 (.int .i64 0) 1 8 Tryd.underlying26 hi hz0 hz1 hz2 rfl (by decide) _ _ _ rfl hown0 ad xs.length cap (xs.map (Value.int .i64)) rfl ?d0 ?d1 ?d2 ?d3 ?d4 ?d5 ?_))
    case d0 => simp
    case d1 =>
      intro j u hu
      have hj : j < xs.length := by
        have := (List.getElem?_eq_some_iff.1 hu).1
        simpa using this
      rw [List.getElem?_map, List.getElem?_eq_getElem hj] at hu
      simp only [Option.map_some, Option.some.injEq] at hu
      subst hu
      have := HC2.out j hj
      rw [List.getD_eq_getElem?_getD, List.getElem?_eq_getElem hj] at this
      exact this
    case d2 =>
      intro u hu
      obtain ⟨x, _, rfl⟩ := List.mem_map.1 hu
      rfl
    case d3 => unfold maxLen; omega
    case d4 => omega
    case d5 => simp
    intro v' w0 hown1 hgrow _
    have hB1 : Below w.heap.size w w0 := hB0.grown hgrow (by simp) (own_ge hown0)
    have hown2 : w0.ownsRow w.heap.size 3 1 v' (xs.length + 0) ((xs ++ tail12 0).map (Value.int .i64)) := by
      have e : (xs ++ tail12 0) = xs := by simp [tail12]
      rw [e, Nat.add_zero]
      simpa using hown1
    clear hown1 hgrow
    go_wp2_with fail
    go_loopw [3, 4] (fun v x wr => LentRel xs w.heap.size w v x wr) (fun _ x _ => 12 - (intOf x).toNat)
    case atStart => exact ⟨0, rfl, by omega, hown2, hB1⟩
    case round =>
      obtain ⟨q, rfl, hq, hown, hb⟩ := hrel
      by_cases hlt : q < 12
      · have hws : w.heap.size ≤ wr.heap.size := hb.size
        have hstep := tail12_step q
        have HS : Hid (((xs ++ tail12 (q + 1)).map (Value.int .i64)) = ((xs ++ tail12 q).map (Value.int .i64)) ++ [.int .i64 (8000024 + (q : Int))]) := by
          show _ = _
          rw [hstep, ← List.append_assoc, List.map_append]; rfl
        clear hstep
        go_wp2_with fail
        refine (mark_c2 (q : Int) _ (by omega) (by omega)).mono ?_
        rintro e w2 ⟨rfl, rfl⟩
        go_wp2_with ((at_builtin; refine wpList_append_own _ rfl _ _ 26 rfl w.heap.size 3 i0 (.int .i64 0) 1 8 Tryd.underlying26 hi hz0 hz1 hz2 rfl (by decide) _ _ _ rfl (hown.alloc _) ⟨wr.heap.size, 0, none⟩ 1 1 [.int .i64 (8000024 + (q : Int))] rfl rfl ?c1 ?c2 ?c3 ?c4 ?c5 ?_))
        case c1 => exact new_one _ _ _
        case c2 => simp [Value.oneCell']
        case c3 => unfold maxLen; omega
        case c4 => omega
        case c5 => simp; omega
        intro v' w1 hown' hgrow _
        have hb1 : Below w.heap.size w w1 := (hb.alloc hws _).grown hgrow (by simp; omega) (own_ge hown)
        have HO : Hid (w1.ownsRow w.heap.size 3 1 v' (xs.length + (q + 1)) ((xs ++ tail12 (q + 1)).map (Value.int .i64))) := by
          show w1.ownsRow _ _ _ _ _ _
          rw [HS.out]; simpa [List.map_append, Nat.add_assoc, List.append_assoc] using hown'
        clear hown' hgrow hown hb
        go_wp2
        exact ⟨⟨q + 1, by go_num, by omega, HO.out, hb1⟩, by simp [intOf]; omega⟩
      · have e : q = 12 := by omega
        subst e
        obtain ⟨g2, cap2, hg2, hbase, hn2, hn3, hrow⟩ := own_row hown (by omega)
        have hc1 : xs.length ≤ cap2 := by omega
        have hc2 : cap2 ≤ 9223372036854775807 := by unfold maxLen at hn3; omega
        rw [hg2]
        clear hg2 hown
        go_wp2
        go_ret
        exact ⟨g2, cap2, rfl, hbase, by omega, hn3, hrow, hb⟩
def KeptRel (n : Nat) (w : World) (x : Value) (wr : World) : Prop := ∃ q : Nat, x = .int .i64 (q : Int) ∧ q ≤ n + 12 ∧ Below w.heap.size w wr
theorem row_left {w : World} {g : Nat} {xs : List Int} (h : Row w g (xs ++ tail12 12)) (q : Nat) (hq : q < xs.length) : w.cell? ⟨g, q, none⟩ = some (.int .i64 (xs.getD q 0)) := by
  rw [h.cell q (by simp; omega)]
  simp [List.getD_eq_getElem?_getD, List.getElem?_append_left hq]
theorem row_right {w : World} {g : Nat} {xs : List Int} (h : Row w g (xs ++ tail12 12)) (q : Nat) (hq : q < 12) : w.cell? ⟨g, xs.length + q, none⟩ = some (.int .i64 (8000024 + (q : Int))) := by
  rw [h.cell _ (by simp [tail12]; omega)]
  rw [List.getD_eq_getElem?_getD, List.getElem?_append_right (by omega), Nat.add_sub_cancel_left]
  simp [tail12, hq]
set_option maxHeartbeats 1000000 in
theorem kept_c (xs : List Int) (v : Value) (g cap : Nat) (w : World) (hr : Row w g (xs ++ tail12 12)) (hc : xs.length + 12 ≤ cap) (hc2 : cap ≤ maxLen) (hv : RInts w v xs) (hl : xs.length ≤ 17592186043904) :
    Calls Tryd.prog 42 #[.slice (some ⟨g, 0, none⟩) xs.length cap, v] w fun e w' => e = .returned (.bool true) ∧ Below w.heap.size w w' := by
  obtain ⟨a, cap2, rfl, hv⟩ := hv
  have hcap : cap ≤ 9223372036854775807 := hc2
  have hne : (((xs.length : Nat) : Int) != ((xs.length : Nat) : Int)) = false := by simp
  have HL := Lib.hid (row_left hr)
  have HR := Lib.hid (row_right hr)
  have hg := hr.lt
  clear hr hc2
  go_enter Tryd.func42, Tryd.ntmps42
  go_wp2
  go_loopw [6] (fun x wr => KeptRel xs.length w x wr) (fun x _ => xs.length + 12 - (intOf x).toNat)
  case atStart => exact ⟨0, rfl, Nat.zero_le _, Below.refl _ _⟩
  case round =>
    obtain ⟨q, rfl, hq, hb⟩ := hrel
    by_cases hlt : q < xs.length
    · rcases hv with rfl | ⟨g2, off, rfl, hg2, hcell⟩
      · simp at hlt
      have c1 : wr.cell? ⟨g, q, none⟩ = some (.int .i64 (xs.getD q 0)) := by rw [hb.cell (p := ⟨g, q, none⟩) hg]; exact HL.out q hlt
      have c2 : wr.cell? ⟨g2, off + q, none⟩ = some (.int .i64 (xs.getD q 0)) := by rw [hb.cell (p := ⟨g2, off + q, none⟩) hg2]; exact hcell q hlt
      have d1 : decide ((q : Int) < (xs.length : Int)) = true := by simp; omega
      have d2 : decide ((xs.length : Int) ≤ (q : Int)) = false := by simp; omega
      have d3 : decide (q < xs.length) = true := by simp; omega
      have d4 : decide (xs.length ≤ q) = false := by simp; omega
      clear hcell
      generalize xs.getD q 0 = x at *
      go_wp2
      go_quiet (fail)
      go_wp2
      exact ⟨⟨q + 1, by go_num, by omega, below_drewN hb _⟩, by simp [intOf]; omega⟩
    · by_cases hlt2 : q < xs.length + 12
      · have c1 : wr.cell? ⟨g, q, none⟩ = some (.int .i64 (8000024 + ((q : Int) - (xs.length : Int)))) := by
          rw [hb.cell (p := ⟨g, q, none⟩) hg]
          have := HR.out (q - xs.length) (by omega)
          rw [show xs.length + (q - xs.length) = q by omega] at this
          rw [this]; congr 2; omega
        have d1 : decide ((q : Int) < (xs.length : Int)) = false := by simp; omega
        have d2 : decide ((xs.length : Int) ≤ (q : Int)) = true := by simp; omega
        have d3 : decide (q < xs.length) = false := by simp; omega
        have d4 : decide (xs.length ≤ q) = true := by simp; omega
        go_wp2
        go_quiet ((go_at_call 50; exact Calls.quiet_of_same (mark_c _ _ (by omega) (by omega))))
        go_wp2
        exact ⟨⟨q + 1, by go_num, by omega, below_drewN hb _⟩, by simp [intOf]; omega⟩
      · go_wp2
        go_ret
        exact ⟨rfl, hb⟩
end Go.Proofs.YtkcifgnlkdicgaaDoor.Sd
