/-
  The contracts of the reference's Choose and Weigh.
-/
import Derived.Test.YtkcifgnlkdicgaaDoorSdR2
import Derived.Test.YtkcifgnlkdicgaaDoorSdW6
import Derived.Test.YtkcifgnlkdicgaaDoorSdW7
namespace Go.Proofs.YtkcifgnlkdicgaaDoor.Sd
open Go Go.RowKit
set_option linter.unusedVariables false
set_option linter.unusedSimpArgs false
/-- The flags below n, as the reference keeps them. -/
def marks (fl : List Bool) (n : Nat) : List Int := (List.range n).map fun q => if fl.getD q false = true then 1 else 0
theorem marks_len (fl : List Bool) (n : Nat) : (marks fl n).length = n := by simp [marks]
theorem marks_get (fl : List Bool) (n q : Nat) (h : q < n) : (marks fl n).getD q 0 = if fl.getD q false = true then 1 else 0 := by
  simp [marks, List.getD_eq_getElem?_getD, h]
theorem marks_set (fl : List Bool) (n q : Nat) (h : q < n) (hl : n ≤ fl.length) : marks (fl.set q true) n = (marks fl n).set q 1 := by
  apply List.ext_getElem (by simp [marks])
  intro r h1 h2
  have hr : r < n := by simpa [marks] using h1
  by_cases e : q = r
  · subst e
    simp [marks, List.getD_eq_getElem?_getD, show q < fl.length by omega]
  · simp [marks, List.getD_eq_getElem?_getD, e, List.getElem_set_ne e]
theorem marks_zero (n : Nat) (h : n ≤ 1000) : marks flagsL n = List.replicate n 0 := by
  apply List.ext_getElem (by simp [marks])
  intro r h1 h2
  have hr : r < n := by simpa [marks] using h1
  have : flagsL.getD r false = false := by
    unfold flagsL
    rw [List.getD_eq_getElem?_getD, List.getElem?_replicate]
    split <;> rfl
  simp [marks, List.getD_eq_getElem?_getD] at this ⊢
  exact this
def RChoRel1 (k : Int) (n B : Nat) (target : Option (List Bool × Int)) (w : World) (x i : Value) (wr : World) : Prop :=
  ∃ (m j : Int) (fl : List Bool), x = .int .i64 m ∧ i = .int .i64 j ∧ 0 ≤ m ∧ m ≤ n ∧ fl.length = 1000 ∧ chooF k ((n : Int) - m).toNat m j fl = target ∧ 0 ≤ j ∧ j ≤ 1099511627776 ∧ Row wr B (marks fl n) ∧ Below B w wr
set_option maxHeartbeats 1000000 in
theorem rchoose_some_c (k i j : Int) (n c : Nat) (fl : List Bool) (w : World) (hx0 : 0 ≤ k) (hx1 : k < 18446744073709551616) (h0 : 0 ≤ i) (h1 : i ≤ 1099511627776) (hn : n ≤ 1000) (hc : c ≤ n)
    (h : chooF k c ((n : Int) - c) i flagsL = some (fl, j)) :
    Calls Tryd.prog 39 #[.int .u64 k, .int .i64 i, .int .i64 (n : Int), .int .i64 (c : Int)] w fun e w' =>
      ∃ v, e = .returned (.tuple #[v, .int .i64 j, .int .i64 0]) ∧ Ints w.heap.size w' v (chosenTo fl n) ∧ Below w.heap.size w w' := by
  have hi1 : ¬ i < 0 := by omega
  have hi2 : ¬ 1099511627776 < i := by omega
  have hcn : ¬ (n : Int) < (c : Int) := by omega
  have hmk := make_ints n n (Nat.le_refl _) (by omega)
  have H : Hid (chooF k c ((n : Int) - c) i flagsL = some (fl, j)) := h
  clear h
  go_enter Tryd.func39, Tryd.ntmps39
  go_wp2_with fail
  go_loopw [1, 12] (fun i x wr => RChoRel1 k n w.heap.size (some (fl, j)) w x i wr) (fun _ x _ => ((n : Int) - intOf x).toNat)
  case atStart =>
    refine ⟨(n : Int) - c, i, flagsL, rfl, rfl, by omega, by omega, flagsL_len, ?_, h0, h1, ?_, (Below.refl _ _).alloc (Nat.le_refl _) _⟩
    · rw [show ((n : Int) - ((n : Int) - c)).toNat = c by omega]; exact H.out
    · rw [marks_zero n hn]; exact Row.made w n
  case round =>
    obtain ⟨m, j2, f2, rfl, rfl, hm0, hm1, hf2, hch, hj0, hj1, hfl, hB2⟩ := hrel
    by_cases hlt : m < n
    · rw [show ((n : Int) - m).toNat = ((n : Int) - (m + 1)).toNat + 1 by omega] at hch
      obtain ⟨v, j3, hbv, hnext⟩ := choo_step hch
      have HN : Hid (chooF k ((n : Int) - (m + 1)).toNat (m + 1) j3 (f2.set (if f2.getD v.toNat false = true then m else v).toNat true) = some (fl, j)) := hnext
      have HF : Hid (f2.length = 1000) := hf2
      clear hnext hch hf2
      have hvr := below_range (by omega) hj1 hbv
      go_wp2_with fail
      refine (rbelow_some_c k j2 (m + 1) v j3 _ hx0 hx1 hj0 hj1 (by omega) (by omega) hbv).mono ?_
      rintro e w3 ⟨rfl, rfl⟩
      obtain ⟨vn, rfl⟩ := Int.eq_ofNat_of_zero_le hvr.1
      obtain ⟨mn, rfl⟩ := Int.eq_ofNat_of_zero_le hm0
      have hvn : vn < n := by omega
      have hmn : mn < n := by omega
      have HN2 : Hid (chooF k ((n : Int) - (mn + 1 : Nat)).toNat (mn + 1 : Nat) j3 (f2.set (if f2.getD vn false = true then mn else vn) true) = some (fl, j)) := by
        have := HN.out
        rw [apply_ite Int.toNat] at this
        exact this
      clear hbv HN
      have cv := hfl.cell vn (by rw [marks_len]; omega)
      have cfv := hfl.free vn (by rw [marks_len]; omega)
      have cm := hfl.cell mn (by rw [marks_len]; omega)
      have cfm := hfl.free mn (by rw [marks_len]; omega)
      rw [marks_get f2 n vn hvn] at cv
      have hset := fun q (hq : q < n) => hfl.set q (by rw [marks_len]; exact hq) 1
      cases hbit : f2.getD vn false
      · rw [hbit] at cv
        have cv2 : wr.cell? ⟨w.heap.size, vn, none⟩ = some (.int .i64 0) := cv
        have HN3 : Hid (chooF k ((n : Int) - (mn + 1 : Nat)).toNat (mn + 1 : Nat) j3 (f2.set vn true) = some (fl, j)) := by
          have := HN2.out
          rw [hbit] at this
          exact this
        have HS : Hid (Row (wr.setCell ⟨w.heap.size, vn, none⟩ (.int .i64 1)) w.heap.size (marks (f2.set vn true) n)) := by
          show Row _ _ _
          rw [marks_set f2 n vn hvn (by rw [HF.out]; exact hn)]; exact hset vn hvn
        clear hbit HN2 hset cm cfm cv hfl
        go_wp2
        exact ⟨⟨((mn + 1 : Nat) : Int), j3, f2.set vn true, by go_num, rfl, by omega, by omega, by rw [List.length_set]; exact HF.out, HN3.out, by omega, by omega, HS.out, hB2.setCell (Nat.le_refl _) _⟩, by simp [intOf]; omega⟩
      · rw [hbit] at cv
        have cv2 : wr.cell? ⟨w.heap.size, vn, none⟩ = some (.int .i64 1) := cv
        have HN3 : Hid (chooF k ((n : Int) - (mn + 1 : Nat)).toNat (mn + 1 : Nat) j3 (f2.set mn true) = some (fl, j)) := by
          have := HN2.out
          rw [hbit] at this
          exact this
        have HS : Hid (Row (wr.setCell ⟨w.heap.size, mn, none⟩ (.int .i64 1)) w.heap.size (marks (f2.set mn true) n)) := by
          show Row _ _ _
          rw [marks_set f2 n mn hmn (by rw [HF.out]; exact hn)]; exact hset mn hmn
        obtain ⟨u, hu⟩ : ∃ u, wr.cell? ⟨w.heap.size, mn, none⟩ = some u := ⟨_, cm⟩
        clear hbit HN2 hset cm cv hfl
        go_wp2
        exact ⟨⟨((mn + 1 : Nat) : Int), j3, f2.set mn true, by go_num, rfl, by omega, by omega, by rw [List.length_set]; exact HF.out, HN3.out, by omega, by omega, HS.out, hB2.setCell (Nat.le_refl _) _⟩, by simp [intOf]; omega⟩
    · rw [show ((n : Int) - m).toNat = 0 by omega] at hch
      simp only [chooF, Option.some.injEq, Prod.mk.injEq] at hch
      obtain ⟨rfl, rfl⟩ := hch
      have HF : Hid (f2.length = 1000) := hf2
      have hsz : w.heap.size < wr.heap.size := hfl.lt
      clear hf2
      go_wp2_with fail
      obtain ⟨wo, rfl⟩ : ∃ wo : World, wo = wr := ⟨_, rfl⟩
      go_loopw [16, 17] (fun v x wr => ChoRel2 n wo.heap.size f2 v x wr ∧ Below wo.heap.size wo wr) (fun _ x _ => n - (intOf x).toNat)
      case atStart =>
        exact ⟨⟨0, rfl, Nat.zero_le _, rfl, .inl ⟨rfl, rfl⟩⟩, Below.refl _ _⟩
      case round =>
        obtain ⟨⟨q, rfl, hq, hown⟩, hb⟩ := hrel
        by_cases hlt : q < n
        · have cq := hfl.cell q (by rw [marks_len]; exact hlt)
          rw [marks_get f2 n q hlt] at cq
          have cq' : wr.cell? ⟨w.heap.size, q, none⟩ = some (.int .i64 (if f2.getD q false = true then 1 else 0)) := by rw [hb.cell (p := ⟨w.heap.size, q, none⟩) hsz]; exact cq
          have hstep := chosen_step f2 q
          have hlen := chosen_len f2 q
          have hws : wo.heap.size ≤ wr.heap.size := hb.size
          clear cq
          cases hbit : f2.getD q false
          · rw [hbit] at cq' hstep
            have cq2 : wr.cell? ⟨w.heap.size, q, none⟩ = some (.int .i64 0) := cq'
            have HS : Hid (chosenTo f2 (q + 1) = chosenTo f2 q) := (show chosenTo f2 (q + 1) = chosenTo f2 q by simpa using hstep)
            clear hstep hbit cq'
            go_wp2
            exact ⟨⟨⟨q + 1, by go_num, by omega, by rw [HS.out]; exact hown⟩, hb⟩, by simp [intOf]; omega⟩
          · rw [hbit] at cq' hstep
            have cq2 : wr.cell? ⟨w.heap.size, q, none⟩ = some (.int .i64 1) := cq'
            have HS : Hid (chosenTo f2 (q + 1) = chosenTo f2 q ++ [(q : Int)]) := (show chosenTo f2 (q + 1) = chosenTo f2 q ++ [(q : Int)] by simpa using hstep)
            clear hstep hbit cq'
            obtain ⟨i0, hi, hz0, hz1, hz2⟩ := info_parts info_int
            go_wp2_with ((at_builtin; refine wpList_append_own _ rfl _ _ 26 rfl wo.heap.size 3 i0 (.int .i64 0) 1 8 Tryd.underlying26 hi hz0 hz1 hz2 rfl (by decide) _ _ _ rfl (hown.alloc _) ⟨wr.heap.size, 0, none⟩ 1 1 [.int .i64 (q : Int)] rfl rfl ?c1 ?c2 ?c3 ?c4 ?c5 ?_))
            case c1 => exact new_one _ _ _
            case c2 => simp [Value.oneCell']
            case c3 => unfold maxLen; omega
            case c4 => omega
            case c5 => simp; omega
            intro v' w1 hown' hgrow _
            have hb1 : Below wo.heap.size wo w1 := (hb.alloc hws _).grown hgrow (by simp; omega) (own_ge hown)
            have HO : Hid (w1.ownsRow wo.heap.size 3 1 v' (chosenTo f2 (q + 1)).length ((chosenTo f2 (q + 1)).map (Value.int .i64))) := by
              show w1.ownsRow _ _ _ _ _ _
              rw [HS.out, List.length_append, List.map_append]; exact hown'
            clear hown' hgrow hown hb
            go_wp2
            exact ⟨⟨⟨q + 1, by go_num, by omega, HO.out⟩, hb1⟩, by simp [intOf]; omega⟩
        · have e : q = n := by omega
          have HO : Hid (wr.ownsRow wo.heap.size 3 1 u16 (chosenTo f2 n).length ((chosenTo f2 n).map (Value.int .i64))) := by
            show wr.ownsRow _ _ _ _ _ _
            rw [← e]; exact hown
          have hB4 : Below w.heap.size w wr := hB2.trans (hb.mono (by omega))
          clear e hown hb
          go_wp2
          go_ret3
          exact ⟨u16, rfl, (Ints.of_owns HO.out).mono (by omega), hB4⟩
set_option maxHeartbeats 1000000 in
theorem rchoose_none_c (k i : Int) (n c : Nat) (w : World) (hx0 : 0 ≤ k) (hx1 : k < 18446744073709551616) (h0 : 0 ≤ i) (h1 : i ≤ 1099511627776) (hn : n ≤ 1000) (hc : c ≤ n)
    (h : chooF k c ((n : Int) - c) i flagsL = none) :
    Calls Tryd.prog 39 #[.int .u64 k, .int .i64 i, .int .i64 (n : Int), .int .i64 (c : Int)] w fun e w' =>
      e = .returned (.tuple #[.slice none 0 0, .int .i64 0, .int .i64 4]) ∧ Below w.heap.size w w' := by
  have hi1 : ¬ i < 0 := by omega
  have hi2 : ¬ 1099511627776 < i := by omega
  have hcn : ¬ (n : Int) < (c : Int) := by omega
  have hmk := make_ints n n (Nat.le_refl _) (by omega)
  have H : Hid (chooF k c ((n : Int) - c) i flagsL = none) := h
  clear h
  go_enter Tryd.func39, Tryd.ntmps39
  go_wp2_with fail
  go_loopw [1, 12] (fun i x wr => RChoRel1 k n w.heap.size none w x i wr) (fun _ x _ => ((n : Int) - intOf x).toNat)
  case atStart =>
    refine ⟨(n : Int) - c, i, flagsL, rfl, rfl, by omega, by omega, flagsL_len, ?_, h0, h1, ?_, (Below.refl _ _).alloc (Nat.le_refl _) _⟩
    · rw [show ((n : Int) - ((n : Int) - c)).toNat = c by omega]; exact H.out
    · rw [marks_zero n hn]; exact Row.made w n
  case round =>
    obtain ⟨m, j2, f2, rfl, rfl, hm0, hm1, hf2, hch, hj0, hj1, hfl, hB2⟩ := hrel
    by_cases hlt : m < n
    · rw [show ((n : Int) - m).toNat = ((n : Int) - (m + 1)).toNat + 1 by omega] at hch
      rcases choo_step_none hch with hbv | ⟨v, j3, hbv, hnext⟩
      · go_wp2_with fail
        refine (rbelow_none_c k j2 (m + 1) _ hx0 hx1 hj0 hj1 (by omega) (by omega) hbv).mono ?_
        rintro e w3 ⟨rfl, rfl⟩
        clear hbv hch hfl
        go_wp2
        go_ret3
        exact ⟨rfl, hB2⟩
      have HN : Hid (chooF k ((n : Int) - (m + 1)).toNat (m + 1) j3 (f2.set (if f2.getD v.toNat false = true then m else v).toNat true) = none) := hnext
      have HF : Hid (f2.length = 1000) := hf2
      clear hnext hch hf2
      have hvr := below_range (by omega) hj1 hbv
      go_wp2_with fail
      refine (rbelow_some_c k j2 (m + 1) v j3 _ hx0 hx1 hj0 hj1 (by omega) (by omega) hbv).mono ?_
      rintro e w3 ⟨rfl, rfl⟩
      obtain ⟨vn, rfl⟩ := Int.eq_ofNat_of_zero_le hvr.1
      obtain ⟨mn, rfl⟩ := Int.eq_ofNat_of_zero_le hm0
      have hvn : vn < n := by omega
      have hmn : mn < n := by omega
      have HN2 : Hid (chooF k ((n : Int) - (mn + 1 : Nat)).toNat (mn + 1 : Nat) j3 (f2.set (if f2.getD vn false = true then mn else vn) true) = none) := by
        have := HN.out
        rw [apply_ite Int.toNat] at this
        exact this
      clear hbv HN
      have cv := hfl.cell vn (by rw [marks_len]; omega)
      have cfv := hfl.free vn (by rw [marks_len]; omega)
      have cm := hfl.cell mn (by rw [marks_len]; omega)
      have cfm := hfl.free mn (by rw [marks_len]; omega)
      rw [marks_get f2 n vn hvn] at cv
      have hset := fun q (hq : q < n) => hfl.set q (by rw [marks_len]; exact hq) 1
      cases hbit : f2.getD vn false
      · rw [hbit] at cv
        have cv2 : wr.cell? ⟨w.heap.size, vn, none⟩ = some (.int .i64 0) := cv
        have HN3 : Hid (chooF k ((n : Int) - (mn + 1 : Nat)).toNat (mn + 1 : Nat) j3 (f2.set vn true) = none) := by
          have := HN2.out
          rw [hbit] at this
          exact this
        have HS : Hid (Row (wr.setCell ⟨w.heap.size, vn, none⟩ (.int .i64 1)) w.heap.size (marks (f2.set vn true) n)) := by
          show Row _ _ _
          rw [marks_set f2 n vn hvn (by rw [HF.out]; exact hn)]; exact hset vn hvn
        clear hbit HN2 hset cm cfm cv hfl
        go_wp2
        exact ⟨⟨((mn + 1 : Nat) : Int), j3, f2.set vn true, by go_num, rfl, by omega, by omega, by rw [List.length_set]; exact HF.out, HN3.out, by omega, by omega, HS.out, hB2.setCell (Nat.le_refl _) _⟩, by simp [intOf]; omega⟩
      · rw [hbit] at cv
        have cv2 : wr.cell? ⟨w.heap.size, vn, none⟩ = some (.int .i64 1) := cv
        have HN3 : Hid (chooF k ((n : Int) - (mn + 1 : Nat)).toNat (mn + 1 : Nat) j3 (f2.set mn true) = none) := by
          have := HN2.out
          rw [hbit] at this
          exact this
        have HS : Hid (Row (wr.setCell ⟨w.heap.size, mn, none⟩ (.int .i64 1)) w.heap.size (marks (f2.set mn true) n)) := by
          show Row _ _ _
          rw [marks_set f2 n mn hmn (by rw [HF.out]; exact hn)]; exact hset mn hmn
        obtain ⟨u, hu⟩ : ∃ u, wr.cell? ⟨w.heap.size, mn, none⟩ = some u := ⟨_, cm⟩
        clear hbit HN2 hset cm cv hfl
        go_wp2
        exact ⟨⟨((mn + 1 : Nat) : Int), j3, f2.set mn true, by go_num, rfl, by omega, by omega, by rw [List.length_set]; exact HF.out, HN3.out, by omega, by omega, HS.out, hB2.setCell (Nat.le_refl _) _⟩, by simp [intOf]; omega⟩
    · rw [show ((n : Int) - m).toNat = 0 by omega] at hch
      cases hch
theorem rchoose_err_c (k i n c : Int) (w : World) (h : i < 0 ∨ 1099511627776 < i ∨ 1000 < n ∨ c < 0 ∨ n < c) :
    Calls Tryd.prog 39 #[.int .u64 k, .int .i64 i, .int .i64 n, .int .i64 c] w fun e w' => e = .returned (.tuple #[.slice none 0 0, .int .i64 0, .int .i64 2]) ∧ w = w' := by
  have h' : i < 0 ∨ (0 ≤ i ∧ 1099511627776 < i) ∨ (0 ≤ i ∧ i ≤ 1099511627776 ∧ n < 0) ∨ (0 ≤ i ∧ i ≤ 1099511627776 ∧ 0 ≤ n ∧ 1000 < n) ∨ (0 ≤ i ∧ i ≤ 1099511627776 ∧ 0 ≤ n ∧ n ≤ 1000 ∧ c < 0) ∨ (0 ≤ i ∧ i ≤ 1099511627776 ∧ 0 ≤ n ∧ n ≤ 1000 ∧ 0 ≤ c ∧ n < c) := by omega
  clear h
  rcases h' with h | ⟨h, h2⟩ | ⟨h, h2, h3⟩ | ⟨h, h2, h3, h4⟩ | ⟨h, h2, h3, h4, h5⟩ | ⟨h, h2, h3, h4, h5, h6⟩
  all_goals
    go_enter Tryd.func39, Tryd.ntmps39
    go_wp2
    go_ret3
    exact ⟨rfl, rfl⟩
def RTotRel (xs : List Int) (s x : Value) : Prop :=
  ∃ (q : Nat) (t : Int), x = .int .i64 (q : Int) ∧ s = .int .i64 t ∧ q ≤ xs.length ∧ 0 ≤ t ∧ t ≤ q * 1099511627776 ∧ totF (xs.drop q) t = totF xs 0
def RWeiRel (xs : List Int) (t0 target : Int) (u x : Value) : Prop :=
  ∃ (q : Nat) (p : Int), x = .int .i64 (q : Int) ∧ u = .int .i64 p ∧ q ≤ xs.length ∧ 0 ≤ p ∧ p ≤ q * 1099511627776 ∧ p ≤ t0 ∧ t0 - p < sumI (xs.drop q) ∧ pickF (xs.drop q) (t0 - p) q = target
set_option maxHeartbeats 1000000 in
theorem rweigh_err_c (k i : Int) (xs : List Int) (v : Value) (w : World) (hv : RInts w v xs) (hl : xs.length ≤ 9223372036854775807) (h : i < 0 ∨ 1099511627776 < i ∨ totOk xs = false) :
    Calls Tryd.prog 41 #[.int .u64 k, .int .i64 i, v] w fun e w' => e = .returned (.tuple #[.int .i64 0, .int .i64 0, .int .i64 2]) ∧ w = w' := by
  obtain ⟨a, cap, rfl, hv⟩ := hv
  have h' : i < 0 ∨ (0 ≤ i ∧ 1099511627776 < i) ∨ (0 ≤ i ∧ i ≤ 1099511627776 ∧ 1000 < xs.length) ∨ (0 ≤ i ∧ i ≤ 1099511627776 ∧ xs.length ≤ 1000 ∧ totOk xs = false) := by
    by_cases h1 : i < 0
    · exact .inl h1
    · by_cases h2 : 1099511627776 < i
      · exact .inr (.inl ⟨by omega, h2⟩)
      · by_cases h3 : 1000 < xs.length
        · exact .inr (.inr (.inl ⟨by omega, by omega, h3⟩))
        · exact .inr (.inr (.inr ⟨by omega, by omega, by omega, h.resolve_left h1 |>.resolve_left h2⟩))
  clear h
  rcases h' with h | ⟨h, h2⟩ | ⟨h, h2, h3⟩ | ⟨h, h2, h3, hk⟩
  · go_enter Tryd.func41, Tryd.ntmps41
    go_wp2
    go_ret3
    exact ⟨rfl, rfl⟩
  · go_enter Tryd.func41, Tryd.ntmps41
    go_wp2
    go_ret3
    exact ⟨rfl, rfl⟩
  · go_enter Tryd.func41, Tryd.ntmps41
    go_wp2
    go_ret3
    exact ⟨rfl, rfl⟩
  · have hi1 : ¬ i < 0 := by omega
    have hi2 : ¬ 1099511627776 < i := by omega
    have hK : Hid (∀ s, totF xs 0 = some s → ¬ 0 < s) := by
      show ∀ s, totF xs 0 = some s → ¬ 0 < s
      intro s hs
      unfold totOk total at hk
      rw [if_neg (by omega), hs] at hk
      simpa using hk
    clear hk
    go_enter Tryd.func41, Tryd.ntmps41
    go_wp2
    go_loop [9, 10] (fun s x => RTotRel xs s x) (fun _ x => xs.length - (intOf x).toNat)
    case atStart => exact ⟨0, 0, rfl, rfl, Nat.zero_le _, by omega, by omega, rfl⟩
    case round =>
      obtain ⟨q, t, rfl, rfl, hq, ht0, ht1, htf⟩ := hrel
      by_cases hlt : q < xs.length
      · rcases hv with rfl | ⟨g, off, rfl, hg, hc⟩
        · simp at hlt
        · have cq := hc q hlt
          rw [drop_cons xs q hlt, totF] at htf
          generalize xs.getD q 0 = x at *
          by_cases hx : x < 0 ∨ 1099511627776 < x
          · clear htf hc
            rcases hx with hx | hx
            · go_wp2
              go_ret3
              exact ⟨rfl, rfl⟩
            · have hx' : ¬ x < 0 := by omega
              go_wp2
              go_ret3
              exact ⟨rfl, rfl⟩
          · rw [if_neg hx] at htf
            have HT : Hid (totF (xs.drop (q + 1)) (t + x) = totF xs 0) := htf
            have hx1 : ¬ x < 0 := by omega
            have hx2 : ¬ 1099511627776 < x := by omega
            clear htf hc hx
            go_wp2
            exact ⟨⟨q + 1, t + x, by go_num, rfl, by omega, by omega, by omega, HT.out⟩, by simp [intOf]; omega⟩
      · rw [List.drop_eq_nil_of_le (by omega), totF] at htf
        have ht2 := hK.out t htf.symm
        have ht3 : t = 0 := by omega
        subst ht3
        clear htf hv
        go_wp2
        go_ret3
        exact ⟨rfl, rfl⟩
def weiR (xs : List Int) : Option (Int × Int) → Value
  | some (t, j) => .tuple #[.int .i64 (pickF xs t 0), .int .i64 j, .int .i64 0]
  | none => .tuple #[.int .i64 0, .int .i64 0, .int .i64 4]
set_option maxHeartbeats 1000000 in
theorem rweigh_c (k i : Int) (r : Option (Int × Int)) (xs : List Int) (v : Value) (w : World) (hx0 : 0 ≤ k) (hx1 : k < 18446744073709551616) (h0 : 0 ≤ i) (h1 : i ≤ 1099511627776)
    (hv : RInts w v xs) (hok : totOk xs = true) (h : below k i (totV xs) = r) :
    Calls Tryd.prog 41 #[.int .u64 k, .int .i64 i, v] w fun e w' => e = .returned (weiR xs r) ∧ w = w' := by
  obtain ⟨a, cap, rfl, hv⟩ := hv
  obtain ⟨ht1, ht2, ht3, ht4⟩ := total_ok hok
  have hsb := sum_bound xs ht3
  have hi1 : ¬ i < 0 := by omega
  have hi2 : ¬ 1099511627776 < i := by omega
  have hK : Hid (totF xs 0 = some (totV xs)) := by
    show _ = _
    unfold totOk at hok
    unfold totV
    unfold total at hok ⊢
    rw [if_neg (by omega)] at hok ⊢
    cases hc : totF xs 0 with
    | none => rw [hc] at hok; cases hok
    | some s => rfl
  have HB := Lib.hid h
  have HS := Lib.hid ht2
  have H3 := Lib.hid ht3
  clear h ht2 hok ht3 hsb
  go_enter Tryd.func41, Tryd.ntmps41
  go_wp2
  go_loop [9, 10] (fun s x => RTotRel xs s x) (fun _ x => xs.length - (intOf x).toNat)
  case atStart => exact ⟨0, 0, rfl, rfl, Nat.zero_le _, by omega, by omega, rfl⟩
  case round =>
    obtain ⟨q, t, rfl, rfl, hq, hta, htb, htf⟩ := hrel
    by_cases hlt : q < xs.length
    · rcases hv with rfl | ⟨g, off, rfl, hg, hc⟩
      · simp at hlt
      · have cq := hc q hlt
        obtain ⟨hxa, hxb⟩ := H3.out (xs.getD q 0) (by rw [List.getD_eq_getElem?_getD, List.getElem?_eq_getElem hlt]; exact List.getElem_mem hlt)
        rw [drop_cons xs q hlt, totF] at htf
        generalize xs.getD q 0 = x at *
        rw [if_neg (by omega)] at htf
        have HT : Hid (totF (xs.drop (q + 1)) (t + x) = totF xs 0) := htf
        have hxc : ¬ x < 0 := by omega
        have hxd : ¬ 1099511627776 < x := by omega
        clear htf hc
        go_wp2
        exact ⟨⟨q + 1, t + x, by go_num, rfl, by omega, by omega, by omega, HT.out⟩, by simp [intOf]; omega⟩
    · rw [List.drop_eq_nil_of_le (by omega), totF, hK.out] at htf
      have ht : t = totV xs := by simpa using htf
      subst ht
      have htz : (totV xs == 0) = false := beq_eq_false_iff_ne.2 (by omega)
      have hbm : totV xs ≤ 9223372036854775807 := by omega
      clear htf hta htb
      cases r with
      | none =>
        go_wp2_with fail
        refine (rbelow_none_c k i (totV xs) _ hx0 hx1 h0 h1 ht1 hbm HB.out).mono ?_
        rintro e w3 ⟨rfl, rfl⟩
        clear hv
        go_wp2
        go_ret3
        exact ⟨rfl, rfl⟩
      | some tj =>
        obtain ⟨t0, j⟩ := tj
        obtain ⟨hr1, hr2, hr3, hr4⟩ := below_range ht1 h1 HB.out
        go_wp2_with fail
        refine (rbelow_some_c k i (totV xs) t0 j _ hx0 hx1 h0 h1 ht1 hbm HB.out).mono ?_
        rintro e w3 ⟨rfl, rfl⟩
        have HS2 : Hid (t0 < sumI xs) := (show t0 < sumI xs by have := HS.out; omega)
        go_wp2_with fail
        go_loop [14, 15] (fun u x => RWeiRel xs t0 (pickF xs t0 0) u x) (fun _ x => xs.length - (intOf x).toNat)
        case atStart => exact ⟨0, 0, rfl, rfl, Nat.zero_le _, by omega, by omega, by omega, by have := HS2.out; simpa using this, by simp⟩
        case round =>
          obtain ⟨q, u, rfl, rfl, hq, hu0, hub, hut, hu1, hp⟩ := hrel
          by_cases hlt : q < xs.length
          · rcases hv with rfl | ⟨g, off, rfl, hg, hc⟩
            · simp at hlt
            have cq := hc q hlt
            obtain ⟨hxa, hxb⟩ := H3.out (xs.getD q 0) (by rw [List.getD_eq_getElem?_getD, List.getElem?_eq_getElem hlt]; exact List.getElem_mem hlt)
            rw [drop_cons xs q hlt] at hp hu1
            simp only [pickF, sumI, List.foldr_cons] at hp hu1
            have HU : Hid (t0 - u < xs.getD q 0 + sumI (xs.drop (q + 1))) := hu1
            clear hu1 hc
            generalize xs.getD q 0 = x at *
            by_cases hle : x ≤ t0 - u
            · rw [if_pos hle] at hp
              have HP : Hid (pickF (xs.drop (q + 1)) (t0 - u - x) ((q : Int) + 1) = pickF xs t0 0) := hp
              have hnot : ¬ t0 < u + x := by omega
              clear hp
              go_wp2
              exact ⟨⟨q + 1, u + x, by go_num, rfl, by omega, by omega, by omega, by omega, by have := HU.out; omega, by rw [show t0 - (u + x) = t0 - u - x by omega]; exact HP.out⟩, by simp [intOf]; omega⟩
            · rw [if_neg hle] at hp
              have HP : Hid ((q : Int) = pickF xs t0 0) := hp
              have hnot : t0 < u + x := by omega
              clear hp
              go_wp2
              go_ret3
              exact ⟨by show _ = Ending.returned (Value.tuple #[.int .i64 (pickF xs t0 0), .int .i64 j, .int .i64 0]); rw [← HP.out]; rfl, rfl⟩
          · rw [List.drop_eq_nil_of_le (by omega)] at hu1
            simp [sumI] at hu1
            omega
end Go.Proofs.YtkcifgnlkdicgaaDoor.Sd
