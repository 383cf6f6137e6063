/-
  The contract of Choose.
-/
import Derived.Test.YtkcifgnlkdicgaaDoorSdDr
namespace Go.Proofs.YtkcifgnlkdicgaaDoor.Sd
open Go Go.RowKit
set_option linter.unusedVariables false
set_option linter.unusedSimpArgs false

/-- A slice value that holds the integers xs, in a block from base on. -/
def Ints (base : Nat) (w : World) (v : Value) (xs : List Int) : Prop :=
  ∃ a cap, v = .slice a xs.length cap ∧ (xs = [] ∨ ∃ g, a = some ⟨g, 0, none⟩ ∧ base ≤ g ∧ Row w g xs)
theorem Ints.of_row {base g cap : Nat} {w : World} {xs : List Int} (h : Row w g xs) (hg : base ≤ g) : Ints base w (.slice (some ⟨g, 0, none⟩) xs.length cap) xs :=
  ⟨_, cap, rfl, .inr ⟨g, rfl, hg, h⟩⟩
theorem Ints.mono {base base' : Nat} {w : World} {v : Value} {xs : List Int} (h : Ints base w v xs) (hb : base' ≤ base) : Ints base' w v xs := by
  obtain ⟨a, cap, rfl, h⟩ := h
  exact ⟨a, cap, rfl, h.imp id fun ⟨g, h1, h2, h3⟩ => ⟨g, h1, by omega, h3⟩⟩
theorem Ints.below {base : Nat} {w w' : World} {v : Value} {xs : List Int} (h : Ints base w v xs) (hb : Below w.heap.size w w') : Ints base w' v xs := by
  obtain ⟨a, cap, rfl, h⟩ := h
  exact ⟨a, cap, rfl, h.imp id fun ⟨g, h1, h2, h3⟩ => ⟨g, h1, h2, h3.below hb h3.lt⟩⟩
theorem Ints.of_owns {base n : Nat} {w : World} {v : Value} {xs : List Int} (h : w.ownsRow base 3 1 v n (xs.map (Value.int .i64))) : Ints base w v xs := by
  obtain ⟨hl, h⟩ := h
  have hn : n = xs.length := by simpa using hl.symm
  subst hn
  rcases h with ⟨rfl, h0⟩ | ⟨g, cap, cur, rfl, hg, hb, hc1, hc2, hc3, hc4⟩
  · have hx : xs = [] := List.eq_nil_of_length_eq_zero h0
    subst hx
    exact ⟨none, 0, rfl, .inl rfl⟩
  · refine ⟨some ⟨g, 0, none⟩, cap, rfl, .inr ⟨g, rfl, hg, ?_, ?_⟩⟩
    · exact (Array.getElem?_eq_some_iff.1 hb).1
    · intro q hq
      have hq2 : (xs.map (Value.int .i64))[q]? = some (.int .i64 (xs.getD q 0)) := by simp [List.getD_eq_getElem?_getD, hq]
      rw [← hc4, List.getElem?_take] at hq2
      split at hq2
      · refine ⟨?_, ?_⟩
        · simp only [World.cell?, hb]
          simpa using hq2
        · simp [World.frozen?, hb]
      · cases hq2

/-- Block b begins with the marks fl. -/
def Flags (w : World) (b : Nat) (fl : List Bool) : Prop :=
  b < w.heap.size ∧ ∀ q, q < fl.length → w.cell? ⟨b, q, none⟩ = some (.bool (fl.getD q false)) ∧ w.frozen? ⟨b, q, none⟩ = false
theorem Flags.below {w w' : World} {b B : Nat} {xs : List Bool} (h : Flags w b xs) (hb : Below B w w') (hB : b < B) : Flags w' b xs :=
  ⟨Nat.lt_of_lt_of_le h.1 hb.size, fun q hq => ⟨by rw [hb.cell (p := ⟨b, q, none⟩) hB]; exact (h.2 q hq).1, by rw [hb.frozen (p := ⟨b, q, none⟩) hB]; exact (h.2 q hq).2⟩⟩
theorem Flags.set {w : World} {b : Nat} {xs : List Bool} (h : Flags w b xs) (q : Nat) (hq : q < xs.length) (v : Bool) : Flags (w.setCell ⟨b, q, none⟩ (.bool v)) b (xs.set q v) := by
  refine ⟨by rw [size_setCell]; exact h.1, fun r hr => ⟨?_, by rw [frozen_setCell]; exact (h.2 r (by simpa using hr)).2⟩⟩
  have hr' : r < xs.length := by simpa using hr
  by_cases e : q = r
  · subst e
    rw [World.cell?_setCell_same (h := (h.2 q hq).1)]
    simp [List.getD_eq_getElem?_getD, hq]
  · rw [World.cell?_setCell_other (h := fun hh => e (congrArg Addr.off hh)), (h.2 r hr').1]
    simp [List.getD_eq_getElem?_getD, e]
theorem Drawn.flags {b bi : Nat} {j : Int} {w w' : World} {xs : List Bool} (h : Drawn w.heap.size bi j w w') (hr : Flags w b xs) (hn : bi ≠ b) : Flags w' b xs := by
  have hs := h.size
  exact ⟨by have := hr.1; omega, fun q hq => ⟨by rw [h.cell hn hr.1]; exact (hr.2 q hq).1, by rw [h.frozen hr.1]; exact (hr.2 q hq).2⟩⟩
def flags0 : Array Value := Array.replicate 1000 (.bool false)
theorem Flags.madeN (w : World) (N : Nat) (T : TypeId) : Flags (w.alloc (.cells (Array.replicate N (.bool false)) T)) w.heap.size (List.replicate N false) := by
  refine ⟨by simp, fun q hq => ?_⟩
  have hq' : q < N := by simpa using hq
  refine ⟨?_, by simp⟩
  rw [World.cell?_alloc_at _ _ _ _ rfl]
  simp [List.getD_eq_getElem?_getD, hq']
def flagsL : List Bool := List.replicate 1000 false
theorem flagsL_len : flagsL.length = 1000 := List.length_replicate ..
theorem Flags.made (w : World) : Flags (w.alloc (.cells flags0 76)) w.heap.size flagsL := Flags.madeN w 1000 _
theorem zero_arr (w : World) : (zeroValue 76).run Tryd.prog w = .ok (.agg flags0) w := by kernel_rfl

/-- What is chosen: m goes up, f draws are left. -/
def chooF (k : Int) : Nat → Int → Int → List Bool → Option (List Bool × Int)
  | 0, m, i, fl => some (fl, i)
  | f + 1, m, i, fl => match below k i (m + 1) with
    | none => none
    | some (v, j) => chooF k f (m + 1) j (fl.set (if fl.getD v.toNat false = true then m else v).toNat true)
def chosenTo (fl : List Bool) (x : Nat) : List Int := ((List.range x).filter fun q => fl.getD q false).map Int.ofNat
theorem chosen_step (fl : List Bool) (x : Nat) : chosenTo fl (x + 1) = chosenTo fl x ++ (if fl.getD x false = true then [(x : Int)] else []) := by
  unfold chosenTo
  rw [List.range_succ, List.filter_append, List.map_append]
  rw [List.filter_cons]
  split <;> simp
theorem chosen_len (fl : List Bool) (x : Nat) : (chosenTo fl x).length ≤ x := by
  unfold chosenTo
  have := List.length_filter_le (fun q => fl.getD q false) (List.range x)
  simpa using this
def choose (k i : Int) (n c : Nat) : Option (List Int × Int) :=
  match chooF k c ((n : Int) - c) i flagsL with
  | none => none
  | some (fl, j) => some (chosenTo fl n, j)
theorem choo_step {k m j : Int} {f : Nat} {fl : List Bool} {R : List Bool × Int} (h : chooF k (f + 1) m j fl = some R) :
    ∃ v j', below k j (m + 1) = some (v, j') ∧ chooF k f (m + 1) j' (fl.set (if fl.getD v.toNat false = true then m else v).toNat true) = some R := by
  rw [chooF] at h
  split at h
  · cases h
  · rename_i v j' hb
    exact ⟨v, j', hb, h⟩
theorem choo_step_none {k m j : Int} {f : Nat} {fl : List Bool} (h : chooF k (f + 1) m j fl = none) :
    below k j (m + 1) = none ∨ ∃ v j', below k j (m + 1) = some (v, j') ∧ chooF k f (m + 1) j' (fl.set (if fl.getD v.toNat false = true then m else v).toNat true) = none := by
  rw [chooF] at h
  split at h
  · exact .inl (by assumption)
  · rename_i v j' hb
    exact .inr ⟨v, j', hb, h⟩
def ChoRel1 (k : Int) (n B d : Nat) (target : Option (List Bool × Int)) (w : World) (x : Value) (wr : World) : Prop :=
  ∃ (m j : Int) (fl : List Bool), x = .int .i64 m ∧ 0 ≤ m ∧ m ≤ n ∧ fl.length = 1000 ∧ chooF k ((n : Int) - m).toNat m j fl = target ∧ Flags wr (B + 2) fl ∧ Dr k j (B + 1) d wr ∧ Tab wr ∧ Below B w wr
theorem own_ge {w : World} {base : Nat} {e : TypeId} {size : Nat} {v : Value} {n : Nat} {xs : List Value} (h : w.ownsRow base e size v n xs) : ∀ k, v.ownBlock = some k → base ≤ k := by
  obtain ⟨_, h⟩ := h
  intro k hk
  rcases h with ⟨rfl, _⟩ | ⟨g, cap, cur, rfl, hg, _⟩
  · cases hk
  · simp only [Value.ownBlock, Option.some.injEq] at hk
    omega
theorem World.heap_alloc_at (w : World) (o : Obj) : (w.alloc o).heap[w.heap.size]? = some o := by
  show (w.heap.push o)[w.heap.size]? = _
  rw [Array.getElem?_push, if_pos rfl]
theorem new_one (w : World) (x : Value) (t : TypeId) : ∀ j u, [x][j]? = some u → (w.alloc (.cells #[x] t)).cell? ((⟨w.heap.size, 0, none⟩ : Addr).add j) = some u := by
  intro j u h
  rcases j with _ | j
  · simp only [List.getElem?_cons_zero, Option.some.injEq] at h
    subst h
    show (w.alloc (.cells #[x] t)).cell? ⟨w.heap.size, 0 + 0, none⟩ = _
    rw [World.cell?_alloc_at _ _ _ _ rfl]; rfl
  · simp at h
def ChoRel2 (n base : Nat) (fl : List Bool) (v x : Value) (wr : World) : Prop :=
  ∃ q : Nat, x = .int .i64 (q : Int) ∧ q ≤ n ∧ wr.ownsRow base 3 1 v (chosenTo fl q).length ((chosenTo fl q).map (Value.int .i64))
set_option maxHeartbeats 1000000 in
theorem choose_some_c (k i j : Int) (n c : Nat) (fl : List Bool) (w : World) (hx0 : 0 ≤ k) (hx1 : k < 18446744073709551616) (hT : Tab w) (h0 : 0 ≤ i) (h1 : i ≤ 1099511627776) (hn : n ≤ 1000) (hc : c ≤ n)
    (h : chooF k c ((n : Int) - c) i flagsL = some (fl, j)) :
    Calls Tryd.prog 30 #[.agg #[.int .u64 k], .int .i64 i, .int .i64 (n : Int), .int .i64 (c : Int)] w fun e w' =>
      ∃ v, e = .returned (.tuple #[v, .int .i64 j, .int .i64 0]) ∧ Ints w.heap.size w' v (chosenTo fl n) ∧ Below w.heap.size w w' := by
  have hd : (decide (0 ≤ i) && decide (i ≤ 1099511627776)) = true := by simp [h0, h1]
  have hcn : ¬ (n : Int) < (c : Int) := by omega
  have hza := zero_arr
  have H : Hid (chooF k c ((n : Int) - c) i flagsL = some (fl, j)) := h
  clear h
  go_enter Tryd.func30, Tryd.ntmps30
  go_wp2_with fail
  refine (drawable_c i _).mono ?_
  rw [hd]
  clear hd
  rintro e w1 ⟨rfl, rfl⟩
  go_wp2_with fail
  refine (drawer_c _ _ _).mono ?_
  rintro e w1 ⟨rfl, rfl⟩
  go_wp2_with fail
  go_loopw [13, 14, 15] (fun x _ _ wr => ChoRel1 k n (w.heap.size) (w.heap.size + 3) (some (fl, j)) w x wr) (fun x _ _ _ => ((n : Int) - intOf x).toNat)
  case atStart =>
    have hf := Flags.made ((w.alloc (.cells #[.int .u64 k] 33)).alloc (.cells #[.int .i64 i] 3))
    refine ⟨(n : Int) - c, i, flagsL, rfl, by omega, by omega, flagsL_len, ?_, ?_, ?_, ?_, by repeat' (first | with_reducible exact Below.refl _ _ | with_reducible assumption | with_reducible refine below_drewN ?_ _ | with_reducible refine Below.drew ?_ | with_reducible refine Below.alloc ?_ ?_ _ | with_reducible refine Below.setCell ?_ ?_ _ | omega | (simp; done) | (simp; omega))⟩
    · rw [show ((n : Int) - ((n : Int) - c)).toNat = c by omega]; exact H.out
    · have := hf.below (B := w.heap.size + 3) ((((Below.refl _ _).alloc (by simp) (.cells #[.func (Fn.func 26) #[.agg #[.int .u64 k]] #[]] 45))).alloc (by simp) (.cells #[.pointer (some ⟨w.heap.size + 1, 0, none⟩)] 73)) (by simp)
      simpa using this
    · exact Dr.start k i (w.heap.size + 1) _ _ (by rw [World.cell?_alloc_past _ _ _ (by simp), World.cell?_alloc_at _ _ _ _ (by simp)]; rfl) (by rw [World.frozen?_alloc_past _ _ _ (by simp), World.frozen?_alloc_at _ _ _ _ (by simp)]) (by simp) (by omega) (by simp) h0 h1
    · exact hT.below (show Below w.heap.size w _ by repeat' (first | with_reducible exact Below.refl _ _ | with_reducible assumption | with_reducible refine below_drewN ?_ _ | with_reducible refine Below.drew ?_ | with_reducible refine Below.alloc ?_ ?_ _ | with_reducible refine Below.setCell ?_ ?_ _ | omega | (simp; done) | (simp; omega))) hT.pos
  case round =>
    obtain ⟨m, j2, f2, rfl, hm0, hm1, hf2, hch, hfl, hD, hT2, hB2⟩ := hrel
    by_cases hlt : m < n
    · rw [show ((n : Int) - m).toNat = ((n : Int) - (m + 1)).toNat + 1 by omega] at hch
      obtain ⟨v, j3, hbv, hnext⟩ := choo_step hch
      have HN : Hid (chooF k ((n : Int) - (m + 1)).toNat (m + 1) j3 (f2.set (if f2.getD v.toNat false = true then m else v).toNat true) = some (fl, j)) := hnext
      have HF : Hid (f2.length = 1000) := hf2
      clear hnext hch hf2
      have hvr := below_range (by omega) hD.le hbv
      have hlo := hD.lo
      go_wp2_with fail
      refine (dr_some_c k j2 (m + 1) v j3 (w.heap.size + 1) (w.heap.size + 3) _ hx0 hx1 hT2 hD (by omega) (by omega) hbv).mono ?_
      rintro e w3 ⟨rfl, hdr⟩
      have hfl3 := hdr.flags hfl (by omega)
      have hD3 := hdr.dr hD (by omega) (by omega)
      have hT3 := hdr.tab hT2 (by omega)
      have hB3 := hdr.below hB2 (by omega) hB2.size
      obtain ⟨vn, rfl⟩ := Int.eq_ofNat_of_zero_le hvr.1
      obtain ⟨mn, rfl⟩ := Int.eq_ofNat_of_zero_le hm0
      have HN2 : Hid (chooF k ((n : Int) - (mn + 1 : Nat)).toNat (mn + 1 : Nat) j3 (f2.set (if f2.getD vn false = true then mn else vn) true) = some (fl, j)) := by
        have := HN.out
        rw [apply_ite Int.toNat] at this
        exact this
      clear hdr hfl hD hT2 hB2 hbv HN
      have cv := (hfl3.2 vn (by rw [HF.out]; omega)).1
      have cfv := (hfl3.2 vn (by rw [HF.out]; omega)).2
      have cm := (hfl3.2 mn (by rw [HF.out]; omega)).1
      have cfm := (hfl3.2 mn (by rw [HF.out]; omega)).2
      have hset := fun q hq => hfl3.set q hq true
      cases hbit : f2.getD vn false
      · rw [hbit] at cv
        have HN3 : Hid (chooF k ((n : Int) - (mn + 1 : Nat)).toNat (mn + 1 : Nat) j3 (f2.set vn true) = some (fl, j)) := by
          have := HN2.out
          rw [hbit] at this
          exact this
        have HS : Hid (Flags (w3.setCell ⟨w.heap.size + 2, vn, none⟩ (.bool true)) (w.heap.size + 2) (f2.set vn true)) := hset vn (by rw [HF.out]; omega)
        clear hbit HN2 hset cm cfm
        go_wp2
        exact ⟨⟨((mn + 1 : Nat) : Int), j3, f2.set vn true, by go_num, by omega, by omega, by rw [List.length_set]; exact HF.out, HN3.out, HS.out, hD3.other (by omega) (by omega) (by omega) _, hT3.below ((Below.refl 1 _).setCell (by simp) _) (by decide), hB3.setCell (show w.heap.size ≤ w.heap.size + 1 + 1 by omega) _⟩, by simp [intOf]; omega⟩
      · rw [hbit] at cv
        have HN3 : Hid (chooF k ((n : Int) - (mn + 1 : Nat)).toNat (mn + 1 : Nat) j3 (f2.set mn true) = some (fl, j)) := by
          have := HN2.out
          rw [hbit] at this
          exact this
        have HS : Hid (Flags (w3.setCell ⟨w.heap.size + 2, mn, none⟩ (.bool true)) (w.heap.size + 2) (f2.set mn true)) := hset mn (by rw [HF.out]; omega)
        clear hbit HN2 hset
        obtain ⟨u, hu⟩ : ∃ u, w3.cell? ⟨w.heap.size + 2, mn, none⟩ = some u := ⟨_, cm⟩
        clear cm
        go_wp2
        exact ⟨⟨((mn + 1 : Nat) : Int), j3, f2.set mn true, by go_num, by omega, by omega, by rw [List.length_set]; exact HF.out, HN3.out, HS.out, hD3.other (by omega) (by omega) (by omega) _, hT3.below ((Below.refl 1 _).setCell (by simp) _) (by decide), hB3.setCell (show w.heap.size ≤ w.heap.size + 1 + 1 by omega) _⟩, by simp [intOf]; omega⟩
    · rw [show ((n : Int) - m).toNat = 0 by omega] at hch
      simp only [chooF, Option.some.injEq, Prod.mk.injEq] at hch
      obtain ⟨rfl, rfl⟩ := hch
      have hmk := make_ints0 c (by omega)
      have hat := hD.at
      have HF : Hid (f2.length = 1000) := hf2
      have hsz : w.heap.size + 4 < wr.heap.size := hD.2.2.2.2.2.1
      clear hf2
      go_wp2_with fail
      obtain ⟨wo, rfl⟩ : ∃ wo : World, wo = wr := ⟨_, rfl⟩
      go_loopw [16, 17, 64] (fun v _ x wr => ChoRel2 n wo.heap.size f2 v x wr ∧ Below wo.heap.size wo wr) (fun _ _ x _ => n - (intOf x).toNat)
      case atStart =>
        refine ⟨⟨0, rfl, Nat.zero_le _, rfl, .inr ⟨_, c, zer c, rfl, Nat.le_refl _, ?_, Nat.zero_le _, by unfold maxLen; omega, by simp [zer, size_madeCells], rfl⟩⟩, by repeat' (first | with_reducible exact Below.refl _ _ | with_reducible assumption | with_reducible refine below_drewN ?_ _ | with_reducible refine Below.drew ?_ | with_reducible refine Below.alloc ?_ ?_ _ | with_reducible refine Below.setCell ?_ ?_ _ | omega | (simp; done) | (simp; omega))⟩
        rw [World.heap_alloc_at]
      case round =>
        obtain ⟨⟨q, rfl, hq, hown⟩, hb⟩ := hrel
        by_cases hlt : q < n
        · have cq := (hfl.2 q (by rw [HF.out]; omega)).1
          have cq' : wr.cell? ⟨w.heap.size + 2, q, none⟩ = some (.bool (f2.getD q false)) := by rw [hb.cell (p := ⟨w.heap.size + 2, q, none⟩) (show w.heap.size + 2 < wo.heap.size by omega)]; exact cq
          have hstep := chosen_step f2 q
          have hlen := chosen_len f2 q
          have hws : wo.heap.size ≤ wr.heap.size := hb.size
          clear cq
          cases hbit : f2.getD q false
          · rw [hbit] at cq' hstep
            have HS : Hid (chosenTo f2 (q + 1) = chosenTo f2 q) := (show chosenTo f2 (q + 1) = chosenTo f2 q by simpa using hstep)
            clear hstep hbit
            go_wp2
            exact ⟨⟨⟨q + 1, by go_num, by omega, by rw [HS.out]; exact hown⟩, hb⟩, by simp [intOf]; omega⟩
          · rw [hbit] at cq' hstep
            have HS : Hid (chosenTo f2 (q + 1) = chosenTo f2 q ++ [(q : Int)]) := (show chosenTo f2 (q + 1) = chosenTo f2 q ++ [(q : Int)] by simpa using hstep)
            clear hstep hbit
            obtain ⟨i0, hi, hz0, hz1, hz2⟩ := info_parts info_int
            go_wp2_with ((at_builtin; refine wpList_append_own _ rfl _ _ 26 rfl wo.heap.size 3 i0 (.int .i64 0) 1 8 Tryd.underlying26 hi hz0 hz1 hz2 rfl (by decide) _ _ _ rfl (hown.alloc _) ⟨wr.heap.size, 0, none⟩ 1 1 [.int .i64 (q : Int)] rfl rfl ?c1 ?c2 ?c3 ?c4 ?c5 ?_))
            case c1 => exact new_one _ _ _
            case c2 => simp [Value.oneCell']
            case c3 => unfold maxLen; omega
            case c4 => omega
            case c5 => simp; omega
            intro v' w1 hown' hgrow _
            have hb1 : Below wo.heap.size wo w1 := (hb.alloc hws _).grown hgrow (by simp; omega) (own_ge hown)
            have HO : Hid (w1.ownsRow wo.heap.size 3 1 v' (chosenTo f2 (q + 1)).length ((chosenTo f2 (q + 1)).map (Value.int .i64))) := by
              show w1.ownsRow _ _ _ _ _ _
              rw [HS.out, List.length_append, List.map_append]; exact hown'
            clear hown' hgrow hown hb
            go_wp2
            exact ⟨⟨⟨q + 1, by go_num, by omega, HO.out⟩, hb1⟩, by simp [intOf]; omega⟩
        · have e : q = n := by omega
          have HO : Hid (wr.ownsRow wo.heap.size 3 1 u16 (chosenTo f2 n).length ((chosenTo f2 n).map (Value.int .i64))) := by
            show wr.ownsRow _ _ _ _ _ _
            rw [← e]; exact hown
          have hat' : wr.cell? ⟨w.heap.size + 1, 0, none⟩ = some (.int .i64 j2) := by rw [hb.cell (p := ⟨w.heap.size + 1, 0, none⟩) (show w.heap.size + 1 < wo.heap.size by omega)]; exact hat
          have hB4 : Below w.heap.size w wr := hB2.trans (hb.mono (by omega))
          clear e hown hat hb
          go_wp2
          go_quiet (fail)
          go_wp2
          go_ret3
          exact ⟨u16, rfl, ((Ints.of_owns HO.out).mono (by omega)).below (below_drewN (Below.refl _ _) _), below_drewN hB4 _⟩
set_option maxHeartbeats 1000000 in
theorem choose_none_c (k i : Int) (n c : Nat) (w : World) (hx0 : 0 ≤ k) (hx1 : k < 18446744073709551616) (hT : Tab w) (h0 : 0 ≤ i) (h1 : i ≤ 1099511627776) (hn : n ≤ 1000) (hc : c ≤ n)
    (h : chooF k c ((n : Int) - c) i flagsL = none) :
    Calls Tryd.prog 30 #[.agg #[.int .u64 k], .int .i64 i, .int .i64 (n : Int), .int .i64 (c : Int)] w fun e w' =>
      e = .returned (.tuple #[.slice none 0 0, .int .i64 0, .int .i64 4]) ∧ Below w.heap.size w w' := by
  have hd : (decide (0 ≤ i) && decide (i ≤ 1099511627776)) = true := by simp [h0, h1]
  have hcn : ¬ (n : Int) < (c : Int) := by omega
  have hza := zero_arr
  have H : Hid (chooF k c ((n : Int) - c) i flagsL = none) := h
  clear h
  go_enter Tryd.func30, Tryd.ntmps30
  go_wp2_with fail
  refine (drawable_c i _).mono ?_
  rw [hd]
  clear hd
  rintro e w1 ⟨rfl, rfl⟩
  go_wp2_with fail
  refine (drawer_c _ _ _).mono ?_
  rintro e w1 ⟨rfl, rfl⟩
  go_wp2_with fail
  go_loopw [13, 14, 15] (fun x _ _ wr => ChoRel1 k n (w.heap.size) (w.heap.size + 3) none w x wr) (fun x _ _ _ => ((n : Int) - intOf x).toNat)
  case atStart =>
    have hf := Flags.made ((w.alloc (.cells #[.int .u64 k] 33)).alloc (.cells #[.int .i64 i] 3))
    refine ⟨(n : Int) - c, i, flagsL, rfl, by omega, by omega, flagsL_len, ?_, ?_, ?_, ?_, by repeat' (first | with_reducible exact Below.refl _ _ | with_reducible assumption | with_reducible refine below_drewN ?_ _ | with_reducible refine Below.drew ?_ | with_reducible refine Below.alloc ?_ ?_ _ | with_reducible refine Below.setCell ?_ ?_ _ | omega | (simp; done) | (simp; omega))⟩
    · rw [show ((n : Int) - ((n : Int) - c)).toNat = c by omega]; exact H.out
    · have := hf.below (B := w.heap.size + 3) ((((Below.refl _ _).alloc (by simp) (.cells #[.func (Fn.func 26) #[.agg #[.int .u64 k]] #[]] 45))).alloc (by simp) (.cells #[.pointer (some ⟨w.heap.size + 1, 0, none⟩)] 73)) (by simp)
      simpa using this
    · exact Dr.start k i (w.heap.size + 1) _ _ (by rw [World.cell?_alloc_past _ _ _ (by simp), World.cell?_alloc_at _ _ _ _ (by simp)]; rfl) (by rw [World.frozen?_alloc_past _ _ _ (by simp), World.frozen?_alloc_at _ _ _ _ (by simp)]) (by simp) (by omega) (by simp) h0 h1
    · exact hT.below (show Below w.heap.size w _ by repeat' (first | with_reducible exact Below.refl _ _ | with_reducible assumption | with_reducible refine below_drewN ?_ _ | with_reducible refine Below.drew ?_ | with_reducible refine Below.alloc ?_ ?_ _ | with_reducible refine Below.setCell ?_ ?_ _ | omega | (simp; done) | (simp; omega))) hT.pos
  case round =>
    obtain ⟨m, j2, f2, rfl, hm0, hm1, hf2, hch, hfl, hD, hT2, hB2⟩ := hrel
    by_cases hlt : m < n
    · rw [show ((n : Int) - m).toNat = ((n : Int) - (m + 1)).toNat + 1 by omega] at hch
      rcases choo_step_none hch with hbv | ⟨v, j3, hbv, hnext⟩
      · have hlo := hD.lo
        go_wp2_with fail
        refine (dr_none_c k j2 (m + 1) (w.heap.size + 1) (w.heap.size + 3) _ hx0 hx1 hT2 hD (by omega) (by omega) hbv).mono ?_
        rintro e w3 ⟨rfl, hdr⟩
        have hB3 := hdr.below hB2 (by omega) hB2.size
        clear hdr hfl hD hT2 hB2 hbv hch
        go_wp2
        go_ret3
        exact ⟨rfl, hB3⟩
      have HN : Hid (chooF k ((n : Int) - (m + 1)).toNat (m + 1) j3 (f2.set (if f2.getD v.toNat false = true then m else v).toNat true) = none) := hnext
      have HF : Hid (f2.length = 1000) := hf2
      clear hnext hch hf2
      have hvr := below_range (by omega) hD.le hbv
      have hlo := hD.lo
      go_wp2_with fail
      refine (dr_some_c k j2 (m + 1) v j3 (w.heap.size + 1) (w.heap.size + 3) _ hx0 hx1 hT2 hD (by omega) (by omega) hbv).mono ?_
      rintro e w3 ⟨rfl, hdr⟩
      have hfl3 := hdr.flags hfl (by omega)
      have hD3 := hdr.dr hD (by omega) (by omega)
      have hT3 := hdr.tab hT2 (by omega)
      have hB3 := hdr.below hB2 (by omega) hB2.size
      obtain ⟨vn, rfl⟩ := Int.eq_ofNat_of_zero_le hvr.1
      obtain ⟨mn, rfl⟩ := Int.eq_ofNat_of_zero_le hm0
      have HN2 : Hid (chooF k ((n : Int) - (mn + 1 : Nat)).toNat (mn + 1 : Nat) j3 (f2.set (if f2.getD vn false = true then mn else vn) true) = none) := by
        have := HN.out
        rw [apply_ite Int.toNat] at this
        exact this
      clear hdr hfl hD hT2 hB2 hbv HN
      have cv := (hfl3.2 vn (by rw [HF.out]; omega)).1
      have cfv := (hfl3.2 vn (by rw [HF.out]; omega)).2
      have cm := (hfl3.2 mn (by rw [HF.out]; omega)).1
      have cfm := (hfl3.2 mn (by rw [HF.out]; omega)).2
      have hset := fun q hq => hfl3.set q hq true
      cases hbit : f2.getD vn false
      · rw [hbit] at cv
        have HN3 : Hid (chooF k ((n : Int) - (mn + 1 : Nat)).toNat (mn + 1 : Nat) j3 (f2.set vn true) = none) := by
          have := HN2.out
          rw [hbit] at this
          exact this
        have HS : Hid (Flags (w3.setCell ⟨w.heap.size + 2, vn, none⟩ (.bool true)) (w.heap.size + 2) (f2.set vn true)) := hset vn (by rw [HF.out]; omega)
        clear hbit HN2 hset cm cfm
        go_wp2
        exact ⟨⟨((mn + 1 : Nat) : Int), j3, f2.set vn true, by go_num, by omega, by omega, by rw [List.length_set]; exact HF.out, HN3.out, HS.out, hD3.other (by omega) (by omega) (by omega) _, hT3.below ((Below.refl 1 _).setCell (by simp) _) (by decide), hB3.setCell (show w.heap.size ≤ w.heap.size + 1 + 1 by omega) _⟩, by simp [intOf]; omega⟩
      · rw [hbit] at cv
        have HN3 : Hid (chooF k ((n : Int) - (mn + 1 : Nat)).toNat (mn + 1 : Nat) j3 (f2.set mn true) = none) := by
          have := HN2.out
          rw [hbit] at this
          exact this
        have HS : Hid (Flags (w3.setCell ⟨w.heap.size + 2, mn, none⟩ (.bool true)) (w.heap.size + 2) (f2.set mn true)) := hset mn (by rw [HF.out]; omega)
        clear hbit HN2 hset
        obtain ⟨u, hu⟩ : ∃ u, w3.cell? ⟨w.heap.size + 2, mn, none⟩ = some u := ⟨_, cm⟩
        clear cm
        go_wp2
        exact ⟨⟨((mn + 1 : Nat) : Int), j3, f2.set mn true, by go_num, by omega, by omega, by rw [List.length_set]; exact HF.out, HN3.out, HS.out, hD3.other (by omega) (by omega) (by omega) _, hT3.below ((Below.refl 1 _).setCell (by simp) _) (by decide), hB3.setCell (show w.heap.size ≤ w.heap.size + 1 + 1 by omega) _⟩, by simp [intOf]; omega⟩
    · rw [show ((n : Int) - m).toNat = 0 by omega] at hch
      cases hch
set_option maxHeartbeats 1000000 in
theorem choose_err_c (k i n c : Int) (w : World) (h : i < 0 ∨ 1099511627776 < i ∨ 1000 < n ∨ c < 0 ∨ n < c) :
    Calls Tryd.prog 30 #[.agg #[.int .u64 k], .int .i64 i, .int .i64 n, .int .i64 c] w fun e w' => e = .returned (.tuple #[.slice none 0 0, .int .i64 0, .int .i64 2]) ∧ Below w.heap.size w w' := by
  by_cases hd : (decide (0 ≤ i) && decide (i ≤ 1099511627776)) = true
  · have hrest : 1000 < n ∨ (n ≤ 1000 ∧ c < 0) ∨ (n ≤ 1000 ∧ 0 ≤ c ∧ n < c) := by simp at hd; omega
    rcases hrest with h1 | ⟨h1, h2⟩ | ⟨h1, h2, h3⟩
    all_goals
      go_enter Tryd.func30, Tryd.ntmps30
      go_wp2_with fail
      refine (drawable_c i _).mono ?_
      rw [hd]
      clear hd h
      rintro e w1 ⟨rfl, rfl⟩
      go_wp2
      go_ret3
      exact ⟨rfl, by repeat' (first | with_reducible exact Below.refl _ _ | with_reducible assumption | with_reducible refine below_drewN ?_ _ | with_reducible refine Below.drew ?_ | with_reducible refine Below.alloc ?_ ?_ _ | with_reducible refine Below.setCell ?_ ?_ _ | omega | (simp; done) | (simp; omega))⟩
  · have hd' : (decide (0 ≤ i) && decide (i ≤ 1099511627776)) = false := by simpa using hd
    clear hd h
    go_enter Tryd.func30, Tryd.ntmps30
    go_wp2_with fail
    refine (drawable_c i _).mono ?_
    rw [hd']
    clear hd'
    rintro e w1 ⟨rfl, rfl⟩
    go_wp2
    go_ret3
    exact ⟨rfl, by repeat' (first | with_reducible exact Below.refl _ _ | with_reducible assumption | with_reducible refine below_drewN ?_ _ | with_reducible refine Below.drew ?_ | with_reducible refine Below.alloc ?_ ?_ _ | with_reducible refine Below.setCell ?_ ?_ _ | omega | (simp; done) | (simp; omega))⟩
end Go.Proofs.YtkcifgnlkdicgaaDoor.Sd
