/-
  The contracts of the names: digit, letterOrDigit, names and its closure, Variable, Predicate, Function, word.
-/
import Derived.Test.YtdapnjnmhkdnpaaDoorFmFits
import Derived.Deep.QuietTactic
import Derived.BigQuiet
import Derived.Handy
import Derived.WalkSpells
namespace Go.Proofs.YtdapnjnmhkdnpaaDoor.Fm
open Go Go.RowKit Go.Shelf
set_option linter.unusedVariables false
set_option linter.unusedSimpArgs false
def digB (b : Int) : Bool := decide (48 ≤ b) && decide (b ≤ 57)
def lodB (b : Int) : Bool := decide (97 ≤ b) && decide (b ≤ 122) || decide (65 ≤ b) && decide (b ≤ 90) || digB b
theorem digit_c (b : Int) (w : World) : Calls Tryd.prog 83 #[.int .u8 b] w fun e w' => e = .returned (.bool (digB b)) ∧ w = w' := by
  by_cases h1 : 48 ≤ b <;> by_cases h2 : b ≤ 57
  all_goals
    have HB := Lib.hid (show digB b = (decide (48 ≤ b) && decide (b ≤ 57)) from rfl)
    go_enter Tryd.func83, Tryd.ntmps83
    go_wp2_with fail
    go_ret
    exact ⟨by rw [HB.out]; simp <;> omega, rfl⟩
theorem lod_c (b : Int) (w : World) : Calls Tryd.prog 85 #[.int .u8 b] w fun e w' => e = .returned (.bool (lodB b)) ∧ w = w' := by
  have HD := Lib.hid (fun w => digit_c b w)
  have HB := Lib.hid (show lodB b = (decide (97 ≤ b) && decide (b ≤ 122) || decide (65 ≤ b) && decide (b ≤ 90) || digB b) from rfl)
  generalize digB b = d at *
  by_cases h1 : 97 ≤ b <;> by_cases h2 : b ≤ 122 <;> by_cases h3 : 65 ≤ b <;> by_cases h4 : b ≤ 90
  all_goals
    try omega
  all_goals
    go_enter Tryd.func85, Tryd.ntmps85
    go_wp2_with (refine (HD.out _).mono ?_; rintro e w' ⟨rfl, rfl⟩)
    go_ret
    exact ⟨by rw [HB.out]; simp <;> omega, rfl⟩

/-- A name: its length, its first byte, and those behind it. -/
def namesB (f t : Int) (p : Int → Bool) (s : ByteArray) : Bool :=
  decide (1 ≤ s.size) && decide (s.size ≤ 16) && (match s.data.toList with
    | [] => false
    | c :: r => decide (f ≤ (c.toNat : Int)) && decide ((c.toNat : Int) ≤ t) && r.all fun c => p c.toNat)
theorem names_c (f t : Int) (fv : Value) (hfv : ∃ g, fv = .func (.func g) #[] #[]) (w : World) : Calls Tryd.prog 82 #[.int .u8 f, .int .u8 t, fv] w fun e w' =>
    e = .returned (.func (.func 98) #[] #[.pointer (some ⟨w.heap.size, 0, none⟩), .pointer (some ⟨w.heap.size + 1, 0, none⟩), .pointer (some ⟨w.heap.size + 2, 0, none⟩)]) ∧ Below w.heap.size w w' ∧
    w'.cell? ⟨w.heap.size, 0, none⟩ = some (.int .u8 f) ∧ w'.cell? ⟨w.heap.size + 1, 0, none⟩ = some (.int .u8 t) ∧ w'.cell? ⟨w.heap.size + 2, 0, none⟩ = some fv := by
  obtain ⟨g, rfl⟩ := hfv
  have h3 := three_cells w (.int .u8 f) (.int .u8 t) (.func (.func g) #[] #[]) 5 5 119
  have H1 := Lib.hid h3.1
  have H2 := Lib.hid h3.2.1
  have H3 := Lib.hid h3.2.2.1
  clear h3
  go_enter Tryd.func82, Tryd.ntmps82
  go_wp2_with fail
  go_ret
  exact ⟨rfl, (((Below.refl _ _).alloc (Nat.le_refl _) _).alloc (by simp) _).alloc (by simp; omega) _, H1.out, H2.out, H3.out⟩
theorem names_empty (f t : Int) (p : Int → Bool) (s : ByteArray) (h : s.size = 0) : namesB f t p s = false := by unfold namesB; simp [h]
theorem names_long (f t : Int) (p : Int → Bool) (s : ByteArray) (h : 16 < s.size) : namesB f t p s = false := by
  unfold namesB
  rw [decide_eq_false (show ¬ s.size ≤ 16 by omega)]
  simp
theorem names_some (f t : Int) (p : Int → Bool) (s : ByteArray) (h : 0 < s.size) (h2 : s.size ≤ 16) : namesB f t p s = (decide (f ≤ (s[0].toNat : Int)) && decide ((s[0].toNat : Int) ≤ t) && (s.data.toList.drop 1).all fun c => p c.toNat) := by
  unfold namesB
  have hl : 0 < s.data.toList.length := by simpa using h
  have e : s.data.toList = s.data.toList[0] :: s.data.toList.drop 1 := by rw [← List.drop_eq_getElem_cons hl]; rfl
  rw [decide_eq_true (show 1 ≤ s.size by omega), decide_eq_true h2]
  have e0 : s.data.toList[0] = s[0] := rfl
  conv => lhs; rw [e]
  simp [e0]
theorem all_upto {l : List UInt8} {p : Int → Bool} (h : ∀ j, 1 ≤ j → (hj : j < l.length) → p (l[j].toNat : Int) = true) : ((l.drop 1).all fun c => p c.toNat) = true := by
  rw [List.all_eq_true]
  intro c hc
  obtain ⟨j, hj, rfl⟩ := List.getElem_of_mem hc
  rw [List.length_drop] at hj
  rw [List.getElem_drop]
  exact h (1 + j) (by omega) (by omega)
theorem all_not {l : List UInt8} {p : Int → Bool} {j : Nat} (h1 : 1 ≤ j) (hj : j < l.length) (h : p (l[j].toNat : Int) = false) : ((l.drop 1).all fun c => p c.toNat) = false := by
  rw [List.all_eq_false]
  refine ⟨l[j], ?_, by rw [h]; decide⟩
  rw [List.mem_iff_getElem]
  exact ⟨j - 1, by rw [List.length_drop]; omega, by rw [List.getElem_drop]; congr 1; omega⟩
def NReldig (s : ByteArray) (w : World) (x : Value) (wr : World) : Prop := ∃ q m : Nat, x = .int .i64 (q : Int) ∧ 1 ≤ q ∧ q ≤ s.size ∧ wr = w.drewN m ∧ ∀ j, 1 ≤ j → (hj : j < s.data.toList.length) → j < q → digB (s.data.toList[j].toNat : Int) = true
set_option maxHeartbeats 1000000 in
theorem names1_dig (f t : Int) (s : ByteArray) (B : Nat) (w : World) (c0 : w.cell? ⟨B, 0, none⟩ = some (.int .u8 f)) (c1 : w.cell? ⟨B + 1, 0, none⟩ = some (.int .u8 t)) (c2 : w.cell? ⟨B + 2, 0, none⟩ = some (.func (.func 83) #[] #[])) (hsz : s.size ≤ 9223372036854775807) :
    Calls Tryd.prog 98 #[.string s, .pointer (some ⟨B, 0, none⟩), .pointer (some ⟨B + 1, 0, none⟩), .pointer (some ⟨B + 2, 0, none⟩)] w fun e w' => e = .returned (.bool (namesB f t digB s)) ∧ ∃ n, w' = w.drewN n := by
  by_cases h0 : s.size = 0
  · have HE := Lib.hid (names_empty f t digB s h0)
    obtain rfl : s = ⟨#[]⟩ := by
      obtain ⟨d⟩ := s
      have h0' : d.size = 0 := h0
      have : d = #[] := Array.eq_empty_of_size_eq_zero h0'
      rw [this]
    clear h0
    go_enter Tryd.func98, Tryd.ntmps98
    go_wp2_with fail
    go_quiet (fail)
    go_wp2_with fail
    go_ret
    exact ⟨by rw [HE.out]; rfl, _, rfl⟩
  · have d1 : decide ((s.size : Int) < 1) = false := decide_eq_false (by omega)
    have h1 : 0 < s.size := by omega
    clear h0
    by_cases h16 : 16 < s.size
    · have HE := Lib.hid (names_long f t digB s h16)
      have d2 : decide (16 < (s.size : Int)) = true := decide_eq_true (by omega)
      clear h16
      go_enter Tryd.func98, Tryd.ntmps98
      go_wp2_with fail
      go_quiet (fail)
      go_wp2_with fail
      go_ret
      exact ⟨by rw [HE.out]; rfl, _, rfl⟩
    · have d2 : decide (16 < (s.size : Int)) = false := decide_eq_false (by omega)
      have HE := Lib.hid (names_some f t digB s h1 (by omega))
      have h17 : (s.size : Int) ≤ 16 := by omega
      clear h16
      by_cases hf : (s[0].toNat : Int) < f
      · have d3 : decide ((s[0].toNat : Int) < f) = true := decide_eq_true hf
        have HF := Lib.hid (decide_eq_false (show ¬ f ≤ (s[0].toNat : Int) by omega))
        go_enter Tryd.func98, Tryd.ntmps98
        go_wp2_with fail
        go_quiet (fail)
        go_wp2_with fail
        go_ret
        exact ⟨by rw [HE.out, HF.out]; rfl, _, rfl⟩
      · have d3 : decide ((s[0].toNat : Int) < f) = false := decide_eq_false hf
        have HF := Lib.hid (decide_eq_true (show f ≤ (s[0].toNat : Int) by omega))
        by_cases ht : t < (s[0].toNat : Int)
        · have d4 : decide (t < (s[0].toNat : Int)) = true := decide_eq_true ht
          have HT := Lib.hid (decide_eq_false (show ¬ (s[0].toNat : Int) ≤ t by omega))
          go_enter Tryd.func98, Tryd.ntmps98
          go_wp2_with fail
          go_quiet (fail)
          go_wp2_with fail
          go_ret
          exact ⟨by rw [HE.out, HF.out, HT.out]; rfl, _, rfl⟩
        · have d4 : decide (t < (s[0].toNat : Int)) = false := decide_eq_false ht
          have HT := Lib.hid (decide_eq_true (show (s[0].toNat : Int) ≤ t by omega))
          go_enter Tryd.func98, Tryd.ntmps98
          go_wp2_with fail
          go_quiet (fail)
          clear d1 d2 d3 d4 hf ht
          go_wp2_with fail
          go_loopw [6] (fun x wr => NReldig s w x wr) (fun x _ => s.size - (intOf x).toNat)
          case atStart => exact ⟨1, nq, rfl, Nat.le_refl _, h1, rfl, fun j h1 _ h2 => by omega⟩
          case round =>
            obtain ⟨q, m, rfl, hq1, hq2, hwr, hall⟩ := hrel
            have HALL := Lib.hid hall
            have d2 : wr.cell? ⟨B + 2, 0, none⟩ = some (.func (.func 83) #[] #[]) := by rw [hwr, World.cell?_drewN]; exact c2
            have HW := Lib.hid hwr
            clear hall hwr
            by_cases hlt : q < s.size
            · have hp := Lib.hid (fun w => digit_c (s[q].toNat : Int) w)
              have hlt' : q < s.data.toList.length := by simpa using hlt
              cases hb : digB (s[q].toNat : Int) with
              | true =>
                rw [hb] at hp
                have HB := Lib.hid hb
                clear hb
                go_wp2_with fail
                go_quiet ((exact Calls.quiet_of_same ((hp.out _).mono fun e w' h => ⟨h.1, h.2.symm⟩)))
                go_wp2_with fail
                refine ⟨⟨q + 1, m + nq, by go_num, by omega, by omega, by rw [HW.out, World.drewN_drewN], fun j h1 h2 h3 => ?_⟩, by simp [intOf]; omega⟩
                rcases Nat.lt_or_ge j q with h | h
                · exact HALL.out j h1 h2 h
                · obtain rfl : j = q := by omega
                  exact HB.out
              | false =>
                rw [hb] at hp
                have HB := Lib.hid (all_not (p := digB) hq1 hlt' hb)
                clear hb
                go_wp2_with fail
                go_quiet ((exact Calls.quiet_of_same ((hp.out _).mono fun e w' h => ⟨h.1, h.2.symm⟩)))
                go_wp2_with fail
                go_ret
                exact ⟨by rw [HE.out, HF.out, HT.out, HB.out]; rfl, m + nq, by rw [HW.out, World.drewN_drewN]⟩
            · have hsl : s.data.toList.length = s.size := by simp
              have HU := Lib.hid (all_upto (l := s.data.toList) (p := digB) fun j h1 h2 => HALL.out j h1 h2 (by omega))
              clear hsl
              go_wp2_with fail
              go_ret
              exact ⟨by rw [HE.out, HF.out, HT.out, HU.out]; rfl, m, HW.out⟩
def NRellod (s : ByteArray) (w : World) (x : Value) (wr : World) : Prop := ∃ q m : Nat, x = .int .i64 (q : Int) ∧ 1 ≤ q ∧ q ≤ s.size ∧ wr = w.drewN m ∧ ∀ j, 1 ≤ j → (hj : j < s.data.toList.length) → j < q → lodB (s.data.toList[j].toNat : Int) = true
set_option maxHeartbeats 1000000 in
theorem names1_lod (f t : Int) (s : ByteArray) (B : Nat) (w : World) (c0 : w.cell? ⟨B, 0, none⟩ = some (.int .u8 f)) (c1 : w.cell? ⟨B + 1, 0, none⟩ = some (.int .u8 t)) (c2 : w.cell? ⟨B + 2, 0, none⟩ = some (.func (.func 85) #[] #[])) (hsz : s.size ≤ 9223372036854775807) :
    Calls Tryd.prog 98 #[.string s, .pointer (some ⟨B, 0, none⟩), .pointer (some ⟨B + 1, 0, none⟩), .pointer (some ⟨B + 2, 0, none⟩)] w fun e w' => e = .returned (.bool (namesB f t lodB s)) ∧ ∃ n, w' = w.drewN n := by
  by_cases h0 : s.size = 0
  · have HE := Lib.hid (names_empty f t lodB s h0)
    obtain rfl : s = ⟨#[]⟩ := by
      obtain ⟨d⟩ := s
      have h0' : d.size = 0 := h0
      have : d = #[] := Array.eq_empty_of_size_eq_zero h0'
      rw [this]
    clear h0
    go_enter Tryd.func98, Tryd.ntmps98
    go_wp2_with fail
    go_quiet (fail)
    go_wp2_with fail
    go_ret
    exact ⟨by rw [HE.out]; rfl, _, rfl⟩
  · have d1 : decide ((s.size : Int) < 1) = false := decide_eq_false (by omega)
    have h1 : 0 < s.size := by omega
    clear h0
    by_cases h16 : 16 < s.size
    · have HE := Lib.hid (names_long f t lodB s h16)
      have d2 : decide (16 < (s.size : Int)) = true := decide_eq_true (by omega)
      clear h16
      go_enter Tryd.func98, Tryd.ntmps98
      go_wp2_with fail
      go_quiet (fail)
      go_wp2_with fail
      go_ret
      exact ⟨by rw [HE.out]; rfl, _, rfl⟩
    · have d2 : decide (16 < (s.size : Int)) = false := decide_eq_false (by omega)
      have HE := Lib.hid (names_some f t lodB s h1 (by omega))
      have h17 : (s.size : Int) ≤ 16 := by omega
      clear h16
      by_cases hf : (s[0].toNat : Int) < f
      · have d3 : decide ((s[0].toNat : Int) < f) = true := decide_eq_true hf
        have HF := Lib.hid (decide_eq_false (show ¬ f ≤ (s[0].toNat : Int) by omega))
        go_enter Tryd.func98, Tryd.ntmps98
        go_wp2_with fail
        go_quiet (fail)
        go_wp2_with fail
        go_ret
        exact ⟨by rw [HE.out, HF.out]; rfl, _, rfl⟩
      · have d3 : decide ((s[0].toNat : Int) < f) = false := decide_eq_false hf
        have HF := Lib.hid (decide_eq_true (show f ≤ (s[0].toNat : Int) by omega))
        by_cases ht : t < (s[0].toNat : Int)
        · have d4 : decide (t < (s[0].toNat : Int)) = true := decide_eq_true ht
          have HT := Lib.hid (decide_eq_false (show ¬ (s[0].toNat : Int) ≤ t by omega))
          go_enter Tryd.func98, Tryd.ntmps98
          go_wp2_with fail
          go_quiet (fail)
          go_wp2_with fail
          go_ret
          exact ⟨by rw [HE.out, HF.out, HT.out]; rfl, _, rfl⟩
        · have d4 : decide (t < (s[0].toNat : Int)) = false := decide_eq_false ht
          have HT := Lib.hid (decide_eq_true (show (s[0].toNat : Int) ≤ t by omega))
          go_enter Tryd.func98, Tryd.ntmps98
          go_wp2_with fail
          go_quiet (fail)
          clear d1 d2 d3 d4 hf ht
          go_wp2_with fail
          go_loopw [6] (fun x wr => NRellod s w x wr) (fun x _ => s.size - (intOf x).toNat)
          case atStart => exact ⟨1, nq, rfl, Nat.le_refl _, h1, rfl, fun j h1 _ h2 => by omega⟩
          case round =>
            obtain ⟨q, m, rfl, hq1, hq2, hwr, hall⟩ := hrel
            have HALL := Lib.hid hall
            have d2 : wr.cell? ⟨B + 2, 0, none⟩ = some (.func (.func 85) #[] #[]) := by rw [hwr, World.cell?_drewN]; exact c2
            have HW := Lib.hid hwr
            clear hall hwr
            by_cases hlt : q < s.size
            · have hp := Lib.hid (fun w => lod_c (s[q].toNat : Int) w)
              have hlt' : q < s.data.toList.length := by simpa using hlt
              cases hb : lodB (s[q].toNat : Int) with
              | true =>
                rw [hb] at hp
                have HB := Lib.hid hb
                clear hb
                go_wp2_with fail
                go_quiet ((exact Calls.quiet_of_same ((hp.out _).mono fun e w' h => ⟨h.1, h.2.symm⟩)))
                go_wp2_with fail
                refine ⟨⟨q + 1, m + nq, by go_num, by omega, by omega, by rw [HW.out, World.drewN_drewN], fun j h1 h2 h3 => ?_⟩, by simp [intOf]; omega⟩
                rcases Nat.lt_or_ge j q with h | h
                · exact HALL.out j h1 h2 h
                · obtain rfl : j = q := by omega
                  exact HB.out
              | false =>
                rw [hb] at hp
                have HB := Lib.hid (all_not (p := lodB) hq1 hlt' hb)
                clear hb
                go_wp2_with fail
                go_quiet ((exact Calls.quiet_of_same ((hp.out _).mono fun e w' h => ⟨h.1, h.2.symm⟩)))
                go_wp2_with fail
                go_ret
                exact ⟨by rw [HE.out, HF.out, HT.out, HB.out]; rfl, m + nq, by rw [HW.out, World.drewN_drewN]⟩
            · have hsl : s.data.toList.length = s.size := by simp
              have HU := Lib.hid (all_upto (l := s.data.toList) (p := lodB) fun j h1 h2 => HALL.out j h1 h2 (by omega))
              clear hsl
              go_wp2_with fail
              go_ret
              exact ⟨by rw [HE.out, HF.out, HT.out, HU.out]; rfl, m, HW.out⟩
end Go.Proofs.YtdapnjnmhkdnpaaDoor.Fm
