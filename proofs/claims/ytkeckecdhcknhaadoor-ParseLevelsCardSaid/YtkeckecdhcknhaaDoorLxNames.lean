/-
  The kinds of runs and marks: the contracts of Word, kindOfRun, kindOfMark, letter, digit, blank, named and its closure.
-/
import Derived.Test.YtkeckecdhcknhaaDoorFmVars
import Derived.Test.YtkeckecdhcknhaaDoorLxPure2
import Derived.Deep.RegionHeld3
namespace Go.Proofs.YtkeckecdhcknhaaDoor.Lx
open Go Go.RowKit Go.Shelf Go.Proofs.YtkeckecdhcknhaaDoor.Fm
set_option linter.unusedVariables false
set_option linter.unusedSimpArgs false
def bs (l : Bs) : ByteArray := ⟨l.toArray⟩
theorem bs_list (s : ByteArray) : bs s.data.toList = s := by unfold bs; simp
theorem bs_toList (l : Bs) : (bs l).data.toList = l := by unfold bs; simp
def metB (s : ByteArray) : Bool := metaB predB s || metaB fnB s
def namB (s : ByteArray) : Bool := varB s || fnB s || predB s
def runS (s : ByteArray) : Nat := if wordB s then 3 else if namB s then 1 else 0
def marS (s : ByteArray) : Nat := if metB s then 2 else 0
def KK : Kinds where
  ru l := runS (bs l)
  ma l := marS (bs l)
  rlt l := by unfold runS; split <;> (try split) <;> omega
  mlt l := by unfold marS; split <;> omega
  rne l := by unfold runS; split <;> (try split) <;> omega
  mne l := by unfold marS; split <;> omega
theorem ltr_int (c : UInt8) : ltr c = (decide (97 ≤ (c.toNat : Int)) && decide ((c.toNat : Int) ≤ 122) || decide (65 ≤ (c.toNat : Int)) && decide ((c.toNat : Int) ≤ 90)) := by
  unfold ltr
  have h (a : UInt8) : (decide (a ≤ c)) = decide ((a.toNat : Int) ≤ (c.toNat : Int)) := by
    rw [Bool.eq_iff_iff]; simp [UInt8.le_iff_toNat_le]
  have h' (a : UInt8) : (decide (c ≤ a)) = decide ((c.toNat : Int) ≤ (a.toNat : Int)) := by
    rw [Bool.eq_iff_iff]; simp [UInt8.le_iff_toNat_le]
  rw [h, h', h, h']; rfl
theorem dgt_int (c : UInt8) : (decide (48 ≤ c) && decide (c ≤ 57)) = (decide (48 ≤ (c.toNat : Int)) && decide ((c.toNat : Int) ≤ 57)) := by
  have h (a : UInt8) : (decide (a ≤ c)) = decide ((a.toNat : Int) ≤ (c.toNat : Int)) := by
    rw [Bool.eq_iff_iff]; simp [UInt8.le_iff_toNat_le]
  have h' (a : UInt8) : (decide (c ≤ a)) = decide ((c.toNat : Int) ≤ (a.toNat : Int)) := by
    rw [Bool.eq_iff_iff]; simp [UInt8.le_iff_toNat_le]
  rw [h, h']; rfl
def dgt (c : UInt8) : Bool := decide (48 ≤ c) && decide (c ≤ 57)
theorem lod_eq (c : UInt8) : lod c = (ltr c || dgt c) := rfl
theorem letter_i (b : Int) (w : World) : Calls Tryd.prog 77 #[.int .u8 b] w fun e w' => e = .returned (.bool (decide (97 ≤ b) && decide (b ≤ 122) || decide (65 ≤ b) && decide (b ≤ 90))) ∧ w = w' := by
  by_cases h1 : 97 ≤ b <;> by_cases h2 : b ≤ 122 <;> by_cases h3 : 65 ≤ b <;> by_cases h4 : b ≤ 90
  all_goals
    try omega
  all_goals
    go_enter Tryd.func77, Tryd.ntmps77
    go_wp2_with fail
    go_ret
    exact ⟨by simp [*] <;> omega, rfl⟩
theorem digit_i (b : Int) (w : World) : Calls Tryd.prog 89 #[.int .u8 b] w fun e w' => e = .returned (.bool (decide (48 ≤ b) && decide (b ≤ 57))) ∧ w = w' := by
  by_cases h1 : 48 ≤ b <;> by_cases h2 : b ≤ 57
  all_goals
    try omega
  all_goals
    go_enter Tryd.func89, Tryd.ntmps89
    go_wp2_with fail
    go_ret
    exact ⟨by simp [*] <;> omega, rfl⟩
theorem letter_c (c : UInt8) (w : World) : Calls Tryd.prog 77 #[.int .u8 (c.toNat : Int)] w fun e w' => e = .returned (.bool (ltr c)) ∧ w = w' := by
  rw [ltr_int]; exact letter_i _ w
theorem digit_u (c : UInt8) (w : World) : Calls Tryd.prog 89 #[.int .u8 (c.toNat : Int)] w fun e w' => e = .returned (.bool (dgt c)) ∧ w = w' := by
  unfold dgt
  rw [dgt_int]; exact digit_i _ w
theorem blk_int (c : UInt8) : blk c = (decide ((c.toNat : Int) = 32) || decide ((c.toNat : Int) = 9) || decide ((c.toNat : Int) = 10) || decide ((c.toNat : Int) = 13)) := by
  unfold blk
  have h (a : UInt8) : (c == a) = decide ((c.toNat : Int) = (a.toNat : Int)) := by
    rw [Bool.eq_iff_iff]; simp [UInt8.toNat_inj]
    constructor
    · rintro rfl; rfl
    · intro h; exact UInt8.toNat_inj.1 (by omega)
  rw [h, h, h, h]; rfl
theorem blank_i (b : Int) (w : World) : Calls Tryd.prog 80 #[.int .u8 b] w fun e w' => e = .returned (.bool (decide (b = 32) || decide (b = 9) || decide (b = 10) || decide (b = 13))) ∧ w = w' := by
  by_cases h1 : b = 32
  · subst h1
    go_enter Tryd.func80, Tryd.ntmps80
    go_wp2_with fail
    go_ret
    exact ⟨by rfl, rfl⟩
  by_cases h2 : b = 9
  · subst h2
    go_enter Tryd.func80, Tryd.ntmps80
    go_wp2_with fail
    go_ret
    exact ⟨by rfl, rfl⟩
  by_cases h3 : b = 10
  · subst h3
    go_enter Tryd.func80, Tryd.ntmps80
    go_wp2_with fail
    go_ret
    exact ⟨by rfl, rfl⟩
  by_cases h4 : b = 13
  · subst h4
    go_enter Tryd.func80, Tryd.ntmps80
    go_wp2_with fail
    go_ret
    exact ⟨by rfl, rfl⟩
  have d1 : (b == 32) = false := by simpa using h1
  have d2 : (b == 9) = false := by simpa using h2
  have d3 : (b == 10) = false := by simpa using h3
  have d4 : (b == 13) = false := by simpa using h4
  have HE := Lib.hid (show (decide (b = 32) || decide (b = 9) || decide (b = 10) || decide (b = 13)) = false by simp [h1, h2, h3, h4])
  clear h1 h2 h3 h4
  go_enter Tryd.func80, Tryd.ntmps80
  go_wp2_with fail
  go_ret
  exact ⟨by rw [HE.out]; rfl, rfl⟩
theorem blank_c (c : UInt8) (w : World) : Calls Tryd.prog 80 #[.int .u8 (c.toNat : Int)] w fun e w' => e = .returned (.bool (blk c)) ∧ w = w' := by
  rw [blk_int]; exact blank_i _ w
theorem word_l (s : ByteArray) (w : World) : Calls Tryd.prog 90 #[.string s] w fun e w' => e = .returned (.bool (wordB s)) ∧ w = w' := by
  cases h1 : (s.toList == [97, 108, 108])
  · cases h2 : (s.toList == [115, 111, 109, 101])
    · cases h3 : (s.toList == [102, 97, 108, 115, 101])
      · cases h4 : (s.toList == [110, 101, 120, 116])
        · cases h5 : (s.toList == [97, 108, 119, 97, 121, 115])
          · cases h6 : (s.toList == [117, 110, 116, 105, 108])
            · have HB := Lib.hid (show wordB s = false by simp [wordB, h1, h2, h3, h4, h5, h6])
              go_enter Tryd.func90, Tryd.ntmps90
              go_wp2_with fail
              go_ret
              exact ⟨by rw [HB.out]; rfl, rfl⟩
            · have HB := Lib.hid (show wordB s = true by simp [wordB, h1, h2, h3, h4, h5, h6])
              go_enter Tryd.func90, Tryd.ntmps90
              go_wp2_with fail
              go_ret
              exact ⟨by rw [HB.out]; rfl, rfl⟩
          · have HB := Lib.hid (show wordB s = true by simp [wordB, h1, h2, h3, h4, h5])
            go_enter Tryd.func90, Tryd.ntmps90
            go_wp2_with fail
            go_ret
            exact ⟨by rw [HB.out]; rfl, rfl⟩
        · have HB := Lib.hid (show wordB s = true by simp [wordB, h1, h2, h3, h4])
          go_enter Tryd.func90, Tryd.ntmps90
          go_wp2_with fail
          go_ret
          exact ⟨by rw [HB.out]; rfl, rfl⟩
      · have HB := Lib.hid (show wordB s = true by simp [wordB, h1, h2, h3])
        go_enter Tryd.func90, Tryd.ntmps90
        go_wp2_with fail
        go_ret
        exact ⟨by rw [HB.out]; rfl, rfl⟩
    · have HB := Lib.hid (show wordB s = true by simp [wordB, h1, h2])
      go_enter Tryd.func90, Tryd.ntmps90
      go_wp2_with fail
      go_ret
      exact ⟨by rw [HB.out]; rfl, rfl⟩
  · have HB := Lib.hid (show wordB s = true by simp [wordB, h1])
    go_enter Tryd.func90, Tryd.ntmps90
    go_wp2_with fail
    go_ret
    exact ⟨by rw [HB.out]; rfl, rfl⟩
theorem kindR_c (s : ByteArray) (w : World) (hs : s.size ≤ 9223372036854775807) : Calls Tryd.prog 76 #[.string s] w fun e w' => e = .returned (.int .u8 (runS s : Int)) ∧ Below w.heap.size w w' := by
  have hw := fun w => word_l s w
  have hv := fun w => variable_c s w hs
  have hf := fun w => function_c s w hs
  have hp := fun w => predicate_c s w hs
  have hr : runS s = if wordB s then 3 else if (varB s || fnB s || predB s) then 1 else 0 := rfl
  generalize wordB s = a at *
  generalize varB s = b at *
  generalize fnB s = c at *
  generalize predB s = d at *
  generalize runS s = r at *
  subst hr
  cases a <;> cases b <;> cases c <;> cases d
  all_goals
    have HW := Lib.hid hw
    have HV := Lib.hid hv
    have HF := Lib.hid hf
    have HP := Lib.hid hp
    clear hw hv hf hp
    go_enter Tryd.func76, Tryd.ntmps76
    go_wp2_with (first
      | (go_at_call 90; refine (HW.out _).mono ?_; rintro e w' ⟨rfl, rfl⟩)
      | (go_at_call 53; refine (HV.out _).mono ?_; rintro e w1 ⟨rfl, hb1⟩)
      | (go_at_call 58; refine (HF.out _).mono ?_; rintro e w2 ⟨rfl, hb2⟩; replace hb1 := hb1.trans (hb2.mono hb1.size); clear hb2)
      | (go_at_call 54; refine (HP.out _).mono ?_; rintro e w2 ⟨rfl, hb2⟩; replace hb1 := hb1.trans (hb2.mono hb1.size); clear hb2))
    go_ret
    exact ⟨by rfl, by first | exact Below.refl _ _ | assumption⟩
theorem kindM_c (s : ByteArray) (w : World) (hs : s.size ≤ 9223372036854775807) : Calls Tryd.prog 78 #[.string s] w fun e w' => e = .returned (.int .u8 (marS s : Int)) ∧ Below w.heap.size w w' := by
  have hm : ∀ w, Calls Tryd.prog 91 #[.string s] w fun e w' => e = .returned (.bool (metB s)) ∧ Below w.heap.size w w' := fun w => meta_c s w hs
  have hr : marS s = if metB s then 2 else 0 := rfl
  generalize metB s = a at *
  generalize marS s = r at *
  subst hr
  cases a
  all_goals
    have HM := Lib.hid hm
    clear hm
    go_enter Tryd.func78, Tryd.ntmps78
    go_wp2_with (go_at_call 91; refine (HM.out _).mono ?_; rintro e w1 ⟨rfl, hb1⟩)
    go_ret
    exact ⟨by rfl, hb1⟩
end Go.Proofs.YtkeckecdhcknhaaDoor.Lx
