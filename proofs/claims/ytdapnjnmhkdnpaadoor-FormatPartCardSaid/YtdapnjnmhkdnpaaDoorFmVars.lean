/-
  The contracts of Variable, Predicate, Function, word, Meta.
-/
import Derived.Test.YtdapnjnmhkdnpaaDoorFmNames
namespace Go.Proofs.YtdapnjnmhkdnpaaDoor.Fm
open Go Go.RowKit Go.Shelf
set_option linter.unusedVariables false
set_option linter.unusedSimpArgs false
def varB (s : ByteArray) : Bool := namesB 117 122 digB s
def predB (s : ByteArray) : Bool := namesB 65 90 lodB s
theorem Below.drewN {B : Nat} {w w' : World} (h : Below B w w') (n : Nat) : Below B w (w'.drewN n) := by
  induction n with
  | zero => exact h
  | succ n ih => exact ⟨ih.os, ih.tape, ih.output, ih.size, ih.block⟩
theorem variable_c (s : ByteArray) (w : World) (hs : s.size ≤ 9223372036854775807) : Calls Tryd.prog 61 #[.string s] w fun e w' => e = .returned (.bool (varB s)) ∧ Below w.heap.size w w' := by
  have HN := Lib.hid (fun W B c0 c1 c2 => names1_dig 117 122 s B W c0 c1 c2 hs)
  have HV := Lib.hid (show varB s = namesB 117 122 digB s from rfl)
  go_enter Tryd.func61, Tryd.ntmps61
  go_wp2_with fail
  refine (names_c 117 122 _ ⟨_, rfl⟩ _).mono ?_
  rintro e w1 ⟨rfl, hb, c0, c1, c2⟩
  go_wp2_with fail
  refine (HN.out _ _ c0 c1 c2).mono ?_
  rintro e w2 ⟨rfl, n, rfl⟩
  have hb2 := Below.drewN hb n
  clear c0 c1 c2 hb
  go_wp2_with fail
  go_ret
  exact ⟨by rw [HV.out]; rfl, hb2⟩
theorem predicate_c (s : ByteArray) (w : World) (hs : s.size ≤ 9223372036854775807) : Calls Tryd.prog 92 #[.string s] w fun e w' => e = .returned (.bool (predB s)) ∧ Below w.heap.size w w' := by
  have HN := Lib.hid (fun W B c0 c1 c2 => names1_lod 65 90 s B W c0 c1 c2 hs)
  have HV := Lib.hid (show predB s = namesB 65 90 lodB s from rfl)
  go_enter Tryd.func92, Tryd.ntmps92
  go_wp2_with fail
  refine (names_c 65 90 _ ⟨_, rfl⟩ _).mono ?_
  rintro e w1 ⟨rfl, hb, c0, c1, c2⟩
  go_wp2_with fail
  refine (HN.out _ _ c0 c1 c2).mono ?_
  rintro e w2 ⟨rfl, n, rfl⟩
  have hb2 := Below.drewN hb n
  clear c0 c1 c2 hb
  go_wp2_with fail
  go_ret
  exact ⟨by rw [HV.out]; rfl, hb2⟩
def wordB (s : ByteArray) : Bool := (s.toList == [97, 108, 108]) || (s.toList == [115, 111, 109, 101]) || (s.toList == [102, 97, 108, 115, 101]) || (s.toList == [110, 101, 120, 116]) || (s.toList == [97, 108, 119, 97, 121, 115]) || (s.toList == [117, 110, 116, 105, 108])
theorem word_c (s : ByteArray) (w : World) : Calls Tryd.prog 86 #[.string s] w fun e w' => e = .returned (.bool (wordB s)) ∧ w = w' := by
  cases h1 : (s.toList == [97, 108, 108])
  · cases h2 : (s.toList == [115, 111, 109, 101])
    · cases h3 : (s.toList == [102, 97, 108, 115, 101])
      · cases h4 : (s.toList == [110, 101, 120, 116])
        · cases h5 : (s.toList == [97, 108, 119, 97, 121, 115])
          · cases h6 : (s.toList == [117, 110, 116, 105, 108])
            · have HB := Lib.hid (show wordB s = false by simp [wordB, h1, h2, h3, h4, h5, h6])
              go_enter Tryd.func86, Tryd.ntmps86
              go_wp2_with fail
              go_ret
              exact ⟨by rw [HB.out]; rfl, rfl⟩
            · have HB := Lib.hid (show wordB s = true by simp [wordB, h1, h2, h3, h4, h5, h6])
              go_enter Tryd.func86, Tryd.ntmps86
              go_wp2_with fail
              go_ret
              exact ⟨by rw [HB.out]; rfl, rfl⟩
          · have HB := Lib.hid (show wordB s = true by simp [wordB, h1, h2, h3, h4, h5])
            go_enter Tryd.func86, Tryd.ntmps86
            go_wp2_with fail
            go_ret
            exact ⟨by rw [HB.out]; rfl, rfl⟩
        · have HB := Lib.hid (show wordB s = true by simp [wordB, h1, h2, h3, h4])
          go_enter Tryd.func86, Tryd.ntmps86
          go_wp2_with fail
          go_ret
          exact ⟨by rw [HB.out]; rfl, rfl⟩
      · have HB := Lib.hid (show wordB s = true by simp [wordB, h1, h2, h3])
        go_enter Tryd.func86, Tryd.ntmps86
        go_wp2_with fail
        go_ret
        exact ⟨by rw [HB.out]; rfl, rfl⟩
    · have HB := Lib.hid (show wordB s = true by simp [wordB, h1, h2])
      go_enter Tryd.func86, Tryd.ntmps86
      go_wp2_with fail
      go_ret
      exact ⟨by rw [HB.out]; rfl, rfl⟩
  · have HB := Lib.hid (show wordB s = true by simp [wordB, h1])
    go_enter Tryd.func86, Tryd.ntmps86
    go_wp2_with fail
    go_ret
    exact ⟨by rw [HB.out]; rfl, rfl⟩
def markB (s : ByteArray) : Bool := decide (1 ≤ s.size) && ((s.extract 0 1).toList == [63])
theorem empty_of {s : ByteArray} (h : ¬ 1 ≤ s.size) : s = ⟨#[]⟩ := by
  obtain ⟨d⟩ := s
  have h0' : d.size = 0 := by have : ¬ 1 ≤ d.size := h; omega
  rw [Array.eq_empty_of_size_eq_zero h0']
theorem hasp_c (s : ByteArray) (w : World) (hs : s.size ≤ 9223372036854775807) : Calls Tryd.prog 105 #[.string s, .string ⟨#[63]⟩] w fun e w' => e = .returned (.bool (markB s)) ∧ w = w' := by
  by_cases h : 1 ≤ s.size
  · have HB := Lib.hid (show markB s = ((s.extract 0 1).toList == [63]) by simp [markB, h])
    go_enter Tryd.func105, Tryd.ntmps105
    go_wp2_with fail
    go_ret
    exact ⟨by rw [HB.out]; rfl, rfl⟩
  · obtain rfl := empty_of h
    have HB := Lib.hid (show markB ⟨#[]⟩ = false from rfl)
    clear h
    go_enter Tryd.func105, Tryd.ntmps105
    go_wp2_with fail
    go_ret
    exact ⟨by rw [HB.out]; rfl, rfl⟩
def cutR (s : ByteArray) : ByteArray := if markB s then s.extract 1 s.size else s
theorem cut0_c (s : ByteArray) (w : World) (hs : s.size ≤ 9223372036854775807) : Calls Tryd.prog 104 #[.string s, .string ⟨#[63]⟩] w fun e w' => e = .returned (.tuple #[.string (cutR s), .bool (markB s)]) ∧ w = w' := by
  cases hb : markB s
  · have HC := Lib.hid (show cutR s = s by simp [cutR, hb])
    have hp := fun w => hasp_c s w hs
    rw [hb] at hp
    have HP := Lib.hid hp
    clear hp hb
    go_enter Tryd.func104, Tryd.ntmps104
    go_wp2_with (refine (HP.out _).mono ?_; rintro e w' ⟨rfl, rfl⟩)
    go_ret2
    exact ⟨by rw [HC.out]; rfl, rfl⟩
  · have h : 1 ≤ s.size := by
      unfold markB at hb
      rw [Bool.and_eq_true] at hb
      exact of_decide_eq_true hb.1
    have HC := Lib.hid (show cutR s = s.extract 1 s.size by simp [cutR, hb])
    have hp := fun w => hasp_c s w hs
    rw [hb] at hp
    have HP := Lib.hid hp
    clear hp hb
    go_enter Tryd.func104, Tryd.ntmps104
    go_wp2_with (refine (HP.out _).mono ?_; rintro e w' ⟨rfl, rfl⟩)
    go_ret2
    exact ⟨by rw [HC.out]; rfl, rfl⟩
theorem cut_c (s : ByteArray) (w : World) (hs : s.size ≤ 9223372036854775807) : Calls Tryd.prog 103 #[.string s, .string ⟨#[63]⟩] w fun e w' => e = .returned (.tuple #[.string (cutR s), .bool (markB s)]) ∧ w = w' := by
  have HP := Lib.hid (fun w => cut0_c s w hs)
  generalize cutR s = r at *
  generalize markB s = b at *
  go_enter Tryd.func103, Tryd.ntmps103
  go_wp2_with (refine (HP.out _).mono ?_; rintro e w' ⟨rfl, rfl⟩)
  go_ret2
  exact ⟨rfl, rfl⟩
theorem cutR_size (s : ByteArray) : (cutR s).size ≤ s.size := by
  unfold cutR
  split
  · simp
  · exact Nat.le_refl _
def fnB (s : ByteArray) : Bool := namesB 97 116 lodB s && !wordB s
theorem function_c (s : ByteArray) (w : World) (hs : s.size ≤ 9223372036854775807) : Calls Tryd.prog 63 #[.string s] w fun e w' => e = .returned (.bool (fnB s)) ∧ Below w.heap.size w w' := by
  have HW := Lib.hid (fun w => word_c s w)
  have HV := Lib.hid (show fnB s = (namesB 97 116 lodB s && !wordB s) from rfl)
  cases hb : namesB 97 116 lodB s
  all_goals
    have hn := fun W B c0 c1 c2 => names1_lod 97 116 s B W c0 c1 c2 hs
    rw [hb] at hn HV
    have HN := Lib.hid hn
    clear hn hb
    go_enter Tryd.func63, Tryd.ntmps63
    go_wp2_with fail
    refine (names_c 97 116 _ ⟨_, rfl⟩ _).mono ?_
    rintro e w1 ⟨rfl, hb, c0, c1, c2⟩
    go_wp2_with fail
    refine (HN.out _ _ c0 c1 c2).mono ?_
    rintro e w2 ⟨rfl, n, rfl⟩
    have hb2 := Below.drewN hb n
    clear c0 c1 c2 hb
    go_wp2_with (refine (HW.out _).mono ?_; rintro e w' ⟨rfl, rfl⟩)
    go_ret
    exact ⟨by rw [HV.out]; rfl, hb2⟩
theorem metas_c (fv : Value) (hfv : ∃ g, fv = .func (.func g) #[] #[]) (w : World) : Calls Tryd.prog 101 #[fv] w fun e w' =>
    e = .returned (.func (.func 102) #[] #[.pointer (some ⟨w.heap.size, 0, none⟩)]) ∧ Below w.heap.size w w' ∧ w'.cell? ⟨w.heap.size, 0, none⟩ = some fv := by
  obtain ⟨g, rfl⟩ := hfv
  go_enter Tryd.func101, Tryd.ntmps101
  go_wp2_with fail
  go_ret
  exact ⟨rfl, (Below.refl _ _).alloc (Nat.le_refl _) _, by simp⟩
def metaB (named : ByteArray → Bool) (s : ByteArray) : Bool := markB s && decide (s.size ≤ 16) && named (cutR s)
theorem metas1_pred (s : ByteArray) (B : Nat) (w : World) (c0 : w.cell? ⟨B, 0, none⟩ = some (.func (.func 92) #[] #[])) (hs : s.size ≤ 9223372036854775807) :
    Calls Tryd.prog 102 #[.string s, .pointer (some ⟨B, 0, none⟩)] w fun e w' => e = .returned (.bool (metaB predB s)) ∧ Below w.heap.size w w' := by
  have HC := Lib.hid (fun w => cut_c s w hs)
  have HN := Lib.hid (fun w => predicate_c (cutR s) w (Nat.le_trans (cutR_size s) hs))
  have HV := Lib.hid (show metaB predB s = (markB s && decide (s.size ≤ 16) && predB (cutR s)) from rfl)
  generalize predB (cutR s) = v at *
  generalize cutR s = r at *
  cases hb : markB s
  all_goals rw [hb] at HC HV; clear hb
  · go_enter Tryd.func102, Tryd.ntmps102
    go_wp2_with (refine (HC.out _).mono ?_; rintro e w' ⟨rfl, rfl⟩)
    go_ret
    exact ⟨by rw [HV.out]; rfl, Below.refl _ _⟩
  · by_cases h16 : s.size ≤ 16
    · have d1 : decide ((s.size : Int) ≤ 16) = true := decide_eq_true (by omega)
      have HV2 := Lib.hid (HV.out.trans (by rw [decide_eq_true h16]))
      clear h16
      go_enter Tryd.func102, Tryd.ntmps102
      go_wp2_with (refine (HC.out _).mono ?_; rintro e w' ⟨rfl, rfl⟩)
      refine (HN.out _).mono ?_
      rintro e w1 ⟨rfl, hb1⟩
      go_wp2_with fail
      go_ret
      exact ⟨by rw [HV2.out]; simp, hb1⟩
    · have d1 : decide ((s.size : Int) ≤ 16) = false := decide_eq_false (by omega)
      have HV2 := Lib.hid (HV.out.trans (by rw [decide_eq_false h16]))
      clear h16
      go_enter Tryd.func102, Tryd.ntmps102
      go_wp2_with (refine (HC.out _).mono ?_; rintro e w' ⟨rfl, rfl⟩)
      go_ret
      exact ⟨by rw [HV2.out]; simp, Below.refl _ _⟩
theorem metaOf_pred (s : ByteArray) (w : World) (hs : s.size ≤ 9223372036854775807) : Calls Tryd.prog 93 #[.string s] w fun e w' => e = .returned (.bool (metaB predB s)) ∧ Below w.heap.size w w' := by
  have HN := Lib.hid (fun W B c0 => metas1_pred s B W c0 hs)
  generalize metaB predB s = v at *
  go_enter Tryd.func93, Tryd.ntmps93
  go_wp2_with fail
  refine (metas_c _ ⟨_, rfl⟩ _).mono ?_
  rintro e w1 ⟨rfl, hb, c0⟩
  go_wp2_with fail
  refine (HN.out _ _ c0).mono ?_
  rintro e w2 ⟨rfl, hb2⟩
  have hb3 := hb.trans (hb2.mono hb.size)
  clear c0 hb hb2
  go_wp2_with fail
  go_ret
  exact ⟨rfl, hb3⟩
theorem metas1_fn (s : ByteArray) (B : Nat) (w : World) (c0 : w.cell? ⟨B, 0, none⟩ = some (.func (.func 63) #[] #[])) (hs : s.size ≤ 9223372036854775807) :
    Calls Tryd.prog 102 #[.string s, .pointer (some ⟨B, 0, none⟩)] w fun e w' => e = .returned (.bool (metaB fnB s)) ∧ Below w.heap.size w w' := by
  have HC := Lib.hid (fun w => cut_c s w hs)
  have HN := Lib.hid (fun w => function_c (cutR s) w (Nat.le_trans (cutR_size s) hs))
  have HV := Lib.hid (show metaB fnB s = (markB s && decide (s.size ≤ 16) && fnB (cutR s)) from rfl)
  generalize fnB (cutR s) = v at *
  generalize cutR s = r at *
  cases hb : markB s
  all_goals rw [hb] at HC HV; clear hb
  · go_enter Tryd.func102, Tryd.ntmps102
    go_wp2_with (refine (HC.out _).mono ?_; rintro e w' ⟨rfl, rfl⟩)
    go_ret
    exact ⟨by rw [HV.out]; rfl, Below.refl _ _⟩
  · by_cases h16 : s.size ≤ 16
    · have d1 : decide ((s.size : Int) ≤ 16) = true := decide_eq_true (by omega)
      have HV2 := Lib.hid (HV.out.trans (by rw [decide_eq_true h16]))
      clear h16
      go_enter Tryd.func102, Tryd.ntmps102
      go_wp2_with (refine (HC.out _).mono ?_; rintro e w' ⟨rfl, rfl⟩)
      refine (HN.out _).mono ?_
      rintro e w1 ⟨rfl, hb1⟩
      go_wp2_with fail
      go_ret
      exact ⟨by rw [HV2.out]; simp, hb1⟩
    · have d1 : decide ((s.size : Int) ≤ 16) = false := decide_eq_false (by omega)
      have HV2 := Lib.hid (HV.out.trans (by rw [decide_eq_false h16]))
      clear h16
      go_enter Tryd.func102, Tryd.ntmps102
      go_wp2_with (refine (HC.out _).mono ?_; rintro e w' ⟨rfl, rfl⟩)
      go_ret
      exact ⟨by rw [HV2.out]; simp, Below.refl _ _⟩
theorem metaOf_fn (s : ByteArray) (w : World) (hs : s.size ≤ 9223372036854775807) : Calls Tryd.prog 95 #[.string s] w fun e w' => e = .returned (.bool (metaB fnB s)) ∧ Below w.heap.size w w' := by
  have HN := Lib.hid (fun W B c0 => metas1_fn s B W c0 hs)
  generalize metaB fnB s = v at *
  go_enter Tryd.func95, Tryd.ntmps95
  go_wp2_with fail
  refine (metas_c _ ⟨_, rfl⟩ _).mono ?_
  rintro e w1 ⟨rfl, hb, c0⟩
  go_wp2_with fail
  refine (HN.out _ _ c0).mono ?_
  rintro e w2 ⟨rfl, hb2⟩
  have hb3 := hb.trans (hb2.mono hb.size)
  clear c0 hb hb2
  go_wp2_with fail
  go_ret
  exact ⟨rfl, hb3⟩
theorem meta_c (s : ByteArray) (w : World) (hs : s.size ≤ 9223372036854775807) : Calls Tryd.prog 84 #[.string s] w fun e w' => e = .returned (.bool (metaB predB s || metaB fnB s)) ∧ Below w.heap.size w w' := by
  have hp := fun w => metaOf_pred s w hs
  have HF := Lib.hid (fun w => metaOf_fn s w hs)
  generalize metaB fnB s = f at *
  cases hb : metaB predB s
  all_goals
    rw [hb] at hp
    have HP := Lib.hid hp
    clear hp hb
  · go_enter Tryd.func84, Tryd.ntmps84
    go_wp2_with fail
    refine (HP.out _).mono ?_
    rintro e w1 ⟨rfl, hb1⟩
    go_wp2_with fail
    refine (HF.out _).mono ?_
    rintro e w2 ⟨rfl, hb2⟩
    have hb3 := hb1.trans (hb2.mono hb1.size)
    clear hb1 hb2
    go_wp2_with fail
    go_ret
    exact ⟨by simp, hb3⟩
  · go_enter Tryd.func84, Tryd.ntmps84
    go_wp2_with fail
    refine (HP.out _).mono ?_
    rintro e w1 ⟨rfl, hb1⟩
    go_wp2_with fail
    go_ret
    exact ⟨by simp, hb1⟩
end Go.Proofs.YtdapnjnmhkdnpaaDoor.Fm
