/-
  The readers of tokens: named, longest and their closures.
-/
import Derived.Test.YtkeckecdhcknhaaDoorLxNames
namespace Go.Proofs.YtkeckecdhcknhaaDoor.Lx
open Go Go.RowKit Go.Shelf Go.Proofs.YtkeckecdhcknhaaDoor.Fm
set_option linter.unusedVariables false
set_option linter.unusedSimpArgs false
def runLen : Bs → Nat
  | [] => 0
  | _ :: r => (r.takeWhile lod).length + 1
theorem tw_all : ∀ (r : Bs) (q : Nat), q ≤ r.length → (∀ j, (hj : j < r.length) → j < q → lod r[j] = true) → (q = r.length ∨ ∃ h : q < r.length, lod r[q] = false) → (r.takeWhile lod).length = q
  | [], q, hq, _, _ => by simp at hq; subst hq; rfl
  | a :: r, 0, _, _, he => by
    rcases he with h | ⟨h, h2⟩
    · simp at h
    · rw [List.takeWhile_cons, if_neg (by simpa using h2)]; rfl
  | a :: r, q + 1, hq, ha, he => by
    have h0 := ha 0 (by simp) (by omega)
    rw [List.takeWhile_cons, if_pos (by simpa using h0), List.length_cons]
    rw [tw_all r q (by simpa using hq) (fun j hj hjq => by have := ha (j + 1) (by simpa using hj) (by omega); simpa using this) (by
      rcases he with h | ⟨h, h2⟩
      · exact .inl (by simpa using h)
      · exact .inr ⟨by simpa using h, by simpa using h2⟩)]
theorem tw_run (l : Bs) (q : Nat) (h1 : 1 ≤ q) (hq : q ≤ l.length) (ha : ∀ j, 1 ≤ j → (hj : j < l.length) → j < q → lod l[j] = true) (he : q = l.length ∨ ∃ h : q < l.length, lod l[q] = false) : runLen l = q := by
  match l, q, h1 with
  | [], q, h1 => simp at hq; omega
  | c :: r, q + 1, _ =>
    have := tw_all r q (by simpa using hq) (fun j hj hjq => by have := ha (j + 1) (by omega) (by simpa using hj) (by omega); simpa using this) (by
      rcases he with h | ⟨h, h2⟩
      · exact .inl (by simpa using h)
      · exact .inr ⟨by simpa using h, by simpa using h2⟩)
    simp [runLen, this]
def tup (x : Nat × Nat × Nat) : Ending := .returned (.tuple #[.int .u8 (x.1 : Int), .int .i64 (x.2.1 : Int), .int .i64 (x.2.2 : Int)])
def tokN (kf : ByteArray → Nat) (s : ByteArray) : Nat × Nat × Nat := if kf (s.extract 0 (runLen s.data.toList)) = 0 then (0, 0, 41) else (kf (s.extract 0 (runLen s.data.toList)), runLen s.data.toList, 0)
def NR (s : ByteArray) (w : World) (x : Value) (wr : World) : Prop := ∃ q : Nat, x = .int .i64 (q : Int) ∧ 1 ≤ q ∧ q ≤ s.size ∧ w = wr ∧ ∀ j, 1 ≤ j → (hj : j < s.data.toList.length) → j < q → lod s.data.toList[j] = true
set_option maxHeartbeats 1000000 in
theorem named1_run (s : ByteArray) (B : Nat) (w : World) (h1 : 1 ≤ s.size) (c0 : w.cell? ⟨B, 0, none⟩ = some (.func (.func 76) #[] #[])) (hB : B < w.heap.size) (hsz : s.size ≤ 9223372036854775807) :
    Calls Tryd.prog 88 #[.string s, .pointer (some ⟨B, 0, none⟩)] w fun e w' => e = tup (tokN runS s) ∧ Below w.heap.size w w' := by
  have HK := Lib.hid (fun q w => kindR_c (s.extract 0 q) w (by rw [ByteArray.size_extract]; omega))
  go_enter Tryd.func88, Tryd.ntmps88
  go_wp2_with fail
  go_loopw [6] (fun x wr => NR s w x wr) (fun x _ => s.size - (intOf x).toNat)
  case atStart => exact ⟨1, rfl, Nat.le_refl _, h1, rfl, fun j h1 _ h2 => by omega⟩
  case round =>
    obtain ⟨q, rfl, hq1, hq2, rfl, hall⟩ := hrel
    have HALL := Lib.hid hall
    clear hall
    by_cases hg : ∃ h : q < s.size, lod s[q] = true
    · obtain ⟨hlt, hb⟩ := hg
      have hl := fun w => letter_c s[q] w
      have hd := fun w => digit_u s[q] w
      rw [lod_eq] at hb
      have HB := Lib.hid hb
      have hlt' : q < s.data.toList.length := by simpa using hlt
      generalize hs1 : ltr s[q] = a at hl hb
      generalize hs2 : dgt s[q] = b at hd hb
      clear hs1 hs2
      cases a <;> cases b <;> (try (exact absurd hb (by decide)))
      all_goals
        clear hb
        have HL := Lib.hid hl
        have HD := Lib.hid hd
        clear hl hd
        go_wp2_with (first
          | (go_at_call 77; refine (HL.out _).mono ?_; rintro e w' ⟨rfl, rfl⟩)
          | (go_at_call 89; refine (HD.out _).mono ?_; rintro e w' ⟨rfl, rfl⟩))
        refine ⟨⟨q + 1, by go_num, by omega, by omega, rfl, fun j h1 h2 h3 => ?_⟩, by simp [intOf]; omega⟩
        rcases Nat.lt_or_ge j q with h | h
        · exact HALL.out j h1 h2 h
        · obtain rfl : j = q := by omega
          exact HB.out
    · have hend : q = s.data.toList.length ∨ ∃ h : q < s.data.toList.length, lod s.data.toList[q] = false := by
        by_cases hlt : q < s.size
        · exact .inr ⟨by simpa using hlt, show lod s[q] = false from (by simpa using fun h => hg ⟨hlt, h⟩)⟩
        · exact .inl (by simp; omega)
      have er := tw_run s.data.toList q hq1 (by simpa using hq2) HALL.out hend
      have hT : tokN runS s = if runS (s.extract 0 q) = 0 then (0, 0, 41) else (runS (s.extract 0 q), q, 0) := by unfold tokN; rw [er]
      obtain ⟨v, hv⟩ : ∃ v, runS (s.extract 0 q) = v := ⟨_, rfl⟩
      rw [hv] at hT
      have HK2 := Lib.hid (show ∀ w : World, Calls Tryd.prog 76 #[.string (s.extract 0 q)] w fun e w' => e = .returned (.int .u8 (v : Int)) ∧ Below w.heap.size w w' from fun w => by rw [← hv]; exact HK.out q w)
      clear hv er
      have hg2 : ∀ (hlt : q < s.size), (ltr s[q] = false ∧ dgt s[q] = false) := fun hlt => by
        have h : lod s[q] = false := by simpa using fun h => hg ⟨hlt, h⟩
        rw [lod_eq] at h
        simpa using h
      have HKEEP := Lib.hid (show ∀ W, Below w.heap.size w W → _ from fun W (h : Below w.heap.size w W) => And.intro ((h.cell (p := ⟨B, 0, none⟩) hB).trans c0) h)
      clear hend hg
      rcases Nat.eq_zero_or_pos v with hv | hv
      · subst hv
        have HT := Lib.hid hT
        clear hT
        by_cases hlt : q < s.size
        · have hl := fun w => letter_c s[q] w
          have hd := fun w => digit_u s[q] w
          rw [(hg2 hlt).1] at hl
          rw [(hg2 hlt).2] at hd
          have HL := Lib.hid hl
          have HD := Lib.hid hd
          clear hl hd hg2
          go_wp2_with (first
            | (go_at_call 77; refine (HL.out _).mono ?_; rintro e w' ⟨rfl, rfl⟩)
            | (go_at_call 89; refine (HD.out _).mono ?_; rintro e w' ⟨rfl, rfl⟩))
          go_region_held3 (fun w' => w'.cell? ⟨B, 0, none⟩ = some (.func (.func 76) #[] #[]) ∧ Below w.heap.size w w')
            ((refine HKEEP.out _ ?_; first | assumption | exact Below.refl _ _ | exact Below.drew (Below.refl _ _) | exact Below.drew (by assumption)))
            ((go_at_call 76; refine (HK2.out _).mono ?_; rintro e w1 ⟨rfl, hb1⟩; have hbw : Below w.heap.size w w1 := (by first | exact Below.trans (Below.drew (Below.refl _ _)) hb1 | exact hb1)))
          go_wp2_with fail
          go_ret3
          exact ⟨by rw [HT.out]; rfl, hbw⟩
        · clear hg2
          go_wp2_with fail
          go_region_held3 (fun w' => w'.cell? ⟨B, 0, none⟩ = some (.func (.func 76) #[] #[]) ∧ Below w.heap.size w w')
            ((refine HKEEP.out _ ?_; first | assumption | exact Below.refl _ _ | exact Below.drew (Below.refl _ _) | exact Below.drew (by assumption)))
            ((go_at_call 76; refine (HK2.out _).mono ?_; rintro e w1 ⟨rfl, hb1⟩; have hbw : Below w.heap.size w w1 := (by first | exact Below.trans (Below.drew (Below.refl _ _)) hb1 | exact hb1)))
          go_wp2_with fail
          go_ret3
          exact ⟨by rw [HT.out]; rfl, hbw⟩
      · have hv0 : ((v : Int) == 0) = false := by simp; omega
        have HT := Lib.hid (hT.trans (if_neg (by omega)))
        clear hT hv
        by_cases hlt : q < s.size
        · have hl := fun w => letter_c s[q] w
          have hd := fun w => digit_u s[q] w
          rw [(hg2 hlt).1] at hl
          rw [(hg2 hlt).2] at hd
          have HL := Lib.hid hl
          have HD := Lib.hid hd
          clear hl hd hg2
          go_wp2_with (first
            | (go_at_call 77; refine (HL.out _).mono ?_; rintro e w' ⟨rfl, rfl⟩)
            | (go_at_call 89; refine (HD.out _).mono ?_; rintro e w' ⟨rfl, rfl⟩))
          go_region_held3 (fun w' => w'.cell? ⟨B, 0, none⟩ = some (.func (.func 76) #[] #[]) ∧ Below w.heap.size w w')
            ((refine HKEEP.out _ ?_; first | assumption | exact Below.refl _ _ | exact Below.drew (Below.refl _ _) | exact Below.drew (by assumption)))
            ((go_at_call 76; refine (HK2.out _).mono ?_; rintro e w1 ⟨rfl, hb1⟩; have hbw : Below w.heap.size w w1 := (by first | exact Below.trans (Below.drew (Below.refl _ _)) hb1 | exact hb1)))
          go_wp2_with fail
          go_ret3
          exact ⟨by rw [HT.out]; rfl, hbw⟩
        · clear hg2
          go_wp2_with fail
          go_region_held3 (fun w' => w'.cell? ⟨B, 0, none⟩ = some (.func (.func 76) #[] #[]) ∧ Below w.heap.size w w')
            ((refine HKEEP.out _ ?_; first | assumption | exact Below.refl _ _ | exact Below.drew (Below.refl _ _) | exact Below.drew (by assumption)))
            ((go_at_call 76; refine (HK2.out _).mono ?_; rintro e w1 ⟨rfl, hb1⟩; have hbw : Below w.heap.size w w1 := (by first | exact Below.trans (Below.drew (Below.refl _ _)) hb1 | exact hb1)))
          go_wp2_with fail
          go_ret3
          exact ⟨by rw [HT.out]; rfl, hbw⟩
set_option maxHeartbeats 1000000 in
theorem named1_mark (s : ByteArray) (B : Nat) (w : World) (h1 : 1 ≤ s.size) (c0 : w.cell? ⟨B, 0, none⟩ = some (.func (.func 78) #[] #[])) (hB : B < w.heap.size) (hsz : s.size ≤ 9223372036854775807) :
    Calls Tryd.prog 88 #[.string s, .pointer (some ⟨B, 0, none⟩)] w fun e w' => e = tup (tokN marS s) ∧ Below w.heap.size w w' := by
  have HK := Lib.hid (fun q w => kindM_c (s.extract 0 q) w (by rw [ByteArray.size_extract]; omega))
  go_enter Tryd.func88, Tryd.ntmps88
  go_wp2_with fail
  go_loopw [6] (fun x wr => NR s w x wr) (fun x _ => s.size - (intOf x).toNat)
  case atStart => exact ⟨1, rfl, Nat.le_refl _, h1, rfl, fun j h1 _ h2 => by omega⟩
  case round =>
    obtain ⟨q, rfl, hq1, hq2, rfl, hall⟩ := hrel
    have HALL := Lib.hid hall
    clear hall
    by_cases hg : ∃ h : q < s.size, lod s[q] = true
    · obtain ⟨hlt, hb⟩ := hg
      have hl := fun w => letter_c s[q] w
      have hd := fun w => digit_u s[q] w
      rw [lod_eq] at hb
      have HB := Lib.hid hb
      have hlt' : q < s.data.toList.length := by simpa using hlt
      generalize hs1 : ltr s[q] = a at hl hb
      generalize hs2 : dgt s[q] = b at hd hb
      clear hs1 hs2
      cases a <;> cases b <;> (try (exact absurd hb (by decide)))
      all_goals
        clear hb
        have HL := Lib.hid hl
        have HD := Lib.hid hd
        clear hl hd
        go_wp2_with (first
          | (go_at_call 77; refine (HL.out _).mono ?_; rintro e w' ⟨rfl, rfl⟩)
          | (go_at_call 89; refine (HD.out _).mono ?_; rintro e w' ⟨rfl, rfl⟩))
        refine ⟨⟨q + 1, by go_num, by omega, by omega, rfl, fun j h1 h2 h3 => ?_⟩, by simp [intOf]; omega⟩
        rcases Nat.lt_or_ge j q with h | h
        · exact HALL.out j h1 h2 h
        · obtain rfl : j = q := by omega
          exact HB.out
    · have hend : q = s.data.toList.length ∨ ∃ h : q < s.data.toList.length, lod s.data.toList[q] = false := by
        by_cases hlt : q < s.size
        · exact .inr ⟨by simpa using hlt, show lod s[q] = false from (by simpa using fun h => hg ⟨hlt, h⟩)⟩
        · exact .inl (by simp; omega)
      have er := tw_run s.data.toList q hq1 (by simpa using hq2) HALL.out hend
      have hT : tokN marS s = if marS (s.extract 0 q) = 0 then (0, 0, 41) else (marS (s.extract 0 q), q, 0) := by unfold tokN; rw [er]
      obtain ⟨v, hv⟩ : ∃ v, marS (s.extract 0 q) = v := ⟨_, rfl⟩
      rw [hv] at hT
      have HK2 := Lib.hid (show ∀ w : World, Calls Tryd.prog 78 #[.string (s.extract 0 q)] w fun e w' => e = .returned (.int .u8 (v : Int)) ∧ Below w.heap.size w w' from fun w => by rw [← hv]; exact HK.out q w)
      clear hv er
      have hg2 : ∀ (hlt : q < s.size), (ltr s[q] = false ∧ dgt s[q] = false) := fun hlt => by
        have h : lod s[q] = false := by simpa using fun h => hg ⟨hlt, h⟩
        rw [lod_eq] at h
        simpa using h
      have HKEEP := Lib.hid (show ∀ W, Below w.heap.size w W → _ from fun W (h : Below w.heap.size w W) => And.intro ((h.cell (p := ⟨B, 0, none⟩) hB).trans c0) h)
      clear hend hg
      rcases Nat.eq_zero_or_pos v with hv | hv
      · subst hv
        have HT := Lib.hid hT
        clear hT
        by_cases hlt : q < s.size
        · have hl := fun w => letter_c s[q] w
          have hd := fun w => digit_u s[q] w
          rw [(hg2 hlt).1] at hl
          rw [(hg2 hlt).2] at hd
          have HL := Lib.hid hl
          have HD := Lib.hid hd
          clear hl hd hg2
          go_wp2_with (first
            | (go_at_call 77; refine (HL.out _).mono ?_; rintro e w' ⟨rfl, rfl⟩)
            | (go_at_call 89; refine (HD.out _).mono ?_; rintro e w' ⟨rfl, rfl⟩))
          go_region_held3 (fun w' => w'.cell? ⟨B, 0, none⟩ = some (.func (.func 78) #[] #[]) ∧ Below w.heap.size w w')
            ((refine HKEEP.out _ ?_; first | assumption | exact Below.refl _ _ | exact Below.drew (Below.refl _ _) | exact Below.drew (by assumption)))
            ((go_at_call 78; refine (HK2.out _).mono ?_; rintro e w1 ⟨rfl, hb1⟩; have hbw : Below w.heap.size w w1 := (by first | exact Below.trans (Below.drew (Below.refl _ _)) hb1 | exact hb1)))
          go_wp2_with fail
          go_ret3
          exact ⟨by rw [HT.out]; rfl, hbw⟩
        · clear hg2
          go_wp2_with fail
          go_region_held3 (fun w' => w'.cell? ⟨B, 0, none⟩ = some (.func (.func 78) #[] #[]) ∧ Below w.heap.size w w')
            ((refine HKEEP.out _ ?_; first | assumption | exact Below.refl _ _ | exact Below.drew (Below.refl _ _) | exact Below.drew (by assumption)))
            ((go_at_call 78; refine (HK2.out _).mono ?_; rintro e w1 ⟨rfl, hb1⟩; have hbw : Below w.heap.size w w1 := (by first | exact Below.trans (Below.drew (Below.refl _ _)) hb1 | exact hb1)))
          go_wp2_with fail
          go_ret3
          exact ⟨by rw [HT.out]; rfl, hbw⟩
      · have hv0 : ((v : Int) == 0) = false := by simp; omega
        have HT := Lib.hid (hT.trans (if_neg (by omega)))
        clear hT hv
        by_cases hlt : q < s.size
        · have hl := fun w => letter_c s[q] w
          have hd := fun w => digit_u s[q] w
          rw [(hg2 hlt).1] at hl
          rw [(hg2 hlt).2] at hd
          have HL := Lib.hid hl
          have HD := Lib.hid hd
          clear hl hd hg2
          go_wp2_with (first
            | (go_at_call 77; refine (HL.out _).mono ?_; rintro e w' ⟨rfl, rfl⟩)
            | (go_at_call 89; refine (HD.out _).mono ?_; rintro e w' ⟨rfl, rfl⟩))
          go_region_held3 (fun w' => w'.cell? ⟨B, 0, none⟩ = some (.func (.func 78) #[] #[]) ∧ Below w.heap.size w w')
            ((refine HKEEP.out _ ?_; first | assumption | exact Below.refl _ _ | exact Below.drew (Below.refl _ _) | exact Below.drew (by assumption)))
            ((go_at_call 78; refine (HK2.out _).mono ?_; rintro e w1 ⟨rfl, hb1⟩; have hbw : Below w.heap.size w w1 := (by first | exact Below.trans (Below.drew (Below.refl _ _)) hb1 | exact hb1)))
          go_wp2_with fail
          go_ret3
          exact ⟨by rw [HT.out]; rfl, hbw⟩
        · clear hg2
          go_wp2_with fail
          go_region_held3 (fun w' => w'.cell? ⟨B, 0, none⟩ = some (.func (.func 78) #[] #[]) ∧ Below w.heap.size w w')
            ((refine HKEEP.out _ ?_; first | assumption | exact Below.refl _ _ | exact Below.drew (Below.refl _ _) | exact Below.drew (by assumption)))
            ((go_at_call 78; refine (HK2.out _).mono ?_; rintro e w1 ⟨rfl, hb1⟩; have hbw : Below w.heap.size w w1 := (by first | exact Below.trans (Below.drew (Below.refl _ _)) hb1 | exact hb1)))
          go_wp2_with fail
          go_ret3
          exact ⟨by rw [HT.out]; rfl, hbw⟩
theorem named_c (g : Nat) (w : World) : Calls Tryd.prog 75 #[.func (.func g) #[] #[]] w fun e w' => e = .returned (.func (.func 88) #[] #[.pointer (some ⟨w.heap.size, 0, none⟩)]) ∧ w' = w.alloc (.cells #[.func (.func g) #[] #[]] 120) := by
  go_enter Tryd.func75, Tryd.ntmps75
  go_wp2_with fail
  go_ret
  exact ⟨rfl, rfl⟩
theorem longest_c (a : Option Addr) (n cap : Nat) (w : World) : Calls Tryd.prog 79 #[.slice a n cap] w fun e w' => e = .returned (.func (.func 92) #[] #[.pointer (some ⟨w.heap.size, 0, none⟩)]) ∧ w' = w.alloc (.cells #[.slice a n cap] 46) := by
  go_enter Tryd.func79, Tryd.ntmps79
  go_wp2_with fail
  go_ret
  exact ⟨rfl, rfl⟩
def prefB (s p : ByteArray) : Bool := decide (p.size ≤ s.size) && ((s.extract 0 p.size).toList == p.toList)
theorem hasq_c (s p : ByteArray) (w : World) (hs : s.size ≤ 9223372036854775807) (hp : p.size ≤ 9223372036854775807) : Calls Tryd.prog 100 #[.string s, .string p] w fun e w' => e = .returned (.bool (prefB s p)) ∧ w = w' := by
  by_cases h : p.size ≤ s.size
  · have HB := Lib.hid (show prefB s p = ((s.extract 0 p.size).toList == p.toList) by simp [prefB, h])
    go_enter Tryd.func100, Tryd.ntmps100
    go_wp2_with fail
    go_ret
    exact ⟨by rw [HB.out]; rfl, rfl⟩
  · have HB := Lib.hid (show prefB s p = false by simp [prefB, h])
    have h' : decide ((p.size : Int) ≤ (s.size : Int)) = false := decide_eq_false (by omega)
    have h2 : decide (p.size ≤ s.size) = false := decide_eq_false h
    clear h
    go_enter Tryd.func100, Tryd.ntmps100
    go_wp2_with fail
    go_ret
    exact ⟨by rw [HB.out]; rfl, rfl⟩
theorem has_c (s p : ByteArray) (w : World) (hs : s.size ≤ 9223372036854775807) (hp : p.size ≤ 9223372036854775807) : Calls Tryd.prog 93 #[.string s, .string p] w fun e w' => e = .returned (.bool (prefB s p)) ∧ w = w' := by
  have HP := Lib.hid (fun w => hasq_c s p w hs hp)
  generalize prefB s p = b at *
  go_enter Tryd.func93, Tryd.ntmps93
  go_wp2_with (refine (HP.out _).mono ?_; rintro e w' ⟨rfl, rfl⟩)
  go_ret
  exact ⟨rfl, rfl⟩
/-- The first of some signs that stands there. -/
def longS (s : ByteArray) : List ByteArray → Nat × Nat × Nat
  | [] => (0, 0, 40)
  | p :: r => if prefB s p then (4, p.size, 0) else longS s r
def LR (s : ByteArray) (ps : List ByteArray) (w : World) (i : Value) (wr : World) : Prop := ∃ q : Nat, i = .int .i64 (q : Int) ∧ q ≤ ps.length ∧ w = wr ∧ longS s ps = longS s (ps.drop q)
theorem long1_c (s : ByteArray) (ps : List ByteArray) (B R cap : Nat) (w : World) (c0 : w.cell? ⟨B, 0, none⟩ = some (.slice (some ⟨R, 0, none⟩) ps.length cap)) (hc : ∀ j, (hj : j < ps.length) → w.cell? ⟨R, j, none⟩ = some (.string ps[j]))
    (hl : ps.length ≤ 100) (hp : ∀ p ∈ ps, p.size ≤ 100) (hsz : s.size ≤ 9223372036854775807) :
    Calls Tryd.prog 92 #[.string s, .pointer (some ⟨B, 0, none⟩)] w fun e w' => e = tup (longS s ps) ∧ w = w' := by
  have HC := Lib.hid hc
  have HP := Lib.hid hp
  clear hc hp
  go_enter Tryd.func92, Tryd.ntmps92
  go_wp2_with fail
  go_loopw [10] (fun x wr => LR s ps w x wr) (fun x _ => ps.length - (intOf x).toNat)
  case atStart => exact ⟨0, rfl, Nat.zero_le _, rfl, rfl⟩
  case round =>
    obtain ⟨q, rfl, hq, rfl, hlong⟩ := hrel
    have HLO := Lib.hid hlong
    clear hlong
    by_cases hlt : q < ps.length
    · have c1 := HC.out q hlt
      have hps := HP.out _ (List.getElem_mem hlt)
      have hd : ps.drop q = ps[q] :: ps.drop (q + 1) := List.drop_eq_getElem_cons hlt
      have hh := fun w => has_c s ps[q] w hsz (by omega)
      have HL2 := Lib.hid (show longS s ps = if prefB s ps[q] then (4, ps[q].size, 0) else longS s (ps.drop (q + 1)) by rw [HLO.out, hd]; rfl)
      clear hd HLO
      generalize ps[q] = p at *
      generalize prefB s p = b at *
      cases b
      · have HH := Lib.hid hh
        clear hh
        go_wp2_with (refine (HH.out _).mono ?_; rintro e w' ⟨rfl, rfl⟩)
        exact ⟨⟨q + 1, by go_num, by omega, rfl, by rw [HL2.out]; rfl⟩, by simp [intOf]; omega⟩
      · have HH := Lib.hid hh
        clear hh
        go_wp2_with (refine (HH.out _).mono ?_; rintro e w' ⟨rfl, rfl⟩)
        go_ret3
        exact ⟨by rw [HL2.out]; rfl, rfl⟩
    · have e : q = ps.length := by omega
      subst e
      have HL2 := Lib.hid (show longS s ps = (0, 0, 40) by rw [HLO.out, List.drop_length]; rfl)
      clear HLO
      go_wp2_with fail
      go_ret3
      exact ⟨by rw [HL2.out]; rfl, rfl⟩
end Go.Proofs.YtkeckecdhcknhaaDoor.Lx
