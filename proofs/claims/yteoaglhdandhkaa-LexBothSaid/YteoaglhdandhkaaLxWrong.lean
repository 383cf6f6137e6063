/-
  LexWrong: what is no token is told at its place.
-/
import Derived.Test.YteoaglhdandhkaaLxJoined
namespace Go.Proofs.Yteoaglhdandhkaa.Lx
open Go Go.RowKit Go.Shelf Go.Proofs.Yteoaglhdandhkaa.Fm
set_option linter.unusedVariables false
set_option linter.unusedSimpArgs false
theorem app_list (a b : ByteArray) : (a ++ b).data.toList = a.data.toList ++ b.data.toList := by
  rw [ByteArray.data_append]; simp
/-- Two texts with a blank between them. -/
theorem ys_both (s t u : ByteArray) (b : UInt8) (hb : blk b = true) (h : u.data.toList = s.data.toList ++ b :: t.data.toList) : ysL u = if errs (ysL s) then ysL s else (ysL s).dropLast ++ (ysL t).map (mv (s.size + 1)) := by
  have h1 := toks_both KK 0 s.data.toList b t.data.toList hb
  have hl : s.data.toList.length = s.size := by simp
  unfold ysL
  rw [h, h1, hl, show 0 + s.size + 1 = 0 + (s.size + 1) by omega, toks_mv KK (s.size + 1) 0 t.data.toList]
theorem below4 {w w1 w2 w3 : World} {o : Obj} (h1 : Below w.heap.size w w1) (h2 : Below (w1.alloc o).heap.size (w1.alloc o) w2) (h3 : Below w2.heap.size w2 w3) : Below w.heap.size w w3 :=
  ((h1.alloc h1.size o).trans (h2.mono (by rw [World.size_alloc]; have := h1.size; omega))).trans (h3.mono (by have := h2.size; rw [World.size_alloc] at this; have := h1.size; omega))
theorem wrong_last (s t u : ByteArray) (e : Nat) (h : u.data.toList = s.data.toList ++ 32 :: t.data.toList) (ht : ysL t = [(⟨0, [], 0⟩, e)]) :
    (ysL u).getLast? = if errs (ysL s) then (ysL s).getLast? else some (⟨0, [], s.size + 1⟩, e) := by
  rw [ys_both s t u 32 rfl h, ht]
  split
  · rfl
  · rw [List.map_cons, List.map_nil, List.getLast?_concat]; simp [mv]
theorem yb_0 : ysL ⟨#[55, 32, 80]⟩ = [(⟨0, [], 0⟩, 40)] := by kernel_rfl
set_option maxHeartbeats 2000000 in
set_option maxRecDepth 20000 in
theorem wrong_0 (s : ByteArray) (x : Int) (w : World) (hs : s.size ≤ 1500) (h0 : 0 ≤ x) (h1 : x ≤ 255) (hx : x % 6 = 0) : Calls Try.prog 8 #[.string s, .int .u8 x] w fun e w' => e = .returned (.bool true) ∧ Below w.heap.size w w' := by
      have HA := Lib.hid awake_c
      have d1 : decide (1500 < s.size) = false := decide_eq_false (by omega)
      have d2 : decide (1500 < (s.size : Int)) = false := decide_eq_false (by omega)
      have hw := wrong_last s ⟨#[55, 32, 80]⟩ (s ++ ⟨#[32]⟩ ++ ⟨#[55]⟩ ++ ⟨#[32, 80]⟩) 40 (by rw [app_list, app_list, app_list]; simp) yb_0
      have hu : (s ++ ⟨#[32]⟩ ++ ⟨#[55]⟩ ++ ⟨#[32, 80]⟩).size ≤ 16384 := by
        rw [ByteArray.size_append, ByteArray.size_append, ByteArray.size_append]
        show s.size + 1 + 1 + 2 ≤ 16384
        omega
      cases he : errs (ysL s) with
      | true =>
        have HU := Lib.hid hu
        clear hu
        obtain ⟨z, hz, hz2, hz3⟩ := err_last s he
        have hzn : z.2 ≠ 0 := by omega
        have hs2 : s.size ≤ 16384 := by omega
        have dz : ((z.2 : Int) != 0) = true := by simp; omega
        have dz2 : ((z.2 : Int) == 0) = false := by simp; omega
        rw [he, if_pos rfl, hz] at hw
        have HL := Lib.hid (fun w => lex_er s w hs2 z hz hzn)
        have HM := Lib.hid (fun w => lex_er (s ++ ⟨#[32]⟩ ++ ⟨#[55]⟩ ++ ⟨#[32, 80]⟩) w HU.out z hw hzn)
        clear hz hz2 he hw HU hzn
        go_enter Try.func8, Try.ntmps8
        go_wp2_with fail
        with_reducible refine (HA.out _).mono ?_
        rintro e w1 ⟨rfl, hb1⟩
        go_wp2_with fail
        with_reducible refine (HL.out _).mono ?_
        rintro e w2 ⟨rfl, hb2⟩
        go_wp2_with fail
        with_reducible refine (HM.out _).mono ?_
        rintro e w3 ⟨rfl, hb3⟩
        go_wp2_with fail
        go_ret
        exact ⟨by simp, below4 hb1 hb2 hb3⟩
      | false =>
        rw [he, if_neg (by decide)] at hw
        have HU := Lib.hid hu
        clear hu
        have hs2 : s.size ≤ 16384 := by omega
        have HL := Lib.hid (fun w => lex_ok s w hs2 he)
        have hne : (40 : Nat) ≠ 0 := by decide
        have HM := Lib.hid (fun w => lex_er (s ++ ⟨#[32]⟩ ++ ⟨#[55]⟩ ++ ⟨#[32, 80]⟩) w HU.out (⟨0, [], s.size + 1⟩, 40) hw hne)
        clear he hw HU
        go_enter Try.func8, Try.ntmps8
        go_wp2_with fail
        with_reducible refine (HA.out _).mono ?_
        rintro e w1 ⟨rfl, hb1⟩
        go_wp2_with fail
        with_reducible refine (HL.out _).mono ?_
        rintro e w2 ⟨g, cap, rfl, hb2, hg, ht⟩
        clear ht hg
        go_wp2_with fail
        with_reducible refine (HM.out _).mono ?_
        rintro e w3 ⟨rfl, hb3⟩
        go_wp2_with fail
        go_ret
        exact ⟨by simp, below4 hb1 hb2 hb3⟩
theorem yb_1 : ysL ⟨#[36, 32, 80]⟩ = [(⟨0, [], 0⟩, 40)] := by kernel_rfl
set_option maxHeartbeats 2000000 in
set_option maxRecDepth 20000 in
theorem wrong_1 (s : ByteArray) (x : Int) (w : World) (hs : s.size ≤ 1500) (h0 : 0 ≤ x) (h1 : x ≤ 255) (hx : x % 6 = 1) : Calls Try.prog 8 #[.string s, .int .u8 x] w fun e w' => e = .returned (.bool true) ∧ Below w.heap.size w w' := by
      have HA := Lib.hid awake_c
      have d1 : decide (1500 < s.size) = false := decide_eq_false (by omega)
      have d2 : decide (1500 < (s.size : Int)) = false := decide_eq_false (by omega)
      have hw := wrong_last s ⟨#[36, 32, 80]⟩ (s ++ ⟨#[32]⟩ ++ ⟨#[36]⟩ ++ ⟨#[32, 80]⟩) 40 (by rw [app_list, app_list, app_list]; simp) yb_1
      have hu : (s ++ ⟨#[32]⟩ ++ ⟨#[36]⟩ ++ ⟨#[32, 80]⟩).size ≤ 16384 := by
        rw [ByteArray.size_append, ByteArray.size_append, ByteArray.size_append]
        show s.size + 1 + 1 + 2 ≤ 16384
        omega
      cases he : errs (ysL s) with
      | true =>
        have HU := Lib.hid hu
        clear hu
        obtain ⟨z, hz, hz2, hz3⟩ := err_last s he
        have hzn : z.2 ≠ 0 := by omega
        have hs2 : s.size ≤ 16384 := by omega
        have dz : ((z.2 : Int) != 0) = true := by simp; omega
        have dz2 : ((z.2 : Int) == 0) = false := by simp; omega
        rw [he, if_pos rfl, hz] at hw
        have HL := Lib.hid (fun w => lex_er s w hs2 z hz hzn)
        have HM := Lib.hid (fun w => lex_er (s ++ ⟨#[32]⟩ ++ ⟨#[36]⟩ ++ ⟨#[32, 80]⟩) w HU.out z hw hzn)
        clear hz hz2 he hw HU hzn
        go_enter Try.func8, Try.ntmps8
        go_wp2_with fail
        with_reducible refine (HA.out _).mono ?_
        rintro e w1 ⟨rfl, hb1⟩
        go_wp2_with fail
        with_reducible refine (HL.out _).mono ?_
        rintro e w2 ⟨rfl, hb2⟩
        go_wp2_with fail
        with_reducible refine (HM.out _).mono ?_
        rintro e w3 ⟨rfl, hb3⟩
        go_wp2_with fail
        go_ret
        exact ⟨by simp, below4 hb1 hb2 hb3⟩
      | false =>
        rw [he, if_neg (by decide)] at hw
        have HU := Lib.hid hu
        clear hu
        have hs2 : s.size ≤ 16384 := by omega
        have HL := Lib.hid (fun w => lex_ok s w hs2 he)
        have hne : (40 : Nat) ≠ 0 := by decide
        have HM := Lib.hid (fun w => lex_er (s ++ ⟨#[32]⟩ ++ ⟨#[36]⟩ ++ ⟨#[32, 80]⟩) w HU.out (⟨0, [], s.size + 1⟩, 40) hw hne)
        clear he hw HU
        go_enter Try.func8, Try.ntmps8
        go_wp2_with fail
        with_reducible refine (HA.out _).mono ?_
        rintro e w1 ⟨rfl, hb1⟩
        go_wp2_with fail
        with_reducible refine (HL.out _).mono ?_
        rintro e w2 ⟨g, cap, rfl, hb2, hg, ht⟩
        clear ht hg
        go_wp2_with fail
        with_reducible refine (HM.out _).mono ?_
        rintro e w3 ⟨rfl, hb3⟩
        go_wp2_with fail
        go_ret
        exact ⟨by simp, below4 hb1 hb2 hb3⟩
theorem yb_2 : ysL ⟨#[45, 32, 80]⟩ = [(⟨0, [], 0⟩, 40)] := by kernel_rfl
set_option maxHeartbeats 2000000 in
set_option maxRecDepth 20000 in
theorem wrong_2 (s : ByteArray) (x : Int) (w : World) (hs : s.size ≤ 1500) (h0 : 0 ≤ x) (h1 : x ≤ 255) (hx : x % 6 = 2) : Calls Try.prog 8 #[.string s, .int .u8 x] w fun e w' => e = .returned (.bool true) ∧ Below w.heap.size w w' := by
      have HA := Lib.hid awake_c
      have d1 : decide (1500 < s.size) = false := decide_eq_false (by omega)
      have d2 : decide (1500 < (s.size : Int)) = false := decide_eq_false (by omega)
      have hw := wrong_last s ⟨#[45, 32, 80]⟩ (s ++ ⟨#[32]⟩ ++ ⟨#[45]⟩ ++ ⟨#[32, 80]⟩) 40 (by rw [app_list, app_list, app_list]; simp) yb_2
      have hu : (s ++ ⟨#[32]⟩ ++ ⟨#[45]⟩ ++ ⟨#[32, 80]⟩).size ≤ 16384 := by
        rw [ByteArray.size_append, ByteArray.size_append, ByteArray.size_append]
        show s.size + 1 + 1 + 2 ≤ 16384
        omega
      cases he : errs (ysL s) with
      | true =>
        have HU := Lib.hid hu
        clear hu
        obtain ⟨z, hz, hz2, hz3⟩ := err_last s he
        have hzn : z.2 ≠ 0 := by omega
        have hs2 : s.size ≤ 16384 := by omega
        have dz : ((z.2 : Int) != 0) = true := by simp; omega
        have dz2 : ((z.2 : Int) == 0) = false := by simp; omega
        rw [he, if_pos rfl, hz] at hw
        have HL := Lib.hid (fun w => lex_er s w hs2 z hz hzn)
        have HM := Lib.hid (fun w => lex_er (s ++ ⟨#[32]⟩ ++ ⟨#[45]⟩ ++ ⟨#[32, 80]⟩) w HU.out z hw hzn)
        clear hz hz2 he hw HU hzn
        go_enter Try.func8, Try.ntmps8
        go_wp2_with fail
        with_reducible refine (HA.out _).mono ?_
        rintro e w1 ⟨rfl, hb1⟩
        go_wp2_with fail
        with_reducible refine (HL.out _).mono ?_
        rintro e w2 ⟨rfl, hb2⟩
        go_wp2_with fail
        with_reducible refine (HM.out _).mono ?_
        rintro e w3 ⟨rfl, hb3⟩
        go_wp2_with fail
        go_ret
        exact ⟨by simp, below4 hb1 hb2 hb3⟩
      | false =>
        rw [he, if_neg (by decide)] at hw
        have HU := Lib.hid hu
        clear hu
        have hs2 : s.size ≤ 16384 := by omega
        have HL := Lib.hid (fun w => lex_ok s w hs2 he)
        have hne : (40 : Nat) ≠ 0 := by decide
        have HM := Lib.hid (fun w => lex_er (s ++ ⟨#[32]⟩ ++ ⟨#[45]⟩ ++ ⟨#[32, 80]⟩) w HU.out (⟨0, [], s.size + 1⟩, 40) hw hne)
        clear he hw HU
        go_enter Try.func8, Try.ntmps8
        go_wp2_with fail
        with_reducible refine (HA.out _).mono ?_
        rintro e w1 ⟨rfl, hb1⟩
        go_wp2_with fail
        with_reducible refine (HL.out _).mono ?_
        rintro e w2 ⟨g, cap, rfl, hb2, hg, ht⟩
        clear ht hg
        go_wp2_with fail
        with_reducible refine (HM.out _).mono ?_
        rintro e w3 ⟨rfl, hb3⟩
        go_wp2_with fail
        go_ret
        exact ⟨by simp, below4 hb1 hb2 hb3⟩
theorem yb_3 : ysL ⟨#[120, 121, 32, 80]⟩ = [(⟨0, [], 0⟩, 41)] := by kernel_rfl
set_option maxHeartbeats 2000000 in
set_option maxRecDepth 20000 in
theorem wrong_3 (s : ByteArray) (x : Int) (w : World) (hs : s.size ≤ 1500) (h0 : 0 ≤ x) (h1 : x ≤ 255) (hx : x % 6 = 3) : Calls Try.prog 8 #[.string s, .int .u8 x] w fun e w' => e = .returned (.bool true) ∧ Below w.heap.size w w' := by
      have HA := Lib.hid awake_c
      have d1 : decide (1500 < s.size) = false := decide_eq_false (by omega)
      have d2 : decide (1500 < (s.size : Int)) = false := decide_eq_false (by omega)
      have hw := wrong_last s ⟨#[120, 121, 32, 80]⟩ (s ++ ⟨#[32]⟩ ++ ⟨#[120, 121]⟩ ++ ⟨#[32, 80]⟩) 41 (by rw [app_list, app_list, app_list]; simp) yb_3
      have hu : (s ++ ⟨#[32]⟩ ++ ⟨#[120, 121]⟩ ++ ⟨#[32, 80]⟩).size ≤ 16384 := by
        rw [ByteArray.size_append, ByteArray.size_append, ByteArray.size_append]
        show s.size + 1 + 2 + 2 ≤ 16384
        omega
      cases he : errs (ysL s) with
      | true =>
        have HU := Lib.hid hu
        clear hu
        obtain ⟨z, hz, hz2, hz3⟩ := err_last s he
        have hzn : z.2 ≠ 0 := by omega
        have hs2 : s.size ≤ 16384 := by omega
        have dz : ((z.2 : Int) != 0) = true := by simp; omega
        have dz2 : ((z.2 : Int) == 0) = false := by simp; omega
        rw [he, if_pos rfl, hz] at hw
        have HL := Lib.hid (fun w => lex_er s w hs2 z hz hzn)
        have HM := Lib.hid (fun w => lex_er (s ++ ⟨#[32]⟩ ++ ⟨#[120, 121]⟩ ++ ⟨#[32, 80]⟩) w HU.out z hw hzn)
        clear hz hz2 he hw HU hzn
        go_enter Try.func8, Try.ntmps8
        go_wp2_with fail
        with_reducible refine (HA.out _).mono ?_
        rintro e w1 ⟨rfl, hb1⟩
        go_wp2_with fail
        with_reducible refine (HL.out _).mono ?_
        rintro e w2 ⟨rfl, hb2⟩
        go_wp2_with fail
        with_reducible refine (HM.out _).mono ?_
        rintro e w3 ⟨rfl, hb3⟩
        go_wp2_with fail
        go_ret
        exact ⟨by simp, below4 hb1 hb2 hb3⟩
      | false =>
        rw [he, if_neg (by decide)] at hw
        have HU := Lib.hid hu
        clear hu
        have hs2 : s.size ≤ 16384 := by omega
        have HL := Lib.hid (fun w => lex_ok s w hs2 he)
        have hne : (41 : Nat) ≠ 0 := by decide
        have HM := Lib.hid (fun w => lex_er (s ++ ⟨#[32]⟩ ++ ⟨#[120, 121]⟩ ++ ⟨#[32, 80]⟩) w HU.out (⟨0, [], s.size + 1⟩, 41) hw hne)
        clear he hw HU
        go_enter Try.func8, Try.ntmps8
        go_wp2_with fail
        with_reducible refine (HA.out _).mono ?_
        rintro e w1 ⟨rfl, hb1⟩
        go_wp2_with fail
        with_reducible refine (HL.out _).mono ?_
        rintro e w2 ⟨g, cap, rfl, hb2, hg, ht⟩
        clear ht hg
        go_wp2_with fail
        with_reducible refine (HM.out _).mono ?_
        rintro e w3 ⟨rfl, hb3⟩
        go_wp2_with fail
        go_ret
        exact ⟨by simp, below4 hb1 hb2 hb3⟩
theorem yb_4 : ysL ⟨#[63, 32, 80]⟩ = [(⟨0, [], 0⟩, 41)] := by kernel_rfl
set_option maxHeartbeats 2000000 in
set_option maxRecDepth 20000 in
theorem wrong_4 (s : ByteArray) (x : Int) (w : World) (hs : s.size ≤ 1500) (h0 : 0 ≤ x) (h1 : x ≤ 255) (hx : x % 6 = 4) : Calls Try.prog 8 #[.string s, .int .u8 x] w fun e w' => e = .returned (.bool true) ∧ Below w.heap.size w w' := by
      have HA := Lib.hid awake_c
      have d1 : decide (1500 < s.size) = false := decide_eq_false (by omega)
      have d2 : decide (1500 < (s.size : Int)) = false := decide_eq_false (by omega)
      have hw := wrong_last s ⟨#[63, 32, 80]⟩ (s ++ ⟨#[32]⟩ ++ ⟨#[63]⟩ ++ ⟨#[32, 80]⟩) 41 (by rw [app_list, app_list, app_list]; simp) yb_4
      have hu : (s ++ ⟨#[32]⟩ ++ ⟨#[63]⟩ ++ ⟨#[32, 80]⟩).size ≤ 16384 := by
        rw [ByteArray.size_append, ByteArray.size_append, ByteArray.size_append]
        show s.size + 1 + 1 + 2 ≤ 16384
        omega
      cases he : errs (ysL s) with
      | true =>
        have HU := Lib.hid hu
        clear hu
        obtain ⟨z, hz, hz2, hz3⟩ := err_last s he
        have hzn : z.2 ≠ 0 := by omega
        have hs2 : s.size ≤ 16384 := by omega
        have dz : ((z.2 : Int) != 0) = true := by simp; omega
        have dz2 : ((z.2 : Int) == 0) = false := by simp; omega
        rw [he, if_pos rfl, hz] at hw
        have HL := Lib.hid (fun w => lex_er s w hs2 z hz hzn)
        have HM := Lib.hid (fun w => lex_er (s ++ ⟨#[32]⟩ ++ ⟨#[63]⟩ ++ ⟨#[32, 80]⟩) w HU.out z hw hzn)
        clear hz hz2 he hw HU hzn
        go_enter Try.func8, Try.ntmps8
        go_wp2_with fail
        with_reducible refine (HA.out _).mono ?_
        rintro e w1 ⟨rfl, hb1⟩
        go_wp2_with fail
        with_reducible refine (HL.out _).mono ?_
        rintro e w2 ⟨rfl, hb2⟩
        go_wp2_with fail
        with_reducible refine (HM.out _).mono ?_
        rintro e w3 ⟨rfl, hb3⟩
        go_wp2_with fail
        go_ret
        exact ⟨by simp, below4 hb1 hb2 hb3⟩
      | false =>
        rw [he, if_neg (by decide)] at hw
        have HU := Lib.hid hu
        clear hu
        have hs2 : s.size ≤ 16384 := by omega
        have HL := Lib.hid (fun w => lex_ok s w hs2 he)
        have hne : (41 : Nat) ≠ 0 := by decide
        have HM := Lib.hid (fun w => lex_er (s ++ ⟨#[32]⟩ ++ ⟨#[63]⟩ ++ ⟨#[32, 80]⟩) w HU.out (⟨0, [], s.size + 1⟩, 41) hw hne)
        clear he hw HU
        go_enter Try.func8, Try.ntmps8
        go_wp2_with fail
        with_reducible refine (HA.out _).mono ?_
        rintro e w1 ⟨rfl, hb1⟩
        go_wp2_with fail
        with_reducible refine (HL.out _).mono ?_
        rintro e w2 ⟨g, cap, rfl, hb2, hg, ht⟩
        clear ht hg
        go_wp2_with fail
        with_reducible refine (HM.out _).mono ?_
        rintro e w3 ⟨rfl, hb3⟩
        go_wp2_with fail
        go_ret
        exact ⟨by simp, below4 hb1 hb2 hb3⟩
theorem yb_5 : ysL ⟨#[128, 32, 80]⟩ = [(⟨0, [], 0⟩, 40)] := by kernel_rfl
set_option maxHeartbeats 2000000 in
set_option maxRecDepth 20000 in
theorem wrong_5 (s : ByteArray) (x : Int) (w : World) (hs : s.size ≤ 1500) (h0 : 0 ≤ x) (h1 : x ≤ 255) (hx : x % 6 = 5) : Calls Try.prog 8 #[.string s, .int .u8 x] w fun e w' => e = .returned (.bool true) ∧ Below w.heap.size w w' := by
      have HA := Lib.hid awake_c
      have d1 : decide (1500 < s.size) = false := decide_eq_false (by omega)
      have d2 : decide (1500 < (s.size : Int)) = false := decide_eq_false (by omega)
      have hw := wrong_last s ⟨#[128, 32, 80]⟩ (s ++ ⟨#[32]⟩ ++ ⟨#[128]⟩ ++ ⟨#[32, 80]⟩) 40 (by rw [app_list, app_list, app_list]; simp) yb_5
      have hu : (s ++ ⟨#[32]⟩ ++ ⟨#[128]⟩ ++ ⟨#[32, 80]⟩).size ≤ 16384 := by
        rw [ByteArray.size_append, ByteArray.size_append, ByteArray.size_append]
        show s.size + 1 + 1 + 2 ≤ 16384
        omega
      cases he : errs (ysL s) with
      | true =>
        have HU := Lib.hid hu
        clear hu
        obtain ⟨z, hz, hz2, hz3⟩ := err_last s he
        have hzn : z.2 ≠ 0 := by omega
        have hs2 : s.size ≤ 16384 := by omega
        have dz : ((z.2 : Int) != 0) = true := by simp; omega
        have dz2 : ((z.2 : Int) == 0) = false := by simp; omega
        rw [he, if_pos rfl, hz] at hw
        have HL := Lib.hid (fun w => lex_er s w hs2 z hz hzn)
        have HM := Lib.hid (fun w => lex_er (s ++ ⟨#[32]⟩ ++ ⟨#[128]⟩ ++ ⟨#[32, 80]⟩) w HU.out z hw hzn)
        clear hz hz2 he hw HU hzn
        go_enter Try.func8, Try.ntmps8
        go_wp2_with fail
        with_reducible refine (HA.out _).mono ?_
        rintro e w1 ⟨rfl, hb1⟩
        go_wp2_with fail
        with_reducible refine (HL.out _).mono ?_
        rintro e w2 ⟨rfl, hb2⟩
        go_wp2_with fail
        with_reducible refine (HM.out _).mono ?_
        rintro e w3 ⟨rfl, hb3⟩
        go_wp2_with fail
        go_ret
        exact ⟨by simp, below4 hb1 hb2 hb3⟩
      | false =>
        rw [he, if_neg (by decide)] at hw
        have HU := Lib.hid hu
        clear hu
        have hs2 : s.size ≤ 16384 := by omega
        have HL := Lib.hid (fun w => lex_ok s w hs2 he)
        have hne : (40 : Nat) ≠ 0 := by decide
        have HM := Lib.hid (fun w => lex_er (s ++ ⟨#[32]⟩ ++ ⟨#[128]⟩ ++ ⟨#[32, 80]⟩) w HU.out (⟨0, [], s.size + 1⟩, 40) hw hne)
        clear he hw HU
        go_enter Try.func8, Try.ntmps8
        go_wp2_with fail
        with_reducible refine (HA.out _).mono ?_
        rintro e w1 ⟨rfl, hb1⟩
        go_wp2_with fail
        with_reducible refine (HL.out _).mono ?_
        rintro e w2 ⟨g, cap, rfl, hb2, hg, ht⟩
        clear ht hg
        go_wp2_with fail
        with_reducible refine (HM.out _).mono ?_
        rintro e w3 ⟨rfl, hb3⟩
        go_wp2_with fail
        go_ret
        exact ⟨by simp, below4 hb1 hb2 hb3⟩
set_option maxHeartbeats 2000000 in
theorem lex_wrong_c (s : ByteArray) (x : Int) (w : World) (hs : s.size ≤ 140737488351232) (h0 : 0 ≤ x) (h1 : x ≤ 255) : Calls Try.prog 8 #[.string s, .int .u8 x] w fun e w' => e = .returned (.bool true) ∧ Below w.heap.size w w' := by
  by_cases hlong : 1500 < s.size
  · have HA := Lib.hid awake_c
    have d1 : decide (1500 < s.size) = true := decide_eq_true hlong
    have d2 : decide (1500 < (s.size : Int)) = true := decide_eq_true (by omega)
    go_enter Try.func8, Try.ntmps8
    go_wp2_with ((refine (HA.out _).mono ?_; rintro e w1 ⟨rfl, hb1⟩))
    go_ret
    exact ⟨rfl, hb1⟩
  · have hx : x % 6 = 0 ∨ x % 6 = 1 ∨ x % 6 = 2 ∨ x % 6 = 3 ∨ x % 6 = 4 ∨ x % 6 = 5 := by omega
    have hs' : s.size ≤ 1500 := by omega
    rcases hx with hx | hx | hx | hx | hx | hx
    · exact wrong_0 s x w hs' h0 h1 hx
    · exact wrong_1 s x w hs' h0 h1 hx
    · exact wrong_2 s x w hs' h0 h1 hx
    · exact wrong_3 s x w hs' h0 h1 hx
    · exact wrong_4 s x w hs' h0 h1 hx
    · exact wrong_5 s x w hs' h0 h1 hx
end Go.Proofs.Yteoaglhdandhkaa.Lx

