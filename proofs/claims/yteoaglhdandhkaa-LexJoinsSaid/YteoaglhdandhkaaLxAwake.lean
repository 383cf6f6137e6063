/-
  The examples of the chapter.
-/
import Derived.Test.YteoaglhdandhkaaLxJoin
import Derived.Deep.QuietTactic
import Derived.BigQuiet
namespace Go.Proofs.Yteoaglhdandhkaa.Lx
open Go Go.RowKit Go.Shelf Go.Proofs.Yteoaglhdandhkaa.Fm
set_option linter.unusedVariables false
set_option linter.unusedSimpArgs false
/-- What Lex gives of a text without an error, with one. -/
def LexOk (ts : List Tg) (w : World) (e : Ending) (w' : World) : Prop := ∃ g cap, e = .returned (.tuple #[.slice (some ⟨g, 0, none⟩) ts.length cap, .int .i64 0, .int .i64 0]) ∧ Below w.heap.size w w' ∧ w.heap.size ≤ g ∧ TsV w' (some ⟨g, 0, none⟩) ts
def tgL (s : ByteArray) : List Tg := (tksL s).map toG
theorem lex_ok (s : ByteArray) (w : World) (hs : s.size ≤ 16384) (he : errs (ysL s) = false) : Calls Try.prog 13 #[.string s] w (LexOk (tgL s) w) := by
  refine (lex_c s w hs).mono ?_
  rintro e w' ⟨hb, h | ⟨_, g, cap, rfl, h1, h2, h3⟩⟩
  · rw [he] at h; exact absurd h.1 (by decide)
  · refine ⟨g, cap, by unfold tgL; rw [List.length_map], hb, h1, ⟨.inr ⟨g, 0, rfl, h2, fun j u hj => ?_⟩⟩⟩
    rw [Nat.zero_add]
    exact h3 j u (by unfold tgL at hj; rw [flatG_toG] at hj; exact hj)
theorem last_err (s : ByteArray) (y z : Tk × Nat) (hy : y ∈ ysL s) (h0 : y.2 ≠ 0) (hz : (ysL s).getLast? = some z) : y = z := by
  obtain ⟨zs, x, e1, e2, _⟩ := toks_ends KK 0 s.data.toList
  have e1 : ysL s = zs ++ [x] := e1
  rw [e1] at hy hz
  rw [List.getLast?_concat] at hz
  rcases List.mem_append.1 hy with h | h
  · exact absurd (e2 y h).1 h0
  · rw [List.mem_singleton.1 h]; exact Option.some.inj hz
theorem lex_er (s : ByteArray) (w : World) (hs : s.size ≤ 16384) (z : Tk × Nat) (hz : (ysL s).getLast? = some z) (he : z.2 ≠ 0) : Calls Try.prog 13 #[.string s] w fun e w' => e = .returned (.tuple #[.slice none 0 0, .int .i64 (z.1.a : Int), .int .i64 (z.2 : Int)]) ∧ Below w.heap.size w w' := by
  have hE : errs (ysL s) = true := errs_mem (List.mem_of_getLast? hz) he
  refine (lex_c s w hs).mono ?_
  rintro e w' ⟨hb, ⟨_, y, h1, h2, rfl⟩ | h⟩
  · rw [last_err s y z h1 h2 hz]; exact ⟨rfl, hb⟩
  · rw [hE] at h; exact absurd h.1 (by decide)
def x1 : ByteArray := ⟨#[97, 108, 108, 32, 120, 32, 40, 80, 40, 120, 41, 45, 62, 126, 81, 41]⟩
def x2 : ByteArray := ⟨#[80, 32, 38, 32, 120, 121]⟩
def x3 : ByteArray := ⟨#[80, 32, 45, 32, 81]⟩
def x4 : ByteArray := ⟨#[63, 65, 91, 63, 116, 47, 120, 93]⟩
def t1 : List Tg := [⟨3, ⟨#[97, 108, 108]⟩, 0⟩, ⟨1, ⟨#[120]⟩, 4⟩, ⟨4, ⟨#[40]⟩, 6⟩, ⟨1, ⟨#[80]⟩, 7⟩, ⟨4, ⟨#[40]⟩, 8⟩, ⟨1, ⟨#[120]⟩, 9⟩, ⟨4, ⟨#[41]⟩, 10⟩, ⟨4, ⟨#[45, 62]⟩, 11⟩, ⟨4, ⟨#[126]⟩, 13⟩, ⟨1, ⟨#[81]⟩, 14⟩, ⟨4, ⟨#[41]⟩, 15⟩, ⟨5, ⟨#[]⟩, 16⟩]
def t4 : List Tg := [⟨2, ⟨#[63, 65]⟩, 0⟩, ⟨4, ⟨#[91]⟩, 2⟩, ⟨2, ⟨#[63, 116]⟩, 3⟩, ⟨4, ⟨#[47]⟩, 5⟩, ⟨1, ⟨#[120]⟩, 6⟩, ⟨4, ⟨#[93]⟩, 7⟩, ⟨5, ⟨#[]⟩, 8⟩]
theorem e1 : errs (ysL x1) = false := by kernel_rfl
theorem g1 : tgL x1 = t1 := by kernel_rfl
theorem e2 : (ysL x2).getLast? = some (⟨0, [], 4⟩, 41) := by kernel_rfl
theorem e3 : (ysL x3).getLast? = some (⟨0, [], 2⟩, 40) := by kernel_rfl
theorem e4 : errs (ysL x4) = false := by kernel_rfl
theorem g4 : tgL x4 = t4 := by kernel_rfl
theorem j4 : joinG t4 = ⟨#[63, 65, 32, 91, 32, 63, 116, 32, 47, 32, 120, 32, 93]⟩ := by kernel_rfl
theorem u5 : wordB ⟨#[117, 110, 116, 105, 108]⟩ = true := by kernel_rfl
theorem l1 (w : World) : Calls Try.prog 13 #[.string ⟨#[97, 108, 108, 32, 120, 32, 40, 80, 40, 120, 41, 45, 62, 126, 81, 41]⟩] w (LexOk t1 w) := by have h := lex_ok x1 w (by decide) e1; rw [g1] at h; exact h
theorem l4 (w : World) : Calls Try.prog 13 #[.string ⟨#[63, 65, 91, 63, 116, 47, 120, 93]⟩] w (LexOk t4 w) := by have h := lex_ok x4 w (by decide) e4; rw [g4] at h; exact h
theorem l2 (w : World) : Calls Try.prog 13 #[.string ⟨#[80, 32, 38, 32, 120, 121]⟩] w fun e w' => e = .returned (.tuple #[.slice none 0 0, .int .i64 4, .int .i64 41]) ∧ Below w.heap.size w w' := lex_er x2 w (by decide) _ e2 (by decide)
theorem l3 (w : World) : Calls Try.prog 13 #[.string ⟨#[80, 32, 45, 32, 81]⟩] w fun e w' => e = .returned (.tuple #[.slice none 0 0, .int .i64 2, .int .i64 40]) ∧ Below w.heap.size w w' := lex_er x3 w (by decide) _ e3 (by decide)
def AkR (w1 : World) (i : Value) (wr : World) : Prop := ∃ q : Nat, i = .int .i64 (q : Int) ∧ q ≤ 12 ∧ ∃ n, wr = w1.drewN n
set_option maxHeartbeats 2000000 in
set_option maxRecDepth 20000 in
theorem awake_c (w : World) : Calls Try.prog 9 #[] w fun e w' => e = .returned (.bool true) ∧ Below w.heap.size w w' := by
  have L1 := Lib.hid l1
  have L2 := Lib.hid l2
  have L3 := Lib.hid l3
  have L4 := Lib.hid l4
  go_enter Try.func9, Try.ntmps9
  go_wp2_with fail
  refine (L1.out _).mono ?_
  rintro e w1 ⟨g, cap, rfl, hb1, hg, ht⟩
  have htl : t1.length = 12 := rfl
  rw [htl]
  have hgl : g < w1.heap.size := by
    rcases ht.h with h | ⟨g', o, h1, h2, _⟩
    · exact absurd h (by decide)
    · injection h1 with h1; injection h1 with h1; omega
  have HT := Lib.hid ht
  have HB1 := Lib.hid hb1
  have hA : ∀ q, q < 12 → (#[.string ⟨#[97, 108, 108]⟩, .string ⟨#[120]⟩, .string ⟨#[40]⟩, .string ⟨#[80]⟩, .string ⟨#[40]⟩, .string ⟨#[120]⟩, .string ⟨#[41]⟩, .string ⟨#[45, 62]⟩, .string ⟨#[126]⟩, .string ⟨#[81]⟩, .string ⟨#[41]⟩, .string ⟨#[]⟩] : Array Value)[q]? = some (.string (t1.getD q ⟨0, ⟨#[]⟩, 0⟩).t) := by
    intro q hq
    have : q = 0 ∨ q = 1 ∨ q = 2 ∨ q = 3 ∨ q = 4 ∨ q = 5 ∨ q = 6 ∨ q = 7 ∨ q = 8 ∨ q = 9 ∨ q = 10 ∨ q = 11 := by omega
    rcases this with rfl | rfl | rfl | rfl | rfl | rfl | rfl | rfl | rfl | rfl | rfl | rfl <;> rfl
  have hN : ∀ q, q < 12 → (#[.int .i64 0, .int .i64 4, .int .i64 6, .int .i64 7, .int .i64 8, .int .i64 9, .int .i64 10, .int .i64 11, .int .i64 13, .int .i64 14, .int .i64 15, .int .i64 16] : Array Value)[q]? = some (.int .i64 (t1.getD q ⟨0, ⟨#[]⟩, 0⟩).a) := by
    intro q hq
    have : q = 0 ∨ q = 1 ∨ q = 2 ∨ q = 3 ∨ q = 4 ∨ q = 5 ∨ q = 6 ∨ q = 7 ∨ q = 8 ∨ q = 9 ∨ q = 10 ∨ q = 11 := by omega
    rcases this with rfl | rfl | rfl | rfl | rfl | rfl | rfl | rfl | rfl | rfl | rfl | rfl <;> rfl
  have hF : (∀ q, q < 12 → ((w1.alloc (.cells #[.string ⟨#[97, 108, 108]⟩, .string ⟨#[120]⟩, .string ⟨#[40]⟩, .string ⟨#[80]⟩, .string ⟨#[40]⟩, .string ⟨#[120]⟩, .string ⟨#[41]⟩, .string ⟨#[45, 62]⟩, .string ⟨#[126]⟩, .string ⟨#[81]⟩, .string ⟨#[41]⟩, .string ⟨#[]⟩] 9)).alloc (.cells #[.int .i64 0, .int .i64 4, .int .i64 6, .int .i64 7, .int .i64 8, .int .i64 9, .int .i64 10, .int .i64 11, .int .i64 13, .int .i64 14, .int .i64 15, .int .i64 16] 3)).cell? ⟨w1.heap.size, q, none⟩ = some (.string (t1.getD q ⟨0, ⟨#[]⟩, 0⟩).t)) ∧
      (∀ q, q < 12 → ((w1.alloc (.cells #[.string ⟨#[97, 108, 108]⟩, .string ⟨#[120]⟩, .string ⟨#[40]⟩, .string ⟨#[80]⟩, .string ⟨#[40]⟩, .string ⟨#[120]⟩, .string ⟨#[41]⟩, .string ⟨#[45, 62]⟩, .string ⟨#[126]⟩, .string ⟨#[81]⟩, .string ⟨#[41]⟩, .string ⟨#[]⟩] 9)).alloc (.cells #[.int .i64 0, .int .i64 4, .int .i64 6, .int .i64 7, .int .i64 8, .int .i64 9, .int .i64 10, .int .i64 11, .int .i64 13, .int .i64 14, .int .i64 15, .int .i64 16] 3)).cell? ⟨w1.heap.size + 1, q, none⟩ = some (.int .i64 (t1.getD q ⟨0, ⟨#[]⟩, 0⟩).a)) ∧
      Below w1.heap.size w1 ((w1.alloc (.cells #[.string ⟨#[97, 108, 108]⟩, .string ⟨#[120]⟩, .string ⟨#[40]⟩, .string ⟨#[80]⟩, .string ⟨#[40]⟩, .string ⟨#[120]⟩, .string ⟨#[41]⟩, .string ⟨#[45, 62]⟩, .string ⟨#[126]⟩, .string ⟨#[81]⟩, .string ⟨#[41]⟩, .string ⟨#[]⟩] 9)).alloc (.cells #[.int .i64 0, .int .i64 4, .int .i64 6, .int .i64 7, .int .i64 8, .int .i64 9, .int .i64 10, .int .i64 11, .int .i64 13, .int .i64 14, .int .i64 15, .int .i64 16] 3)) := by
    refine ⟨fun q hq => ?_, fun q hq => ?_, ((Below.refl _ _).alloc (Nat.le_refl _) _).alloc (by simp) _⟩
    · rw [World.cell?_alloc_lt _ _ _ (by simp), World.cell?_alloc_at _ _ _ _ rfl]; exact hA q hq
    · rw [World.cell?_alloc_at _ _ _ _ (by simp)]; exact hN q hq
  have HF := Lib.hid hF
  clear hb1 ht htl hA hN hF
  go_wp2_with fail
  generalize (w1.alloc (.cells #[.string ⟨#[97, 108, 108]⟩, .string ⟨#[120]⟩, .string ⟨#[40]⟩, .string ⟨#[80]⟩, .string ⟨#[40]⟩, .string ⟨#[120]⟩, .string ⟨#[41]⟩, .string ⟨#[45, 62]⟩, .string ⟨#[126]⟩, .string ⟨#[81]⟩, .string ⟨#[41]⟩, .string ⟨#[]⟩] 9)).alloc (.cells #[.int .i64 0, .int .i64 4, .int .i64 6, .int .i64 7, .int .i64 8, .int .i64 9, .int .i64 10, .int .i64 11, .int .i64 13, .int .i64 14, .int .i64 15, .int .i64 16] 3) = w2 at HF ⊢
  obtain ⟨HS, HN, hb2⟩ := HF.out
  have HS := Lib.hid HS
  have HN := Lib.hid HN
  have HT2 := Lib.hid (HT.out.grow hb2)
  have HB2 := Lib.hid (HB1.out.trans (hb2.mono HB1.out.size))
  clear hb2 HF HT HB1
  go_loopw [6] (fun i wr => AkR w2 i wr) (fun i _ => 12 - (intOf i).toNat)
  case atStart => exact ⟨0, rfl, by omega, 0, rfl⟩
  case round =>
    obtain ⟨q, rfl, hq, n, rfl⟩ := hrel
    by_cases hlt : q < 12
    · obtain ⟨g', o, h1, _, _, c1, c2⟩ := HT2.out.get (i := q) hlt
      injection h1 with h1
      injection h1 with h1 h2
      subst h1; subst h2
      have d1 := HS.out q hlt
      have d2 := HN.out q hlt
      have hgd : t1.getD q ⟨0, ⟨#[]⟩, 0⟩ = t1[q] := by
        rw [List.getD_eq_getElem?_getD, List.getElem?_eq_getElem (show q < t1.length from hlt)]; rfl
      rw [hgd] at d1 d2
      rw [Nat.zero_add] at c1 c2
      have n0 : (0 : Int) ≤ (q : Int) := by omega
      have n1 : (q : Int) < 12 := by omega
      generalize t1[q].t = x at *
      generalize t1[q].a = y at *
      have e1 : (x.toList == x.toList) = true := by simp
      have e2 : (x.toList != x.toList) = false := by simp
      have e3 : (y != y) = false := by simp
      clear hgd
      go_wp2_with fail
      refine wp_region_S (fun w' => w'.cell? ⟨g, q * 3 + 1, none⟩ = some (.string x) ∧ w'.cell? ⟨g, q * 3 + 2, none⟩ = some (.int .i64 y) ∧ w'.cell? ⟨w1.heap.size, q, none⟩ = some (.string x) ∧ w'.cell? ⟨w1.heap.size + 1, q, none⟩ = some (.int .i64 y)) [] 22 #[false, false, false, false, false, false, false, false, false, false, false, false, false, false, false, false, false, false, false, false, false, false] (by kernel_rfl) (by kernel_rfl) (by kernel_rfl)
        (by rw [World.cell?_drew, World.cell?_drew, World.cell?_drew, World.cell?_drew, World.cell?_drewN, World.cell?_drewN, World.cell?_drewN, World.cell?_drewN]; exact ⟨c1, c2, d1, d2⟩) (fun hHeld => ?_)
      refine wpAnyS_take (i := 0) (oi := ⟨some 42, _, _, _, _, _⟩) (v := .slice (some ⟨g, 0, none⟩) 12 cap) rfl (by kernel_rfl) (by kernel_rfl) (by kernel_rfl) (by kernel_rfl) (fun _ _ _ h => Norm.panic h) (Or.inl ⟨by rfl, ?_⟩) (by assumption) ?_
      · intro w' hSw
        obtain ⟨k1, k2, k3, k4⟩ := hSw
        go_simp
      simp only [Act.put, List.setIfInBounds_toArray, List.set_cons_zero, List.set_cons_succ]
      refine wpAnyS_take (i := 1) (oi := ⟨some 43, _, _, _, _, _⟩) (v := .int .i64 (q : Int)) rfl (by kernel_rfl) (by kernel_rfl) (by kernel_rfl) (by kernel_rfl) (fun _ _ _ h => Norm.panic h) (Or.inl ⟨by rfl, ?_⟩) (by assumption) ?_
      · intro w' hSw
        obtain ⟨k1, k2, k3, k4⟩ := hSw
        go_simp
      simp only [Act.put, List.setIfInBounds_toArray, List.set_cons_zero, List.set_cons_succ]
      refine wpAnyS_take (i := 2) (oi := ⟨some 44, _, _, _, _, _⟩) (v := .pointer (some ⟨g, q * 3, none⟩)) rfl (by kernel_rfl) (by kernel_rfl) (by kernel_rfl) (by kernel_rfl) (fun _ _ _ h => Norm.panic h) (Or.inl ⟨by rfl, ?_⟩) (by assumption) ?_
      · intro w' hSw
        obtain ⟨k1, k2, k3, k4⟩ := hSw
        go_simp
      simp only [Act.put, List.setIfInBounds_toArray, List.set_cons_zero, List.set_cons_succ]
      refine wpAnyS_take (i := 3) (oi := ⟨some 45, _, _, _, _, _⟩) (v := .pointer (some ⟨g, q * 3 + 1, none⟩)) rfl (by kernel_rfl) (by kernel_rfl) (by kernel_rfl) (by kernel_rfl) (fun _ _ _ h => Norm.panic h) (Or.inl ⟨by rfl, ?_⟩) (by assumption) ?_
      · intro w' hSw
        obtain ⟨k1, k2, k3, k4⟩ := hSw
        go_simp
      simp only [Act.put, List.setIfInBounds_toArray, List.set_cons_zero, List.set_cons_succ]
      refine wpAnyS_take (i := 4) (oi := ⟨some 46, _, _, _, _, _⟩) (v := .string x) rfl (by kernel_rfl) (by kernel_rfl) (by kernel_rfl) (by kernel_rfl) (fun _ _ _ h => Norm.panic h) (Or.inl ⟨by rfl, ?_⟩) (by assumption) ?_
      · intro w' hSw
        obtain ⟨k1, k2, k3, k4⟩ := hSw
        go_simp
      simp only [Act.put, List.setIfInBounds_toArray, List.set_cons_zero, List.set_cons_succ]
      refine wpAnyS_take (i := 5) (oi := ⟨some 47, _, _, _, _, _⟩) (v := .slice (some ⟨w1.heap.size, 0, none⟩) 12 12) rfl (by kernel_rfl) (by kernel_rfl) (by kernel_rfl) (by kernel_rfl) (fun _ _ _ h => Norm.panic h) (Or.inl ⟨by rfl, ?_⟩) (by assumption) ?_
      · intro w' hSw
        obtain ⟨k1, k2, k3, k4⟩ := hSw
        go_simp
      simp only [Act.put, List.setIfInBounds_toArray, List.set_cons_zero, List.set_cons_succ]
      refine wpAnyS_take (i := 6) (oi := ⟨some 48, _, _, _, _, _⟩) (v := .int .i64 (q : Int)) rfl (by kernel_rfl) (by kernel_rfl) (by kernel_rfl) (by kernel_rfl) (fun _ _ _ h => Norm.panic h) (Or.inl ⟨by rfl, ?_⟩) (by assumption) ?_
      · intro w' hSw
        obtain ⟨k1, k2, k3, k4⟩ := hSw
        go_simp
      simp only [Act.put, List.setIfInBounds_toArray, List.set_cons_zero, List.set_cons_succ]
      refine wpAnyS_take (i := 7) (oi := ⟨some 49, _, _, _, _, _⟩) (v := .pointer (some ⟨w1.heap.size, q, none⟩)) rfl (by kernel_rfl) (by kernel_rfl) (by kernel_rfl) (by kernel_rfl) (fun _ _ _ h => Norm.panic h) (Or.inl ⟨by rfl, ?_⟩) (by assumption) ?_
      · intro w' hSw
        obtain ⟨k1, k2, k3, k4⟩ := hSw
        go_simp
      simp only [Act.put, List.setIfInBounds_toArray, List.set_cons_zero, List.set_cons_succ]
      refine wpAnyS_take (i := 8) (oi := ⟨some 50, _, _, _, _, _⟩) (v := .string x) rfl (by kernel_rfl) (by kernel_rfl) (by kernel_rfl) (by kernel_rfl) (fun _ _ _ h => Norm.panic h) (Or.inl ⟨by rfl, ?_⟩) (by assumption) ?_
      · intro w' hSw
        obtain ⟨k1, k2, k3, k4⟩ := hSw
        go_simp
      simp only [Act.put, List.setIfInBounds_toArray, List.set_cons_zero, List.set_cons_succ]
      refine wpAnyS_take (i := 9) (oi := ⟨some 51, _, _, _, _, _⟩) (v := .bool false) rfl (by kernel_rfl) (by kernel_rfl) (by kernel_rfl) (by kernel_rfl) (fun _ _ _ h => Norm.panic h) (Or.inl ⟨by rfl, ?_⟩) (by assumption) ?_
      · intro w' hSw
        obtain ⟨k1, k2, k3, k4⟩ := hSw
        go_simp
      simp only [Act.put, List.setIfInBounds_toArray, List.set_cons_zero, List.set_cons_succ]
      refine wpAnyS_take (i := 10) (oi := ⟨some 52, _, _, _, _, _⟩) (v := .bool false) rfl (by kernel_rfl) (by kernel_rfl) (by kernel_rfl) (by kernel_rfl) (fun _ _ _ h => Norm.panic h) (Or.inl ⟨by rfl, ?_⟩) (by assumption) ?_
      · intro w' hSw
        obtain ⟨k1, k2, k3, k4⟩ := hSw
        go_simp
      simp only [Act.put, List.setIfInBounds_toArray, List.set_cons_zero, List.set_cons_succ]
      refine wpAnyS_take (i := 11) (oi := ⟨some 53, _, _, _, _, _⟩) (v := .slice (some ⟨g, 0, none⟩) 12 cap) rfl (by kernel_rfl) (by kernel_rfl) (by kernel_rfl) (by kernel_rfl) (fun _ _ _ h => Norm.panic h) (Or.inl ⟨by rfl, ?_⟩) (by assumption) ?_
      · intro w' hSw
        obtain ⟨k1, k2, k3, k4⟩ := hSw
        go_simp
      simp only [Act.put, List.setIfInBounds_toArray, List.set_cons_zero, List.set_cons_succ]
      refine wpAnyS_take (i := 12) (oi := ⟨some 54, _, _, _, _, _⟩) (v := .int .i64 (q : Int)) rfl (by kernel_rfl) (by kernel_rfl) (by kernel_rfl) (by kernel_rfl) (fun _ _ _ h => Norm.panic h) (Or.inl ⟨by rfl, ?_⟩) (by assumption) ?_
      · intro w' hSw
        obtain ⟨k1, k2, k3, k4⟩ := hSw
        go_simp
      simp only [Act.put, List.setIfInBounds_toArray, List.set_cons_zero, List.set_cons_succ]
      refine wpAnyS_take (i := 13) (oi := ⟨some 55, _, _, _, _, _⟩) (v := .pointer (some ⟨g, q * 3, none⟩)) rfl (by kernel_rfl) (by kernel_rfl) (by kernel_rfl) (by kernel_rfl) (fun _ _ _ h => Norm.panic h) (Or.inl ⟨by rfl, ?_⟩) (by assumption) ?_
      · intro w' hSw
        obtain ⟨k1, k2, k3, k4⟩ := hSw
        go_simp
      simp only [Act.put, List.setIfInBounds_toArray, List.set_cons_zero, List.set_cons_succ]
      refine wpAnyS_take (i := 14) (oi := ⟨some 56, _, _, _, _, _⟩) (v := .pointer (some ⟨g, q * 3 + 2, none⟩)) rfl (by kernel_rfl) (by kernel_rfl) (by kernel_rfl) (by kernel_rfl) (fun _ _ _ h => Norm.panic h) (Or.inl ⟨by rfl, ?_⟩) (by assumption) ?_
      · intro w' hSw
        obtain ⟨k1, k2, k3, k4⟩ := hSw
        go_simp
      simp only [Act.put, List.setIfInBounds_toArray, List.set_cons_zero, List.set_cons_succ]
      refine wpAnyS_take (i := 15) (oi := ⟨some 57, _, _, _, _, _⟩) (v := .int .i64 y) rfl (by kernel_rfl) (by kernel_rfl) (by kernel_rfl) (by kernel_rfl) (fun _ _ _ h => Norm.panic h) (Or.inl ⟨by rfl, ?_⟩) (by assumption) ?_
      · intro w' hSw
        obtain ⟨k1, k2, k3, k4⟩ := hSw
        go_simp
      simp only [Act.put, List.setIfInBounds_toArray, List.set_cons_zero, List.set_cons_succ]
      refine wpAnyS_take (i := 16) (oi := ⟨some 58, _, _, _, _, _⟩) (v := .slice (some ⟨w1.heap.size + 1, 0, none⟩) 12 12) rfl (by kernel_rfl) (by kernel_rfl) (by kernel_rfl) (by kernel_rfl) (fun _ _ _ h => Norm.panic h) (Or.inl ⟨by rfl, ?_⟩) (by assumption) ?_
      · intro w' hSw
        obtain ⟨k1, k2, k3, k4⟩ := hSw
        go_simp
      simp only [Act.put, List.setIfInBounds_toArray, List.set_cons_zero, List.set_cons_succ]
      refine wpAnyS_take (i := 17) (oi := ⟨some 59, _, _, _, _, _⟩) (v := .int .i64 (q : Int)) rfl (by kernel_rfl) (by kernel_rfl) (by kernel_rfl) (by kernel_rfl) (fun _ _ _ h => Norm.panic h) (Or.inl ⟨by rfl, ?_⟩) (by assumption) ?_
      · intro w' hSw
        obtain ⟨k1, k2, k3, k4⟩ := hSw
        go_simp
      simp only [Act.put, List.setIfInBounds_toArray, List.set_cons_zero, List.set_cons_succ]
      refine wpAnyS_take (i := 18) (oi := ⟨some 60, _, _, _, _, _⟩) (v := .pointer (some ⟨w1.heap.size + 1, q, none⟩)) rfl (by kernel_rfl) (by kernel_rfl) (by kernel_rfl) (by kernel_rfl) (fun _ _ _ h => Norm.panic h) (Or.inl ⟨by rfl, ?_⟩) (by assumption) ?_
      · intro w' hSw
        obtain ⟨k1, k2, k3, k4⟩ := hSw
        go_simp
      simp only [Act.put, List.setIfInBounds_toArray, List.set_cons_zero, List.set_cons_succ]
      refine wpAnyS_take (i := 19) (oi := ⟨some 61, _, _, _, _, _⟩) (v := .int .i64 y) rfl (by kernel_rfl) (by kernel_rfl) (by kernel_rfl) (by kernel_rfl) (fun _ _ _ h => Norm.panic h) (Or.inl ⟨by rfl, ?_⟩) (by assumption) ?_
      · intro w' hSw
        obtain ⟨k1, k2, k3, k4⟩ := hSw
        go_simp
      simp only [Act.put, List.setIfInBounds_toArray, List.set_cons_zero, List.set_cons_succ]
      refine wpAnyS_take (i := 20) (oi := ⟨some 62, _, _, _, _, _⟩) (v := .bool false) rfl (by kernel_rfl) (by kernel_rfl) (by kernel_rfl) (by kernel_rfl) (fun _ _ _ h => Norm.panic h) (Or.inl ⟨by rfl, ?_⟩) (by assumption) ?_
      · intro w' hSw
        obtain ⟨k1, k2, k3, k4⟩ := hSw
        go_simp
      simp only [Act.put, List.setIfInBounds_toArray, List.set_cons_zero, List.set_cons_succ]
      refine wpAnyS_take (i := 21) (oi := ⟨some 63, _, _, _, _, _⟩) (v := .bool false) rfl (by kernel_rfl) (by kernel_rfl) (by kernel_rfl) (by kernel_rfl) (fun _ _ _ h => Norm.panic h) (Or.inl ⟨by rfl, ?_⟩) (by assumption) ?_
      · intro w' hSw
        obtain ⟨k1, k2, k3, k4⟩ := hSw
        go_simp
      simp only [Act.put, List.setIfInBounds_toArray, List.set_cons_zero, List.set_cons_succ]
      refine wpAnyS_done (by kernel_rfl) ?_
      refine Norm.normal ?_
      go_wp2_with fail
      exact ⟨⟨q + 1, by go_num, by omega, n + 1, rfl⟩, by simp [intOf]; omega⟩
    · obtain rfl : q = 12 := by omega
      clear hlt hq
      have HB3 := Lib.hid (Below.drewN HB2.out n)
      generalize w2.drewN n = w3 at *
      go_wp2_with fail
      refine (L2.out _).mono ?_
      rintro e w4 ⟨rfl, hb4⟩
      have HB4 := Lib.hid (HB3.out.trans (hb4.mono HB3.out.size))
      clear hb4
      go_wp2_with fail
      refine (L3.out _).mono ?_
      rintro e w5 ⟨rfl, hb5⟩
      have HB5 := Lib.hid (HB4.out.trans (hb5.mono HB4.out.size))
      clear hb5
      go_wp2_with fail
      refine (L4.out _).mono ?_
      rintro e w6 ⟨g6, cap6, rfl, hb6, hg6, ht6⟩
      have HB6 := Lib.hid (HB5.out.trans (hb6.mono HB5.out.size))
      have HT6 := Lib.hid ht6
      have HJ := Lib.hid (join_c t4 (some ⟨g6, 0, none⟩) cap6 w6 ht6 (by decide) (by decide))
      obtain ⟨g7, o7, h1, _, _, c1, _⟩ := ht6.get (i := 1) (by decide)
      injection h1 with h1
      injection h1 with h1 h2
      subst h1; subst h2
      have htl : t4.length = 7 := rfl
      have hc1 : w6.cell? ⟨g6, 4, none⟩ = some (.string ⟨#[91]⟩) := c1
      have HW := Lib.hid (word_l ⟨#[117, 110, 116, 105, 108]⟩)
      rw [j4, htl] at HJ
      rw [u5] at HW
      rw [htl]
      clear hb6 ht6 c1 htl
      go_wp2_with (first
        | (go_at_call 10; refine HJ.out.mono ?_; rintro e w7 ⟨rfl, hb7⟩)
        | (go_at_call 15; refine (HW.out _).mono ?_; rintro e w' ⟨rfl, rfl⟩))
      go_ret
      exact ⟨rfl, HB6.out.trans (hb7.mono HB6.out.size)⟩
end Go.Proofs.Yteoaglhdandhkaa.Lx
