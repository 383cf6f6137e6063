/-
  Symbols: their order, compareSymbols, and slices.Compact where no two neighbours are equal.
-/
import Derived.Test.YtnadjkofjgpabaaDoorFmOrd
import Derived.Lib.SlicesCompact
import Derived.Deep.QuietTactic
import Derived.BigQuiet
import Derived.Sort.Grow
import Derived.Shelf.GgSortFunc.RowK
import Derived.Laws.StructEq
import Derived.Shelf.SlicesE.Equal
import Derived.Shelf.SlSortCmp.Insertion
namespace Go.Proofs.YtnadjkofjgpabaaDoor.Fm
open Go Go.RowKit Go.Shelf
set_option linter.unusedVariables false
set_option linter.unusedSimpArgs false
abbrev Sy := ByteArray × Int
def encSy (x : Sy) : List Value := [.string x.1, .int .i64 x.2]
def cmpSy (x y : Sy) : Int := lex (cmpS x.1 y.1) (cmpI x.2 y.2)
theorem cmpSy_ord (x y z : Sy) : Ord (cmpSy x y) (cmpSy y z) (cmpSy x z) := (cmpS_ord _ _ _).lex (cmpI_ord _ _ _)
theorem cmpSy_neg (x y : Sy) : cmpSy x y = -cmpSy y x := by
  unfold cmpSy lex
  rw [cmpS_neg x.1 y.1, cmpI_neg x.2 y.2]
  split <;> split <;> omega
theorem bytes_inj {a b : ByteArray} (h : a.toList = b.toList) : a = b := by
  rw [ByteArray.toList_eq, ByteArray.toList_eq] at h
  obtain ⟨⟨x⟩⟩ := a
  obtain ⟨⟨y⟩⟩ := b
  simpa using h
theorem cmpSy_zero (x y : Sy) : cmpSy x y = 0 ↔ x = y := by
  unfold cmpSy lex
  constructor
  · intro h
    split at h
    · rename_i h0
      exact Prod.ext (bytes_inj ((cmpS_zero _ _).1 h0)) (cmpI_zero.1 h)
    · contradiction
  · rintro rfl
    rw [if_pos ((cmpS_zero _ _).2 rfl)]
    exact cmpI_zero.2 rfl
theorem sy_swo : Go.Sort.SWO (Go.Proofs.ltOf cmpSy) where
  irrefl x := by unfold Go.Proofs.ltOf; rw [(cmpSy_zero x x).2 rfl]; rfl
  trans x y z h1 h2 := by
    unfold Go.Proofs.ltOf at *
    have t := (cmpSy_ord x y z).tri.1
    simp only [decide_eq_true_eq] at *
    have := t (by omega) (by omega)
    omega
  ntrans x y z h1 h2 := by
    unfold Go.Proofs.ltOf at *
    have t := (cmpSy_ord x y z).tri.2
    simp only [decide_eq_false_iff_not] at *
    have := t (by omega) (by omega)
    omega
theorem sy_apart (x y : Sy) (h1 : Go.Proofs.ltOf cmpSy x y = false) (h2 : Go.Proofs.ltOf cmpSy y x = false) : x = y := by
  unfold Go.Proofs.ltOf at *
  simp only [decide_eq_false_iff_not] at *
  rw [cmpSy_neg y x] at h2
  exact (cmpSy_zero x y).1 (by omega)
theorem cmpSy_c (x y : Sy) (W : World) : Calls Tryd.prog 71 #[.agg #[.string x.1, .int .i64 x.2], .agg #[.string y.1, .int .i64 y.2]] W fun e w' => e = .returned (.int .i64 (cmpSy x y)) ∧ ∃ q os', w' = Go.Sort.grow (W.drewN q) os' := by
  obtain ⟨a, i⟩ := x
  obtain ⟨b, j⟩ := y
  have HS := Lib.hid (fun W' => cmps_c a b W')
  have HI := Lib.hid (fun W' => cmpi_c i j W')
  have HE := Lib.hid (show cmpSy (a, i) (b, j) = lex (cmpS a b) (cmpI i j) from rfl)
  generalize cmpS a b = r at *
  generalize cmpI i j = s at *
  by_cases h0 : r = 0
  · subst h0
    go_enter Tryd.func71, Tryd.ntmps71
    go_wp2_with (first | (go_at_call 33; refine (HS.out _).mono ?_; rintro e w' ⟨rfl, rfl⟩) | (go_at_call 61; refine (HI.out _).mono ?_; rintro e w' ⟨rfl, rfl⟩))
    go_ret
    exact ⟨by rw [HE.out]; rfl, 0, _, by rw [Go.Sort.alloc_eq_grow, Go.Sort.alloc_eq_grow, Go.Sort.grow_grow]; rfl⟩
  · have HN := Lib.hid h0
    have hb : (r == 0) = false := by simpa using h0
    have hb2 : (r != 0) = true := by simpa using h0
    clear h0
    go_enter Tryd.func71, Tryd.ntmps71
    go_wp2_with (first | (go_at_call 33; refine (HS.out _).mono ?_; rintro e w' ⟨rfl, rfl⟩) | (go_at_call 61; refine (HI.out _).mono ?_; rintro e w' ⟨rfl, rfl⟩))
    go_ret
    exact ⟨by rw [HE.out, show lex r s = r from if_neg HN.out]; rfl, 0, _, by rw [Go.Sort.alloc_eq_grow, Go.Sort.alloc_eq_grow, Go.Sort.grow_grow]; rfl⟩
theorem eqSy (x y : Sy) (w : World) : Sem.run Tryd.prog (binOp .eql 55 (.agg #[.string x.1, .int .i64 x.2]) (.agg #[.string y.1, .int .i64 y.2])) w = .ok (.bool (decide (x = y))) w := by
  have hS : Tryd.prog.underlying 55 = some (.struct (Tryd.prog.fieldsOf 55)) := by kernel_rfl
  have hp : Tryd.prog.stoodInHeld 55 = false := by kernel_rfl
  have u9 := Tryd.underlying9
  have u3 := Tryd.underlying3
  have a3 := Tryd.isAgg3
  have a9 := Tryd.isAgg9
  have z3 := Tryd.sizeOf3
  have z9 := Tryd.sizeOf9
  rw [run_eql_struct, show (10000 : Nat) = 9999 + 1 from rfl, run_equalIn_agg w 9999 55 _ _ hS hp]
  simp only [Program.fieldsOf, Tryd.underlying55]
  go_simp
  obtain ⟨a, i⟩ := x
  obtain ⟨b, j⟩ := y
  by_cases h1 : a = b
  · by_cases h2 : i = j
    · simp [h1, h2]
    · simp [h1, h2]
  · have : ¬ a.toList = b.toList := fun h => h1 (bytes_inj h)
    simp [h1, this]
end Go.Proofs.YtnadjkofjgpabaaDoor.Fm
