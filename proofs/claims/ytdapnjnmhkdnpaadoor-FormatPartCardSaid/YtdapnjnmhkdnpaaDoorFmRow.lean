/-
  The table of rows, rowOf and nameCheck.
-/
import Derived.Test.YtdapnjnmhkdnpaaDoorFmRightT
namespace Go.Proofs.YtdapnjnmhkdnpaaDoor.Fm
open Go Go.RowKit Go.Shelf
set_option linter.unusedVariables false
set_option linter.unusedSimpArgs false
structure RowD where
  name : Int
  least : Int
  most : Int
  sub : Int
  schema : Bool
def rowsL : List RowD := [⟨0, 0, 0, 0, false⟩, ⟨3, 0, 4, 0, false⟩, ⟨1, 0, 0, 0, false⟩, ⟨1, 0, 0, 1, false⟩, ⟨1, 0, 0, 2, false⟩, ⟨1, 0, 0, 2, false⟩, ⟨1, 0, 0, 2, false⟩, ⟨1, 0, 0, 2, false⟩, ⟨2, 0, 0, 1, false⟩, ⟨2, 0, 0, 1, false⟩, ⟨1, 0, 0, 1, false⟩, ⟨1, 0, 0, 1, false⟩, ⟨1, 0, 0, 1, false⟩, ⟨1, 0, 0, 1, false⟩, ⟨1, 0, 0, 2, false⟩, ⟨4, 0, 0, 0, true⟩, ⟨4, 2, 2, 0, true⟩]
def RowD.val (r : RowD) : Value := .agg #[.int .u8 r.name, .int .i64 r.least, .int .i64 r.most, .int .i64 r.sub, .bool r.schema]
/-- The table as it lies in its block. -/
def RTab (w : World) : Prop := 2 < w.heap.size ∧ ∀ k r, rowsL[k]? = some r → w.cell? ⟨2, k * 5, none⟩ = some (.int .u8 r.name) ∧ w.cell? ⟨2, k * 5 + 1, none⟩ = some (.int .i64 r.least) ∧ w.cell? ⟨2, k * 5 + 2, none⟩ = some (.int .i64 r.most) ∧
  w.cell? ⟨2, k * 5 + 3, none⟩ = some (.int .i64 r.sub) ∧ w.cell? ⟨2, k * 5 + 4, none⟩ = some (.bool r.schema)
theorem RTab.below {w w' : World} {B : Nat} (h : RTab w) (hb : Below B w w') (hB : 2 < B) : RTab w' := by
  refine ⟨Nat.lt_of_lt_of_le h.1 hb.size, fun k r hr => ?_⟩
  have hc : ∀ q, w'.cell? ⟨2, q, none⟩ = w.cell? ⟨2, q, none⟩ := fun q => hb.cell (p := ⟨2, q, none⟩) hB
  simp only [hc]
  exact h.2 k r hr
def rowOf (op : Int) : RowD := (rowsL[op.toNat]?).getD ⟨0, 0, 0, 0, false⟩
theorem rowOf_c (op : Int) (w : World) (hT : RTab w) (h0 : 0 ≤ op) (h1 : op ≤ 255) : Calls Tryd.prog 72 #[.int .u8 op] w fun e w' => e = .returned (rowOf op).val ∧ Below w.heap.size w w' := by
  obtain ⟨k, rfl⟩ := Int.eq_ofNat_of_zero_le h0
  by_cases h : k < 17
  · have hk : k < rowsL.length := h
    have hr : rowsL[k]? = some rowsL[k] := List.getElem?_eq_getElem hk
    have HR := Lib.hid (show rowOf (k : Int) = rowsL[k] by unfold rowOf; rw [Int.toNat_natCast, hr]; rfl)
    obtain ⟨c0, c1, c2, c3, c4⟩ := hT.2 k _ hr
    generalize rowsL[k] = r at *
    have h17 : (k : Int) < 17 := by omega
    have hz := hT.1
    clear hr hk h
    go_enter Tryd.func72, Tryd.ntmps72
    go_wp2_with fail
    exact bodyPost_ret (v := .agg #[.int .u8 r.name, .int .i64 r.least, .int .i64 r.most, .int .i64 r.sub, .bool r.schema]) (by simp [results, Tryd.results72, go_sem]) rfl ⟨by rw [HR.out]; rfl, (Below.refl _ _).alloc (Nat.le_refl _) _⟩
  · have HR := Lib.hid (show rowOf (k : Int) = ⟨0, 0, 0, 0, false⟩ by unfold rowOf; rw [Int.toNat_natCast, List.getElem?_eq_none (by show 17 ≤ k; omega)]; rfl)
    have h17 : decide ((k : Int) < 17) = false := decide_eq_false (by omega)
    clear h
    go_enter Tryd.func72, Tryd.ntmps72
    go_wp2_with fail
    exact bodyPost_ret (v := .agg #[.int .u8 0, .int .i64 0, .int .i64 0, .int .i64 0, .bool false]) (by simp [results, Tryd.results72, go_sem]) rfl ⟨by rw [HR.out]; rfl, (Below.refl _ _).alloc (Nat.le_refl _) _⟩
/-- Which function checks a row's Name. -/
def checkOf (n : Int) : Nat := if n = 1 then 91 else if n = 2 then 61 else if n = 3 then 92 else if n = 4 then 93 else 94
theorem nameCheck_c (n : Int) (w : World) (h0 : 0 ≤ n) (h1 : n ≤ 4) : Calls Tryd.prog 73 #[.int .u8 n] w fun e w' => e = .returned (.func (.func (checkOf n)) #[] #[]) ∧ w = w' := by
  have hn : n = 0 ∨ n = 1 ∨ n = 2 ∨ n = 3 ∨ n = 4 := by omega
  rcases hn with rfl | rfl | rfl | rfl | rfl
  all_goals
    go_enter Tryd.func73, Tryd.ntmps73
    go_wp2_with fail
    go_ret
    exact ⟨rfl, rfl⟩
def nameB (n : Int) (s : ByteArray) : Bool := if n = 1 then s.toList.isEmpty else if n = 2 then varB s else if n = 3 then predB s else if n = 4 then metaB predB s else false
theorem check_c (n : Int) (s : ByteArray) (w : World) (h0 : 0 ≤ n) (h1 : n ≤ 4) (hs : s.size ≤ 9223372036854775807) : Calls Tryd.prog (checkOf n) #[.string s] w fun e w' => e = .returned (.bool (nameB n s)) ∧ Below w.heap.size w w' := by
  have hn : n = 0 ∨ n = 1 ∨ n = 2 ∨ n = 3 ∨ n = 4 := by omega
  rcases hn with rfl | rfl | rfl | rfl | rfl
  · show Calls Tryd.prog 94 _ _ _
    go_enter Tryd.func94, Tryd.ntmps94
    go_wp2_with fail
    go_ret
    exact ⟨rfl, Below.refl _ _⟩
  · show Calls Tryd.prog 91 _ _ fun e w' => e = .returned (.bool s.toList.isEmpty) ∧ Below w.heap.size w w'
    go_enter Tryd.func91, Tryd.ntmps91
    go_wp2_with fail
    go_ret
    exact ⟨rfl, Below.refl _ _⟩
  · exact variable_c s w hs
  · exact predicate_c s w hs
  · exact metaOf_pred s w hs
end Go.Proofs.YtdapnjnmhkdnpaaDoor.Fm
