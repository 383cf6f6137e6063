/-
  SeedApart, its bytes: a name as a slice of bytes, one byte of it turned, and back.
-/
import Derived.Test.YtkcifgnlkdicgaaDoorSdApM
import Derived.Laws.IdiomStrings
namespace Go.Proofs.YtkcifgnlkdicgaaDoor.Sd
open Go Go.RowKit
set_option linter.unusedVariables false
set_option linter.unusedSimpArgs false
def CapOf (W : World) (s : ByteArray) : Nat := grownCap W s.size 0 5
def RowOf (W : World) (s : ByteArray) : Obj := .cells (bytesRow s (CapOf W s)) 5 ((bytesRow s (CapOf W s)).size, (bytesRow s (CapOf W s)).size + 1)
def NewW (W : World) (s : ByteArray) : World := W.drew.alloc (RowOf W s)
theorem bytes_run (W : World) (s : ByteArray) : (convert 9 42 (.string s)).run Tryd.prog W = .ok (.slice (some ⟨W.heap.size, 0, none⟩) s.size (CapOf W s)) (NewW W s) :=
  run_bytes_of_string W 9 42 5 s Tryd.underlying9 Tryd.underlying42 Tryd.underlying5
theorem row_at (W : World) (s : ByteArray) (j : Nat) (hj : j < s.data.toList.length) : (bytesRow s (CapOf W s))[j]? = some (.int .u8 (s.data.toList[j].toNat : Int)) := by
  have hj2 : j < s.data.size := by simpa using hj
  unfold bytesRow
  rw [Array.getElem?_append_left (by simpa using hj2)]
  rw [Array.getElem?_map, Array.getElem?_eq_getElem hj2]
  simp
theorem new_below (W : World) (s : ByteArray) : Below W.heap.size W (NewW W s) := (Below.refl _ _).drew.alloc (Nat.le_refl _) _
theorem new_size (W : World) (s : ByteArray) : (NewW W s).heap.size = W.heap.size + 1 := by unfold NewW; simp
theorem new_cell (W : World) (s : ByteArray) (u j : Nat) (hu : W.heap.size = u) (hj : j < s.data.toList.length) : (NewW W s).cell? ⟨u, j, none⟩ = some (.int .u8 (s.data.toList[j].toNat : Int)) := by
  subst hu
  unfold NewW RowOf
  rw [← row_at W s j hj]
  unfold World.cell?
  rw [show (W.drew.alloc (.cells (bytesRow s (CapOf W s)) 5 ((bytesRow s (CapOf W s)).size, (bytesRow s (CapOf W s)).size + 1))).heap[W.heap.size]? = some (.cells (bytesRow s (CapOf W s)) 5 ((bytesRow s (CapOf W s)).size, (bytesRow s (CapOf W s)).size + 1)) by
    show (W.heap.push _)[W.heap.size]? = _
    simp]
  rfl
theorem new_free (W : World) (s : ByteArray) (u j : Nat) (hu : W.heap.size = u) (hj : j < s.data.toList.length) : (NewW W s).frozen? ⟨u, j, none⟩ = false := by
  have hj2 : j < (bytesRow s (CapOf W s)).size := by
    have := row_at W s j hj
    exact (Array.getElem?_eq_some_iff.1 this).1
  subst hu
  unfold NewW RowOf
  rw [show W.heap.size = W.drew.heap.size from rfl, World.frozen?_alloc_mark]
  rw [show decide ((bytesRow s (CapOf W s)).size ≤ j) = false from decide_eq_false (by omega)]
  rfl
theorem back_run (W : World) (u cap : Nat) (l : List UInt8) (n : Nat) (hn : n = l.length) (hc : ∀ j (hj : j < l.length), W.cell? ⟨u, j, none⟩ = some (.int .u8 (l[j].toNat : Int))) :
    (convert 42 9 (.slice (some ⟨u, 0, none⟩) n cap)).run Tryd.prog W = .ok (.string ⟨l.toArray⟩) W := by
  subst hn
  refine run_convert_bytes_back W 42 9 5 ⟨u, 0, none⟩ cap l Tryd.underlying42 Tryd.underlying5 Tryd.underlying9 fun j hj => ?_
  rw [show (⟨u, 0, none⟩ : Addr).add j = ⟨u, j, none⟩ by unfold Addr.add; split <;> simp_all]
  exact hc j hj
theorem xor8_eq (a b : Int) : bits .xor .u8 a b = ((BitVec.ofInt 8 a ^^^ BitVec.ofInt 8 b).toNat : Int) := by
  show IntKind.u8.wrap ((BitVec.ofInt 8 a ^^^ BitVec.ofInt 8 b).toNat : Int) = _
  have := (BitVec.ofInt 8 a ^^^ BitVec.ofInt 8 b).isLt
  rw [IntKind.wrap_u8, Int.emod_eq_of_lt (by omega) (by omega)]
theorem nat8 (a : Int) (h0 : 0 ≤ a) (h1 : a ≤ 255) : ((BitVec.ofInt 8 a).toNat : Int) = a := by rw [BitVec.toNat_ofInt]; omega
theorem xor8_lo (a b : Int) : 0 ≤ bits .xor .u8 a b := by rw [xor8_eq]; omega
theorem xor8_hi (a b : Int) : bits .xor .u8 a b ≤ 255 := by rw [xor8_eq]; have := (BitVec.ofInt 8 a ^^^ BitVec.ofInt 8 b).isLt; omega
theorem xor8_iff (a b : Int) (ha0 : 0 ≤ a) (ha1 : a ≤ 255) (hb0 : 0 ≤ b) (hb1 : b ≤ 255) : a = bits .xor .u8 a b ↔ b = 0 := by
  have na := nat8 a ha0 ha1
  have nb := nat8 b hb0 hb1
  rw [xor8_eq]
  constructor
  · intro h
    have h1 : BitVec.ofInt 8 a ^^^ BitVec.ofInt 8 b = BitVec.ofInt 8 a := by
      apply BitVec.eq_of_toNat_eq; omega
    have h2 : BitVec.ofInt 8 b = 0#8 := by
      have := congrArg (fun z => BitVec.ofInt 8 a ^^^ z) h1
      simpa [← BitVec.xor_assoc, BitVec.xor_self, BitVec.zero_xor] using this
    rw [h2] at nb
    simpa using nb.symm
  · intro h
    subst h
    rw [show BitVec.ofInt 8 0 = 0#8 from rfl, BitVec.xor_zero]; exact na.symm
theorem back_turned (W : World) (s : ByteArray) (u t cap : Nat) (B : UInt8) (b : Int) (hb0 : 0 ≤ b) (hb1 : b ≤ 255) (HC : ∀ (j : Nat) (hj : j < s.data.toList.length), W.cell? ⟨u, j, none⟩ = some (.int .u8 (s.data.toList[j].toNat : Int)))
    (htl : t < s.data.toList.length) (hB : s.data.toList[t] = B) : ∃ v : UInt8, (s.data.toList[t] = v ↔ b = 0) ∧
    (convert 42 9 (.slice (some ⟨u, 0, none⟩) s.size cap)).run Tryd.prog (W.setCell ⟨u, t, none⟩ (.int .u8 (bits .xor .u8 B.toNat b))) = .ok (.string ⟨(s.data.toList.set t v).toArray⟩) (W.setCell ⟨u, t, none⟩ (.int .u8 (bits .xor .u8 B.toNat b))) := by
  have hx0 := xor8_lo B.toNat b
  have hx1 := xor8_hi B.toNat b
  have hBt := B.toNat_lt
  have hxi := xor8_iff B.toNat b (by omega) (by omega) hb0 hb1
  have hv : ((UInt8.ofNat (bits .xor .u8 B.toNat b).toNat).toNat : Int) = bits .xor .u8 B.toNat b := by
    rw [UInt8.toNat_ofNat']; omega
  refine ⟨UInt8.ofNat (bits .xor .u8 B.toNat b).toNat, ?_, ?_⟩
  · rw [hB, ← hxi]
    constructor
    · intro h; rw [← h] at hv; exact hv
    · intro h; apply UInt8.toNat_inj.1; omega
  · generalize UInt8.ofNat (bits .xor .u8 B.toNat b).toNat = v at *
    rw [← hv]
    refine back_run _ u cap _ s.size (by rw [List.length_set, Array.length_toList]; rfl) fun j hj => ?_
    have hj2 : j < s.data.toList.length := by rw [List.length_set] at hj; exact hj
    by_cases e : t = j
    · subst e
      rw [World.cell?_setCell_same (h := HC t hj2)]
      simp
    · rw [World.cell?_setCell_other (h := fun hh => e (congrArg Addr.off hh)), HC j hj2]
      simp [List.getElem_set_ne e]
end Go.Proofs.YtkcifgnlkdicgaaDoor.Sd
