/-
  The contracts of Sub and of Pick.
-/
import Derived.Test.YtkcifgnlkdicgaaDoorSdW2
namespace Go.Proofs.YtkcifgnlkdicgaaDoor.Sd
open Go Go.RowKit
set_option linter.unusedVariables false
set_option linter.unusedSimpArgs false

/-- The key of a name: the length first, then each byte. -/
def subF (k : Int) (l : List UInt8) : Int := l.foldl (fun k b => mixI (bits .xor .u64 k b.toNat)) k
def subI (k : Int) (s : ByteArray) : Int := subF (mixI (bits .xor .u64 k s.size)) s.data.toList
theorem subF_lo {k : Int} {l : List UInt8} (h : 0 ≤ k) : 0 ≤ subF k l := by
  unfold subF
  induction l generalizing k with
  | nil => exact h
  | cons b r ih => exact ih (mix_lo _)
theorem subF_hi {k : Int} {l : List UInt8} (h : k < 18446744073709551616) : subF k l < 18446744073709551616 := by
  unfold subF
  induction l generalizing k with
  | nil => exact h
  | cons b r ih => exact ih (mix_hi _)
theorem subF_step (k : Int) (s : ByteArray) (q : Nat) (h : q < s.size) : subF k (s.data.toList.take (q + 1)) = mixI (bits .xor .u64 (subF k (s.data.toList.take q)) s[q].toNat) := by
  have e : s.data.toList.take (q + 1) = s.data.toList.take q ++ [s[q]] := by
    rw [List.take_succ_eq_append_getElem (by simpa using h)]; rfl
  unfold subF
  rw [e, List.foldl_append]; rfl
theorem nonempty {s : ByteArray} (h : 1 ≤ s.size) : s.toList.isEmpty = false := by
  rw [ByteArray.toList_eq, List.isEmpty_eq_false_iff]
  intro h2
  have h3 : s.data.toList.length = 0 := by rw [h2]; rfl
  have e : s.data.toList.length = s.size := by simp
  omega
theorem wrap_byte (b : UInt8) : IntKind.u64.wrap (b.toNat : Int) = b.toNat := by
  rw [IntKind.wrap_u64]; have := b.toNat_lt; omega
def SubRel (k0 : Int) (s : ByteArray) (B : Nat) (w : World) (k x : Value) (wr : World) : Prop :=
  ∃ q : Nat, x = .int .i64 (q : Int) ∧ q ≤ s.size ∧ k = .int .u64 (subF k0 (s.data.toList.take q)) ∧ Below B w wr
set_option maxHeartbeats 1000000 in
theorem sub_c (k : Int) (s : ByteArray) (w : World) (hx0 : 0 ≤ k) (hx1 : k < 18446744073709551616) (hT : Tab w) (h1 : 1 ≤ s.size) (h2 : s.size ≤ 32) :
    Calls Tryd.prog 25 #[.agg #[.int .u64 k], .string s] w fun e w' => e = .returned (.tuple #[.agg #[.int .u64 (subI k s)], .int .i64 0]) ∧ Below w.heap.size w w' := by
  have hne := nonempty (s := s) (by omega)
  have hs63 : s.size ≤ 9223372036854775807 := by omega
  go_enter Tryd.func25, Tryd.ntmps25
  go_wp2_with fail
  refine (mix_c _ _ (xor_lo _ _) (xor_hi _ _) (hT.below (show Below w.heap.size w _ by repeat' (first | with_reducible exact Below.refl _ _ | with_reducible assumption | with_reducible refine below_drewN ?_ _ | with_reducible refine Below.drew ?_ | with_reducible refine Below.alloc ?_ ?_ _ | with_reducible refine Below.setCell ?_ ?_ _ | omega | (simp; done) | (simp; omega))) hT.pos)).mono ?_
  rintro e w1 ⟨rfl, hb⟩
  have hz : w.heap.size + 1 < w1.heap.size := by have := hb.size; simp at this; omega
  have hb1 : Below (w.heap.size + 2) ((w.alloc (.cells #[.int .u64 k] 33)).alloc (.cells #[.int .u64 0] 33)) w1 := hb.mono (by simp)
  have hlo := mix_lo (bits .xor .u64 k s.size)
  have hhi := mix_hi (bits .xor .u64 k s.size)
  obtain ⟨k0, hk0⟩ : ∃ k0, mixI (bits .xor .u64 k s.size) = k0 := ⟨_, rfl⟩
  have HK : Hid (subI k s = subF k0 s.data.toList) := by show subI k s = _; unfold subI; rw [hk0]
  rw [hk0] at hlo hhi
  rw [hk0]
  clear hk0 hb
  go_wp2_with fail
  go_loopw [6, 7, 24] (fun kv _ x wr => SubRel k0 s (w.heap.size + 2) ((w.alloc (.cells #[.int .u64 k] 33)).alloc (.cells #[.int .u64 0] 33)) kv x wr) (fun _ _ x _ => s.size - (intOf x).toNat)
  case atStart => exact ⟨0, rfl, Nat.zero_le _, rfl, hb1⟩
  case round =>
    clear hb1 hz
    obtain ⟨q, rfl, hq, rfl, hb⟩ := hrel
    have hw0 := subF_lo (l := s.data.toList.take q) hlo
    have hw1 := subF_hi (l := s.data.toList.take q) hhi
    have hz : w.heap.size + 1 < wr.heap.size := by have := hb.size; simp at this; omega
    have hT1 : Tab wr := hT.below ((show Below w.heap.size w ((w.alloc (.cells #[.int .u64 k] 33)).alloc (.cells #[.int .u64 0] 33)) by repeat' (first | with_reducible exact Below.refl _ _ | with_reducible assumption | with_reducible refine below_drewN ?_ _ | with_reducible refine Below.drew ?_ | with_reducible refine Below.alloc ?_ ?_ _ | with_reducible refine Below.setCell ?_ ?_ _ | omega | (simp; done) | (simp; omega))).trans (hb.mono (by omega))) hT.pos
    by_cases hlt : q < s.size
    · have HS : Hid (subF k0 (s.data.toList.take (q + 1)) = mixI (bits .xor .u64 (subF k0 (s.data.toList.take q)) s[q].toNat)) := subF_step k0 s q hlt
      generalize hcur : subF k0 (s.data.toList.take q) = cur at *
      clear hcur
      go_wp2_with fail
      refine (mix_c _ _ (xor_lo _ _) (xor_hi _ _) hT1).mono ?_
      rintro e w2 ⟨rfl, hb2⟩
      have hb3 := hb.trans (hb2.mono (by omega))
      clear hb2 hb hT1
      go_wp2
      exact ⟨⟨q + 1, by go_num, by omega, by rw [HS.out, wrap_byte], hb3⟩, by simp [intOf]; omega⟩
    · have HS : Hid (subF k0 (s.data.toList.take q) = subI k s) := by
        show _ = subI k s
        rw [HK.out, List.take_of_length_le (by simp; omega)]
      have hcell : wr.cell? ⟨w.heap.size + 1, 0, none⟩ = some (.int .u64 0) := by rw [hb.cell (p := ⟨w.heap.size + 1, 0, none⟩) (by simp)]; simp
      have hfree : wr.frozen? ⟨w.heap.size + 1, 0, none⟩ = false := by rw [hb.frozen (p := ⟨w.heap.size + 1, 0, none⟩) (by simp)]; simp
      have hB : Below w.heap.size w wr := (show Below w.heap.size w ((w.alloc (.cells #[.int .u64 k] 33)).alloc (.cells #[.int .u64 0] 33)) by repeat' (first | with_reducible exact Below.refl _ _ | with_reducible assumption | with_reducible refine below_drewN ?_ _ | with_reducible refine Below.drew ?_ | with_reducible refine Below.alloc ?_ ?_ _ | with_reducible refine Below.setCell ?_ ?_ _ | omega | (simp; done) | (simp; omega))).trans (hb.mono (by omega))
      generalize hcur : subF k0 (s.data.toList.take q) = cur at *
      go_wp2
      exact bodyPost_ret (v := .tuple #[.agg #[.int .u64 cur], .int .i64 0]) (by simp [results, Tryd.results25, go_sem, hcell, hz]) rfl ⟨by rw [HS.out], hB.setCell (by simp) _⟩
set_option maxHeartbeats 400000 in
theorem pick_c (n m : Int) (w : World) (h0 : -9223372036854775808 ≤ n) (h1 : n ≤ 9223372036854775807) (hm : 1 ≤ m) (hm2 : m ≤ 9223372036854775807) :
    Calls Tryd.prog 23 #[.int .i64 n, .int .i64 m] w fun e w' => e = .returned (.int .i64 (n % m)) ∧ w = w' := by
  go_enter Tryd.func23, Tryd.ntmps23
  have hm0 : m ≠ 0 := by omega
  have e := Int.tmod_eq_emod (a := n) (b := m)
  have hlt := Int.emod_lt_of_pos n (show 0 < m by omega)
  have hnn := Int.emod_nonneg n hm0
  have hab : (m.natAbs : Int) = m := by omega
  have hf : (n.tmod m < 0 → wrap64 (n.tmod m + m) = n % m) ∧ (0 ≤ n.tmod m → n.tmod m = n % m) := by
    rw [e]
    split <;> unfold wrap64 <;> omega
  have HF := Lib.hid hf
  clear hf e hlt hnn hm0 hab
  go_wp2
  · have h : n.tmod m < 0 := by assumption
    go_ret
    exact ⟨by rw [← HF.out.1 h]; rfl, rfl⟩
  · have h : 0 ≤ n.tmod m := by assumption
    go_ret
    exact ⟨by rw [← HF.out.2 h]; rfl, rfl⟩
set_option maxHeartbeats 1000000 in
theorem sub_empty_c (k : Int) (s : ByteArray) (w : World) (h1 : s.size = 0) :
    Calls Tryd.prog 25 #[.agg #[.int .u64 k], .string s] w fun e w' => e = .returned (.tuple #[.agg #[.int .u64 0], .int .i64 2]) ∧ Below w.heap.size w w' := by
  have hne : s.toList.isEmpty = true := by
    rw [ByteArray.toList_eq]
    cases h : s.data.toList with
    | nil => rfl
    | cons a b => have := congrArg List.length h; have e : s.data.toList.length = s.size := by simp
                  rw [e, h1] at this; simp at this
  have hl : s.toList = [] := List.isEmpty_iff.1 hne
  go_enter Tryd.func25, Tryd.ntmps25
  go_wp2
  exact bodyPost_ret (v := .tuple #[.agg #[.int .u64 0], .int .i64 2]) (by simp [results, Tryd.results25, go_sem]) rfl ⟨rfl, by repeat' (first | with_reducible exact Below.refl _ _ | with_reducible assumption | with_reducible refine below_drewN ?_ _ | with_reducible refine Below.drew ?_ | with_reducible refine Below.alloc ?_ ?_ _ | with_reducible refine Below.setCell ?_ ?_ _ | omega | (simp; done) | (simp; omega))⟩
set_option maxHeartbeats 1000000 in
theorem sub_long_c (k : Int) (s : ByteArray) (w : World) (h1 : 32 < s.size) :
    Calls Tryd.prog 25 #[.agg #[.int .u64 k], .string s] w fun e w' => e = .returned (.tuple #[.agg #[.int .u64 0], .int .i64 3]) ∧ Below w.heap.size w w' := by
  have hne := nonempty (s := s) (by omega)
  go_enter Tryd.func25, Tryd.ntmps25
  go_wp2
  exact bodyPost_ret (v := .tuple #[.agg #[.int .u64 0], .int .i64 3]) (by simp [results, Tryd.results25, go_sem]) rfl ⟨rfl, by repeat' (first | with_reducible exact Below.refl _ _ | with_reducible assumption | with_reducible refine below_drewN ?_ _ | with_reducible refine Below.drew ?_ | with_reducible refine Below.alloc ?_ ?_ _ | with_reducible refine Below.setCell ?_ ?_ _ | omega | (simp; done) | (simp; omega))⟩
end Go.Proofs.YtkcifgnlkdicgaaDoor.Sd
