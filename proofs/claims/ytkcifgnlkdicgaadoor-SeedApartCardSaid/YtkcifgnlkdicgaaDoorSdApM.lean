/-
  SeedApart, its arithmetic: what is mixed from different numbers is different.
-/
import Derived.Test.YtkcifgnlkdicgaaDoorSdBel
import Derived.Test.YtkcifgnlkdicgaaDoorSdSub
import Derived.Test.YtkcifgnlkdicgaaDoorSdAw
namespace Go.Proofs.YtkcifgnlkdicgaaDoor.Sd
open Go Go.RowKit
set_option linter.unusedVariables false
set_option linter.unusedSimpArgs false
theorem beq_of_iff {a b c d : Int} (h : a = b → c = d) (g : c = d → a = b) : (a == b) = (c == d) := by
  by_cases e : c = d
  · rw [beq_iff_eq.2 e, beq_iff_eq.2 (g e)]
  · rw [beq_eq_false_iff_ne.2 e, beq_eq_false_iff_ne.2 (fun hh => e (h hh))]
theorem xor_inj {k a b : Int} (ha0 : 0 ≤ a) (ha1 : a < 18446744073709551616) (hb0 : 0 ≤ b) (hb1 : b < 18446744073709551616) (h : bits .xor .u64 k a = bits .xor .u64 k b) : a = b := by
  apply bv_inj ha0 ha1 hb0 hb1
  have h1 : bv k ^^^ bv a = bv k ^^^ bv b := by rw [← bv_xor, ← bv_xor, h]
  have h2 := congrArg (fun z => bv k ^^^ z) h1
  simpa [← BitVec.xor_assoc, BitVec.xor_self, BitVec.zero_xor] using h2
theorem xor_inj2 {k l a : Int} (ha0 : 0 ≤ k) (ha1 : k < 18446744073709551616) (hb0 : 0 ≤ l) (hb1 : l < 18446744073709551616) (h : bits .xor .u64 k a = bits .xor .u64 l a) : k = l := by
  apply bv_inj ha0 ha1 hb0 hb1
  have h1 : bv k ^^^ bv a = bv l ^^^ bv a := by rw [← bv_xor, ← bv_xor, h]
  have h2 := congrArg (fun z => z ^^^ bv a) h1
  simpa [BitVec.xor_assoc, BitVec.xor_self, BitVec.xor_zero] using h2
def atI (k n : Int) : Int := mixI (bits .xor .u64 (mixI (IntKind.u64.wrap (k + 1))) (IntKind.u64.wrap n))
theorem at_inj {k a b : Int} (ha0 : -9223372036854775808 ≤ a) (ha1 : a ≤ 9223372036854775807) (hb0 : -9223372036854775808 ≤ b) (hb1 : b ≤ 9223372036854775807) (h : atI k a = atI k b) : a = b := by
  have h1 := mix_inj (xor_lo _ _) (xor_hi _ _) (xor_lo _ _) (xor_hi _ _) h
  have h2 := xor_inj (wrap_lo _) (wrap_hi _) (wrap_lo _) (wrap_hi _) h1
  rw [IntKind.wrap_u64, IntKind.wrap_u64] at h2
  omega
theorem at_inj2 {k l a : Int} (ha0 : 0 ≤ k) (ha1 : k < 18446744073709551616) (hb0 : 0 ≤ l) (hb1 : l < 18446744073709551616) (h : atI k a = atI l a) : k = l := by
  have h1 := mix_inj (xor_lo _ _) (xor_hi _ _) (xor_lo _ _) (xor_hi _ _) h
  have h2 := xor_inj2 (mix_lo _) (mix_hi _) (mix_lo _) (mix_hi _) h1
  have h3 := mix_inj (wrap_lo _) (wrap_hi _) (wrap_lo _) (wrap_hi _) h2
  rw [IntKind.wrap_u64, IntKind.wrap_u64] at h3
  omega
theorem subF_inj : ∀ (l : List UInt8) {k m : Int}, 0 ≤ k → k < 18446744073709551616 → 0 ≤ m → m < 18446744073709551616 → subF k l = subF m l → k = m
  | [], k, m, _, _, _, _, h => h
  | u :: l, k, m, h0, h1, h2, h3, h => by
    have h4 := subF_inj l (mix_lo _) (mix_hi _) (mix_lo _) (mix_hi _) (show subF (mixI (bits .xor .u64 k u.toNat)) l = subF (mixI (bits .xor .u64 m u.toNat)) l from h)
    exact xor_inj2 h0 h1 h2 h3 (mix_inj (xor_lo _ _) (xor_hi _ _) (xor_lo _ _) (xor_hi _ _) h4)
theorem sub_inj {k m : Int} {s : ByteArray} (h0 : 0 ≤ k) (h1 : k < 18446744073709551616) (h2 : 0 ≤ m) (h3 : m < 18446744073709551616) (h : subI k s = subI m s) : k = m := by
  have h4 := subF_inj _ (mix_lo _) (mix_hi _) (mix_lo _) (mix_hi _) h
  exact xor_inj2 h0 h1 h2 h3 (mix_inj (xor_lo _ _) (xor_hi _ _) (xor_lo _ _) (xor_hi _ _) h4)
theorem subF_append (k : Int) (l m : List UInt8) : subF k (l ++ m) = subF (subF k l) m := by unfold subF; rw [List.foldl_append]
theorem subF_one {k : Int} {p q : List UInt8} {u v : UInt8} (h0 : 0 ≤ k) (h1 : k < 18446744073709551616) (h : subF k (p ++ u :: q) = subF k (p ++ v :: q)) : u = v := by
  rw [subF_append, subF_append] at h
  have h4 := subF_inj q (mix_lo _) (mix_hi _) (mix_lo _) (mix_hi _) (show subF (mixI (bits .xor .u64 (subF k p) u.toNat)) q = subF (mixI (bits .xor .u64 (subF k p) v.toNat)) q from h)
  have h5 := mix_inj (xor_lo _ _) (xor_hi _ _) (xor_lo _ _) (xor_hi _ _) h4
  have hu := u.toNat_lt
  have hv := v.toNat_lt
  have h6 := xor_inj (by omega) (by omega) (by omega) (by omega) h5
  apply UInt8.toNat_inj.1
  omega
theorem subF_set {k : Int} {l : List UInt8} {q : Nat} {v : UInt8} (h0 : 0 ≤ k) (h1 : k < 18446744073709551616) (hq : q < l.length) (h : subF k l = subF k (l.set q v)) : l[q] = v := by
  have e1 : l = l.take q ++ l[q] :: l.drop (q + 1) := by
    rw [List.getElem_cons_drop, List.take_append_drop]
  have e2 : l.set q v = l.take q ++ v :: l.drop (q + 1) := by
    rw [List.set_eq_take_append_cons_drop, if_pos hq]
  rw [e2] at h
  have e3 : subF k (l.take q ++ l[q] :: l.drop (q + 1)) = subF k (l.take q ++ v :: l.drop (q + 1)) := by rw [← e1]; exact h
  exact subF_one h0 h1 e3
theorem sub_one {k : Int} {s : ByteArray} {q : Nat} {v : UInt8} (hq : q < s.data.toList.length) (h : subI k s = subI k ⟨(s.data.toList.set q v).toArray⟩) : s.data.toList[q] = v := by
  unfold subI at h
  have hs : (⟨(s.data.toList.set q v).toArray⟩ : ByteArray).size = s.size := by
    show ((s.data.toList.set q v).toArray).size = s.data.size
    rw [List.size_toArray, List.length_set, Array.length_toList]
  rw [hs] at h
  exact subF_set (mix_lo _) (mix_hi _) hq h
end Go.Proofs.YtkcifgnlkdicgaaDoor.Sd
