/-
  Plain facts about words: mixing, its inverse, rests. Nothing of the program is imported here.
-/
import Derived.Laws.Bits64
import Derived.Laws.BitsAllLaws
namespace Go.Proofs.YtkcifgnlkdicgaaDoor.Sd
open Go

/-- One step of mixing, and the whole, as the walk spells them. -/
def m1 (x : Int) : Int := IntKind.u64.wrap (bits .xor .u64 x (x / 1073741824) * 13787848793156543929)
def m2 (x : Int) : Int := IntKind.u64.wrap (bits .xor .u64 (m1 x) (m1 x / 134217728) * 10723151780598845931)
def mixI (x : Int) : Int := IntKind.u64.wrap (bits .xor .u64 (m2 x) (m2 x / 2147483648))

theorem wrap_lo (n : Int) : 0 ≤ IntKind.u64.wrap n := by rw [IntKind.wrap_u64]; exact Int.emod_nonneg _ (by decide)
theorem wrap_hi (n : Int) : IntKind.u64.wrap n < 18446744073709551616 := by rw [IntKind.wrap_u64]; exact Int.emod_lt_of_pos _ (by decide)
theorem mix_lo (x : Int) : 0 ≤ mixI x := wrap_lo _
theorem mix_hi (x : Int) : mixI x < 18446744073709551616 := wrap_hi _

/-- Words as bit vectors. -/
abbrev bv (x : Int) : BitVec 64 := BitVec.ofInt 64 x
theorem bv_toNat (x : Int) (h0 : 0 ≤ x) (h1 : x < 18446744073709551616) : ((bv x).toNat : Int) = x := by
  obtain ⟨n, rfl⟩ := Int.eq_ofNat_of_zero_le h0
  show ((BitVec.ofInt 64 (n : Int)).toNat : Int) = n
  rw [ofInt_u64 n (by omega)]
theorem bv_inj {x y : Int} (hx0 : 0 ≤ x) (hx1 : x < 18446744073709551616) (hy0 : 0 ≤ y) (hy1 : y < 18446744073709551616) (h : bv x = bv y) : x = y := by
  rw [← bv_toNat x hx0 hx1, ← bv_toNat y hy0 hy1, h]
theorem bv_of_toNat (b : BitVec 64) : bv (b.toNat : Int) = b := by
  apply BitVec.eq_of_toNat_eq
  show (BitVec.ofInt 64 (b.toNat : Int)).toNat = _
  exact ofInt_u64 _ (by have := b.isLt; omega)
theorem bv_wrap (n : Int) : bv (IntKind.u64.wrap n) = bv n := by
  rw [IntKind.wrap_u64]; apply BitVec.eq_of_toInt_eq; rw [BitVec.toInt_ofInt, BitVec.toInt_ofInt]; exact Int.emod_bmod ..
theorem bv_mul (a b : Int) : bv (a * b) = bv a * bv b := BitVec.ofInt_mul a b
theorem bv_add (a b : Int) : bv (a + b) = bv a + bv b := BitVec.ofInt_add a b
theorem xor_eq (a b : Int) : bits .xor .u64 a b = ((bv a ^^^ bv b).toNat : Int) := by
  show IntKind.u64.wrap ((BitVec.ofInt 64 a ^^^ BitVec.ofInt 64 b).toNat : Int) = _
  rw [IntKind.wrap_u64, Int.emod_eq_of_lt (by omega)]
  have := (BitVec.ofInt 64 a ^^^ BitVec.ofInt 64 b).isLt
  omega
theorem bv_xor (a b : Int) : bv (bits .xor .u64 a b) = bv a ^^^ bv b := by rw [xor_eq, bv_of_toNat]
theorem xor_lo (a b : Int) : 0 ≤ bits .xor .u64 a b := by rw [xor_eq]; omega
theorem xor_hi (a b : Int) : bits .xor .u64 a b < 18446744073709551616 := by
  rw [xor_eq]; have := (bv a ^^^ bv b).isLt; omega
theorem wrap_xor (a b : Int) : IntKind.u64.wrap (bits .xor .u64 a b) = bits .xor .u64 a b := by
  rw [IntKind.wrap_u64]; exact Int.emod_eq_of_lt (xor_lo a b) (xor_hi a b)
theorem bv_shr (a : Int) (h0 : 0 ≤ a) (h1 : a < 18446744073709551616) (s : Nat) : bv (a / (2 ^ s : Nat)) = bv a >>> s := by
  obtain ⟨n, rfl⟩ := Int.eq_ofNat_of_zero_le h0
  apply BitVec.eq_of_toNat_eq
  rw [BitVec.toNat_ushiftRight, Nat.shiftRight_eq_div_pow]
  show (BitVec.ofInt 64 _).toNat = (BitVec.ofInt 64 _).toNat / _
  rw [ofInt_u64 n (by omega), ← Int.natCast_ediv, ofInt_u64]
  exact Nat.lt_of_le_of_lt (Nat.div_le_self _ _) (by omega)

/-- Mixing, on bit vectors. -/
def mixB (x : BitVec 64) : BitVec 64 :=
  let a := (x ^^^ x >>> 30) * 13787848793156543929#64
  let b := (a ^^^ a >>> 27) * 10723151780598845931#64
  b ^^^ b >>> 31
theorem bv_m1 (x : Int) (h0 : 0 ≤ x) (h1 : x < 18446744073709551616) : bv (m1 x) = (bv x ^^^ bv x >>> 30) * 13787848793156543929#64 := by
  unfold m1
  rw [bv_wrap, bv_mul, bv_xor]
  have := bv_shr x h0 h1 30
  rw [show ((2 ^ 30 : Nat) : Int) = 1073741824 by decide] at this
  rw [this]; rfl
theorem bv_m2 (x : Int) : bv (m2 x) = (bv (m1 x) ^^^ bv (m1 x) >>> 27) * 10723151780598845931#64 := by
  unfold m2
  rw [bv_wrap, bv_mul, bv_xor]
  have := bv_shr (m1 x) (wrap_lo _) (wrap_hi _) 27
  rw [show ((2 ^ 27 : Nat) : Int) = 134217728 by decide] at this
  rw [this]; rfl
theorem bv_mix (x : Int) (h0 : 0 ≤ x) (h1 : x < 18446744073709551616) : bv (mixI x) = mixB (bv x) := by
  unfold mixI mixB
  rw [bv_wrap, bv_xor]
  have := bv_shr (m2 x) (wrap_lo _) (wrap_hi _) 31
  rw [show ((2 ^ 31 : Nat) : Int) = 2147483648 by decide] at this
  rw [this, bv_m2 x, bv_m1 x h0 h1]

/-- What undoes x ^ (x >> s), for 3 s of at least 64. -/
def unB (s : Nat) (x : BitVec 64) : BitVec 64 := x ^^^ (x ^^^ x >>> s) >>> s
theorem shr_zero (x : BitVec 64) (s : Nat) (h : 64 ≤ s) : x >>> s = 0#64 := by
  apply BitVec.eq_of_toNat_eq
  rw [BitVec.toNat_ushiftRight, Nat.shiftRight_eq_div_pow]
  have := x.isLt
  rw [Nat.div_eq_of_lt (Nat.lt_of_lt_of_le this (Nat.pow_le_pow_right (by decide) h))]; rfl
theorem unB_left (s : Nat) (h : 64 ≤ s + s + s) (z : BitVec 64) : unB s (z ^^^ z >>> s) = z := by
  unfold unB
  simp only [BitVec.ushiftRight_xor_distrib, ← BitVec.shiftRight_add]
  rw [shr_zero z (s + s + s) h]
  generalize z >>> s = a
  generalize z >>> (s + s) = b
  have h1 : ∀ p q : BitVec 64, p ^^^ (p ^^^ q) = q := fun p q => by rw [← BitVec.xor_assoc, BitVec.xor_self, BitVec.zero_xor]
  rw [show a ^^^ b ^^^ (b ^^^ 0#64) = a by rw [BitVec.xor_zero, BitVec.xor_assoc, BitVec.xor_self, BitVec.xor_zero]]
  rw [BitVec.xor_assoc, BitVec.xor_self, BitVec.xor_zero]
theorem unB_right (s : Nat) (h : 64 ≤ s + s + s) (x : BitVec 64) : unB s x ^^^ unB s x >>> s = x := by
  unfold unB
  simp only [BitVec.ushiftRight_xor_distrib, ← BitVec.shiftRight_add]
  rw [shr_zero x (s + s + s) h]
  generalize x >>> s = a
  generalize x >>> (s + s) = b
  rw [BitVec.xor_zero, BitVec.xor_assoc, BitVec.xor_self, BitVec.xor_zero]
def unmixB (x : BitVec 64) : BitVec 64 :=
  unB 30 (unB 27 (unB 31 x * 3573116690164977347#64) * 10871156337175269513#64)
theorem unmix_mixB (x : BitVec 64) : unmixB (mixB x) = x := by
  unfold unmixB mixB
  simp only []
  rw [unB_left 31 (by decide), BitVec.mul_assoc, show (10723151780598845931#64 * 3573116690164977347#64) = 1#64 by decide, BitVec.mul_one,
    unB_left 27 (by decide), BitVec.mul_assoc, show (13787848793156543929#64 * 10871156337175269513#64) = 1#64 by decide, BitVec.mul_one, unB_left 30 (by decide)]
theorem mix_unmixB (x : BitVec 64) : mixB (unmixB x) = x := by
  unfold unmixB mixB
  simp only []
  rw [unB_right 30 (by decide), BitVec.mul_assoc, show (10871156337175269513#64 * 13787848793156543929#64) = 1#64 by decide, BitVec.mul_one,
    unB_right 27 (by decide), BitVec.mul_assoc, show (3573116690164977347#64 * 10723151780598845931#64) = 1#64 by decide, BitVec.mul_one, unB_right 31 (by decide)]
theorem mixB_inj {x y : BitVec 64} (h : mixB x = mixB y) : x = y := by rw [← unmix_mixB x, ← unmix_mixB y, h]
theorem mix_inj {x y : Int} (hx0 : 0 ≤ x) (hx1 : x < 18446744073709551616) (hy0 : 0 ≤ y) (hy1 : y < 18446744073709551616) (h : mixI x = mixI y) : x = y := by
  apply bv_inj hx0 hx1 hy0 hy1
  apply mixB_inj
  rw [← bv_mix x hx0 hx1, ← bv_mix y hy0 hy1, h]

/-- The program's own way back, as the walk spells it. -/
def unI (x p : Int) : Int := bits .xor .u64 x (bits .xor .u64 x (x / p) / p)
def unmixI (x : Int) : Int :=
  unI (IntKind.u64.wrap (unI (IntKind.u64.wrap (unI x 2147483648 * 3573116690164977347)) 134217728 * 10871156337175269513)) 1073741824
theorem bv_un (x : Int) (h0 : 0 ≤ x) (h1 : x < 18446744073709551616) (s : Nat) : bv (unI x ((2 ^ s : Nat) : Int)) = unB s (bv x) := by
  unfold unI unB
  rw [bv_xor, bv_shr _ (xor_lo _ _) (xor_hi _ _), bv_xor, bv_shr _ h0 h1]
theorem bv_unmix (x : Int) (h0 : 0 ≤ x) (h1 : x < 18446744073709551616) : bv (unmixI x) = unmixB (bv x) := by
  unfold unmixI unmixB
  rw [show (1073741824 : Int) = ((2 ^ 30 : Nat) : Int) by decide, bv_un _ (wrap_lo _) (wrap_hi _) 30, bv_wrap, bv_mul,
    show (134217728 : Int) = ((2 ^ 27 : Nat) : Int) by decide, bv_un _ (wrap_lo _) (wrap_hi _) 27, bv_wrap, bv_mul,
    show (2147483648 : Int) = ((2 ^ 31 : Nat) : Int) by decide, bv_un x h0 h1 31]
  rfl
theorem unmix_lo (x : Int) : 0 ≤ unmixI x := xor_lo _ _
theorem unmix_hi (x : Int) : unmixI x < 18446744073709551616 := xor_hi _ _
theorem unmix_mix (x : Int) (h0 : 0 ≤ x) (h1 : x < 18446744073709551616) : unmixI (mixI x) = x := by
  apply bv_inj (unmix_lo _) (unmix_hi _) h0 h1
  rw [bv_unmix _ (mix_lo _) (mix_hi _), bv_mix x h0 h1, unmix_mixB]
theorem mix_unmix (x : Int) (h0 : 0 ≤ x) (h1 : x < 18446744073709551616) : mixI (unmixI x) = x := by
  apply bv_inj (mix_lo _) (mix_hi _) h0 h1
  rw [bv_mix _ (unmix_lo _) (unmix_hi _), bv_unmix x h0 h1, mix_unmixB]
end Go.Proofs.YtkcifgnlkdicgaaDoor.Sd
