/-
  SeedTells: for all words, names and integers, Mix, Unmix, New, At, Sub and Word return what the document specifies, as the reference has it.
-/
import Derived.Test.YtkcifgnlkdicgaaDoorSdR2
import Derived.Test.YtkcifgnlkdicgaaDoorSdAw
import Derived.Test.YtkcifgnlkdicgaaDoorSdSt
namespace Go.Proofs.YtkcifgnlkdicgaaDoor.Sd
open Go Go.RowKit
set_option linter.unusedVariables false
set_option linter.unusedSimpArgs false
theorem sub_pair (k : Int) (s : ByteArray) (hx0 : 0 ≤ k) (hx1 : k < 18446744073709551616) (hs : s.size ≤ 9223372036854775807) : ∃ a f : Int,
    (∀ w, Tab w → Calls Tryd.prog 25 #[.agg #[.int .u64 k], .string s] w fun e w' => e = .returned (.tuple #[.agg #[.int .u64 a], .int .i64 f]) ∧ Below w.heap.size w w') ∧
    (∀ w, Calls Tryd.prog 31 #[.int .u64 k, .string s] w fun e w' => e = .returned (.tuple #[.int .u64 a, .int .i64 f]) ∧ w = w') := by
  by_cases h : s.size = 0
  · exact ⟨0, 2, fun w _ => sub_empty_c k s w h, fun w => rsub_empty_c k s w h⟩
  · by_cases h2 : 32 < s.size
    · exact ⟨0, 3, fun w _ => sub_long_c k s w h2, fun w => rsub_long_c k s w h2 hs⟩
    · exact ⟨subI k s, 0, fun w hT => sub_c k s w hx0 hx1 hT (by omega) (by omega), fun w => rsub_c k s w hx0 hx1 (by omega) (by omega)⟩
theorem word_pair (k n : Int) (hx0 : 0 ≤ k) (hx1 : k < 18446744073709551616) : ∃ a f : Int,
    (∀ w, Tab w → Calls Tryd.prog 24 #[.agg #[.int .u64 k], .int .i64 n] w fun e w' => e = .returned (.tuple #[.int .u64 a, .int .i64 f]) ∧ Below w.heap.size w w') ∧
    (∀ w, Calls Tryd.prog 32 #[.int .u64 k, .int .i64 n] w fun e w' => e = .returned (.tuple #[.int .u64 a, .int .i64 f]) ∧ w = w') := by
  by_cases h : n < 0 ∨ 1099511627776 ≤ n
  · exact ⟨0, 2, fun w _ => word_no_c k n w h, fun w => rword_no_c k n w h⟩
  · exact ⟨wordI k n, 0, fun w hT => word_c k n w hx0 hx1 hT (by omega) (by omega), fun w => rword_c k n w (by omega) (by omega)⟩
theorem fld (x : Int) (w : World) : (Instr.field 33 (.agg #[.int .u64 x]) 0).run Tryd.prog w = .ok (.int .u64 x) w := by kernel_rfl
set_option maxHeartbeats 1000000 in
theorem names_c (k : Int) (s : ByteArray) (n i : Int) (w : World) (hT : Tab w) (hx0 : 0 ≤ k) (hx1 : k < 18446744073709551616) (hs : s.size ≤ 9223372036854775807) :
    Calls Tryd.prog 12 #[.int .u64 k, .string s, .int .i64 n, .int .i64 i] w fun e w' => e = .returned (.bool true) ∧ Below w.heap.size w w' := by
  obtain ⟨a, f, hA, hB⟩ := sub_pair k s hx0 hx1 hs
  obtain ⟨b, g, hC, hD⟩ := word_pair k i hx0 hx1
  have HA := Lib.hid hA
  have HB := Lib.hid hB
  have HC := Lib.hid hC
  have HD := Lib.hid hD
  clear hA hB hC hD
  have hfld := fld
  go_enter Tryd.func12, Tryd.ntmps12
  go_wp2_with fail
  have hS : St k w.heap.size w (w.alloc (.cells #[.int .u64 k] 33)) := St.start hT (Below.refl _ _)
  have hc := hS.cell
  refine (HA.out _ hS.tab).mono ?_
  rintro e w1 ⟨rfl, hb⟩
  have hS1 := hS.step hb
  have hc1 := hS1.cell
  have hl1 := hS1.lt
  have hS1a := hS1.alloc (.cells #[.int .u64 a] 33)
  obtain ⟨b1, hb1⟩ : ∃ b1, w1.heap.size = b1 := ⟨_, rfl⟩
  have hl2 : w.heap.size < b1 := by omega
  have hc1a := hS1a.cell
  have ca1 : (w1.alloc (.cells #[.int .u64 a] 33)).cell? ⟨b1, 0, none⟩ = some (.int .u64 a) := by rw [World.cell?_alloc_at _ _ _ _ hb1.symm]; rfl
  have hz1 : b1 < (w1.alloc (.cells #[.int .u64 a] 33)).heap.size := by simp; omega
  clear hb hS hc
  go_wp2_with fail
  refine (HB.out _).mono ?_
  rintro e w2 ⟨rfl, rfl⟩
  go_wp2_with fail
  refine (HC.out _ hS1a.tab).mono ?_
  rintro e w3 ⟨rfl, hb⟩
  have hS3 := hS1a.step hb
  have hc3 := hS3.cell
  have ca3 : w3.cell? ⟨b1, 0, none⟩ = some (.int .u64 a) := by rw [hb.cell (p := ⟨b1, 0, none⟩) hz1]; exact ca1
  have hz3 : b1 < w3.heap.size := Nat.lt_of_lt_of_le hz1 hb.size
  clear hb hS1 hS1a hc1 hc1a ca1 hz1 hl1 hb1
  go_wp2_with fail
  refine (HD.out _).mono ?_
  rintro e w4 ⟨rfl, rfl⟩
  go_wp2_with fail
  refine (at_c k n _ hx0 hx1 hS3.tab).mono ?_
  rintro e w5 ⟨rfl, hb⟩
  have hS5 := hS3.step hb
  clear hb hS3 hc3 ca3 hz3
  have HR := Lib.hid (fun w => rat_c k n w)
  generalize mixI (bits .xor .u64 (mixI (IntKind.u64.wrap (k + 1))) (IntKind.u64.wrap n)) = at1 at *
  go_wp2_with fail
  refine (HR.out _).mono ?_
  rintro e w6 ⟨rfl, rfl⟩
  clear HR
  go_wp2_with fail
  refine (new_c k _ hx0 hx1 hS5.tab).mono ?_
  rintro e w7 ⟨rfl, hb⟩
  have hS7 := hS5.step hb
  clear hb hS5
  go_wp2_with fail
  refine (rnew_c k _ hx0 hx1).mono ?_
  rintro e w8 ⟨rfl, rfl⟩
  go_wp2_with fail
  refine (mix_c k _ hx0 hx1 hS7.tab).mono ?_
  rintro e w9 ⟨rfl, hb⟩
  have hS9 := hS7.step hb
  clear hb hS7
  go_wp2_with fail
  refine (rmix_c k _ hx0 hx1).mono ?_
  rintro e w10 ⟨rfl, rfl⟩
  go_wp2_with fail
  refine (unmix_c k _ hx0 hx1 hS9.tab).mono ?_
  rintro e w11 ⟨rfl, hb⟩
  have hS11 := hS9.step hb
  clear hb hS9
  go_wp2_with fail
  refine (runmix_c k _ hx0 hx1).mono ?_
  rintro e w12 ⟨rfl, rfl⟩
  go_wp2_with fail
  go_ret
  exact ⟨by simp, hS11.below⟩
theorem seed_tells_c (k : Int) (s : ByteArray) (n i : Int) (w : World) (hT : Tab w) (hx0 : 0 ≤ k) (hx1 : k < 18446744073709551616) (hs : s.size ≤ 9223372036854775807) :
    Calls Tryd.prog 3 #[.int .u64 k, .string s, .int .i64 n, .int .i64 i] w fun e w' => e = .returned (.bool true) ∧ Below w.heap.size w w' := by
  go_enter Tryd.func3, Tryd.ntmps3
  go_wp2_with fail
  refine (names_c k s n i _ hT hx0 hx1 hs).mono ?_
  rintro e w1 ⟨rfl, hb⟩
  have hT1 := hT.below hb hT.pos
  go_wp2_with fail
  refine (awake_c _ hT1).mono ?_
  rintro e w2 ⟨rfl, hb2⟩
  have hb3 := hb.trans (hb2.mono hb.size)
  clear hb hb2 hT1
  go_wp2_with fail
  go_ret
  exact ⟨rfl, hb3⟩
end Go.Proofs.YtkcifgnlkdicgaaDoor.Sd
