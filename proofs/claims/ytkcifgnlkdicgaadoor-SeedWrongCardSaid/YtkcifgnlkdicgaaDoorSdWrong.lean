/-
  SeedWrong: indices and numbers out of range, names that are empty or too long, lists that are too long or have a negative element are rejected, with nothing else.
-/
import Derived.Test.YtkcifgnlkdicgaaDoorSdAw
import Derived.Test.YtkcifgnlkdicgaaDoorSdSub
namespace Go.Proofs.YtkcifgnlkdicgaaDoor.Sd
open Go Go.RowKit
set_option linter.unusedVariables false
set_option linter.unusedSimpArgs false
/-- The box of the key, and what was there before. -/
def St (k : Int) (s0 : Nat) (w W : World) : Prop := Tab W ∧ W.cell? ⟨s0, 0, none⟩ = some (.int .u64 k) ∧ Below w.heap.size w W ∧ s0 < W.heap.size ∧ w.heap.size ≤ s0
theorem St.tab {k : Int} {s0 : Nat} {w W : World} (h : St k s0 w W) : Tab W := h.1
theorem St.cell {k : Int} {s0 : Nat} {w W : World} (h : St k s0 w W) : W.cell? ⟨s0, 0, none⟩ = some (.int .u64 k) := h.2.1
theorem St.below {k : Int} {s0 : Nat} {w W : World} (h : St k s0 w W) : Below w.heap.size w W := h.2.2.1
theorem St.lt {k : Int} {s0 : Nat} {w W : World} (h : St k s0 w W) : s0 < W.heap.size := h.2.2.2.1
theorem St.step {k : Int} {s0 : Nat} {w W W' : World} (h : St k s0 w W) (hb : Below W.heap.size W W') : St k s0 w W' := by
  obtain ⟨hT, hc, hB, h1, h2⟩ := h
  have := hb.size
  exact ⟨hT.below hb hT.pos, by rw [hb.cell (p := ⟨s0, 0, none⟩) h1]; exact hc, hB.trans (hb.mono (by omega)), by omega, h2⟩
theorem St.start {k : Int} {w w1 : World} (hT : Tab w) (hb : Below w.heap.size w w1) : St k w1.heap.size w (w1.alloc (.cells #[.int .u64 k] 33)) := by
  have hB : Below w.heap.size w (w1.alloc (.cells #[.int .u64 k] 33)) := hb.alloc hb.size _
  exact ⟨hT.below hB hT.pos, by rw [World.cell?_alloc_at _ _ _ _ rfl]; rfl, hB, by simp, hb.size⟩
theorem St.alloc {k : Int} {s0 : Nat} {w W : World} (h : St k s0 w W) (o : Obj) : St k s0 w (W.alloc o) := h.step ((Below.refl _ _).alloc (Nat.le_refl _) _)
def WrongRel (k : Int) (s0 bo : Nat) (L H : Int) (w w3 : World) (x : Value) (wr : World) : Prop :=
  ∃ q : Nat, x = .int .i64 (q : Int) ∧ q ≤ 2 ∧ St k s0 w wr ∧ Below (bo + 1) w3 wr ∧ wr.cell? ⟨bo, 0, none⟩ = some (.int .i64 L) ∧ wr.cell? ⟨bo, 1, none⟩ = some (.int .i64 H) ∧ bo + 1 ≤ wr.heap.size
theorem tot_bad_two {L : Int} (h : L < 0) : totOk [3, L] = false := by
  unfold totOk total
  rw [if_neg (by simp)]
  simp only [totF]
  rw [if_neg (by decide), if_pos (.inl h)]
theorem tot_bad_one {H : Int} (h : 1099511627776 < H) : totOk [H] = false := by
  unfold totOk total
  rw [if_neg (by simp)]
  simp only [totF]
  rw [if_pos (.inr h)]
set_option maxRecDepth 100000 in
set_option maxHeartbeats 2000000 in
theorem wrong_c (k n : Int) (s : ByteArray) (w : World) (hT : Tab w) (hk0 : 0 ≤ k) (hk1 : k < 18446744073709551616) (hn0 : -9223372036854775808 ≤ n) (hn1 : n ≤ 9223372036854775807) (hs : s.size ≤ 140737488351232) :
    Calls Tryd.prog 11 #[.int .u64 k, .int .i64 n, .string s] w fun e w' => e = .returned (.bool true) ∧ Below w.heap.size w w' := by
  have hrmin : ∀ ts t W, (Builtin.min_ ts t #[.int .i64 n, .int .i64 (-1)]).run Tryd.prog W = .ok (.int .i64 (if (-1 : Int) < n then -1 else n)) W := fun ts t W => run_min_int2 (w := W) ts t .i64 .i64 n (-1)
  have hrmin0 : ∀ ts t W, (Builtin.min_ ts t #[.int .i64 n, .int .i64 0]).run Tryd.prog W = .ok (.int .i64 (if (0 : Int) < n then 0 else n)) W := fun ts t W => run_min_int2 (w := W) ts t .i64 .i64 n 0
  have hrmax : ∀ ts t W, (Builtin.max_ ts t #[.int .i64 n, .int .i64 1099511627777]).run Tryd.prog W = .ok (.int .i64 (if (1099511627777 : Int) > n then 1099511627777 else n)) W := fun ts t W => run_max_int2 (w := W) ts t .i64 .i64 n 1099511627777
  have hrmax2 : ∀ ts t W, (Builtin.max_ ts t #[.int .i64 n, .int .i64 1099511627776]).run Tryd.prog W = .ok (.int .i64 (if (1099511627776 : Int) > n then 1099511627776 else n)) W := fun ts t W => run_max_int2 (w := W) ts t .i64 .i64 n 1099511627776
  have hrmax3 : ∀ ts t W, (Builtin.max_ ts t #[.int .i64 n, .int .i64 1001]).run Tryd.prog W = .ok (.int .i64 (if (1001 : Int) > n then 1001 else n)) W := fun ts t W => run_max_int2 (w := W) ts t .i64 .i64 n 1001
  have hrmax6 : ∀ ts t W, (Builtin.max_ ts t #[.int .i64 n, .int .i64 6]).run Tryd.prog W = .ok (.int .i64 (if (6 : Int) > n then 6 else n)) W := fun ts t W => run_max_int2 (w := W) ts t .i64 .i64 n 6
  have hL : (if (-1 : Int) < n then -1 else n) ≤ -1 := by split <;> omega
  have hL0 : (if (0 : Int) < n then 0 else n) ≤ 0 := by split <;> omega
  have hH : 1099511627777 ≤ (if (1099511627777 : Int) > n then 1099511627777 else n) := by split <;> omega
  have hH2 : 1099511627776 ≤ (if (1099511627776 : Int) > n then 1099511627776 else n) := by split <;> omega
  have hH3 : 1001 ≤ (if (1001 : Int) > n then 1001 else n) := by split <;> omega
  have hH6 : 6 ≤ (if (6 : Int) > n then 6 else n) := by split <;> omega
  generalize (if (-1 : Int) < n then -1 else n) = L at *
  generalize (if (0 : Int) < n then 0 else n) = L0 at *
  generalize (if (1099511627777 : Int) > n then 1099511627777 else n) = H at *
  generalize (if (1099511627776 : Int) > n then 1099511627776 else n) = H2 at *
  generalize (if (1001 : Int) > n then 1001 else n) = H3 at *
  generalize (if (6 : Int) > n then 6 else n) = H6 at *
  go_enter Tryd.func11, Tryd.ntmps11
  go_wp2_with fail
  refine (awake_c _ hT).mono ?_
  rintro e w1 ⟨rfl, hb⟩
  have hS : St k w1.heap.size w (w1.alloc (.cells #[.int .u64 k] 33)) := St.start hT hb
  have hc := hS.cell
  clear hb
  go_wp2_with fail
  refine (word_no_c k L _ (.inl (by omega))).mono ?_
  rintro e wX ⟨rfl, hb⟩
  have hS' := hS.step hb
  have hc := hS'.cell
  clear hS hb
  have hS := hS'
  clear hS'
  go_wp2_with fail
  refine (word_no_c k H2 _ (.inr (by omega))).mono ?_
  rintro e wX ⟨rfl, hb⟩
  have hS' := hS.step hb
  have hc := hS'.cell
  clear hS hb
  have hS := hS'
  clear hS'
  obtain ⟨wo, rfl⟩ : ∃ wo : World, wo = wX := ⟨_, rfl⟩
  obtain ⟨bo, hbo⟩ : ∃ bo, wo.heap.size = bo := ⟨_, rfl⟩
  go_wp2_with fail
  have hS2 := hS.alloc (.cells #[.int .i64 L, .int .i64 H] 3)
  have hrow : RInts (wo.alloc (.cells #[.int .i64 L, .int .i64 H] 3)) (.slice (some ⟨wo.heap.size, 0, none⟩) 2 2) [L, H] := lit_reads wo [L, H] 3
  have q0 : (wo.alloc (.cells #[.int .i64 L, .int .i64 H] 3)).cell? ⟨bo, 0, none⟩ = some (.int .i64 L) := by rw [World.cell?_alloc_at _ _ _ _ hbo.symm]; rfl
  have q1 : (wo.alloc (.cells #[.int .i64 L, .int .i64 H] 3)).cell? ⟨bo, 1, none⟩ = some (.int .i64 H) := by rw [World.cell?_alloc_at _ _ _ _ hbo.symm]; rfl
  have hsz : (wo.alloc (.cells #[.int .i64 L, .int .i64 H] 3)).heap.size = bo + 1 := by simp [hbo]
  clear hrow hS hc
  go_loopw [97] (fun x wr => WrongRel k w1.heap.size bo L H w (wo.alloc (.cells #[.int .i64 L, .int .i64 H] 3)) x wr) (fun x _ => 2 - (intOf x).toNat)
  case atStart => exact ⟨0, rfl, by omega, hS2, Below.refl _ _, q0, q1, by rw [hsz]; omega⟩
  case round =>
    clear q0 q1 hS2 hsz
    obtain ⟨q, rfl, hq, hS, hbw, q0, q1, hlt0⟩ := hrel
    have hc := hS.cell
    by_cases hlt : q < 2
    · obtain ⟨I, hI, hcI⟩ : ∃ I : Int, (I < 0 ∨ 1099511627776 < I) ∧ wr.cell? ⟨bo, q, none⟩ = some (.int .i64 I) := by
        rcases q with _ | _ | q
        · exact ⟨L, .inl (by omega), q0⟩
        · exact ⟨H, .inr (by omega), q1⟩
        · omega
      have HI : Hid (I < 0 ∨ 1099511627776 < I) := hI
      clear hI
      obtain ⟨wp, rfl⟩ : ∃ wp : World, wp = wr := ⟨_, rfl⟩
      have hp : Below wp.heap.size wp wp := Below.refl _ _
      go_wp2_with fail
      refine (below_no_c k I 5 _ (by have := HI.out; omega)).mono ?_
      rintro e wX ⟨rfl, hb⟩
      have hS' := hS.step hb
      have hc := hS'.cell
      have hp' := hp.trans (hb.mono (by have := hp.size; omega))
      clear hS hb hp
      have hS := hS'
      have hp := hp'
      clear hS' hp'
      go_wp2_with fail
      refine (perm_err_c k I 0 _ (by have := HI.out; omega)).mono ?_
      rintro e wX ⟨rfl, hb⟩
      have hS' := hS.step hb
      have hc := hS'.cell
      have hp' := hp.trans (hb.mono (by have := hp.size; omega))
      clear hS hb hp
      have hS := hS'
      have hp := hp'
      clear hS' hp'
      go_wp2_with fail
      refine (choose_err_c k I 0 0 _ (by have := HI.out; omega)).mono ?_
      rintro e wX ⟨rfl, hb⟩
      have hS' := hS.step hb
      have hc := hS'.cell
      have hp' := hp.trans (hb.mono (by have := hp.size; omega))
      clear hS hb hp
      have hS := hS'
      have hp := hp'
      clear hS' hp'
      go_wp2_with fail
      refine (weigh_err_c k I [1] _ _ (lit_reads _ [1] 3) (by decide) (by have := HI.out; omega)).mono ?_
      rintro e wY ⟨rfl, hb⟩
      have hb2 := ((Below.refl _ _).alloc (Nat.le_refl _) _).trans (hb.mono (by simp))
      have hS' := hS.step hb2
      have hp' := hp.trans (hb2.mono (by have := hp.size; omega))
      clear hS hb hb2 hp hc
      go_wp2_with fail
      have hR : WrongRel k w1.heap.size bo L H w (wo.alloc (.cells #[.int .i64 L, .int .i64 H] 3)) (.int .i64 ((q : Int) + 1)) wY := by
        refine ⟨q + 1, by go_num, by omega, hS', hbw.trans (hp'.mono hlt0), ?_, ?_, ?_⟩
        · rw [hp'.cell (p := ⟨bo, 0, none⟩) (show bo < wp.heap.size by omega)]; exact q0
        · rw [hp'.cell (p := ⟨bo, 1, none⟩) (show bo < wp.heap.size by omega)]; exact q1
        · have := hp'.size; omega
      exact ⟨hR, by simp [intOf]; omega⟩
    · clear q0 q1
      have hS0 := hS
      go_wp2_with fail
      refine (below_no_c k 0 L0 _ (.inr (.inr (by omega)))).mono ?_
      rintro e wX ⟨rfl, hb⟩
      have hS' := hS.step hb
      have hc := hS'.cell
      clear hS hb
      have hS := hS'
      clear hS'
      go_wp2_with fail
      refine (perm_err_c k 0 L _ (.inr (.inr (.inr (by omega))))).mono ?_
      rintro e wX ⟨rfl, hb⟩
      have hS' := hS.step hb
      have hc := hS'.cell
      clear hS hb
      have hS := hS'
      clear hS'
      go_wp2_with fail
      refine (perm_err_c k 0 H3 _ (.inr (.inr (.inl (by omega))))).mono ?_
      rintro e wX ⟨rfl, hb⟩
      have hS' := hS.step hb
      have hc := hS'.cell
      clear hS hb
      have hS := hS'
      clear hS'
      go_wp2_with fail
      refine (choose_err_c k 0 5 L _ (.inr (.inr (.inr (.inl (by omega)))))).mono ?_
      rintro e wX ⟨rfl, hb⟩
      have hS' := hS.step hb
      have hc := hS'.cell
      clear hS hb
      have hS := hS'
      clear hS'
      go_wp2_with fail
      refine (choose_err_c k 0 5 H6 _ (.inr (.inr (.inr (.inr (by omega)))))).mono ?_
      rintro e wX ⟨rfl, hb⟩
      have hS' := hS.step hb
      have hc := hS'.cell
      clear hS hb
      have hS := hS'
      clear hS'
      go_wp2_with fail
      refine (weigh_err_c k 0 [3, L] _ _ (lit_reads _ [3, L] 3) (by simp) (.inr (.inr (tot_bad_two (by omega))))).mono ?_
      rintro e wX ⟨rfl, hb⟩
      have hS' := hS.step (((Below.refl _ _).alloc (Nat.le_refl _) _).trans (hb.mono (by simp)))
      have hc := hS'.cell
      clear hS hb
      have hS := hS'
      clear hS'
      go_wp2_with fail
      refine (weigh_err_c k 0 [0, 0] _ _ (lit_reads _ [0, 0] 3) (by simp) (.inr (.inr (rfl)))).mono ?_
      rintro e wX ⟨rfl, hb⟩
      have hS' := hS.step (((Below.refl _ _).alloc (Nat.le_refl _) _).trans (hb.mono (by simp)))
      have hc := hS'.cell
      clear hS hb
      have hS := hS'
      clear hS'
      go_wp2_with fail
      refine (weigh_err_c k 0 [H] _ _ (lit_reads _ [H] 3) (by simp) (.inr (.inr (tot_bad_one (by omega))))).mono ?_
      rintro e wX ⟨rfl, hb⟩
      have hS' := hS.step (((Below.refl _ _).alloc (Nat.le_refl _) _).trans (hb.mono (by simp)))
      have hc := hS'.cell
      clear hS hb
      have hS := hS'
      clear hS'
      go_wp2_with fail
      refine (sub_empty_c k ⟨#[]⟩ _ rfl).mono ?_
      rintro e wX ⟨rfl, hb⟩
      have hS' := hS.step hb
      have hc := hS'.cell
      have hs0 := hS'.lt
      clear hS hb
      have hS := hS'
      clear hS'
      go_wp2_with fail
      refine (sub_long_c k _ _ (by rw [ByteArray.size_append']; show 32 < 33 + s.size; omega)).mono ?_
      rintro e wY ⟨rfl, hb⟩
      have hBf := ((hS.alloc _).step hb).below
      have hyz : wX.heap.size < wY.heap.size := by have := hb.size; simp at this; omega
      have hxc : wY.cell? ⟨wX.heap.size, 0, none⟩ = some (.int .u64 0) := by rw [hb.cell (p := ⟨wX.heap.size, 0, none⟩) (by simp)]; simp
      clear hS hb hc hs0 hS0 hbw
      go_wp2_with fail
      refine wp_loop_rounds 10 ?_
      repeat (rw [rounds_succ]; go_wp2)
      go_ret
      have hwz := hBf.size
      exact ⟨rfl, by repeat' (first | with_reducible exact Below.refl _ _ | with_reducible assumption | with_reducible refine below_drewN ?_ _ | with_reducible refine Below.drew ?_ | with_reducible refine Below.alloc ?_ ?_ _ | with_reducible refine Below.setCell ?_ ?_ _ | omega | (simp; done) | (simp; omega))⟩
end Go.Proofs.YtkcifgnlkdicgaaDoor.Sd
