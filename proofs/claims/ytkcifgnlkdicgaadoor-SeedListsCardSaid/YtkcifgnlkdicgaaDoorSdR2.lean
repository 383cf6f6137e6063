/-
  The contracts of the reference's names and draws: Sub, Below, Perm.
-/
import Derived.Test.YtkcifgnlkdicgaaDoorSdR1
import Derived.Test.YtkcifgnlkdicgaaDoorSdW5
namespace Go.Proofs.YtkcifgnlkdicgaaDoor.Sd
open Go Go.RowKit
set_option linter.unusedVariables false
set_option linter.unusedSimpArgs false
def RSubRel (k0 : Int) (s : ByteArray) (k x : Value) : Prop :=
  ∃ q : Nat, x = .int .i64 (q : Int) ∧ q ≤ s.size ∧ k = .int .u64 (subF k0 (s.data.toList.take q))
set_option maxHeartbeats 1000000 in
theorem rsub_c (k : Int) (s : ByteArray) (w : World) (hx0 : 0 ≤ k) (hx1 : k < 18446744073709551616) (h1 : 1 ≤ s.size) (h2 : s.size ≤ 32) :
    Calls Tryd.prog 31 #[.int .u64 k, .string s] w fun e w' => e = .returned (.tuple #[.int .u64 (subI k s), .int .i64 0]) ∧ w = w' := by
  have hs63 : s.size ≤ 9223372036854775807 := by omega
  have hs0 : (((s.size : Nat) : Int) == 0) = false := beq_eq_false_iff_ne.2 (by omega)
  go_enter Tryd.func31, Tryd.ntmps31
  go_wp2_with fail
  refine (rmix_c _ _ (xor_lo _ _) (xor_hi _ _)).mono ?_
  rintro e w1 ⟨rfl, rfl⟩
  have hlo := mix_lo (bits .xor .u64 k s.size)
  have hhi := mix_hi (bits .xor .u64 k s.size)
  obtain ⟨k0, hk0⟩ : ∃ k0, mixI (bits .xor .u64 k s.size) = k0 := ⟨_, rfl⟩
  have HK : Hid (subI k s = subF k0 s.data.toList) := by show subI k s = _; unfold subI; rw [hk0]
  rw [hk0] at hlo hhi
  rw [hk0]
  clear hk0
  go_wp2_with fail
  go_loop [6, 7] (fun kv x => RSubRel k0 s kv x) (fun _ x => s.size - (intOf x).toNat)
  case atStart => exact ⟨0, rfl, Nat.zero_le _, rfl⟩
  case round =>
    obtain ⟨q, rfl, hq, rfl⟩ := hrel
    have hw0 := subF_lo (l := s.data.toList.take q) hlo
    have hw1 := subF_hi (l := s.data.toList.take q) hhi
    by_cases hlt : q < s.size
    · have HS : Hid (subF k0 (s.data.toList.take (q + 1)) = mixI (bits .xor .u64 (subF k0 (s.data.toList.take q)) s[q].toNat)) := subF_step k0 s q hlt
      generalize hcur : subF k0 (s.data.toList.take q) = cur at *
      clear hcur
      go_wp2_with fail
      refine (rmix_c _ _ (xor_lo _ _) (xor_hi _ _)).mono ?_
      rintro e w2 ⟨rfl, rfl⟩
      go_wp2
      exact ⟨⟨q + 1, by go_num, by omega, by rw [HS.out, wrap_byte]⟩, by simp [intOf]; omega⟩
    · have HS : Hid (subF k0 (s.data.toList.take q) = subI k s) := by
        show _ = subI k s
        rw [HK.out, List.take_of_length_le (by simp; omega)]
      generalize hcur : subF k0 (s.data.toList.take q) = cur at *
      clear hcur
      go_wp2
      go_ret2
      exact ⟨by rw [← HS.out]; rfl, rfl⟩
theorem rsub_empty_c (k : Int) (s : ByteArray) (w : World) (h1 : s.size = 0) :
    Calls Tryd.prog 31 #[.int .u64 k, .string s] w fun e w' => e = .returned (.tuple #[.int .u64 0, .int .i64 2]) ∧ w = w' := by
  have hs0 : (((s.size : Nat) : Int) == 0) = true := by simp [h1]
  go_enter Tryd.func31, Tryd.ntmps31
  go_wp2
  go_ret2
  exact ⟨rfl, rfl⟩
theorem rsub_long_c (k : Int) (s : ByteArray) (w : World) (h1 : 32 < s.size) (h2 : s.size ≤ 9223372036854775807) :
    Calls Tryd.prog 31 #[.int .u64 k, .string s] w fun e w' => e = .returned (.tuple #[.int .u64 0, .int .i64 3]) ∧ w = w' := by
  have hs0 : (((s.size : Nat) : Int) == 0) = false := beq_eq_false_iff_ne.2 (by omega)
  go_enter Tryd.func31, Tryd.ntmps31
  go_wp2
  go_ret2
  exact ⟨rfl, rfl⟩
def RBelRel (k i n : Int) (x : Value) : Prop := ∃ j : Int, x = .int .i64 j ∧ i ≤ j ∧ j ≤ 1099511627776 ∧ below k j n = below k i n
set_option maxHeartbeats 400000 in
theorem rbelow_c (k i n : Int) (w : World) (hx0 : 0 ≤ k) (hx1 : k < 18446744073709551616) (h0 : 0 ≤ i) (h1 : i ≤ 1099511627776) (hn : 1 ≤ n) (hn2 : n ≤ 9223372036854775807) :
    Calls Tryd.prog 37 #[.int .u64 k, .int .i64 i, .int .i64 n] w fun e w' => e = .returned (belR (below k i n)) ∧ w = w' := by
  have hi1 : ¬ i < 0 := by omega
  have hi2 : ¬ 1099511627776 < i := by omega
  go_enter Tryd.func37, Tryd.ntmps37
  go_wp2_with fail
  go_loop [1] (fun x => RBelRel k i n x) (fun x => (1099511627776 - intOf x).toNat)
  case atStart => exact ⟨i, rfl, Int.le_refl _, h1, rfl⟩
  case round =>
    obtain ⟨j, rfl, hj1, hj2, hj3⟩ := hrel
    have H3 : Hid (below k j n = below k i n) := hj3
    clear hj3
    by_cases hlt : j < 1099511627776
    · have hw0 := word_lo k j
      have hw1 := word_hi k j
      go_wp2_with fail
      refine (rword_c k j _ (by omega) hlt).mono ?_
      rintro e w1 ⟨rfl, rfl⟩
      go_wp2_with fail
      refine (rrest_c _ n _ hw0 hw1 hn hn2).mono ?_
      rintro e w2 ⟨rfl, rfl⟩
      cases hr : restOk (wordI k j) n
      · have HR := below_miss k j n hlt hr
        clear hr
        rw [H3.out] at HR
        have HR2 : Hid (below k i n = below k (j + 1) n) := HR
        clear HR
        go_wp2
        exact ⟨⟨j + 1, rfl, by omega, by omega, HR2.out.symm⟩, by simp [intOf]; omega⟩
      · have HR := below_hit k j n hlt hr
        clear hr
        rw [H3.out] at HR
        have HR2 : Hid (below k i n = some (restV (wordI k j) n, j + 1)) := HR
        clear HR
        go_wp2
        go_ret3
        exact ⟨by rw [HR2.out]; rfl, rfl⟩
    · have HR := below_end k j n (by omega)
      rw [H3.out] at HR
      have HR2 : Hid (below k i n = none) := HR
      clear HR
      go_wp2
      go_ret3
      exact ⟨by rw [HR2.out]; rfl, rfl⟩
theorem rbelow_some_c (k i n v j : Int) (w : World) (hx0 : 0 ≤ k) (hx1 : k < 18446744073709551616) (h0 : 0 ≤ i) (h1 : i ≤ 1099511627776) (hn : 1 ≤ n) (hn2 : n ≤ 9223372036854775807) (hb : below k i n = some (v, j)) :
    Calls Tryd.prog 37 #[.int .u64 k, .int .i64 i, .int .i64 n] w fun e w' => e = .returned (.tuple #[.int .i64 v, .int .i64 j, .int .i64 0]) ∧ w = w' := by
  have := rbelow_c k i n w hx0 hx1 h0 h1 hn hn2
  rw [hb] at this; exact this
theorem rbelow_none_c (k i n : Int) (w : World) (hx0 : 0 ≤ k) (hx1 : k < 18446744073709551616) (h0 : 0 ≤ i) (h1 : i ≤ 1099511627776) (hn : 1 ≤ n) (hn2 : n ≤ 9223372036854775807) (hb : below k i n = none) :
    Calls Tryd.prog 37 #[.int .u64 k, .int .i64 i, .int .i64 n] w fun e w' => e = .returned (.tuple #[.int .i64 0, .int .i64 0, .int .i64 4]) ∧ w = w' := by
  have := rbelow_c k i n w hx0 hx1 h0 h1 hn hn2
  rw [hb] at this; exact this
theorem rbelow_no_c (k i n : Int) (w : World) (h : i < 0 ∨ 1099511627776 < i ∨ n < 1) :
    Calls Tryd.prog 37 #[.int .u64 k, .int .i64 i, .int .i64 n] w fun e w' => e = .returned (.tuple #[.int .i64 0, .int .i64 0, .int .i64 2]) ∧ w = w' := by
  have h' : i < 0 ∨ (0 ≤ i ∧ 1099511627776 < i) ∨ (0 ≤ i ∧ i ≤ 1099511627776 ∧ n < 1) := by omega
  clear h
  rcases h' with h | ⟨h, h2⟩ | ⟨h, h2, h3⟩
  all_goals
    go_enter Tryd.func37, Tryd.ntmps37
    go_wp2
    go_ret3
    exact ⟨rfl, rfl⟩
theorem swp_comm (l : List Int) (v p : Nat) : (l.set p (l.getD v 0)).set v (l.getD p 0) = swp l v p := by
  unfold swp
  by_cases h : v = p
  · subst h; rfl
  · exact List.set_comm _ _ (fun e => h e.symm)
def RPermRel2 (k : Int) (m B : Nat) (target : Option (List Int × Int)) (w : World) (x i : Value) (wr : World) : Prop :=
  ∃ (p j : Int) (l : List Int), x = .int .i64 p ∧ i = .int .i64 j ∧ -1 ≤ p ∧ p < m ∧ l.length = m ∧ permF k p.toNat j l = target ∧ 0 ≤ j ∧ j ≤ 1099511627776 ∧ Row wr B l ∧ Below B w wr
set_option maxHeartbeats 1000000 in
theorem rperm_some_c (k i j : Int) (m : Nat) (l : List Int) (w : World) (hx0 : 0 ≤ k) (hx1 : k < 18446744073709551616) (h0 : 0 ≤ i) (h1 : i ≤ 1099511627776) (hm : m ≤ 1000) (h : perm k i m = some (l, j)) :
    Calls Tryd.prog 38 #[.int .u64 k, .int .i64 i, .int .i64 (m : Int)] w fun e w' =>
      e = .returned (.tuple #[.slice (some ⟨w.heap.size, 0, none⟩) m m, .int .i64 j, .int .i64 0]) ∧ Row w' w.heap.size l ∧ l.length = m ∧ Below w.heap.size w w' := by
  have H : Hid (perm k i m = some (l, j)) := h
  clear h
  have hi1 : ¬ i < 0 := by omega
  have hi2 : ¬ 1099511627776 < i := by omega
  have hmk := make_ints m m (Nat.le_refl _) (by omega)
  go_enter Tryd.func38, Tryd.ntmps38
  go_wp2_with fail
  go_loopw [10] (fun x wr => PermRel1 m w.heap.size w x wr) (fun x _ => (m - (intOf x).toNat))
  case atStart =>
    refine ⟨0, rfl, Nat.zero_le _, (Below.refl _ _).alloc (Nat.le_refl _) _, by simp, ?_⟩
    have := Row.made w m
    simpa [iota] using this
  case round =>
    obtain ⟨q, rfl, hq, hb, hz, hr⟩ := hrel
    by_cases hlt : q < m
    · have hfree := hr.free q (by simp [iota]; omega)
      obtain ⟨v0, hv0⟩ : ∃ v, wr.cell? ⟨w.heap.size, q, none⟩ = some v := ⟨_, hr.cell q (by simp [iota]; omega)⟩
      have hrow := hr.set q (by simp [iota]; omega) (q : Int)
      rw [iota_step m q hlt] at hrow
      have HR : Hid (Row (wr.setCell ⟨w.heap.size, q, none⟩ (.int .i64 (q : Int))) w.heap.size (iota (q + 1) ++ List.replicate (m - (q + 1)) 0)) := hrow
      clear hrow hr
      go_wp2
      exact ⟨⟨q + 1, by go_num, by omega, hb.setCell (Nat.le_refl _) _, by rw [size_setCell]; exact hz, HR.out⟩, by simp [intOf]; omega⟩
    · have e : q = m := by omega
      have hr2 : Row wr w.heap.size (iota m) := by
        have := hr
        rw [e, Nat.sub_self] at this
        simpa using this
      clear hr e hz
      go_wp2_with fail
      obtain ⟨wo, rfl⟩ : ∃ wo : World, wo = wr := ⟨_, rfl⟩
      go_loopw [1, 11, 15] (fun i x _ wr => RPermRel2 k m w.heap.size (some (l, j)) w x i wr) (fun _ x _ _ => (intOf x).toNat)
      case atStart =>
        refine ⟨(m : Int) - 1, i, iota m, rfl, rfl, by omega, by omega, by simp [iota], ?_, h0, h1, hr2, hb⟩
        rw [← H.out]; unfold perm; rw [show ((m : Int) - 1).toNat = m - 1 by omega]
      case round =>
        obtain ⟨p, j2, l2, rfl, rfl, hp1, hp2, hl2, hpf, hj0, hj1, hrow, hB2⟩ := hrel
        have HP : Hid (permF k p.toNat j2 l2 = some (l, j)) := hpf
        have HL : Hid (l2.length = m) := hl2
        clear hpf hl2 hr2 hb
        by_cases hp : 0 < p
        · obtain ⟨v, j3, hbv, hnext⟩ := perm_step hp HP.out
          have HN : Hid (permF k (p - 1).toNat j3 (swp l2 v.toNat p.toNat) = some (l, j)) := hnext
          clear hnext
          have hvr := below_range (by omega) hj1 hbv
          go_wp2_with fail
          refine (rbelow_some_c k j2 (p + 1) v j3 _ hx0 hx1 hj0 hj1 (by omega) (by omega) hbv).mono ?_
          rintro e w3 ⟨rfl, rfl⟩
          obtain ⟨vn, rfl⟩ := Int.eq_ofNat_of_zero_le hvr.1
          obtain ⟨pn, rfl⟩ := Int.eq_ofNat_of_zero_le (show 0 ≤ p by omega)
          clear hbv
          have hvl : vn < l2.length := by have := HL.out; omega
          have hpl : pn < l2.length := by have := HL.out; omega
          have cv := hrow.cell vn hvl
          have cp := hrow.cell pn hpl
          have fv := hrow.free vn hvl
          have fp := hrow.free pn hpl
          have hvm : vn < m := by have := HL.out; omega
          have hpm : pn < m := by have := HL.out; omega
          have HR : Hid (Row ((wr.setCell ⟨w.heap.size, pn, none⟩ (.int .i64 (l2.getD vn 0))).setCell ⟨w.heap.size, vn, none⟩ (.int .i64 (l2.getD pn 0))) w.heap.size (swp l2 vn pn)) := by
            have := (hrow.set pn hpl (l2.getD vn 0)).set vn (by simpa using hvl) (l2.getD pn 0)
            rw [swp_comm] at this; exact this
          have hB4 : Below w.heap.size w ((wr.setCell ⟨w.heap.size, pn, none⟩ (.int .i64 (l2.getD vn 0))).setCell ⟨w.heap.size, vn, none⟩ (.int .i64 (l2.getD pn 0))) :=
            (hB2.setCell (Nat.le_refl _) _).setCell (Nat.le_refl _) _
          have hS1 : (swp l2 vn pn).length = m := by unfold swp; simp; exact HL.out
          have HS := Lib.hid hS1
          clear hS1 hrow hB2
          by_cases hvp : vn = pn
          · subst hvp
            generalize l2.getD vn 0 = lv at *
            go_wp2
            exact ⟨⟨(vn : Int) - 1, j3, swp l2 vn vn, rfl, rfl, by omega, by omega, HS.out, HN.out, by omega, by omega, HR.out, hB4⟩, by simp [intOf]; omega⟩
          · generalize l2.getD vn 0 = lv at *
            generalize l2.getD pn 0 = lp at *
            go_wp2
            exact ⟨⟨(pn : Int) - 1, j3, swp l2 vn pn, rfl, rfl, by omega, by omega, HS.out, HN.out, by omega, by omega, HR.out, hB4⟩, by simp [intOf]; omega⟩
        · go_wp2
          go_ret3
          have hend := HP.out
          rw [show p.toNat = 0 by omega] at hend
          simp only [permF, Option.some.injEq, Prod.mk.injEq] at hend
          obtain ⟨rfl, rfl⟩ := hend
          exact ⟨rfl, hrow, HL.out, hB2⟩
set_option maxHeartbeats 1000000 in
theorem rperm_none_c (k i : Int) (m : Nat) (w : World) (hx0 : 0 ≤ k) (hx1 : k < 18446744073709551616) (h0 : 0 ≤ i) (h1 : i ≤ 1099511627776) (hm : m ≤ 1000) (h : perm k i m = none) :
    Calls Tryd.prog 38 #[.int .u64 k, .int .i64 i, .int .i64 (m : Int)] w fun e w' =>
      e = .returned (.tuple #[.slice none 0 0, .int .i64 0, .int .i64 4]) ∧ Below w.heap.size w w' := by
  have H : Hid (perm k i m = none) := h
  clear h
  have hi1 : ¬ i < 0 := by omega
  have hi2 : ¬ 1099511627776 < i := by omega
  have hmk := make_ints m m (Nat.le_refl _) (by omega)
  go_enter Tryd.func38, Tryd.ntmps38
  go_wp2_with fail
  go_loopw [10] (fun x wr => PermRel1 m w.heap.size w x wr) (fun x _ => (m - (intOf x).toNat))
  case atStart =>
    refine ⟨0, rfl, Nat.zero_le _, (Below.refl _ _).alloc (Nat.le_refl _) _, by simp, ?_⟩
    have := Row.made w m
    simpa [iota] using this
  case round =>
    obtain ⟨q, rfl, hq, hb, hz, hr⟩ := hrel
    by_cases hlt : q < m
    · have hfree := hr.free q (by simp [iota]; omega)
      obtain ⟨v0, hv0⟩ : ∃ v, wr.cell? ⟨w.heap.size, q, none⟩ = some v := ⟨_, hr.cell q (by simp [iota]; omega)⟩
      have hrow := hr.set q (by simp [iota]; omega) (q : Int)
      rw [iota_step m q hlt] at hrow
      have HR : Hid (Row (wr.setCell ⟨w.heap.size, q, none⟩ (.int .i64 (q : Int))) w.heap.size (iota (q + 1) ++ List.replicate (m - (q + 1)) 0)) := hrow
      clear hrow hr
      go_wp2
      exact ⟨⟨q + 1, by go_num, by omega, hb.setCell (Nat.le_refl _) _, by rw [size_setCell]; exact hz, HR.out⟩, by simp [intOf]; omega⟩
    · have e : q = m := by omega
      have hr2 : Row wr w.heap.size (iota m) := by
        have := hr
        rw [e, Nat.sub_self] at this
        simpa using this
      clear hr e hz
      go_wp2_with fail
      obtain ⟨wo, rfl⟩ : ∃ wo : World, wo = wr := ⟨_, rfl⟩
      go_loopw [1, 11, 15] (fun i x _ wr => RPermRel2 k m w.heap.size none w x i wr) (fun _ x _ _ => (intOf x).toNat)
      case atStart =>
        refine ⟨(m : Int) - 1, i, iota m, rfl, rfl, by omega, by omega, by simp [iota], ?_, h0, h1, hr2, hb⟩
        rw [← H.out]; unfold perm; rw [show ((m : Int) - 1).toNat = m - 1 by omega]
      case round =>
        obtain ⟨p, j2, l2, rfl, rfl, hp1, hp2, hl2, hpf, hj0, hj1, hrow, hB2⟩ := hrel
        have HP : Hid (permF k p.toNat j2 l2 = none) := hpf
        have HL : Hid (l2.length = m) := hl2
        clear hpf hl2 hr2 hb
        have hp := permF_none HP.out
        rcases perm_step_none hp HP.out with hbv | ⟨v, j3, hbv, hnext⟩
        · go_wp2_with fail
          refine (rbelow_none_c k j2 (p + 1) _ hx0 hx1 hj0 hj1 (by omega) (by omega) hbv).mono ?_
          rintro e w3 ⟨rfl, rfl⟩
          clear hbv
          go_wp2
          go_ret3
          exact ⟨rfl, hB2⟩
        · skip
          have HN : Hid (permF k (p - 1).toNat j3 (swp l2 v.toNat p.toNat) = none) := hnext
          clear hnext
          have hvr := below_range (by omega) hj1 hbv
          go_wp2_with fail
          refine (rbelow_some_c k j2 (p + 1) v j3 _ hx0 hx1 hj0 hj1 (by omega) (by omega) hbv).mono ?_
          rintro e w3 ⟨rfl, rfl⟩
          obtain ⟨vn, rfl⟩ := Int.eq_ofNat_of_zero_le hvr.1
          obtain ⟨pn, rfl⟩ := Int.eq_ofNat_of_zero_le (show 0 ≤ p by omega)
          clear hbv
          have hvl : vn < l2.length := by have := HL.out; omega
          have hpl : pn < l2.length := by have := HL.out; omega
          have cv := hrow.cell vn hvl
          have cp := hrow.cell pn hpl
          have fv := hrow.free vn hvl
          have fp := hrow.free pn hpl
          have hvm : vn < m := by have := HL.out; omega
          have hpm : pn < m := by have := HL.out; omega
          have HR : Hid (Row ((wr.setCell ⟨w.heap.size, pn, none⟩ (.int .i64 (l2.getD vn 0))).setCell ⟨w.heap.size, vn, none⟩ (.int .i64 (l2.getD pn 0))) w.heap.size (swp l2 vn pn)) := by
            have := (hrow.set pn hpl (l2.getD vn 0)).set vn (by simpa using hvl) (l2.getD pn 0)
            rw [swp_comm] at this; exact this
          have hB4 : Below w.heap.size w ((wr.setCell ⟨w.heap.size, pn, none⟩ (.int .i64 (l2.getD vn 0))).setCell ⟨w.heap.size, vn, none⟩ (.int .i64 (l2.getD pn 0))) :=
            (hB2.setCell (Nat.le_refl _) _).setCell (Nat.le_refl _) _
          have hS1 : (swp l2 vn pn).length = m := by unfold swp; simp; exact HL.out
          have HS := Lib.hid hS1
          clear hS1 hrow hB2
          by_cases hvp : vn = pn
          · subst hvp
            generalize l2.getD vn 0 = lv at *
            go_wp2
            exact ⟨⟨(vn : Int) - 1, j3, swp l2 vn vn, rfl, rfl, by omega, by omega, HS.out, HN.out, by omega, by omega, HR.out, hB4⟩, by simp [intOf]; omega⟩
          · generalize l2.getD vn 0 = lv at *
            generalize l2.getD pn 0 = lp at *
            go_wp2
            exact ⟨⟨(pn : Int) - 1, j3, swp l2 vn pn, rfl, rfl, by omega, by omega, HS.out, HN.out, by omega, by omega, HR.out, hB4⟩, by simp [intOf]; omega⟩
theorem rperm_err_c (k i n : Int) (w : World) (h : i < 0 ∨ 1099511627776 < i ∨ 1000 < n ∨ n < 0) :
    Calls Tryd.prog 38 #[.int .u64 k, .int .i64 i, .int .i64 n] w fun e w' => e = .returned (.tuple #[.slice none 0 0, .int .i64 0, .int .i64 2]) ∧ w = w' := by
  have h' : i < 0 ∨ (0 ≤ i ∧ 1099511627776 < i) ∨ (0 ≤ i ∧ i ≤ 1099511627776 ∧ n < 0) ∨ (0 ≤ i ∧ i ≤ 1099511627776 ∧ 0 ≤ n ∧ 1000 < n) := by omega
  clear h
  rcases h' with h | ⟨h, h2⟩ | ⟨h, h2, h3⟩ | ⟨h, h2, h3, h4⟩
  all_goals
    go_enter Tryd.func38, Tryd.ntmps38
    go_wp2
    go_ret3
    exact ⟨rfl, rfl⟩
end Go.Proofs.YtkcifgnlkdicgaaDoor.Sd
