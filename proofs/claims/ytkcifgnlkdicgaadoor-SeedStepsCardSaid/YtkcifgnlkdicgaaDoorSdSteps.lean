/-
  SeedSteps: a draw is that of the first accepted word from its index on, and lists are made of such draws, whatever was drawn before.
-/
import Derived.Test.YtkcifgnlkdicgaaDoorSdAw
import Derived.Test.YtkcifgnlkdicgaaDoorSdSub
import Derived.Test.YtkcifgnlkdicgaaDoorSdSt
import Derived.Test.YtkcifgnlkdicgaaDoorSdDraws
import Derived.Test.YtkcifgnlkdicgaaDoorSdLent
namespace Go.Proofs.YtkcifgnlkdicgaaDoor.Sd
open Go Go.RowKit
set_option linter.unusedVariables false
set_option linter.unusedSimpArgs false
/-- What a draw is: all words ahead of it are rejected, its word is accepted. -/
theorem belowF_spec (k n : Int) : ∀ (f : Nat) (i v j : Int), belowF k n f i = some (v, j) →
    (∀ q : Int, i ≤ q → q < j - 1 → restOk (wordI k q) n = false) ∧ restOk (wordI k (j - 1)) n = true ∧ restV (wordI k (j - 1)) n = v
  | 0, i, v, j, h => by simp [belowF] at h
  | f + 1, i, v, j, h => by
    unfold belowF at h
    split at h
    · rename_i hr
      simp only [Option.some.injEq, Prod.mk.injEq] at h
      obtain ⟨rfl, rfl⟩ := h
      rw [show i + 1 - 1 = i by omega]
      exact ⟨fun q h1 h2 => by omega, hr, rfl⟩
    · rename_i hr
      obtain ⟨h1, h2, h3⟩ := belowF_spec k n f (i + 1) v j h
      refine ⟨fun q h4 h5 => ?_, h2, h3⟩
      by_cases e : q = i
      · subst e; simpa using hr
      · exact h1 q (by omega) h5
theorem below_spec {k i n v j : Int} (h : below k i n = some (v, j)) :
    (∀ q : Int, i ≤ q → q < j - 1 → restOk (wordI k q) n = false) ∧ restOk (wordI k (j - 1)) n = true ∧ restV (wordI k (j - 1)) n = v := belowF_spec k n _ i v j h
def StepRel1 (k i j : Int) (s0 : Nat) (w : World) (x : Value) (wr : World) : Prop := ∃ q : Int, x = .int .i64 q ∧ i ≤ q ∧ q ≤ j ∧ St k s0 w wr
def StepRel2 (k : Int) (s0 n base : Nat) (w wo : World) (v x : Value) (wr : World) : Prop :=
  ∃ q : Nat, x = .int .i64 (q : Int) ∧ q ≤ n ∧ wr.ownsRow base 3 1 v q ((iota q).map (Value.int .i64)) ∧ St k s0 w wr ∧ Below base wo wr
def StepRel3 (k : Int) (s0 n g : Nat) (target : Option (List Int × Int)) (w wo : World) (B : Nat) (i x : Value) (wr : World) : Prop :=
  ∃ (p j : Int) (l : List Int), x = .int .i64 p ∧ i = .int .i64 j ∧ 0 ≤ p ∧ p < n ∧ l.length = n ∧ permF k p.toNat j l = target ∧ 0 ≤ j ∧ j ≤ 1099511627776 ∧ Row wr g l ∧ St k s0 w wr ∧ Below B wo wr
theorem iota_len (q : Nat) : (iota q).length = q := by simp [iota]
theorem iota_succ (q : Nat) : iota (q + 1) = iota q ++ [(q : Int)] := by unfold iota; rw [List.range_succ, List.map_append]; rfl
theorem tot_two (m : Int) (h0 : 0 ≤ m) (h1 : m ≤ 255) : totOk [m, 1] = true ∧ totV [m, 1] = m + 1 := by
  have e : total [m, 1] = some (m + 1) := by
    unfold total
    rw [if_neg (by simp)]
    simp only [totF]
    rw [if_neg (by omega), if_neg (by decide)]
    simp
  unfold totOk totV
  rw [e]
  exact ⟨by simp; omega, rfl⟩
theorem pick_two (m t : Int) (h0 : 0 ≤ t) (h1 : t < m + 1) : (t < m ∧ pickF [m, 1] t 0 = 0) ∨ (¬ t < m ∧ pickF [m, 1] t 0 = 1) := by
  simp only [pickF]
  by_cases h : m ≤ t
  · right
    rw [if_pos h, if_neg (by omega)]
    exact ⟨by omega, by decide⟩
  · left
    rw [if_neg h]
    exact ⟨by omega, rfl⟩
set_option maxRecDepth 100000 in
set_option maxHeartbeats 2000000 in
theorem steps_c (k a z m : Int) (w : World) (hT : Tab w) (hk0 : 0 ≤ k) (hk1 : k < 18446744073709551616) (ha0 : -9223372036854775808 ≤ a) (ha1 : a ≤ 9223372036854775807) (hz0 : 0 ≤ z) (hz1 : z ≤ 255) (hm0 : 0 ≤ m) (hm1 : m ≤ 255) :
    Calls Tryd.prog 9 #[.int .u64 k, .int .i64 a, .int .u8 z, .int .u8 m] w fun e w' => e = .returned (.bool true) ∧ Below w.heap.size w w' := by
  have hi0 := Int.emod_nonneg a (show (1099511627777 : Int) ≠ 0 by decide)
  have hi1 := Int.emod_lt_of_pos a (show (0 : Int) < 1099511627777 by decide)
  have hP := Lib.hid (fun w => pick_c a 1099511627777 w ha0 ha1 (by decide) (by decide))
  generalize a % 1099511627777 = i at *
  go_enter Tryd.func9, Tryd.ntmps9
  go_wp2_with fail
  refine (awake_c _ hT).mono ?_
  rintro e w1 ⟨rfl, hb⟩
  go_wp2_with fail
  have hS : St k w1.heap.size w (w1.alloc (.cells #[.int .u64 k] 33)) := St.start hT hb
  have hc := hS.cell
  clear hb
  refine (hP.out _).mono ?_
  rintro e w2 ⟨rfl, rfl⟩
  go_wp2_with fail
  obtain ⟨n, hn⟩ : ∃ n : Nat, (n : Int) = 1 + z % 100 := ⟨(1 + z % 100).toNat, by omega⟩
  have hn1 : 1 ≤ (n : Int) := by omega
  have hn2 : (n : Int) ≤ 100 := by omega
  rw [← hn]
  clear hn hz0 hz1
  cases hb : below k i n with
  | none =>
    have hfull : 1099511627776 < i + (n : Int) := by
      by_cases h : 1099511627776 < i + (n : Int)
      · exact h
      · obtain ⟨v, j, h2, _⟩ := below_within k i n hn1 hi0 (by omega)
        rw [hb] at h2; cases h2
    refine (below_none_c k i n _ hk0 hk1 hS.tab hi0 (by omega) hn1 (by omega) hb).mono ?_
    rintro e w3 ⟨rfl, hb3⟩
    have hB := (hS.step hb3).below
    clear hS hc hb hb3
    go_wp2_with fail
    go_ret
    exact ⟨by simp, hB⟩
  | some r =>
    obtain ⟨v, j⟩ := r
    have hr := below_range hn1 (by omega) hb
    obtain ⟨hr1, hr2, hr3, hr4⟩ := hr
    have hsp := Lib.hid (below_spec hb)
    have hBS := Lib.hid hb
    refine (below_some_c k i n v j _ hk0 hk1 hS.tab hi0 (by omega) hn1 (by omega) hb).mono ?_
    rintro e w3 ⟨rfl, hb3⟩
    have hS3 := hS.step hb3
    clear hS hc hb hb3
    go_wp2_with fail
    obtain ⟨wo, rfl⟩ : ∃ wo : World, wo = w3 := ⟨_, rfl⟩
    go_loopw [15] (fun x wr => StepRel1 k i j w1.heap.size w x wr) (fun x _ => (j - intOf x).toNat)
    case atStart => exact ⟨i, rfl, by omega, by omega, hS3⟩
    case round =>
      clear hS3
      obtain ⟨q, rfl, hq1, hq2, hS⟩ := hrel
      have hc := hS.cell
      by_cases hlt : q < j
      · have hw0 := word_lo k q
        have hw1 := word_hi k q
        go_wp2_with fail
        refine (word_c k q _ hk0 hk1 hS.tab (by omega) (by omega)).mono ?_
        rintro e w4 ⟨rfl, hb⟩
        have hS4 := hS.step hb
        clear hS hc hb
        go_wp2_with fail
        refine (rest_c (wordI k q) n _ hw0 hw1 hn1 (by omega)).mono ?_
        by_cases hlast : q = j - 1
        · subst hlast
          rw [hsp.out.2.1, hsp.out.2.2]
          rintro e w5 ⟨rfl, rfl⟩
          go_wp2_with fail
          exact ⟨⟨j - 1 + 1, by go_num, by omega, by omega, hS4⟩, by simp [intOf]; omega⟩
        · have hno := hsp.out.1 q hq1 (by omega)
          rw [hno, show restV (wordI k q) n = 0 by unfold restV; rw [hno]; rfl]
          have hqb : (q == j - 1) = false := beq_eq_false_iff_ne.2 hlast
          clear hno hlast
          rintro e w5 ⟨rfl, rfl⟩
          go_wp2_with fail
          exact ⟨⟨q + 1, by go_num, by omega, by omega, hS4⟩, by simp [intOf]; omega⟩
      · go_wp2_with fail
        clear hlt
        cases hp : perm k i n with
        | none =>
          refine (perm_none_c k i n _ hk0 hk1 hS.tab hi0 (by omega) (by omega) hp).mono ?_
          rintro e w4 ⟨rfl, hb⟩
          have hS4 := hS.step hb
          have hc4 := hS4.cell
          clear hS hc hb
          go_wp2_with fail
          refine (perm_none_c k i n _ hk0 hk1 hS4.tab hi0 (by omega) (by omega) hp).mono ?_
          rintro e w5 ⟨rfl, hb⟩
          have hS5 := hS4.step hb
          clear hS4 hc4 hb hp
          go_wp2_with fail
          refine (same_c [] _ _ _ (nil_reads _) (nil_reads _) (by simp)).mono ?_
          rintro e w6 ⟨rfl, hb⟩
          have hS6 := hS5.step hb
          clear hS5 hb
          go_wp2_with fail
          go_ret
          exact ⟨by simp, hS6.below⟩
        | some rr =>
          obtain ⟨l, je⟩ := rr
          have hPS := Lib.hid hp
          refine (perm_some_c k i je n l _ hk0 hk1 hS.tab hi0 (by omega) (by omega) hp).mono ?_
          rintro e w4 ⟨rfl, hrow, hlen, hb⟩
          have hHL := Lib.hid hlen
          have hL4 := hrow.reads (n := n) (cap := n) hlen.symm
          have hS4 := hS.step hb
          have hc4 := hS4.cell
          clear hS hc hb hrow hlen
          obtain ⟨gl, hgl⟩ : ∃ gl, wr.heap.size + 2 = gl := ⟨_, rfl⟩
          rw [hgl] at hL4
          rw [hgl]
          clear hgl
          go_wp2_with fail
          refine (perm_some_c k i je n l _ hk0 hk1 hS4.tab hi0 (by omega) (by omega) hp).mono ?_
          rintro e w5 ⟨rfl, hrow, hlen, hb⟩
          have hM5 := hrow.reads (n := n) (cap := n) hlen.symm
          have hL5 := hL4.below hb (Nat.le_refl _)
          have hS5 := hS4.step hb
          clear hS4 hc4 hb hrow hlen hL4 hp
          obtain ⟨gm, hgm⟩ : ∃ gm, w4.heap.size + 2 = gm := ⟨_, rfl⟩
          rw [hgm] at hM5
          rw [hgm]
          clear hgm
          go_wp2_with fail
          refine (same_c l _ _ _ hL5 hM5 (by have := hHL.out; omega)).mono ?_
          rintro e w6 ⟨rfl, hb⟩
          have hL6 := hL5.below hb (Nat.le_refl _)
          have hS6 := hS5.step hb
          clear hS5 hb hL5 hM5
          go_wp2_with fail
          obtain ⟨wx, rfl⟩ : ∃ wx : World, wx = w6 := ⟨_, rfl⟩
          go_loopw [25, 26] (fun v x wr => StepRel2 k w1.heap.size n wx.heap.size w wx v x wr) (fun _ x _ => n - (intOf x).toNat)
          case atStart => exact ⟨0, rfl, Nat.zero_le _, ⟨rfl, .inl ⟨rfl, rfl⟩⟩, hS6, Below.refl _ _⟩
          case round =>
            have hS0 := hS6
            clear hS6
            obtain ⟨q2, rfl, hq3, hown, hS, hbw⟩ := hrel
            by_cases hlt : q2 < n
            · have hws : wx.heap.size ≤ wr.heap.size := hbw.size
              have HI := Lib.hid (iota_succ q2)
              obtain ⟨i0, hi, hz0, hz1, hz2⟩ := info_parts info_int
              go_wp2_with ((at_builtin; refine wpList_append_own _ rfl _ _ 26 rfl wx.heap.size 3 i0 (.int .i64 0) 1 8 Tryd.underlying26 hi hz0 hz1 hz2 rfl (by decide) _ _ _ rfl (hown.alloc _) ⟨wr.heap.size, 0, none⟩ 1 1 [.int .i64 (q2 : Int)] rfl rfl ?c1 ?c2 ?c3 ?c4 ?c5 ?_))
              case c1 => exact new_one _ _ _
              case c2 => simp [Value.oneCell']
              case c3 => unfold maxLen; omega
              case c4 => omega
              case c5 => simp; omega
              intro v' w7 hown' hgrow _
              have hb7 : Below wr.heap.size wr (wr.alloc (.cells #[.int .i64 (q2 : Int)] 3)) := (Below.refl _ _).alloc (Nat.le_refl _) _
              have hbw2 : Below wx.heap.size wx w7 := (hbw.alloc hws _).grown hgrow (by simp; omega) (own_ge hown)
              have hSx : St k w1.heap.size w w7 := by
                obtain ⟨t1, t2, t3, t4, t5⟩ := hS0
                have hsz := hbw2.size
                exact (show St k w1.heap.size w wx from ⟨t1, t2, t3, t4, t5⟩).step hbw2
              have HO : Hid (w7.ownsRow wx.heap.size 3 1 v' (q2 + 1) ((iota (q2 + 1)).map (Value.int .i64))) := by
                show w7.ownsRow _ _ _ _ _ _
                rw [HI.out, List.map_append]; exact hown'
              clear hown' hgrow hown hbw hS hb7
              go_wp2
              exact ⟨⟨q2 + 1, by go_num, by omega, HO.out, hSx, hbw2⟩, by simp [intOf]; omega⟩
            · have e : q2 = n := by omega
              rw [e] at hown
              obtain ⟨g2, cap2, hg2, hbase, hcn, hcm, hrow⟩ := own_row hown (by omega)
              have hcm2 : cap2 ≤ 9223372036854775807 := hcm
              rw [hg2]
              clear hg2 hown e hcm
              go_wp2_with fail
              obtain ⟨wy, rfl⟩ : ∃ wy : World, wy = wr := ⟨_, rfl⟩
              go_loopw [27, 28] (fun i x wr => StepRel3 k w1.heap.size n g2 (some (l, je)) w wx wx.heap.size i x wr) (fun _ x _ => (intOf x).toNat)
              case atStart =>
                refine ⟨(n : Int) - 1, i, iota n, rfl, rfl, by omega, by omega, iota_len n, ?_, hi0, by omega, hrow, hS, hbw⟩
                rw [← hPS.out]; unfold perm; rw [show ((n : Int) - 1).toNat = n - 1 by omega]
              case round =>
                clear hS hrow hbw hlt
                obtain ⟨p, j2, l2, rfl, rfl, hp1, hp2, hl2, hpf, hj0, hj1, hrow, hS, hbw⟩ := hrel
                have HP : Hid (permF k p.toNat j2 l2 = some (l, je)) := hpf
                have HL : Hid (l2.length = n) := hl2
                clear hpf hl2
                have hc := hS.cell
                by_cases hp : 0 < p
                · obtain ⟨v3, j3, hbv, hnext⟩ := perm_step hp HP.out
                  have HN : Hid (permF k (p - 1).toNat j3 (swp l2 v3.toNat p.toNat) = some (l, je)) := hnext
                  clear hnext
                  have hvr := below_range (by omega) hj1 hbv
                  go_wp2_with fail
                  refine (below_some_c k j2 (p + 1) v3 j3 _ hk0 hk1 hS.tab hj0 hj1 (by omega) (by omega) hbv).mono ?_
                  rintro e w8 ⟨rfl, hb⟩
                  have hS8 := hS.step hb
                  have hrow8 := hrow.below hb hrow.lt
                  have hbw8 := hbw.trans (hb.mono hbw.size)
                  clear hS hc hb hbv hbw hrow
                  obtain ⟨vn, rfl⟩ := Int.eq_ofNat_of_zero_le hvr.1
                  obtain ⟨pn, rfl⟩ := Int.eq_ofNat_of_zero_le hp1
                  have hvl : vn < l2.length := by have := HL.out; omega
                  have hpl : pn < l2.length := by have := HL.out; omega
                  have cv := hrow8.cell vn hvl
                  have cp := hrow8.cell pn hpl
                  have fv := hrow8.free vn hvl
                  have fp := hrow8.free pn hpl
                  have hvm : vn < n := by have := HL.out; omega
                  have hpm : pn < n := by have := HL.out; omega
                  have hvb : (vn : Int) ≤ (pn : Int) := by omega
                  have HR : Hid (Row ((w8.setCell ⟨g2, pn, none⟩ (.int .i64 (l2.getD vn 0))).setCell ⟨g2, vn, none⟩ (.int .i64 (l2.getD pn 0))) g2 (swp l2 vn pn)) := by
                    have := (hrow8.set pn hpl (l2.getD vn 0)).set vn (by simpa using hvl) (l2.getD pn 0)
                    rw [swp_comm] at this; exact this
                  have HS1 := Lib.hid (show (swp l2 vn pn).length = n by unfold swp; simp; exact HL.out)
                  have hbx : Below wx.heap.size w8 (((w8.setCell ⟨g2, pn, none⟩ (.int .i64 (l2.getD vn 0))).setCell ⟨g2, vn, none⟩ (.int .i64 (l2.getD pn 0))).drew) := (((Below.refl _ _).setCell hbase _).setCell hbase _).drew
                  have hB9 := hbw8.trans hbx
                  have hS9 : St k w1.heap.size w (((w8.setCell ⟨g2, pn, none⟩ (.int .i64 (l2.getD vn 0))).setCell ⟨g2, vn, none⟩ (.int .i64 (l2.getD pn 0))).drew) := hS0.step hB9
                  clear hbx hbw8 hS8 hrow8
                  by_cases hvp : vn = pn
                  · subst hvp
                    generalize l2.getD vn 0 = lv at *
                    go_wp2_with fail
                    go_region
                    go_wp2
                    exact ⟨⟨(vn : Int) - 1, j3, swp l2 vn vn, rfl, rfl, by omega, by omega, HS1.out, HN.out, by omega, by omega, HR.out.below (Below.drew (Below.refl (g2 + 1) _)) (by omega), hS9, hB9⟩, by simp [intOf]; omega⟩
                  · generalize l2.getD vn 0 = lv at *
                    generalize l2.getD pn 0 = lp at *
                    go_wp2_with fail
                    go_region
                    go_wp2
                    exact ⟨⟨(pn : Int) - 1, j3, swp l2 vn pn, rfl, rfl, by omega, by omega, HS1.out, HN.out, by omega, by omega, HR.out.below (Below.drew (Below.refl (g2 + 1) _)) (by omega), hS9, hB9⟩, by simp [intOf]; omega⟩
                · have hp0 : p = 0 := by omega
                  subst hp0
                  have hend := HP.out
                  rw [show (0 : Int).toNat = 0 from rfl] at hend
                  simp only [permF, Option.some.injEq, Prod.mk.injEq] at hend
                  obtain ⟨rfl, rfl⟩ := hend
                  have hLr := hL6.below hbw (Nat.le_refl _)
                  have hW := hrow.reads (n := n) (cap := cap2) HL.out.symm
                  have hll : l2.length ≤ 1000 := by have := HL.out; omega
                  clear HP hPS hrow hbw hL6 HL hHL hS0
                  have ht2 := tot_two m hm0 hm1
                  cases hwb : below k i (m + 1) with
                  | none =>
                    go_wp2_with fail
                    have hSa := hS.alloc (.cells #[.int .i64 m, .int .i64 1] 3)
                    have hba : Below wr.heap.size wr (wr.alloc (.cells #[.int .i64 m, .int .i64 1] 3)) := (Below.refl _ _).alloc (Nat.le_refl _) _
                    have hLa := hLr.below hba (Nat.le_refl _)
                    have hWa := hW.below hba (Nat.le_refl _)
                    refine (weigh_none_c k i [m, 1] _ _ hk0 hk1 hSa.tab hi0 (by omega) (lit_reads wr [m, 1] 3) ht2.1 (by rw [ht2.2]; exact hwb)).mono ?_
                    rintro e w8 ⟨rfl, hb⟩
                    have hS8 := hSa.step hb
                    have hL8 := hLa.below hb (Nat.le_refl _)
                    have hW8 := hWa.below hb (Nat.le_refl _)
                    have hc8 := hS8.cell
                    clear hSa hba hLa hWa hb hS hLr hW
                    go_wp2_with fail
                    refine (below_none_c k i (m + 1) _ hk0 hk1 hS8.tab hi0 (by omega) (by omega) (by omega) hwb).mono ?_
                    rintro e w9 ⟨rfl, hb⟩
                    have hS9 := hS8.step hb
                    have hL9 := hL8.below hb (Nat.le_refl _)
                    have hW9 := hW8.below hb (Nat.le_refl _)
                    clear hS8 hL8 hW8 hc8 hb
                    go_wp2_with fail
                    refine (same_c l2 _ _ _ hL9 hW9 hll).mono ?_
                    rintro e w10 ⟨rfl, hb⟩
                    have hS10 := hS9.step hb
                    clear hS9 hL9 hW9 hb
                    go_wp2_with fail
                    go_ret
                    exact ⟨by simp, hS10.below⟩
                  | some rr =>
                    obtain ⟨t, jt⟩ := rr
                    have htr := below_range (by omega) (by omega) hwb
                    go_wp2_with fail
                    have hSa := hS.alloc (.cells #[.int .i64 m, .int .i64 1] 3)
                    have hba : Below wr.heap.size wr (wr.alloc (.cells #[.int .i64 m, .int .i64 1] 3)) := (Below.refl _ _).alloc (Nat.le_refl _) _
                    have hLa := hLr.below hba (Nat.le_refl _)
                    have hWa := hW.below hba (Nat.le_refl _)
                    refine (weigh_some_c k i t jt [m, 1] _ _ hk0 hk1 hSa.tab hi0 (by omega) (lit_reads wr [m, 1] 3) ht2.1 (by rw [ht2.2]; exact hwb)).mono ?_
                    have hpk := pick_two m t htr.1 htr.2.1
                    rcases hpk with ⟨hp1, hp2⟩ | ⟨hp1, hp2⟩
                    all_goals
                      rw [hp2]
                      clear hp2
                      rintro e w8 ⟨rfl, hb⟩
                      have hS8 := hSa.step hb
                      have hL8 := hLa.below hb (Nat.le_refl _)
                      have hW8 := hWa.below hb (Nat.le_refl _)
                      have hc8 := hS8.cell
                      clear hSa hba hLa hWa hb hS hLr hW
                      go_wp2_with fail
                      refine (below_some_c k i (m + 1) t jt _ hk0 hk1 hS8.tab hi0 (by omega) (by omega) (by omega) hwb).mono ?_
                      rintro e w9 ⟨rfl, hb⟩
                      have hS9 := hS8.step hb
                      have hL9 := hL8.below hb (Nat.le_refl _)
                      have hW9 := hW8.below hb (Nat.le_refl _)
                      clear hS8 hL8 hW8 hc8 hb
                      go_wp2_with fail
                      refine (same_c l2 _ _ _ hL9 hW9 hll).mono ?_
                      rintro e w10 ⟨rfl, hb⟩
                      have hS10 := hS9.step hb
                      clear hS9 hL9 hW9 hb
                      go_wp2_with fail
                      go_ret
                      exact ⟨by simp, hS10.below⟩
end Go.Proofs.YtkcifgnlkdicgaaDoor.Sd
