/-
  ParseFirst's walk.
-/
import Derived.Test.YtggkehncpkfakaaDoorPsAwk
import Derived.Test.YtggkehncpkfakaaDoorMgLoc
namespace Go.Proofs.YtggkehncpkfakaaDoor.Ps
open Go Go.RowKit Go.Shelf Go.Proofs.YtggkehncpkfakaaDoor.Fm Go.Proofs.YtggkehncpkfakaaDoor.Lx
set_option linter.unusedVariables false
set_option linter.unusedSimpArgs false
theorem TsV_at3 {w : World} {g : Nat} {ts : List Tg} (h : TsV w (some ⟨g, 0, none⟩) ts) {i : Nat} (hi : i < ts.length) : w.cell? ⟨g, i * 3, none⟩ = some (.int .u8 ts[i].k) ∧ w.cell? ⟨g, i * 3 + 1, none⟩ = some (.string ts[i].t) ∧ w.cell? ⟨g, i * 3 + 2, none⟩ = some (.int .i64 ts[i].a) := by
  obtain ⟨g', o, hgo, _, c0, c1, c2⟩ := h.get hi
  injection hgo with hgo
  injection hgo with hgo hgo2
  subst hgo; subst hgo2
  rw [Nat.zero_add] at c0 c1 c2
  exact ⟨c0, c1, c2⟩
def FiR (s : ByteArray) (i : Nat) (g : Nat) (W : World) (v : Value) (wr : World) : Prop := ∃ q : Nat, v = .int .i64 (q : Int) ∧ q ≤ i ∧ Below W.heap.size W wr ∧ TsV wr (some ⟨g, 0, none⟩) (tgL s)
set_option maxHeartbeats 16000000 in
set_option maxRecDepth 20000 in
theorem first_c (s behind : ByteArray) (W : World) (hT : RTab W) (hL : LTab W W.heap.size) : Calls Tryd.prog 6 #[.string s, .string behind] W fun e w' => e = .returned (.bool true) ∧ Below W.heap.size W w' := by
  have HA := Lib.hid (awake_c W hT hL)
  have HT := Lib.hid hT
  have HL := Lib.hid hL
  have hsch := fun (x : ByteArray) (w : World) (hx : x.size ≤ 16384) (hb : Below W.heap.size W w) => schema_p x w hx (HT.out.below hb HT.out.1) ⟨Nat.lt_of_lt_of_le HL.out.1 hb.size, (HL.out.keep (hb.block _ HL.out.1)).2⟩
  have HSCH := Lib.hid hsch
  clear hsch hT hL
  by_cases h1 : 1500 < s.size
  · have d1 : decide (1500 < s.size) = true := decide_eq_true h1
    have d2 : decide (1500 < (s.size : Int)) = true := decide_eq_true (by omega)
    go_enter Tryd.func6, Tryd.ntmps6
    go_wp2_with fail
    refine HA.out.mono ?_
    rintro e w1 ⟨rfl, hb1⟩
    go_wp2_with fail
    go_ret
    exact ⟨rfl, hb1⟩
  have d1 : decide (1500 < s.size) = false := decide_eq_false h1
  have d2 : decide (1500 < (s.size : Int)) = false := decide_eq_false (by omega)
  by_cases h2 : 1000 < behind.size
  · have d3 : decide (1000 < behind.size) = true := decide_eq_true h2
    have d4 : decide (1000 < (behind.size : Int)) = true := decide_eq_true (by omega)
    go_enter Tryd.func6, Tryd.ntmps6
    go_wp2_with fail
    refine HA.out.mono ?_
    rintro e w1 ⟨rfl, hb1⟩
    go_wp2_with fail
    go_ret
    exact ⟨rfl, hb1⟩
  have d3 : decide (1000 < behind.size) = false := decide_eq_false h2
  have d4 : decide (1000 < (behind.size : Int)) = false := decide_eq_false (by omega)
  obtain ⟨x, hX⟩ : ∃ x, formRes true (rightB true) s = x := ⟨_, rfl⟩
  obtain ⟨fo, at0, e0⟩ := x
  by_cases he : ¬(e0 = 50 ∨ e0 = 51)
  · have d5 : (e0 != 50) = true := by simp; omega
    have d6 : (e0 != 51) = true := by simp; omega
    go_enter Tryd.func6, Tryd.ntmps6
    go_wp2_with fail
    refine HA.out.mono ?_
    rintro e w1 ⟨rfl, hb1⟩
    go_upto_region 5 with fail
    clear d1 d2 d3 d4
    have hs1 := HSCH.out s w1 (by omega) hb1
    rw [hX] at hs1
    go_wp2_with fail
    refine hs1.mono ?_
    rintro e w2 ⟨v2, rfl, ⟨a2, k2, a3, k3, rfl, HREST⟩, hb2⟩
    have hb2 := hb1.trans (hb2.mono hb1.size)
    clear HREST hs1 hb1
    go_upto_region 6 with fail
    generalize hw3 : w2.alloc (.cells #[_, _, _, _] 25) = w3
    have hb3 : Below W.heap.size W w3 := by rw [← hw3]; exact hb2.alloc hb2.size _
    clear hw3 hb2
    go_wp2_with fail
    go_ret
    exact ⟨rfl, hb3⟩
  have he := Decidable.not_not.1 he
  have hF := first_facts true (rightB true) s behind (by omega) (by omega) (by rw [hX]; exact he)
  rw [hX] at hF
  obtain ⟨hlx, i, n, hi, hn, rfl, hat, hbef, hA, hB⟩ := hF
  simp only at hA hB
  obtain ⟨x1, hX1⟩ : ∃ x1, formRes true (rightB true) (s.extract 0 n) = x1 := ⟨_, rfl⟩
  obtain ⟨fo1, at1, e1⟩ := x1
  rw [hX1] at hA
  simp only at hA
  have HX1 := Lib.hid hX1
  have HLB := Lib.hid (fun w => lexp_c behind w (by omega))
  have HBEF := Lib.hid hbef
  have HLEX := Lib.hid (show ∀ w, Calls Tryd.prog 20 #[.string s] w fun e w' => ∃ g cap, e = .returned (.tuple #[.slice (some ⟨g, 0, none⟩) (tgL s).length cap, .int .i64 0, .int .i64 0]) ∧ Below w.heap.size w w' ∧ TsV w' (some ⟨g, 0, none⟩) (tgL s) from fun w => by
    refine (lexp_c s w (by omega)).mono ?_
    intro e w' h
    unfold LxP at h
    rw [hlx] at h
    obtain ⟨g, cap, rfl, hb, _, _, hg2, hrow⟩ := h
    exact ⟨g, cap, rfl, hb, ⟨.inr ⟨g, 0, rfl, hg2, fun j u hj => by rw [Nat.zero_add]; exact hrow j u hj⟩⟩⟩)
  have hlen := (tok_tgL (by omega) hlx).2
  clear hbef
  have HA1 := Lib.hid hA
  have HB1 := Lib.hid hB
  clear hA hB
  rcases he with rfl | rfl
  · go_enter Tryd.func6, Tryd.ntmps6
    go_wp2_with fail
    refine HA.out.mono ?_
    rintro e w1 ⟨rfl, hb1⟩
    go_upto_region 5 with fail
    clear d1 d2 d3 d4
    have hs1 := HSCH.out s w1 (by omega) hb1
    rw [hX] at hs1
    go_wp2_with fail
    refine hs1.mono ?_
    rintro e w2 ⟨v2, rfl, ⟨a2, k2, a3, k3, rfl, HREST⟩, hb2⟩
    have hb2 := hb1.trans (hb2.mono hb1.size)
    clear HREST hs1 hb1
    go_upto_region 6 with fail
    generalize hw3 : w2.alloc (.cells #[_, _, _, _] 25) = w3
    have hb3 : Below W.heap.size W w3 := by rw [← hw3]; exact hb2.alloc hb2.size _
    clear hw3 hb2
    go_wp2_with fail
    refine (HLEX.out _).mono ?_
    rintro e w4 ⟨g, cap, rfl, hb4, htv⟩
    have HB4 := Lib.hid (hb3.trans (hb4.mono hb3.size))
    have HTV := Lib.hid htv
    clear hb3 hb4 htv HLEX
    go_wp2_with fail
    go_loopw [11] (fun q wr => FiR s i g W q wr) (fun q _ => (tgL s).length - (intOf q).toNat)
    case atStart => exact ⟨0, rfl, Nat.zero_le _, HB4.out, HTV.out⟩
    case round =>
      clear HB4 HTV
      obtain ⟨q, rfl, hq, hbr, htr⟩ := hrel
      have HBR := Lib.hid hbr
      have HTR := Lib.hid htr
      obtain ⟨g', o, hgo, hgl, c0, c1, c2⟩ := htr.get (i := q) (by omega)
      injection hgo with hgo
      injection hgo with hgo hgo2
      subst hgo; subst hgo2
      rw [Nat.zero_add] at c0 c1 c2
      have n0 : (0 : Int) ≤ (q : Int) := by omega
      have n1 : (q : Int) < ((tgL s).length : Int) := by omega
      have n2 : decide ((q : Int) < ((tgL s).length : Int)) = true := decide_eq_true n1
      clear hbr htr
      by_cases hqi : q < i
      · have hne := HBEF.out q hqi
        have m1 : (((tgL s)[q]'(Nat.lt_trans hqi hi)).a != (n : Int)) = true := bne_iff_ne.2 hne
        have m10 : IntKind.i64.wrap ((q : Int) + 1) = (q : Int) + 1 := IntWalk.i64_in _ (by omega)
        go_wp2_with fail
        exact ⟨⟨q + 1, by go_num, by omega, HBR.out, HTR.out⟩, by simp [intOf]; omega⟩
      · obtain rfl : q = i := by omega
        have m1 : (((tgL s)[q]'hi).a != (n : Int)) = false := by rw [hat]; simp
        have sx1 : (s.extract 0 n).size = n := by rw [ByteArray.size_extract]; omega
        have hs2 := HSCH.out (s.extract 0 n) wr (by rw [sx1]; omega) HBR.out
        rw [HX1.out] at hs2
        have n3 : (n : Int) ≤ (s.size : Int) := by omega
        have n4 : (0 : Int) ≤ (n : Int) := by omega
        have hhA := HA1.out
        go_wp2_with fail
        refine hs2.mono ?_
        rintro e w5 ⟨v5, rfl, ⟨a5, k5, a6, k6, rfl, HREST⟩, hb5⟩
        clear HREST hs2
        have HB5 := Lib.hid (HBR.out.trans (hb5.mono HBR.out.size))
        have HT5 := Lib.hid (HTR.out.grow hb5)
        clear hb5 HBR HTR
        go_upto_region 14 with fail
        generalize hw6 : w5.alloc (.cells #[_, _, _, _] 25) = w6
        have hb6 : Below w5.heap.size w5 w6 := by rw [← hw6]; exact (Below.refl _ _).alloc (Nat.le_refl _) _
        have HB6 := Lib.hid (HB5.out.trans (hb6.mono HB5.out.size))
        have HT6 := Lib.hid (HT5.out.grow hb6)
        clear hw6 hb6 HB5 HT5
        obtain ⟨g', o, hgo, hgl, c0, c1, c2⟩ := HT6.out.get (i := q) hi
        injection hgo with hgo
        injection hgo with hgo hgo2
        subst hgo; subst hgo2
        rw [Nat.zero_add] at c0 c1 c2
        have HH := Lib.hid hhA
        clear hhA HX1
        clear c0 c1 c2
        by_cases h5 : ((tgL s)[q]'hi).k = 5
        · have m2 : (((tgL s)[q]'hi).k == 5) = true := by rw [h5]; rfl
          have LAST : ∀ w, Below W.heap.size W w → True := fun _ _ => trivial
          rcases HH.out with rfl | rfl | ⟨rfl | rfl, hle⟩
          · obtain ⟨c0, c1, c2⟩ := TsV_at3 HT6.out hi
            go_wp2_with fail
            go_ret
            exact ⟨rfl, HB6.out⟩
          · obtain ⟨c0, c1, c2⟩ := TsV_at3 HT6.out hi
            go_wp2_with fail
            go_ret
            exact ⟨rfl, HB6.out⟩
          · have l1 : decide (at1 < (n : Int)) = false := decide_eq_false (by omega)
            obtain ⟨c0, c1, c2⟩ := TsV_at3 HT6.out hi
            go_wp2_with fail
            go_ret
            exact ⟨rfl, HB6.out⟩
          · have l1 : decide (at1 < (n : Int)) = false := decide_eq_false (by omega)
            obtain ⟨c0, c1, c2⟩ := TsV_at3 HT6.out hi
            go_wp2_with fail
            go_ret
            exact ⟨rfl, HB6.out⟩
        · have m2 : (((tgL s)[q]'hi).k == 5) = false := beq_eq_false_iff_ne.2 h5
          obtain ⟨hsz, hres⟩ := HB1.out h5
          have HRES := Lib.hid hres
          clear hres
          cases hlb : lexErr behind with
          | some an =>
            obtain ⟨a, z⟩ := an
            have hz0 : (z != 0) = true := bne_iff_ne.2 (lexErr_ne hlb)
            have hlx2 := HLB.out w6
            unfold LxP at hlx2
            rw [hlb] at hlx2
            simp only at hlx2
            have HLX2 := Lib.hid hlx2
            clear hlx2 hlb HRES
            rcases HH.out with rfl | rfl | ⟨rfl | rfl, hle⟩
            · obtain ⟨c0, c1, c2⟩ := TsV_at3 HT6.out hi
              go_wp2_with fail
              refine HLX2.out.mono ?_
              rintro e w7 ⟨rfl, hb7⟩
              have hB7 := HB6.out.trans (hb7.mono HB6.out.size)
              clear hb7
              go_wp2_with fail
              go_ret
              exact ⟨rfl, hB7⟩
            · obtain ⟨c0, c1, c2⟩ := TsV_at3 HT6.out hi
              go_wp2_with fail
              refine HLX2.out.mono ?_
              rintro e w7 ⟨rfl, hb7⟩
              have hB7 := HB6.out.trans (hb7.mono HB6.out.size)
              clear hb7
              go_wp2_with fail
              go_ret
              exact ⟨rfl, hB7⟩
            · have l1 : decide (at1 < (n : Int)) = false := decide_eq_false (by omega)
              obtain ⟨c0, c1, c2⟩ := TsV_at3 HT6.out hi
              go_wp2_with fail
              refine HLX2.out.mono ?_
              rintro e w7 ⟨rfl, hb7⟩
              have hB7 := HB6.out.trans (hb7.mono HB6.out.size)
              clear hb7
              go_wp2_with fail
              go_ret
              exact ⟨rfl, hB7⟩
            · have l1 : decide (at1 < (n : Int)) = false := decide_eq_false (by omega)
              obtain ⟨c0, c1, c2⟩ := TsV_at3 HT6.out hi
              go_wp2_with fail
              refine HLX2.out.mono ?_
              rintro e w7 ⟨rfl, hb7⟩
              have hB7 := HB6.out.trans (hb7.mono HB6.out.size)
              clear hb7
              go_wp2_with fail
              go_ret
              exact ⟨rfl, hB7⟩
          | none =>
            have hres := HRES.out hlb
            obtain ⟨x2, hX2⟩ : ∃ x2, formRes true (rightB true) ((s.extract 0 (n + ((tgL s)[q]'hi).t.size) ++ ⟨#[32]⟩) ++ behind) = x2 := ⟨_, rfl⟩
            obtain ⟨fo2, at2, e2⟩ := x2
            rw [hX2] at hres
            obtain ⟨r1, r2⟩ := hres
            simp only at r1 r2
            subst r1
            subst r2
            have HX2 := Lib.hid hX2
            have hlx2 := HLB.out w6
            unfold LxP at hlx2
            rw [hlb] at hlx2
            simp only at hlx2
            have HLX2 := Lib.hid hlx2
            clear hlx2 hlb HRES hX2
            rcases HH.out with rfl | rfl | ⟨rfl | rfl, hle⟩
            · obtain ⟨c0, c1, c2⟩ := TsV_at3 HT6.out hi
              go_wp2_with fail
              refine HLX2.out.mono ?_
              rintro e w7 ⟨g7, cap7, rfl, hb7, _, _, _, _⟩
              have hB7 := HB6.out.trans (hb7.mono HB6.out.size)
              obtain ⟨c0, c1, c2⟩ := TsV_at3 (HT6.out.grow hb7) hi
              have n5 : IntKind.i64.wrap ((n : Int) + (((tgL s)[q]'hi).t.size : Int)) = (n : Int) + (((tgL s)[q]'hi).t.size : Int) := IntWalk.i64_in _ (by omega)
              have n6 : (0 : Int) ≤ (n : Int) + (((tgL s)[q]'hi).t.size : Int) := by omega
              have n7 : (n : Int) + (((tgL s)[q]'hi).t.size : Int) ≤ (s.size : Int) := by omega
              have n8 : ((n : Int) + (((tgL s)[q]'hi).t.size : Int)).toNat = n + ((tgL s)[q]'hi).t.size := by omega
              have hs8 := HSCH.out ((s.extract 0 (n + ((tgL s)[q]'hi).t.size) ++ ⟨#[32]⟩) ++ behind) w7 (by rw [ByteArray.size_append, ByteArray.size_append, ByteArray.size_extract]; show _ + 1 + _ ≤ _; omega) hB7
              rw [HX2.out] at hs8
              clear hb7
              go_wp2_with fail
              refine hs8.mono ?_
              rintro e w9 ⟨v9, rfl, ⟨b5, j5, b6, j6, rfl, HREST⟩, hb9⟩
              have hB9 := hB7.trans (hb9.mono hB7.size)
              clear HREST hb9 hs8
              go_wp2_with fail
              go_ret
              exact ⟨rfl, hB9⟩
            · obtain ⟨c0, c1, c2⟩ := TsV_at3 HT6.out hi
              go_wp2_with fail
              refine HLX2.out.mono ?_
              rintro e w7 ⟨g7, cap7, rfl, hb7, _, _, _, _⟩
              have hB7 := HB6.out.trans (hb7.mono HB6.out.size)
              obtain ⟨c0, c1, c2⟩ := TsV_at3 (HT6.out.grow hb7) hi
              have n5 : IntKind.i64.wrap ((n : Int) + (((tgL s)[q]'hi).t.size : Int)) = (n : Int) + (((tgL s)[q]'hi).t.size : Int) := IntWalk.i64_in _ (by omega)
              have n6 : (0 : Int) ≤ (n : Int) + (((tgL s)[q]'hi).t.size : Int) := by omega
              have n7 : (n : Int) + (((tgL s)[q]'hi).t.size : Int) ≤ (s.size : Int) := by omega
              have n8 : ((n : Int) + (((tgL s)[q]'hi).t.size : Int)).toNat = n + ((tgL s)[q]'hi).t.size := by omega
              have hs8 := HSCH.out ((s.extract 0 (n + ((tgL s)[q]'hi).t.size) ++ ⟨#[32]⟩) ++ behind) w7 (by rw [ByteArray.size_append, ByteArray.size_append, ByteArray.size_extract]; show _ + 1 + _ ≤ _; omega) hB7
              rw [HX2.out] at hs8
              clear hb7
              go_wp2_with fail
              refine hs8.mono ?_
              rintro e w9 ⟨v9, rfl, ⟨b5, j5, b6, j6, rfl, HREST⟩, hb9⟩
              have hB9 := hB7.trans (hb9.mono hB7.size)
              clear HREST hb9 hs8
              go_wp2_with fail
              go_ret
              exact ⟨rfl, hB9⟩
            · have l1 : decide (at1 < (n : Int)) = false := decide_eq_false (by omega)
              obtain ⟨c0, c1, c2⟩ := TsV_at3 HT6.out hi
              go_wp2_with fail
              refine HLX2.out.mono ?_
              rintro e w7 ⟨g7, cap7, rfl, hb7, _, _, _, _⟩
              have hB7 := HB6.out.trans (hb7.mono HB6.out.size)
              obtain ⟨c0, c1, c2⟩ := TsV_at3 (HT6.out.grow hb7) hi
              have n5 : IntKind.i64.wrap ((n : Int) + (((tgL s)[q]'hi).t.size : Int)) = (n : Int) + (((tgL s)[q]'hi).t.size : Int) := IntWalk.i64_in _ (by omega)
              have n6 : (0 : Int) ≤ (n : Int) + (((tgL s)[q]'hi).t.size : Int) := by omega
              have n7 : (n : Int) + (((tgL s)[q]'hi).t.size : Int) ≤ (s.size : Int) := by omega
              have n8 : ((n : Int) + (((tgL s)[q]'hi).t.size : Int)).toNat = n + ((tgL s)[q]'hi).t.size := by omega
              have hs8 := HSCH.out ((s.extract 0 (n + ((tgL s)[q]'hi).t.size) ++ ⟨#[32]⟩) ++ behind) w7 (by rw [ByteArray.size_append, ByteArray.size_append, ByteArray.size_extract]; show _ + 1 + _ ≤ _; omega) hB7
              rw [HX2.out] at hs8
              clear hb7
              go_wp2_with fail
              refine hs8.mono ?_
              rintro e w9 ⟨v9, rfl, ⟨b5, j5, b6, j6, rfl, HREST⟩, hb9⟩
              have hB9 := hB7.trans (hb9.mono hB7.size)
              clear HREST hb9 hs8
              go_wp2_with fail
              go_ret
              exact ⟨rfl, hB9⟩
            · have l1 : decide (at1 < (n : Int)) = false := decide_eq_false (by omega)
              obtain ⟨c0, c1, c2⟩ := TsV_at3 HT6.out hi
              go_wp2_with fail
              refine HLX2.out.mono ?_
              rintro e w7 ⟨g7, cap7, rfl, hb7, _, _, _, _⟩
              have hB7 := HB6.out.trans (hb7.mono HB6.out.size)
              obtain ⟨c0, c1, c2⟩ := TsV_at3 (HT6.out.grow hb7) hi
              have n5 : IntKind.i64.wrap ((n : Int) + (((tgL s)[q]'hi).t.size : Int)) = (n : Int) + (((tgL s)[q]'hi).t.size : Int) := IntWalk.i64_in _ (by omega)
              have n6 : (0 : Int) ≤ (n : Int) + (((tgL s)[q]'hi).t.size : Int) := by omega
              have n7 : (n : Int) + (((tgL s)[q]'hi).t.size : Int) ≤ (s.size : Int) := by omega
              have n8 : ((n : Int) + (((tgL s)[q]'hi).t.size : Int)).toNat = n + ((tgL s)[q]'hi).t.size := by omega
              have hs8 := HSCH.out ((s.extract 0 (n + ((tgL s)[q]'hi).t.size) ++ ⟨#[32]⟩) ++ behind) w7 (by rw [ByteArray.size_append, ByteArray.size_append, ByteArray.size_extract]; show _ + 1 + _ ≤ _; omega) hB7
              rw [HX2.out] at hs8
              clear hb7
              go_wp2_with fail
              refine hs8.mono ?_
              rintro e w9 ⟨v9, rfl, ⟨b5, j5, b6, j6, rfl, HREST⟩, hb9⟩
              have hB9 := hB7.trans (hb9.mono hB7.size)
              clear HREST hb9 hs8
              go_wp2_with fail
              go_ret
              exact ⟨rfl, hB9⟩
  · go_enter Tryd.func6, Tryd.ntmps6
    go_wp2_with fail
    refine HA.out.mono ?_
    rintro e w1 ⟨rfl, hb1⟩
    go_upto_region 5 with fail
    clear d1 d2 d3 d4
    have hs1 := HSCH.out s w1 (by omega) hb1
    rw [hX] at hs1
    go_wp2_with fail
    refine hs1.mono ?_
    rintro e w2 ⟨v2, rfl, ⟨a2, k2, a3, k3, rfl, HREST⟩, hb2⟩
    have hb2 := hb1.trans (hb2.mono hb1.size)
    clear HREST hs1 hb1
    go_upto_region 6 with fail
    generalize hw3 : w2.alloc (.cells #[_, _, _, _] 25) = w3
    have hb3 : Below W.heap.size W w3 := by rw [← hw3]; exact hb2.alloc hb2.size _
    clear hw3 hb2
    go_wp2_with fail
    refine (HLEX.out _).mono ?_
    rintro e w4 ⟨g, cap, rfl, hb4, htv⟩
    have HB4 := Lib.hid (hb3.trans (hb4.mono hb3.size))
    have HTV := Lib.hid htv
    clear hb3 hb4 htv HLEX
    go_wp2_with fail
    go_loopw [11] (fun q wr => FiR s i g W q wr) (fun q _ => (tgL s).length - (intOf q).toNat)
    case atStart => exact ⟨0, rfl, Nat.zero_le _, HB4.out, HTV.out⟩
    case round =>
      clear HB4 HTV
      obtain ⟨q, rfl, hq, hbr, htr⟩ := hrel
      have HBR := Lib.hid hbr
      have HTR := Lib.hid htr
      obtain ⟨g', o, hgo, hgl, c0, c1, c2⟩ := htr.get (i := q) (by omega)
      injection hgo with hgo
      injection hgo with hgo hgo2
      subst hgo; subst hgo2
      rw [Nat.zero_add] at c0 c1 c2
      have n0 : (0 : Int) ≤ (q : Int) := by omega
      have n1 : (q : Int) < ((tgL s).length : Int) := by omega
      have n2 : decide ((q : Int) < ((tgL s).length : Int)) = true := decide_eq_true n1
      clear hbr htr
      by_cases hqi : q < i
      · have hne := HBEF.out q hqi
        have m1 : (((tgL s)[q]'(Nat.lt_trans hqi hi)).a != (n : Int)) = true := bne_iff_ne.2 hne
        have m10 : IntKind.i64.wrap ((q : Int) + 1) = (q : Int) + 1 := IntWalk.i64_in _ (by omega)
        go_wp2_with fail
        exact ⟨⟨q + 1, by go_num, by omega, HBR.out, HTR.out⟩, by simp [intOf]; omega⟩
      · obtain rfl : q = i := by omega
        have m1 : (((tgL s)[q]'hi).a != (n : Int)) = false := by rw [hat]; simp
        have sx1 : (s.extract 0 n).size = n := by rw [ByteArray.size_extract]; omega
        have hs2 := HSCH.out (s.extract 0 n) wr (by rw [sx1]; omega) HBR.out
        rw [HX1.out] at hs2
        have n3 : (n : Int) ≤ (s.size : Int) := by omega
        have n4 : (0 : Int) ≤ (n : Int) := by omega
        have hhA := HA1.out
        go_wp2_with fail
        refine hs2.mono ?_
        rintro e w5 ⟨v5, rfl, ⟨a5, k5, a6, k6, rfl, HREST⟩, hb5⟩
        clear HREST hs2
        have HB5 := Lib.hid (HBR.out.trans (hb5.mono HBR.out.size))
        have HT5 := Lib.hid (HTR.out.grow hb5)
        clear hb5 HBR HTR
        go_upto_region 14 with fail
        generalize hw6 : w5.alloc (.cells #[_, _, _, _] 25) = w6
        have hb6 : Below w5.heap.size w5 w6 := by rw [← hw6]; exact (Below.refl _ _).alloc (Nat.le_refl _) _
        have HB6 := Lib.hid (HB5.out.trans (hb6.mono HB5.out.size))
        have HT6 := Lib.hid (HT5.out.grow hb6)
        clear hw6 hb6 HB5 HT5
        obtain ⟨g', o, hgo, hgl, c0, c1, c2⟩ := HT6.out.get (i := q) hi
        injection hgo with hgo
        injection hgo with hgo hgo2
        subst hgo; subst hgo2
        rw [Nat.zero_add] at c0 c1 c2
        have HH := Lib.hid hhA
        clear hhA HX1
        clear c0 c1 c2
        by_cases h5 : ((tgL s)[q]'hi).k = 5
        · have m2 : (((tgL s)[q]'hi).k == 5) = true := by rw [h5]; rfl
          have LAST : ∀ w, Below W.heap.size W w → True := fun _ _ => trivial
          rcases HH.out with rfl | rfl | ⟨rfl | rfl, hle⟩
          · obtain ⟨c0, c1, c2⟩ := TsV_at3 HT6.out hi
            go_wp2_with fail
            go_ret
            exact ⟨rfl, HB6.out⟩
          · obtain ⟨c0, c1, c2⟩ := TsV_at3 HT6.out hi
            go_wp2_with fail
            go_ret
            exact ⟨rfl, HB6.out⟩
          · have l1 : decide (at1 < (n : Int)) = false := decide_eq_false (by omega)
            obtain ⟨c0, c1, c2⟩ := TsV_at3 HT6.out hi
            go_wp2_with fail
            go_ret
            exact ⟨rfl, HB6.out⟩
          · have l1 : decide (at1 < (n : Int)) = false := decide_eq_false (by omega)
            obtain ⟨c0, c1, c2⟩ := TsV_at3 HT6.out hi
            go_wp2_with fail
            go_ret
            exact ⟨rfl, HB6.out⟩
        · have m2 : (((tgL s)[q]'hi).k == 5) = false := beq_eq_false_iff_ne.2 h5
          obtain ⟨hsz, hres⟩ := HB1.out h5
          have HRES := Lib.hid hres
          clear hres
          cases hlb : lexErr behind with
          | some an =>
            obtain ⟨a, z⟩ := an
            have hz0 : (z != 0) = true := bne_iff_ne.2 (lexErr_ne hlb)
            have hlx2 := HLB.out w6
            unfold LxP at hlx2
            rw [hlb] at hlx2
            simp only at hlx2
            have HLX2 := Lib.hid hlx2
            clear hlx2 hlb HRES
            rcases HH.out with rfl | rfl | ⟨rfl | rfl, hle⟩
            · obtain ⟨c0, c1, c2⟩ := TsV_at3 HT6.out hi
              go_wp2_with fail
              refine HLX2.out.mono ?_
              rintro e w7 ⟨rfl, hb7⟩
              have hB7 := HB6.out.trans (hb7.mono HB6.out.size)
              clear hb7
              go_wp2_with fail
              go_ret
              exact ⟨rfl, hB7⟩
            · obtain ⟨c0, c1, c2⟩ := TsV_at3 HT6.out hi
              go_wp2_with fail
              refine HLX2.out.mono ?_
              rintro e w7 ⟨rfl, hb7⟩
              have hB7 := HB6.out.trans (hb7.mono HB6.out.size)
              clear hb7
              go_wp2_with fail
              go_ret
              exact ⟨rfl, hB7⟩
            · have l1 : decide (at1 < (n : Int)) = false := decide_eq_false (by omega)
              obtain ⟨c0, c1, c2⟩ := TsV_at3 HT6.out hi
              go_wp2_with fail
              refine HLX2.out.mono ?_
              rintro e w7 ⟨rfl, hb7⟩
              have hB7 := HB6.out.trans (hb7.mono HB6.out.size)
              clear hb7
              go_wp2_with fail
              go_ret
              exact ⟨rfl, hB7⟩
            · have l1 : decide (at1 < (n : Int)) = false := decide_eq_false (by omega)
              obtain ⟨c0, c1, c2⟩ := TsV_at3 HT6.out hi
              go_wp2_with fail
              refine HLX2.out.mono ?_
              rintro e w7 ⟨rfl, hb7⟩
              have hB7 := HB6.out.trans (hb7.mono HB6.out.size)
              clear hb7
              go_wp2_with fail
              go_ret
              exact ⟨rfl, hB7⟩
          | none =>
            have hres := HRES.out hlb
            obtain ⟨x2, hX2⟩ : ∃ x2, formRes true (rightB true) ((s.extract 0 (n + ((tgL s)[q]'hi).t.size) ++ ⟨#[32]⟩) ++ behind) = x2 := ⟨_, rfl⟩
            obtain ⟨fo2, at2, e2⟩ := x2
            rw [hX2] at hres
            obtain ⟨r1, r2⟩ := hres
            simp only at r1 r2
            subst r1
            subst r2
            have HX2 := Lib.hid hX2
            have hlx2 := HLB.out w6
            unfold LxP at hlx2
            rw [hlb] at hlx2
            simp only at hlx2
            have HLX2 := Lib.hid hlx2
            clear hlx2 hlb HRES hX2
            rcases HH.out with rfl | rfl | ⟨rfl | rfl, hle⟩
            · obtain ⟨c0, c1, c2⟩ := TsV_at3 HT6.out hi
              go_wp2_with fail
              refine HLX2.out.mono ?_
              rintro e w7 ⟨g7, cap7, rfl, hb7, _, _, _, _⟩
              have hB7 := HB6.out.trans (hb7.mono HB6.out.size)
              obtain ⟨c0, c1, c2⟩ := TsV_at3 (HT6.out.grow hb7) hi
              have n5 : IntKind.i64.wrap ((n : Int) + (((tgL s)[q]'hi).t.size : Int)) = (n : Int) + (((tgL s)[q]'hi).t.size : Int) := IntWalk.i64_in _ (by omega)
              have n6 : (0 : Int) ≤ (n : Int) + (((tgL s)[q]'hi).t.size : Int) := by omega
              have n7 : (n : Int) + (((tgL s)[q]'hi).t.size : Int) ≤ (s.size : Int) := by omega
              have n8 : ((n : Int) + (((tgL s)[q]'hi).t.size : Int)).toNat = n + ((tgL s)[q]'hi).t.size := by omega
              have hs8 := HSCH.out ((s.extract 0 (n + ((tgL s)[q]'hi).t.size) ++ ⟨#[32]⟩) ++ behind) w7 (by rw [ByteArray.size_append, ByteArray.size_append, ByteArray.size_extract]; show _ + 1 + _ ≤ _; omega) hB7
              rw [HX2.out] at hs8
              clear hb7
              go_wp2_with fail
              refine hs8.mono ?_
              rintro e w9 ⟨v9, rfl, ⟨b5, j5, b6, j6, rfl, HREST⟩, hb9⟩
              have hB9 := hB7.trans (hb9.mono hB7.size)
              clear HREST hb9 hs8
              go_wp2_with fail
              go_ret
              exact ⟨rfl, hB9⟩
            · obtain ⟨c0, c1, c2⟩ := TsV_at3 HT6.out hi
              go_wp2_with fail
              refine HLX2.out.mono ?_
              rintro e w7 ⟨g7, cap7, rfl, hb7, _, _, _, _⟩
              have hB7 := HB6.out.trans (hb7.mono HB6.out.size)
              obtain ⟨c0, c1, c2⟩ := TsV_at3 (HT6.out.grow hb7) hi
              have n5 : IntKind.i64.wrap ((n : Int) + (((tgL s)[q]'hi).t.size : Int)) = (n : Int) + (((tgL s)[q]'hi).t.size : Int) := IntWalk.i64_in _ (by omega)
              have n6 : (0 : Int) ≤ (n : Int) + (((tgL s)[q]'hi).t.size : Int) := by omega
              have n7 : (n : Int) + (((tgL s)[q]'hi).t.size : Int) ≤ (s.size : Int) := by omega
              have n8 : ((n : Int) + (((tgL s)[q]'hi).t.size : Int)).toNat = n + ((tgL s)[q]'hi).t.size := by omega
              have hs8 := HSCH.out ((s.extract 0 (n + ((tgL s)[q]'hi).t.size) ++ ⟨#[32]⟩) ++ behind) w7 (by rw [ByteArray.size_append, ByteArray.size_append, ByteArray.size_extract]; show _ + 1 + _ ≤ _; omega) hB7
              rw [HX2.out] at hs8
              clear hb7
              go_wp2_with fail
              refine hs8.mono ?_
              rintro e w9 ⟨v9, rfl, ⟨b5, j5, b6, j6, rfl, HREST⟩, hb9⟩
              have hB9 := hB7.trans (hb9.mono hB7.size)
              clear HREST hb9 hs8
              go_wp2_with fail
              go_ret
              exact ⟨rfl, hB9⟩
            · have l1 : decide (at1 < (n : Int)) = false := decide_eq_false (by omega)
              obtain ⟨c0, c1, c2⟩ := TsV_at3 HT6.out hi
              go_wp2_with fail
              refine HLX2.out.mono ?_
              rintro e w7 ⟨g7, cap7, rfl, hb7, _, _, _, _⟩
              have hB7 := HB6.out.trans (hb7.mono HB6.out.size)
              obtain ⟨c0, c1, c2⟩ := TsV_at3 (HT6.out.grow hb7) hi
              have n5 : IntKind.i64.wrap ((n : Int) + (((tgL s)[q]'hi).t.size : Int)) = (n : Int) + (((tgL s)[q]'hi).t.size : Int) := IntWalk.i64_in _ (by omega)
              have n6 : (0 : Int) ≤ (n : Int) + (((tgL s)[q]'hi).t.size : Int) := by omega
              have n7 : (n : Int) + (((tgL s)[q]'hi).t.size : Int) ≤ (s.size : Int) := by omega
              have n8 : ((n : Int) + (((tgL s)[q]'hi).t.size : Int)).toNat = n + ((tgL s)[q]'hi).t.size := by omega
              have hs8 := HSCH.out ((s.extract 0 (n + ((tgL s)[q]'hi).t.size) ++ ⟨#[32]⟩) ++ behind) w7 (by rw [ByteArray.size_append, ByteArray.size_append, ByteArray.size_extract]; show _ + 1 + _ ≤ _; omega) hB7
              rw [HX2.out] at hs8
              clear hb7
              go_wp2_with fail
              refine hs8.mono ?_
              rintro e w9 ⟨v9, rfl, ⟨b5, j5, b6, j6, rfl, HREST⟩, hb9⟩
              have hB9 := hB7.trans (hb9.mono hB7.size)
              clear HREST hb9 hs8
              go_wp2_with fail
              go_ret
              exact ⟨rfl, hB9⟩
            · have l1 : decide (at1 < (n : Int)) = false := decide_eq_false (by omega)
              obtain ⟨c0, c1, c2⟩ := TsV_at3 HT6.out hi
              go_wp2_with fail
              refine HLX2.out.mono ?_
              rintro e w7 ⟨g7, cap7, rfl, hb7, _, _, _, _⟩
              have hB7 := HB6.out.trans (hb7.mono HB6.out.size)
              obtain ⟨c0, c1, c2⟩ := TsV_at3 (HT6.out.grow hb7) hi
              have n5 : IntKind.i64.wrap ((n : Int) + (((tgL s)[q]'hi).t.size : Int)) = (n : Int) + (((tgL s)[q]'hi).t.size : Int) := IntWalk.i64_in _ (by omega)
              have n6 : (0 : Int) ≤ (n : Int) + (((tgL s)[q]'hi).t.size : Int) := by omega
              have n7 : (n : Int) + (((tgL s)[q]'hi).t.size : Int) ≤ (s.size : Int) := by omega
              have n8 : ((n : Int) + (((tgL s)[q]'hi).t.size : Int)).toNat = n + ((tgL s)[q]'hi).t.size := by omega
              have hs8 := HSCH.out ((s.extract 0 (n + ((tgL s)[q]'hi).t.size) ++ ⟨#[32]⟩) ++ behind) w7 (by rw [ByteArray.size_append, ByteArray.size_append, ByteArray.size_extract]; show _ + 1 + _ ≤ _; omega) hB7
              rw [HX2.out] at hs8
              clear hb7
              go_wp2_with fail
              refine hs8.mono ?_
              rintro e w9 ⟨v9, rfl, ⟨b5, j5, b6, j6, rfl, HREST⟩, hb9⟩
              have hB9 := hB7.trans (hb9.mono hB7.size)
              clear HREST hb9 hs8
              go_wp2_with fail
              go_ret
              exact ⟨rfl, hB9⟩
end Go.Proofs.YtggkehncpkfakaaDoor.Ps
