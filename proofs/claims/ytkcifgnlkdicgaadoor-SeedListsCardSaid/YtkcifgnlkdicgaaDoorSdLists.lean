/-
  SeedLists: Perm, Choose and Weigh return lists and numbers of the form that the document tells.
-/
import Derived.Test.YtkcifgnlkdicgaaDoorSdLiM
import Derived.Test.YtkcifgnlkdicgaaDoorSdLiN
import Derived.Test.YtkcifgnlkdicgaaDoorSdAw
import Derived.Test.YtkcifgnlkdicgaaDoorSdSub
import Derived.Test.YtkcifgnlkdicgaaDoorSdSt
import Derived.Test.YtkcifgnlkdicgaaDoorSdDraws
import Derived.Test.YtkcifgnlkdicgaaDoorSdLent
import Derived.Deep.RegionHeld3
import Derived.Sort.AtCall
import Derived.Deep.QuietTactic
import Derived.BigQuiet
import Derived.IntWalk
namespace Go.Proofs.YtkcifgnlkdicgaaDoor.Sd
open Go Go.RowKit
set_option linter.unusedVariables false
set_option linter.unusedSimpArgs false
/-- A slice of bytes that came in: nil, or a row somewhere. -/
def In8 (w : World) (v : Value) (xs : List Int) : Prop :=
  (v = .slice none 0 0 ∧ xs = []) ∨ ∃ (a : Addr) (cap : Nat), v = .slice (some a) xs.length cap ∧ (∀ q, q < xs.length → a.block < w.heap.size ∧ w.cell? (a.add q) = some (.int .u8 (xs.getD q 0))) ∧ (xs = [] ∨ a.spot = none)
theorem In8.reads {w : World} {v : Value} {xs : List Int} (h : In8 w v xs) : ∃ sa cap, v = .slice sa xs.length cap ∧ (xs = [] ∨ ∃ g off, sa = some ⟨g, off, none⟩ ∧ g < w.heap.size ∧ ∀ q, q < xs.length → w.cell? ⟨g, off + q, none⟩ = some (.int .u8 (xs.getD q 0))) := by
  rcases h with ⟨rfl, rfl⟩ | ⟨a, cap, rfl, hc, hs⟩
  · exact ⟨none, 0, rfl, .inl rfl⟩
  · refine ⟨_, cap, rfl, ?_⟩
    by_cases he : xs = []
    · exact .inl he
    · have hp : 0 < xs.length := List.length_pos_iff.2 he
      have hs2 := hs.resolve_left he
      obtain ⟨g, off, sp⟩ := a
      have hs3 : sp = none := hs2
      subst hs3
      refine .inr ⟨g, off, rfl, (hc 0 hp).1, fun q hq => ?_⟩
      have := (hc q hq).2
      rw [add_at] at this
      exact this
def LiRel3 (ws : List Int) (k : Int) (s0 base : Nat) (w w6 : World) (v s x : Value) (wr : World) : Prop :=
  ∃ q : Nat, x = .int .i64 (q : Int) ∧ q ≤ ws.length ∧ q ≤ 100 ∧ s = .int .i64 (sumI (ws.take q)) ∧ wr.ownsRow base 3 1 v q ((ws.take q).map (Value.int .i64)) ∧ St k s0 w wr ∧ Below base w6 wr
theorem iota_len' (n : Nat) : (iota n).length = n := by simp [iota]
theorem Ints.row {base n cap : Nat} {w : World} {a : Option Addr} {xs : List Int} (h : Ints base w (.slice a n cap) xs) (hn : 0 < xs.length) : ∃ g, a = some ⟨g, 0, none⟩ ∧ Row w g xs := by
  obtain ⟨a', c', he, hx⟩ := h
  rcases hx with rfl | ⟨g, ha, _, hr⟩
  · simp at hn
  · injection he with h1 h2 h3
    exact ⟨g, by rw [h1]; exact ha, hr⟩
def LiRel1 (l : List Int) (n B : Nat) (w5 : World) (v : Value) (wr : World) : Prop := ∃ x : Nat, v = .int .i64 (x : Int) ∧ x ≤ n ∧ Row wr B (cnt l n x) ∧ Below B w5 wr
def LiRel2 (l : List Int) (n B : Nat) (w5 : World) (m : Nat) (v : Value) (wr : World) : Prop := ∃ x : Nat, v = .int .i64 (x : Int) ∧ x ≤ m ∧ Row wr B (cnt l n n) ∧ Below B w5 wr
set_option maxRecDepth 100000 in
set_option maxHeartbeats 2000000 in
theorem seed_lists_c (k a z h : Int) (ws : List Int) (v : Value) (w : World) (hT : Tab w) (hk0 : 0 ≤ k) (hk1 : k < 18446744073709551616) (ha0 : -9223372036854775808 ≤ a) (ha1 : a ≤ 9223372036854775807) (hz0 : 0 ≤ z) (hz1 : z ≤ 255) (hh0 : 0 ≤ h) (hh1 : h ≤ 255)
    (hv : In8 w v ws) (hwz : ∀ x ∈ ws, 0 ≤ x ∧ x ≤ 255) (hl : ws.length ≤ 140737488351232) :
    Calls Tryd.prog 10 #[.int .u64 k, .int .i64 a, .int .u8 z, .int .u8 h, v] w fun e w' => e = .returned (.bool true) ∧ Below w.heap.size w w' := by
  have hi0 := Int.emod_nonneg a (show (549755813888 : Int) ≠ 0 by decide)
  have hi1 := Int.emod_lt_of_pos a (show (0 : Int) < 549755813888 by decide)
  have hP := Lib.hid (fun w => pick_c a 549755813888 w ha0 ha1 (by decide) (by decide))
  generalize a % 549755813888 = i at *
  obtain ⟨sa, cw, rfl, hrd⟩ := hv.reads
  have HR := Lib.hid hrd
  have HZ := Lib.hid hwz
  clear hv hrd hwz
  go_enter Tryd.func10, Tryd.ntmps10
  go_wp2_with fail
  refine (awake_c _ hT).mono ?_
  rintro e w1 ⟨rfl, hb⟩
  go_wp2_with fail
  have hS : St k w1.heap.size w (w1.alloc (.cells #[.int .u64 k] 33)) := St.start hT hb
  have hc := hS.cell
  clear hb
  refine (hP.out _).mono ?_
  rintro e w2 ⟨rfl, rfl⟩
  obtain ⟨n, hn⟩ : ∃ n : Nat, (n : Int) = z % 101 := ⟨(z % 101).toNat, by omega⟩
  obtain ⟨p, hp⟩ : ∃ p : Nat, (p : Int) = h % (n + 1) := ⟨(h % ((n : Int) + 1)).toNat, by have := Int.emod_nonneg h (show ((n : Int) + 1) ≠ 0 by omega); omega⟩
  have hpn : (p : Int) ≤ n := by have := Int.emod_lt_of_pos h (show 0 < (n : Int) + 1 by omega); omega
  have hn2 : (n : Int) ≤ 100 := by omega
  go_wp2_with fail
  rw [← hn, ← hp]
  clear hn hp
  obtain ⟨l, j, fl, j2, fa, j3, f1, f2, ⟨f3, f4⟩, f5, f6, f7, f8, f9⟩ := lists_facts k i n p hi0 hi1 (by omega) (by omega)
  have F3 := Lib.hid f3
  have F4 := Lib.hid f4
  have F5 := Lib.hid f5
  have F7 := Lib.hid f7
  have F8 := Lib.hid f8
  have F9 := Lib.hid f9
  clear f3 f4 f5 f7 f8 f9
  refine (perm_some_c k i j n l _ hk0 hk1 hS.tab hi0 (by omega) (by omega) f1).mono ?_
  clear f1
  rintro e w3 ⟨rfl, hrow, hlen, hb⟩
  have HL := Lib.hid hlen
  have hS3 := hS.step hb
  have hc3 := hS3.cell
  obtain ⟨g, hg⟩ : ∃ g, (w1.alloc (.cells #[.int .u64 k] 33)).heap.size + 2 = g := ⟨_, rfl⟩
  rw [hg] at hrow ⊢
  have hgl := hrow.lt
  clear hS hc hb hlen hg
  go_wp2_with fail
  refine (choose_some_c k i j2 n p fl _ hk0 hk1 hS3.tab hi0 (by omega) (by omega) (by omega) F5.out).mono ?_
  rintro e w4 ⟨vc, rfl, hic, hb⟩
  obtain ⟨ac, cc, hvc⟩ : ∃ a cap, vc = .slice a p cap := by
    obtain ⟨a, c, h, _⟩ := hic
    exact ⟨a, c, by rw [h, F7.out]⟩
  subst hvc
  have hrow4 := hrow.below hb hgl
  have hS4 := hS3.step hb
  have hc4 := hS4.cell
  have hgl4 := hrow4.lt
  clear hS3 hc3 hb hrow hgl
  go_wp2_with fail
  refine (choose_some_c k i j3 n n fa _ hk0 hk1 hS4.tab hi0 (by omega) (by omega) (by omega) F8.out).mono ?_
  rintro e w5 ⟨va, rfl, hia, hb⟩
  rw [F9.out] at hia
  obtain ⟨aa, ca, hva⟩ : ∃ a cap, va = .slice a n cap := by
    obtain ⟨a, c, h, _⟩ := hia
    exact ⟨a, c, by rw [h]; simp [iota]⟩
  subst hva
  have hrow5 := hrow4.below hb hgl4
  have hic5 := hic.below hb
  have hS5 := hS4.step hb
  have hc5 := hS5.cell
  clear hS4 hc4 hb hrow4 hgl4 hic
  have hmk := make_ints n n (Nat.le_refl _) (by omega)
  obtain ⟨M, hM1, hM2⟩ : ∃ M : Int, (if (0 : Int) > (n : Int) - 1 then 0 else (n : Int) - 1) = M ∧ 0 ≤ M ∧ M ≤ 100 ∧ i + M ≤ j := ⟨_, rfl, by split <;> omega⟩
  have hrmax : ∀ ts t W, (Builtin.max_ ts t #[.int .i64 ((n : Int) - 1), .int .i64 0]).run Tryd.prog W = .ok (.int .i64 M) W := fun ts t W => by
    rw [← hM1]; exact run_max_int2 (w := W) ts t .i64 .i64 ((n : Int) - 1) 0
  clear hM1
  obtain ⟨B, hB⟩ : ∃ B, w5.heap.size = B := ⟨_, rfl⟩
  have hT1 := Row.made w5 n
  rw [hB, ← cnt_zero l n] at hT1
  have hb1 : Below B w5 (w5.alloc (.cells (zer n) 3)) := by rw [← hB]; exact (Below.refl _ _).alloc (Nat.le_refl _) _
  go_wp2_with fail
  go_loopw [25] (fun x wr => LiRel1 l n B w5 x wr) (fun x _ => n - (intOf x).toNat)
  case atStart => exact ⟨0, rfl, Nat.zero_le _, hT1, hb1⟩
  case round =>
    clear hT1 hb1
    obtain ⟨x, rfl, hx, hT1, hb1⟩ := hrel
    by_cases hlt : (x : Int) < n
    · have hlt0 : x < n := by omega
      have hxl : x < l.length := by have := HL.out; omega
      obtain ⟨ga, rfl, hra⟩ := hia.row (by rw [iota_len']; omega)
      have hra2 := hra.below hb1 (by rw [← hB]; exact hra.lt)
      have hrl2 := hrow5.below hb1 (by rw [← hB]; exact hrow5.lt)
      have hmem := (F4.out l[x]).1 (List.getElem_mem hxl)
      obtain ⟨q, hq⟩ := Int.eq_ofNat_of_zero_le hmem.1
      have hqn : q < n := by omega
      have hq0 : (0 : Int) ≤ (q : Int) := by omega
      have hq1 : (q : Int) < n := by omega
      have cl := hrl2.cell x hxl
      rw [show l.getD x 0 = (q : Int) by rw [List.getD_eq_getElem?_getD, List.getElem?_eq_getElem hxl]; exact hq] at cl
      have ca := hra2.cell x (by rw [iota_len']; omega)
      rw [show (iota n).getD x 0 = (x : Int) by simp [iota, List.getD_eq_getElem?_getD, hlt0]] at ca
      have cT := hT1.cell q (by rw [cnt_len]; exact hqn)
      rw [cnt_new l n x q F3.out hxl hq hqn] at cT
      have fT := hT1.free q (by rw [cnt_len]; exact hqn)
      have HS := Lib.hid (hT1.set q (by rw [cnt_len]; exact hqn) 1)
      have HE := Lib.hid (cnt_step l n x q hxl hq)
      have hb2 := hb1.setCell (p := ⟨B, q, none⟩) (Nat.le_refl _) (.int .i64 1)
      clear hra hra2 hrl2 hmem hT1
      go_wp2_with fail
      exact ⟨⟨x + 1, by go_num, by omega, by rw [← HE.out]; exact HS.out, hb2⟩, by simp [intOf]; omega⟩
    · have e : x = n := by omega
      rw [e] at hT1
      clear e hx
      go_wp2_with fail
      clear hlt
      obtain ⟨wo, rfl⟩ : ∃ wo : World, wo = wr := ⟨_, rfl⟩
      go_loopw [26] (fun x wr => LiRel2 l n B w5 n x wr) (fun x _ => n - (intOf x).toNat)
      case atStart => exact ⟨0, rfl, Nat.zero_le _, hT1, hb1⟩
      case round =>
        clear hT1 hb1
        obtain ⟨y, rfl, hy, hT1, hb1⟩ := hrel
        by_cases hlt : (y : Int) < n
        · have cT := hT1.cell y (by rw [cnt_len]; omega)
          rw [cnt_full l n y HL.out F4.out (by omega)] at cT
          go_wp2_with fail
          exact ⟨⟨y + 1, by go_num, by omega, hT1, hb1⟩, by simp [intOf]; omega⟩
        · as_aux_lemma =>
          go_wp2_with fail
          clear hlt hy
          obtain ⟨wo, rfl⟩ : ∃ wo : World, wo = wr := ⟨_, rfl⟩
          go_loopw [27] (fun x wr => LiRel2 l n B w5 p x wr) (fun x _ => p - (intOf x).toNat)
          case atStart => exact ⟨0, rfl, Nat.zero_le _, hT1, hb1⟩
          case round =>
            clear hT1 hb1
            obtain ⟨z3, rfl, hz, hT1, hb1⟩ := hrel
            by_cases hlt : (z3 : Int) < p
            · have hcl := F7.out
              obtain ⟨gc, rfl, hrc⟩ := hic5.row (by rw [hcl]; omega)
              have hrc2 := hrc.below hb1 (by rw [← hB]; exact hrc.lt)
              have hsrt := chosen_sorted fl n
              have hz3 : z3 < (chosenTo fl n).length := by omega
              have c1 := hrc2.cell z3 hz3
              obtain ⟨m1, m2⟩ := hsrt.2 _ (List.getElem_mem hz3)
              have e1 : (chosenTo fl n).getD z3 0 = (chosenTo fl n)[z3] := by rw [List.getD_eq_getElem?_getD, List.getElem?_eq_getElem hz3]; rfl
              rw [e1] at c1
              rcases Nat.eq_zero_or_pos z3 with h0 | h0
              · as_aux_lemma =>
                subst h0
                clear hsrt e1
                generalize (chosenTo fl n)[0] = cv at *
                obtain ⟨cn, rfl⟩ := Int.eq_ofNat_of_zero_le m1
                have d1 : decide ((cn : Int) < 0) = false := decide_eq_false (by omega)
                have d2 : decide ((n : Int) ≤ cn) = false := decide_eq_false (by omega)
                have d3 : decide (n ≤ cn) = false := decide_eq_false (by omega)
                have hp0 : 0 < p := by omega
                clear hpn m1 m2
                go_wp2_with fail
                go_quiet (fail)
                go_wp2_with fail
                exact ⟨⟨1, rfl, by omega, hT1.below (below_drewN (Below.refl (B + 1) wr) nq) (by omega), below_drewN hb1 nq⟩, by simp [intOf]; omega⟩
              · as_aux_lemma =>
                have hz4 : z3 - 1 < (chosenTo fl n).length := by omega
                have c2 := hrc2.cell (z3 - 1) hz4
                have e2 : (chosenTo fl n).getD (z3 - 1) 0 = (chosenTo fl n)[z3 - 1] := by rw [List.getD_eq_getElem?_getD, List.getElem?_eq_getElem hz4]; rfl
                rw [e2] at c2
                have hlt4 := List.pairwise_iff_getElem.1 hsrt.1 (z3 - 1) z3 hz4 hz3 (by omega)
                have hu := (hsrt.2 _ (List.getElem_mem hz4)).1
                clear hsrt e1 e2
                generalize (chosenTo fl n)[z3] = cv at *
                generalize (chosenTo fl n)[z3 - 1] = cu at *
                obtain ⟨cn, rfl⟩ := Int.eq_ofNat_of_zero_le m1
                obtain ⟨cm, rfl⟩ := Int.eq_ofNat_of_zero_le hu
                obtain ⟨z5, hz5⟩ : ∃ z5, z3 - 1 = z5 := ⟨_, rfl⟩
                rw [hz5] at c2
                have d1 : decide ((cn : Int) < 0) = false := decide_eq_false (by omega)
                have d2 : decide ((n : Int) ≤ cn) = false := decide_eq_false (by omega)
                have d3 : decide (n ≤ cn) = false := decide_eq_false (by omega)
                have d4 : decide ((0 : Int) < (z3 : Int)) = true := decide_eq_true (by omega)
                have d5 : decide ((cn : Int) ≤ cm) = false := decide_eq_false (by omega)
                have d6 : decide (cn ≤ cm) = false := decide_eq_false (by omega)
                have z6 : (0 : Int) ≤ (z5 : Int) := by omega
                have z7 : (z5 : Int) < p := by omega
                have z71 : z5 < p := by omega
                have z72 : z3 < p := by omega
                have d7 : 0 < z3 := by omega
                have z8 : (z3 : Int) - 1 = (z5 : Int) := by omega
                have z11 : (z3 : Int) ≤ 99 := by omega
                have z12 : z3 < 100 := by omega
                obtain ⟨z9, z10⟩ := sub_facts (z3 : Int) (z5 : Int) z8 z6 (by omega)
                clear hpn m1 m2 hlt4 hz5 hz4 hu
                go_wp2_with fail
                go_quiet (fail)
                clear z9 z10 z8
                go_wp2_with fail
                exact ⟨⟨z3 + 1, by go_num, by omega, hT1.below (below_drewN (Below.refl (B + 1) wr) nq) (by omega), below_drewN hb1 nq⟩, by simp [intOf]; omega⟩
            · as_aux_lemma =>
              go_wp2_with fail
              clear hlt hz
              have hS := hS5.step (show Below w5.heap.size w5 wr by rw [hB]; exact hb1)
              clear hS5 hc5 hb1 hB hT1 hrow5 hic5 hia hmk hrmax F3 F4 F5 F7 F8 F9 HL f2 f6 hpn hM2
              obtain ⟨wx, rfl⟩ : ∃ wx : World, wx = wr := ⟨_, rfl⟩
              go_loopw [28, 29, 30] (fun v s x wr => LiRel3 ws k w1.heap.size wx.heap.size w wx v s x wr) (fun _ _ x _ => ws.length - (intOf x).toNat)
              case atStart => exact ⟨0, rfl, Nat.zero_le _, Nat.zero_le _, rfl, ⟨rfl, .inl ⟨rfl, rfl⟩⟩, hS, Below.refl _ _⟩
              case round =>
                have hS0 := hS
                clear hS
                obtain ⟨q, rfl, hq1, hq2, rfl, hown, hS, hbw⟩ := hrel
                have hsm := sum_small (ws.take q) (small_take ws q HZ.out)
                have htl : (ws.take q).length ≤ 100 := by rw [List.length_take]; omega
                obtain ⟨sm, hsme⟩ : ∃ sm, sumI (ws.take q) = sm := ⟨_, rfl⟩
                rw [hsme] at hsm
                rw [hsme]
                have HSM := Lib.hid hsme
                have hs0 : 0 ≤ sm := hsm.1
                have hs1 : sm ≤ 25500 := by have := hsm.2; omega
                clear hsm hsme
                by_cases hgo : q < ws.length ∧ q < 100
                · obtain ⟨hlt, h100⟩ := hgo
                  have h100' : (q : Int) < 100 := by omega
                  have hws : wx.heap.size ≤ wr.heap.size := hbw.size
                  obtain ⟨g8, off8, hsa, hg8, hcell⟩ := HR.out.resolve_left (by rintro rfl; simp at hlt)
                  subst hsa
                  have hc8 := hcell q hlt
                  rw [← hS.below.cell (p := ⟨g8, off8 + q, none⟩) hg8] at hc8
                  have hbd := small_get ws q HZ.out hlt
                  have HT := Lib.hid (sum_take ws q hlt)
                  have HK := Lib.hid (take_snoc ws q hlt)
                  obtain ⟨b, hb⟩ : ∃ b, ws.getD q 0 = b := ⟨_, rfl⟩
                  rw [hb] at hc8 hbd HT HK
                  have hb0 := hbd.1
                  have hb9 := hbd.2
                  have HBQ := Lib.hid hb
                  clear hb hbd hcell HR
                  obtain ⟨i0, hi, hz0, hz1, hz2⟩ := info_parts info_int
                  go_wp2_with ((at_builtin; refine wpList_append_own _ rfl _ _ 26 rfl wx.heap.size 3 i0 (.int .i64 0) 1 8 Tryd.underlying26 hi hz0 hz1 hz2 rfl (by decide) _ _ _ rfl (hown.alloc _) ⟨wr.heap.size, 0, none⟩ 1 1 [.int .i64 b] rfl rfl ?c1 ?c2 ?c3 ?c4 ?c5 ?_))
                  case c1 => exact new_one _ _ _
                  case c2 => simp [Value.oneCell']
                  case c3 => unfold maxLen; omega
                  case c4 => omega
                  case c5 => simp; omega
                  intro v' w7 hown' hgrow _
                  have hb7 : Below wr.heap.size wr (wr.alloc (.cells #[.int .i64 b] 3)) := (Below.refl _ _).alloc (Nat.le_refl _) _
                  have hbw2 : Below wx.heap.size wx w7 := (hbw.alloc hws _).grown hgrow (by simp; omega) (own_ge hown)
                  have hSx : St k w1.heap.size w w7 := hS0.step hbw2
                  have hO : w7.ownsRow wx.heap.size 3 1 v' (q + 1) ((ws.take (q + 1)).map (Value.int .i64)) := by
                    rw [HK.out, List.map_append, List.map_take]; exact hown'
                  obtain ⟨g2, cap2, hg2, hbase, hcn, hcm, hrow⟩ := own_row hO (by omega)
                  subst hg2
                  have hcq := hrow.cell q (by rw [List.length_take]; omega)
                  rw [take_get ws (q + 1) q (by omega), HBQ.out] at hcq
                  have HO := Lib.hid hO
                  clear hown' hgrow hown hbw hS hb7 hO hrow hcm
                  go_wp2
                  exact ⟨⟨q + 1, by go_num, by omega, by omega, by rw [HT.out, HSM.out], HO.out, hSx, hbw2⟩, by simp [intOf]; omega⟩
                · have hlq : (ws.take q).length = q := by rw [List.length_take]; omega
                  have hI := (Ints.of_owns hown).reads
                  have hts := tot_small (ws.take q) htl (small_take ws q HZ.out)
                  rw [HSM.out] at hts
                  have HT1 := Lib.hid hts.1
                  have HT2 := Lib.hid hts.2.1
                  have hc := hS.cell
                  have hcase : (¬ q < ws.length) ∨ (q < ws.length ∧ decide ((q : Int) < 100) = false) := by
                    by_cases h : q < ws.length
                    · exact .inr ⟨h, decide_eq_false (by omega)⟩
                    · exact .inl h
                  clear hgo hts HR hbw hS0
                  rcases hcase with hlt | ⟨hlt, h100⟩
                  all_goals
                    by_cases hsm : sm = 0
                    · subst hsm
                      have hok : totOk (ws.take q) = false := by rw [HT1.out]; rfl
                      have HW := Lib.hid (fun V W (hr : RInts W V (ws.take q)) => weigh_err_c k i (ws.take q) V W hr (by omega) (.inr (.inr hok)))
                      clear hok HT1 HT2 hlq htl hown
                      go_wp2_with fail
                      refine (HW.out _ _ hI).mono ?_
                      rintro e w8 ⟨rfl, hb⟩
                      have hB8 := (hS.step hb).below
                      clear hS hb hI hc HW
                      go_wp2_with fail
                      go_ret
                      exact ⟨by simp, hB8⟩
                    · have hq0 : 0 < q := by
                        rcases Nat.eq_zero_or_pos q with h | h
                        · subst h; exact absurd (by rw [← HSM.out]; rfl) hsm
                        · exact h
                      have hsp : 0 < sm := by omega
                      have hse : (sm == 0) = false := beq_eq_false_iff_ne.2 hsm
                      obtain ⟨t, j9, hb9, ht0, ht1, hj0, hj1⟩ := below_within k i sm (by omega) hi0 (by omega)
                      obtain ⟨q9, hpk, hp1, hp2⟩ := pick_pos (ws.take q) t 0 ht0 (by rw [HSM.out]; exact ht1)
                      rw [hlq] at hp1
                      have hok : totOk (ws.take q) = true := by rw [HT1.out]; exact decide_eq_true hsp
                      have HW := Lib.hid (fun V W (hT' : Tab W) (hr : RInts W V (ws.take q)) => weigh_some_c k i t j9 (ws.take q) V W hk0 hk1 hT' hi0 (by omega) hr hok (by rw [HT2.out]; exact hb9))
                      rw [hpk, Int.zero_add] at HW
                      obtain ⟨g2, cap2, hg2, hbase, hcn, hcm, hrow⟩ := own_row hown hq0
                      subst hg2
                      have hcq := hrow.cell q9 (by rw [hlq]; exact hp1)
                      have hgl := hrow.lt
                      obtain ⟨u, hu⟩ : ∃ u, (ws.take q).getD q9 0 = u := ⟨_, rfl⟩
                      rw [hu] at hcq hp2
                      clear hok HT1 HT2 hlq htl hown hpk hb9 hu hrow hsm hcm
                      go_wp2_with fail
                      refine (HW.out _ _ hS.tab hI).mono ?_
                      rintro e w8 ⟨rfl, hb⟩
                      have hc9 : w8.cell? ⟨g2, q9, none⟩ = some (.int .i64 u) := by rw [hb.cell (p := ⟨g2, q9, none⟩) hgl]; exact hcq
                      have hB8 := (hS.step hb).below
                      clear hS hb hI hc HW hcq
                      go_wp2_with fail
                      go_ret
                      exact ⟨by simp, hB8⟩
end Go.Proofs.YtkcifgnlkdicgaaDoor.Sd
