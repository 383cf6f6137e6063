/-
  LexBoth: two texts with a blank between them.
-/
import Derived.Test.YteoaglhdandhkaaLxLongest
import Derived.Test.YteoaglhdandhkaaLxCap
namespace Go.Proofs.Yteoaglhdandhkaa.Lx
open Go Go.RowKit Go.Shelf Go.Proofs.Yteoaglhdandhkaa.Fm
set_option linter.unusedVariables false
set_option linter.unusedSimpArgs false
theorem lex_ok_cap (s : ByteArray) (w : World) (hs : s.size ≤ 16384) (he : errs (ysL s) = false) : Calls Try.prog 13 #[.string s] w fun e w' => ∃ g cap, e = .returned (.tuple #[.slice (some ⟨g, 0, none⟩) (tgL s).length cap, .int .i64 0, .int .i64 0]) ∧ (tgL s).length ≤ cap ∧ Below w.heap.size w w' ∧ TsV w' (some ⟨g, 0, none⟩) (tgL s) := by
  refine (callsIn_wide.1 (lex_any_cap s w hs)).mono ?_
  rintro e w' ⟨hb, h | ⟨_, g, cap, rfl, hc, h1, h2, h3⟩⟩
  · rw [he] at h; exact absurd h.1 (by decide)
  · refine ⟨g, cap, by unfold tgL; rw [List.length_map], by unfold tgL; rw [List.length_map]; exact hc, hb, ⟨.inr ⟨g, 0, rfl, h2, fun j u hj => ?_⟩⟩⟩
    rw [Nat.zero_add]
    exact h3 j u (by unfold tgL at hj; rw [flatG_toG] at hj; exact hj)
def shG (d : Nat) (t : Tg) : Tg := ⟨t.k, t.t, t.a + d⟩
theorem both_er1 (s t u : ByteArray) (b : UInt8) (hb : blk b = true) (h : u.data.toList = s.data.toList ++ b :: t.data.toList) (he : errs (ysL s) = true) : ysL u = ysL s := by
  rw [ys_both s t u b hb h, if_pos he]
theorem both_er2 (s t u : ByteArray) (b : UInt8) (hb : blk b = true) (h : u.data.toList = s.data.toList ++ b :: t.data.toList) (he : errs (ysL s) = false) {z : Tk × Nat} (hz : (ysL t).getLast? = some z) : (ysL u).getLast? = some (mv (s.size + 1) z) := by
  rw [ys_both s t u b hb h, if_neg (by rw [he]; decide), List.getLast?_append, List.getLast?_map, hz]; rfl
theorem both_ok (s t u : ByteArray) (b : UInt8) (hb : blk b = true) (h : u.data.toList = s.data.toList ++ b :: t.data.toList) (he : errs (ysL s) = false) (hf : errs (ysL t) = false) : errs (ysL u) = false ∧ tgL u = (tgL s).dropLast ++ (tgL t).map (shG (s.size + 1)) := by
  have hy := ys_both s t u b hb h
  rw [if_neg (by rw [he]; decide)] at hy
  constructor
  · rw [hy]
    unfold errs at he hf ⊢
    rw [List.any_append, Bool.or_eq_false_iff]
    constructor
    · rw [List.any_eq_false] at he ⊢
      exact fun x hx => he x (List.dropLast_subset _ hx)
    · rw [List.any_map]; exact hf
  · unfold tgL tksL
    rw [hy, List.map_append, List.map_append, List.map_dropLast, List.map_dropLast]
    congr 1
    rw [List.map_map, List.map_map, List.map_map, List.map_map]
    apply List.map_congr_left
    intro y _
    simp [toG, mv, shG]
theorem tgL_pos (s : ByteArray) : 0 < (tgL s).length := by
  obtain ⟨zs, y, h1, _⟩ := toks_ends KK 0 s.data.toList
  unfold tgL tksL ysL
  rw [List.length_map, List.length_map, h1]; simp
theorem TsV.take {w : World} {a : Option Addr} {ts : List Tg} (h : TsV w a ts) (n : Nat) : TsV w a (ts.take n) := by
  rcases h.h with h | ⟨g, o, rfl, h1, h2⟩
  · exact ⟨.inl (by rw [h]; simp)⟩
  · refine ⟨.inr ⟨g, o, rfl, h1, fun j u hj => h2 j u ?_⟩⟩
    have : ∃ r, flatG ts = flatG (ts.take n) ++ r := ⟨flatG (ts.drop n), by unfold flatG; rw [← List.flatMap_append, List.take_append_drop]⟩
    obtain ⟨r, hr⟩ := this
    rw [hr, List.getElem?_append_left (List.getElem?_eq_some_iff.1 hj).1]
    exact hj
theorem below_4 {w w1 w2 w3 w4 : World} (h1 : Below w.heap.size w w1) (h2 : Below w1.heap.size w1 w2) (h3 : Below w2.heap.size w2 w3) (h4 : Below w3.heap.size w3 w4) : Below w.heap.size w w4 :=
  (h1.trans (h2.mono h1.size)).trans ((h3.trans (h4.mono h3.size)).mono (Nat.le_trans h1.size h2.size))
theorem at_bd (t : ByteArray) (he : errs (ysL t) = false) (q : Nat) (hq : q < (tgL t).length) : 0 ≤ (tgL t)[q].a ∧ (tgL t)[q].a ≤ (t.size : Int) := by
  obtain ⟨p, hp⟩ := st_all t he q (by omega)
  obtain ⟨k, a, x, h1, h2, h3, h4, _⟩ := st_step hp he hq
  rw [h1]
  constructor
  · show (0 : Int) ≤ (a : Int); omega
  · show (a : Int) ≤ (t.size : Int); omega
theorem both_get (ls lt : List Tg) (d p : Nat) (hp : ls.length = p + 1) (q : Nat) (hq : q < lt.length) : ∃ h : p + q < (ls.dropLast ++ lt.map (shG d)).length, (ls.dropLast ++ lt.map (shG d))[p + q] = shG d lt[q] := by
  have h1 : ls.dropLast.length = p := by rw [List.length_dropLast]; omega
  refine ⟨by rw [List.length_append, List.length_map]; omega, ?_⟩
  rw [List.getElem_append_right (by omega), List.getElem_map]
  simp only [h1, Nat.add_sub_cancel_left]
theorem both_take (ls lt : List Tg) (d p : Nat) (hp : ls.length = p + 1) : (ls.dropLast ++ lt.map (shG d)).take p = ls.take p := by
  have h1 : ls.dropLast.length = p := by rw [List.length_dropLast]; omega
  rw [List.take_append_of_le_length (by omega), List.take_of_length_le (by omega), List.dropLast_eq_take, hp]; rfl
theorem both_alike (ls lt : List Tg) (d p g g3 cap cap3 : Nat) (w : World) (hp : ls.length = p + 1) (hl : p ≤ 1000000) (h1 : TsV w (some ⟨g, 0, none⟩) ls) (h2 : TsV w (some ⟨g3, 0, none⟩) (ls.dropLast ++ lt.map (shG d))) :
    Calls Try.prog 14 #[.slice (some ⟨g3, 0, none⟩) p cap3, .slice (some ⟨g, 0, none⟩) p cap] w fun e w' => e = .returned (.bool true) ∧ Below w.heap.size w w' := by
  have l1 : (ls.take p).length = p := by rw [List.length_take]; omega
  have h2' := h2.take p
  rw [both_take ls lt d p hp] at h2'
  have h := alike_c (ls.take p) (ls.take p) _ _ cap3 cap w h2' (h1.take p) rfl (by omega)
  rw [l1] at h
  exact h
def BoR (m g g2 g3 : Nat) (ls lt lu : List Tg) (w : World) (i : Value) (wr : World) : Prop := ∃ q : Nat, i = .int .i64 (q : Int) ∧ q ≤ m ∧ Below w.heap.size w wr ∧ TsV wr (some ⟨g, 0, none⟩) ls ∧ TsV wr (some ⟨g2, 0, none⟩) lt ∧ TsV wr (some ⟨g3, 0, none⟩) lu
set_option maxHeartbeats 4000000 in
set_option maxRecDepth 20000 in
theorem both_0 (s t : ByteArray) (x : Int) (w : World) (hs : s.size ≤ 1500) (ht : t.size ≤ 1500) (h0 : 0 ≤ x) (h1 : x ≤ 255) (hx : x % 4 = 0) : Calls Try.prog 6 #[.string s, .string t, .int .u8 x] w fun e w' => e = .returned (.bool true) ∧ Below w.heap.size w w' := by
  have HA := Lib.hid awake_c
  have hE : (⟨#[32, 9, 10, 13]⟩ : ByteArray).extract 0 (0 + 1) = ⟨#[32]⟩ := by decide
  have d1 : decide (1500 < s.size) = false := decide_eq_false (by omega)
  have d2 : decide (1500 < (s.size : Int)) = false := decide_eq_false (by omega)
  have d3 : decide (1500 < t.size) = false := decide_eq_false (by omega)
  have d4 : decide (1500 < (t.size : Int)) = false := decide_eq_false (by omega)
  have hu : (s ++ ⟨#[32]⟩ ++ t).data.toList = s.data.toList ++ 32 :: t.data.toList := by rw [app_list, app_list]; simp
  have hsz : (s ++ ⟨#[32]⟩ ++ t).size ≤ 16384 := by
    rw [ByteArray.size_append, ByteArray.size_append]
    show s.size + 1 + t.size ≤ 16384
    omega
  have HU := Lib.hid hu
  have HS := Lib.hid hsz
  clear hu hsz
  have hs2 : s.size ≤ 16384 := by omega
  have ht2 : t.size ≤ 16384 := by omega
  cases he : errs (ysL s) with
  | true =>
    obtain ⟨z, hz, hz2, hz3⟩ := err_last s he
    have hzn : z.2 ≠ 0 := by omega
    have dz : ((z.2 : Int) != 0) = true := by simp; omega
    have dz2 : ((z.2 : Int) == 0) = false := by simp; omega
    have HL := Lib.hid (fun w => lex_er s w hs2 z hz hzn)
    have HM := Lib.hid (fun w => lex_er (s ++ ⟨#[32]⟩ ++ t) w HS.out z (by rw [both_er1 s t _ 32 rfl HU.out he]; exact hz) hzn)
    have hT : ∀ w, Calls Try.prog 13 #[.string t] w fun e w' => ∃ a p q : Value, e = .returned (.tuple #[a, p, q]) ∧ Below w.heap.size w w' := by
      intro w
      cases hf : errs (ysL t) with
      | true =>
        obtain ⟨z, hz, hz2, hz3⟩ := err_last t hf
        refine (lex_er t w ht2 z hz (by omega)).mono ?_
        rintro e w' ⟨rfl, hb⟩
        exact ⟨_, _, _, rfl, hb⟩
      | false =>
        refine (lex_ok t w ht2 hf).mono ?_
        rintro e w' ⟨g, cap, rfl, hb, _, _⟩
        exact ⟨_, _, _, rfl, hb⟩
    have HT := Lib.hid hT
    clear hT
    clear hz hz2 hz3 he HU HS hzn
    go_enter Try.func6, Try.ntmps6
    go_wp2_with fail
    with_reducible refine (HA.out _).mono ?_
    rintro e w1 ⟨rfl, hb1⟩
    go_wp2_with fail
    with_reducible refine (HL.out _).mono ?_
    rintro e w2 ⟨rfl, hb2⟩
    go_wp2_with fail
    with_reducible refine (HT.out _).mono ?_
    rintro e w3 ⟨pa, pb, pc, rfl, hb3⟩
    go_wp2_with fail
    clear hE
    with_reducible refine (HM.out _).mono ?_
    rintro e w4 ⟨rfl, hb4⟩
    go_wp2_with fail
    go_ret
    exact ⟨by simp, below_4 hb1 hb2 hb3 hb4⟩
  | false =>
    cases hf : errs (ysL t) with
    | true =>
      obtain ⟨z, hz, hz2, hz3⟩ := err_last t hf
      have hzn : z.2 ≠ 0 := by omega
      have dz : ((z.2 : Int) != 0) = true := by simp; omega
      have dz2 : ((z.2 : Int) == 0) = false := by simp; omega
      have HL := Lib.hid (fun w => lex_ok s w hs2 he)
      have HT := Lib.hid (fun w => lex_er t w ht2 z hz hzn)
      have hM : ∀ w, Calls Try.prog 13 #[.string (s ++ ⟨#[32]⟩ ++ t)] w fun e w' => e = .returned (.tuple #[.slice none 0 0, .int .i64 ((z.1.a : Int) + (s.size : Int) + 1), .int .i64 (z.2 : Int)]) ∧ Below w.heap.size w w' := by
        intro w
        refine (lex_er (s ++ ⟨#[32]⟩ ++ t) w HS.out (mv (s.size + 1) z) (both_er2 s t _ 32 rfl HU.out he hz) hzn).mono ?_
        rintro e w' ⟨rfl, hb⟩
        refine ⟨?_, hb⟩
        have : (((mv (s.size + 1) z).1.a : Nat) : Int) = (z.1.a : Int) + (s.size : Int) + 1 := by
          show ((z.1.a + (s.size + 1) : Nat) : Int) = _
          omega
        rw [this]; rfl
      have HM := Lib.hid hM
      have z0 : (0 : Int) ≤ (z.1.a : Int) := by omega
      have z1 : (z.1.a : Int) ≤ 1500 := by omega
      generalize (z.1.a : Int) = za at *
      clear hM hz hz2 hz3 he hf HU HS hzn
      go_enter Try.func6, Try.ntmps6
      go_wp2_with fail
      with_reducible refine (HA.out _).mono ?_
      rintro e w1 ⟨rfl, hb1⟩
      go_wp2_with fail
      with_reducible refine (HL.out _).mono ?_
      rintro e w2 ⟨g, cap, rfl, hb2, hg, ht⟩
      clear ht hg
      go_wp2_with fail
      with_reducible refine (HT.out _).mono ?_
      rintro e w3 ⟨rfl, hb3⟩
      go_wp2_with fail
      clear hE
      with_reducible refine (HM.out _).mono ?_
      rintro e w4 ⟨rfl, hb4⟩
      go_wp2_with fail
      go_ret
      exact ⟨by simp, below_4 hb1 hb2 hb3 hb4⟩
    | false =>
      obtain ⟨hue, hut⟩ := both_ok s t _ 32 rfl HU.out he hf
      have l1 := tgL_len s
      have l2 := tgL_len t
      have l3 := tgL_pos s
      have l4 := tgL_pos t
      obtain ⟨p, hp⟩ : ∃ p, (tgL s).length = p + 1 := ⟨(tgL s).length - 1, by omega⟩
      obtain ⟨n, hn⟩ : ∃ n, (tgL t).length = n := ⟨_, rfl⟩
      have hL : ∀ w, Calls Try.prog 13 #[.string s] w fun e w' => ∃ g cap, e = .returned (.tuple #[.slice (some ⟨g, 0, none⟩) (p + 1) cap, .int .i64 0, .int .i64 0]) ∧ p + 1 ≤ cap ∧ Below w.heap.size w w' ∧ TsV w' (some ⟨g, 0, none⟩) (tgL s) := by
        intro w
        refine (lex_ok_cap s w hs2 he).mono ?_
        rintro e w' ⟨g, cap, rfl, hc, hb, h⟩
        exact ⟨g, cap, by rw [hp], by rw [← hp]; exact hc, hb, h⟩
      have hT : ∀ w, Calls Try.prog 13 #[.string t] w fun e w' => ∃ g cap, e = .returned (.tuple #[.slice (some ⟨g, 0, none⟩) n cap, .int .i64 0, .int .i64 0]) ∧ Below w.heap.size w w' ∧ TsV w' (some ⟨g, 0, none⟩) (tgL t) := by
        intro w
        refine (lex_ok t w ht2 hf).mono ?_
        rintro e w' ⟨g, cap, rfl, hb, _, h⟩
        exact ⟨g, cap, by rw [hn], hb, h⟩
      have hM : ∀ w, Calls Try.prog 13 #[.string (s ++ ⟨#[32]⟩ ++ t)] w fun e w' => ∃ g cap, e = .returned (.tuple #[.slice (some ⟨g, 0, none⟩) (p + n) cap, .int .i64 0, .int .i64 0]) ∧ p + n ≤ cap ∧ Below w.heap.size w w' ∧ TsV w' (some ⟨g, 0, none⟩) ((tgL s).dropLast ++ (tgL t).map (shG (s.size + 1))) := by
        intro w
        have h := lex_ok_cap _ w HS.out hue
        rw [hut] at h
        refine h.mono ?_
        rintro e w' ⟨g, cap, rfl, hc, hb, h⟩
        have hl : ((tgL s).dropLast ++ (tgL t).map (shG (s.size + 1))).length = p + n := by
          rw [List.length_append, List.length_dropLast, List.length_map]; omega
        exact ⟨g, cap, by rw [hl], by rw [← hl]; exact hc, hb, h⟩
      have HL := Lib.hid hL
      have HT := Lib.hid hT
      have HM := Lib.hid hM
      have HBD := Lib.hid (at_bd t hf)
      clear hL hT hM hue hut he hf HU HS
      generalize tgL s = ls at *
      generalize tgL t = lt at *
      have HP := Lib.hid hp
      have HN := Lib.hid hn
      rw [hp] at l1
      rw [hn] at l2 l4
      clear l3 hp hn
      go_enter Try.func6, Try.ntmps6
      go_wp2_with fail
      with_reducible refine (HA.out _).mono ?_
      rintro e w1 ⟨rfl, hb1⟩
      go_wp2_with fail
      with_reducible refine (HL.out _).mono ?_
      rintro e w2 ⟨g, cap, rfl, hcp, hb2, htl⟩
      go_wp2_with fail
      with_reducible refine (HT.out _).mono ?_
      rintro e w3 ⟨g2, cap2, rfl, hb3, htt⟩
      go_wp2_with fail
      clear hE
      with_reducible refine (HM.out _).mono ?_
      rintro e w4 ⟨g3, cap3, rfl, hcp3, hb4, htu⟩
      have HB4 := Lib.hid (below_4 hb1 hb2 hb3 hb4)
      have HTL := Lib.hid ((htl.grow hb3).grow hb4)
      have HTT := Lib.hid (htt.grow hb4)
      have HTU := Lib.hid htu
      have f2 : ((p : Int) + (n : Int) != (p : Int) + 1 + (n : Int) - 1) = false := by rw [bne_eq_false_iff_eq]; omega
      clear hb1 hb2 hb3 hb4 htl htt htu HL HT HM HA d1 d2 d3 d4
      go_wp2_with fail
      go_loopw [16] (fun i wr => BoR n g g2 g3 ls lt (ls.dropLast ++ lt.map (shG (s.size + 1))) w i wr) (fun i _ => n - (intOf i).toNat)
      case atStart => exact ⟨0, rfl, Nat.zero_le _, HB4.out, HTL.out, HTT.out, HTU.out⟩
      case round =>
        clear HB4 HTL HTT HTU
        obtain ⟨q, rfl, hq, hbr, htl, htt, htu⟩ := hrel
        have HBR := Lib.hid hbr
        have HTL := Lib.hid htl
        have HTT := Lib.hid htt
        have HTU := Lib.hid htu
        by_cases hlt : q < n
        · have hlt2 : q < lt.length := by have := HN.out; omega
          obtain ⟨hlu, hg⟩ := both_get ls lt (s.size + 1) p HP.out q hlt2
          obtain ⟨bd1, bd2⟩ := HBD.out q hlt2
          obtain ⟨g', o, hgo, hgl, b0, b1, b2⟩ := htu.get hlu
          injection hgo with hgo
          injection hgo with hgo hgo2
          subst hgo; subst hgo2
          obtain ⟨g', o, hgo, hgl2, e0, e1, e2⟩ := htt.get hlt2
          injection hgo with hgo
          injection hgo with hgo hgo2
          subst hgo; subst hgo2
          rw [hg] at b0 b1 b2
          rw [Nat.zero_add] at b0 b1 b2 e0 e1 e2
          have c2 : wr.cell? ⟨g3, (p + q) * 3 + 2, none⟩ = some (.int .i64 (lt[q].a + (s.size : Int) + 1)) := by
            rw [b2]; show some (Value.int .i64 (lt[q].a + ((s.size + 1 : Nat) : Int))) = _
            rw [show lt[q].a + ((s.size + 1 : Nat) : Int) = lt[q].a + (s.size : Int) + 1 by omega]
          have c0 : wr.cell? ⟨g3, (p + q) * 3, none⟩ = some (.int .u8 lt[q].k) := b0
          have c1 : wr.cell? ⟨g3, (p + q) * 3 + 1, none⟩ = some (.string lt[q].t) := b1
          clear hg hbr htl htt htu hlu b0 b1 b2
          generalize lt[q].k = kk at *
          generalize lt[q].t = y at *
          generalize lt[q].a = za at *
          have n0 : (0 : Int) ≤ (q : Int) := by omega
          have n1 : (q : Int) < (n : Int) := by omega
          have n2 : (0 : Int) ≤ (p : Int) + (q : Int) := by omega
          have n3 : (p : Int) + (q : Int) < (p : Int) + (n : Int) := by omega
          have n4 : ((p : Int) + (q : Int)).toNat = p + q := by omega
          have m1 : IntKind.i64.wrap ((p : Int) + (q : Int)) = (p : Int) + (q : Int) := IntWalk.i64_in _ (by omega)
          have m2 : IntKind.i64.wrap (za + (s.size : Int)) = za + (s.size : Int) := IntWalk.i64_in _ (by omega)
          have m3 : IntKind.i64.wrap (za + (s.size : Int) + 1) = za + (s.size : Int) + 1 := IntWalk.i64_in _ (by omega)
          have m4 : IntKind.i64.wrap ((q : Int) + 1) = (q : Int) + 1 := IntWalk.i64_in _ (by omega)
          have m5 : p + q < p + n := by omega
          go_wp2_with fail
          refine wp_region_S (fun w' => w'.cell? ⟨wr.heap.size, 0, none⟩ = some (.int .u8 kk) ∧ w'.cell? ⟨wr.heap.size, 1, none⟩ = some (.string y) ∧ w'.cell? ⟨wr.heap.size, 2, none⟩ = some (.int .i64 (za + (s.size : Int) + 1)) ∧ w'.cell? ⟨g2, q * 3, none⟩ = some (.int .u8 kk) ∧ w'.cell? ⟨g2, q * 3 + 1, none⟩ = some (.string y) ∧ w'.cell? ⟨g2, q * 3 + 2, none⟩ = some (.int .i64 za)) [] 32 #[false, false, false, false, false, false, false, false, false, false, false, false, false, false, false, false, false, false, false, false, false, false, false, false, false, false, false, false, false, false, false, false] (by kernel_rfl) (by kernel_rfl) (by kernel_rfl)
            (by
              rw [World.cell?_drew, World.cell?_drew, World.cell?_drew, World.cell?_drew, World.cell?_drew, World.cell?_drew]
              refine ⟨by rw [World.cell?_alloc_at _ _ _ _ rfl]; rfl, by rw [World.cell?_alloc_at _ _ _ _ rfl]; rfl, by rw [World.cell?_alloc_at _ _ _ _ rfl]; rfl, ?_, ?_, ?_⟩
              · rw [World.cell?_alloc_lt _ _ _ hgl2]; exact e0
              · rw [World.cell?_alloc_lt _ _ _ hgl2]; exact e1
              · rw [World.cell?_alloc_lt _ _ _ hgl2]; exact e2) (fun hHeld => ?_)
          refine wpAnyS_take (i := 0) (oi := ⟨some 120, _, _, _, _, _⟩) (v := .pointer (some ⟨wr.heap.size, 0, none⟩)) rfl (by kernel_rfl) (by kernel_rfl) (by kernel_rfl) (by kernel_rfl) (fun _ _ _ h => Norm.panic h) (Or.inl ⟨by rfl, ?_⟩) (by assumption) ?_
          · intro w' hSw
            obtain ⟨k1, k2, k3, k4, k5, k6⟩ := hSw
            go_simp
          simp only [Act.put, List.setIfInBounds_toArray, List.set_cons_zero, List.set_cons_succ]
          refine wpAnyS_take (i := 1) (oi := ⟨some 121, _, _, _, _, _⟩) (v := .int .u8 kk) rfl (by kernel_rfl) (by kernel_rfl) (by kernel_rfl) (by kernel_rfl) (fun _ _ _ h => Norm.panic h) (Or.inl ⟨by rfl, ?_⟩) (by assumption) ?_
          · intro w' hSw
            obtain ⟨k1, k2, k3, k4, k5, k6⟩ := hSw
            go_simp
          simp only [Act.put, List.setIfInBounds_toArray, List.set_cons_zero, List.set_cons_succ]
          refine wpAnyS_take (i := 2) (oi := ⟨some 122, _, _, _, _, _⟩) (v := .slice (some ⟨g2, 0, none⟩) n cap2) rfl (by kernel_rfl) (by kernel_rfl) (by kernel_rfl) (by kernel_rfl) (fun _ _ _ h => Norm.panic h) (Or.inl ⟨by rfl, ?_⟩) (by assumption) ?_
          · intro w' hSw
            obtain ⟨k1, k2, k3, k4, k5, k6⟩ := hSw
            go_simp
          simp only [Act.put, List.setIfInBounds_toArray, List.set_cons_zero, List.set_cons_succ]
          refine wpAnyS_take (i := 3) (oi := ⟨some 123, _, _, _, _, _⟩) (v := .int .i64 (q : Int)) rfl (by kernel_rfl) (by kernel_rfl) (by kernel_rfl) (by kernel_rfl) (fun _ _ _ h => Norm.panic h) (Or.inl ⟨by rfl, ?_⟩) (by assumption) ?_
          · intro w' hSw
            obtain ⟨k1, k2, k3, k4, k5, k6⟩ := hSw
            go_simp
          simp only [Act.put, List.setIfInBounds_toArray, List.set_cons_zero, List.set_cons_succ]
          refine wpAnyS_take (i := 4) (oi := ⟨some 124, _, _, _, _, _⟩) (v := .pointer (some ⟨g2, q * 3, none⟩)) rfl (by kernel_rfl) (by kernel_rfl) (by kernel_rfl) (by kernel_rfl) (fun _ _ _ h => Norm.panic h) (Or.inl ⟨by rfl, ?_⟩) (by assumption) ?_
          · intro w' hSw
            obtain ⟨k1, k2, k3, k4, k5, k6⟩ := hSw
            go_simp
          simp only [Act.put, List.setIfInBounds_toArray, List.set_cons_zero, List.set_cons_succ]
          refine wpAnyS_take (i := 5) (oi := ⟨some 125, _, _, _, _, _⟩) (v := .pointer (some ⟨g2, q * 3, none⟩)) rfl (by kernel_rfl) (by kernel_rfl) (by kernel_rfl) (by kernel_rfl) (fun _ _ _ h => Norm.panic h) (Or.inl ⟨by rfl, ?_⟩) (by assumption) ?_
          · intro w' hSw
            obtain ⟨k1, k2, k3, k4, k5, k6⟩ := hSw
            go_simp
          simp only [Act.put, List.setIfInBounds_toArray, List.set_cons_zero, List.set_cons_succ]
          refine wpAnyS_take (i := 6) (oi := ⟨some 126, _, _, _, _, _⟩) (v := .int .u8 kk) rfl (by kernel_rfl) (by kernel_rfl) (by kernel_rfl) (by kernel_rfl) (fun _ _ _ h => Norm.panic h) (Or.inl ⟨by rfl, ?_⟩) (by assumption) ?_
          · intro w' hSw
            obtain ⟨k1, k2, k3, k4, k5, k6⟩ := hSw
            go_simp
          simp only [Act.put, List.setIfInBounds_toArray, List.set_cons_zero, List.set_cons_succ]
          refine wpAnyS_take (i := 7) (oi := ⟨some 127, _, _, _, _, _⟩) (v := .bool false) rfl (by kernel_rfl) (by kernel_rfl) (by kernel_rfl) (by kernel_rfl) (fun _ _ _ h => Norm.panic h) (Or.inl ⟨by rfl, ?_⟩) (by assumption) ?_
          · intro w' hSw
            obtain ⟨k1, k2, k3, k4, k5, k6⟩ := hSw
            go_simp
          simp only [Act.put, List.setIfInBounds_toArray, List.set_cons_zero, List.set_cons_succ]
          refine wpAnyS_take (i := 8) (oi := ⟨some 128, _, _, _, _, _⟩) (v := .bool false) rfl (by kernel_rfl) (by kernel_rfl) (by kernel_rfl) (by kernel_rfl) (fun _ _ _ h => Norm.panic h) (Or.inl ⟨by rfl, ?_⟩) (by assumption) ?_
          · intro w' hSw
            obtain ⟨k1, k2, k3, k4, k5, k6⟩ := hSw
            go_simp
          simp only [Act.put, List.setIfInBounds_toArray, List.set_cons_zero, List.set_cons_succ]
          refine wpAnyS_take (i := 9) (oi := ⟨some 129, _, _, _, _, _⟩) (v := .pointer (some ⟨wr.heap.size, 1, none⟩)) rfl (by kernel_rfl) (by kernel_rfl) (by kernel_rfl) (by kernel_rfl) (fun _ _ _ h => Norm.panic h) (Or.inl ⟨by rfl, ?_⟩) (by assumption) ?_
          · intro w' hSw
            obtain ⟨k1, k2, k3, k4, k5, k6⟩ := hSw
            go_simp
          simp only [Act.put, List.setIfInBounds_toArray, List.set_cons_zero, List.set_cons_succ]
          refine wpAnyS_take (i := 10) (oi := ⟨some 130, _, _, _, _, _⟩) (v := .string y) rfl (by kernel_rfl) (by kernel_rfl) (by kernel_rfl) (by kernel_rfl) (fun _ _ _ h => Norm.panic h) (Or.inl ⟨by rfl, ?_⟩) (by assumption) ?_
          · intro w' hSw
            obtain ⟨k1, k2, k3, k4, k5, k6⟩ := hSw
            go_simp
          simp only [Act.put, List.setIfInBounds_toArray, List.set_cons_zero, List.set_cons_succ]
          refine wpAnyS_take (i := 11) (oi := ⟨some 131, _, _, _, _, _⟩) (v := .slice (some ⟨g2, 0, none⟩) n cap2) rfl (by kernel_rfl) (by kernel_rfl) (by kernel_rfl) (by kernel_rfl) (fun _ _ _ h => Norm.panic h) (Or.inl ⟨by rfl, ?_⟩) (by assumption) ?_
          · intro w' hSw
            obtain ⟨k1, k2, k3, k4, k5, k6⟩ := hSw
            go_simp
          simp only [Act.put, List.setIfInBounds_toArray, List.set_cons_zero, List.set_cons_succ]
          refine wpAnyS_take (i := 12) (oi := ⟨some 132, _, _, _, _, _⟩) (v := .int .i64 (q : Int)) rfl (by kernel_rfl) (by kernel_rfl) (by kernel_rfl) (by kernel_rfl) (fun _ _ _ h => Norm.panic h) (Or.inl ⟨by rfl, ?_⟩) (by assumption) ?_
          · intro w' hSw
            obtain ⟨k1, k2, k3, k4, k5, k6⟩ := hSw
            go_simp
          simp only [Act.put, List.setIfInBounds_toArray, List.set_cons_zero, List.set_cons_succ]
          refine wpAnyS_take (i := 13) (oi := ⟨some 133, _, _, _, _, _⟩) (v := .pointer (some ⟨g2, q * 3, none⟩)) rfl (by kernel_rfl) (by kernel_rfl) (by kernel_rfl) (by kernel_rfl) (fun _ _ _ h => Norm.panic h) (Or.inl ⟨by rfl, ?_⟩) (by assumption) ?_
          · intro w' hSw
            obtain ⟨k1, k2, k3, k4, k5, k6⟩ := hSw
            go_simp
          simp only [Act.put, List.setIfInBounds_toArray, List.set_cons_zero, List.set_cons_succ]
          refine wpAnyS_take (i := 14) (oi := ⟨some 134, _, _, _, _, _⟩) (v := .pointer (some ⟨g2, q * 3 + 1, none⟩)) rfl (by kernel_rfl) (by kernel_rfl) (by kernel_rfl) (by kernel_rfl) (fun _ _ _ h => Norm.panic h) (Or.inl ⟨by rfl, ?_⟩) (by assumption) ?_
          · intro w' hSw
            obtain ⟨k1, k2, k3, k4, k5, k6⟩ := hSw
            go_simp
          simp only [Act.put, List.setIfInBounds_toArray, List.set_cons_zero, List.set_cons_succ]
          refine wpAnyS_take (i := 15) (oi := ⟨some 135, _, _, _, _, _⟩) (v := .string y) rfl (by kernel_rfl) (by kernel_rfl) (by kernel_rfl) (by kernel_rfl) (fun _ _ _ h => Norm.panic h) (Or.inl ⟨by rfl, ?_⟩) (by assumption) ?_
          · intro w' hSw
            obtain ⟨k1, k2, k3, k4, k5, k6⟩ := hSw
            go_simp
          simp only [Act.put, List.setIfInBounds_toArray, List.set_cons_zero, List.set_cons_succ]
          refine wpAnyS_take (i := 16) (oi := ⟨some 136, _, _, _, _, _⟩) (v := .bool false) rfl (by kernel_rfl) (by kernel_rfl) (by kernel_rfl) (by kernel_rfl) (fun _ _ _ h => Norm.panic h) (Or.inl ⟨by rfl, ?_⟩) (by assumption) ?_
          · intro w' hSw
            obtain ⟨k1, k2, k3, k4, k5, k6⟩ := hSw
            go_simp
          simp only [Act.put, List.setIfInBounds_toArray, List.set_cons_zero, List.set_cons_succ]
          refine wpAnyS_take (i := 17) (oi := ⟨some 137, _, _, _, _, _⟩) (v := .bool false) rfl (by kernel_rfl) (by kernel_rfl) (by kernel_rfl) (by kernel_rfl) (fun _ _ _ h => Norm.panic h) (Or.inl ⟨by rfl, ?_⟩) (by assumption) ?_
          · intro w' hSw
            obtain ⟨k1, k2, k3, k4, k5, k6⟩ := hSw
            go_simp
          simp only [Act.put, List.setIfInBounds_toArray, List.set_cons_zero, List.set_cons_succ]
          refine wpAnyS_take (i := 18) (oi := ⟨some 138, _, _, _, _, _⟩) (v := .bool false) rfl (by kernel_rfl) (by kernel_rfl) (by kernel_rfl) (by kernel_rfl) (fun _ _ _ h => Norm.panic h) (Or.inl ⟨by rfl, ?_⟩) (by assumption) ?_
          · intro w' hSw
            obtain ⟨k1, k2, k3, k4, k5, k6⟩ := hSw
            go_simp
          simp only [Act.put, List.setIfInBounds_toArray, List.set_cons_zero, List.set_cons_succ]
          refine wpAnyS_take (i := 19) (oi := ⟨some 139, _, _, _, _, _⟩) (v := .pointer (some ⟨wr.heap.size, 2, none⟩)) rfl (by kernel_rfl) (by kernel_rfl) (by kernel_rfl) (by kernel_rfl) (fun _ _ _ h => Norm.panic h) (Or.inl ⟨by rfl, ?_⟩) (by assumption) ?_
          · intro w' hSw
            obtain ⟨k1, k2, k3, k4, k5, k6⟩ := hSw
            go_simp
          simp only [Act.put, List.setIfInBounds_toArray, List.set_cons_zero, List.set_cons_succ]
          refine wpAnyS_take (i := 20) (oi := ⟨some 140, _, _, _, _, _⟩) (v := .int .i64 (za + (s.size : Int) + 1)) rfl (by kernel_rfl) (by kernel_rfl) (by kernel_rfl) (by kernel_rfl) (fun _ _ _ h => Norm.panic h) (Or.inl ⟨by rfl, ?_⟩) (by assumption) ?_
          · intro w' hSw
            obtain ⟨k1, k2, k3, k4, k5, k6⟩ := hSw
            go_simp
          simp only [Act.put, List.setIfInBounds_toArray, List.set_cons_zero, List.set_cons_succ]
          refine wpAnyS_take (i := 21) (oi := ⟨some 141, _, _, _, _, _⟩) (v := .slice (some ⟨g2, 0, none⟩) n cap2) rfl (by kernel_rfl) (by kernel_rfl) (by kernel_rfl) (by kernel_rfl) (fun _ _ _ h => Norm.panic h) (Or.inl ⟨by rfl, ?_⟩) (by assumption) ?_
          · intro w' hSw
            obtain ⟨k1, k2, k3, k4, k5, k6⟩ := hSw
            go_simp
          simp only [Act.put, List.setIfInBounds_toArray, List.set_cons_zero, List.set_cons_succ]
          refine wpAnyS_take (i := 22) (oi := ⟨some 142, _, _, _, _, _⟩) (v := .int .i64 (q : Int)) rfl (by kernel_rfl) (by kernel_rfl) (by kernel_rfl) (by kernel_rfl) (fun _ _ _ h => Norm.panic h) (Or.inl ⟨by rfl, ?_⟩) (by assumption) ?_
          · intro w' hSw
            obtain ⟨k1, k2, k3, k4, k5, k6⟩ := hSw
            go_simp
          simp only [Act.put, List.setIfInBounds_toArray, List.set_cons_zero, List.set_cons_succ]
          refine wpAnyS_take (i := 23) (oi := ⟨some 143, _, _, _, _, _⟩) (v := .pointer (some ⟨g2, q * 3, none⟩)) rfl (by kernel_rfl) (by kernel_rfl) (by kernel_rfl) (by kernel_rfl) (fun _ _ _ h => Norm.panic h) (Or.inl ⟨by rfl, ?_⟩) (by assumption) ?_
          · intro w' hSw
            obtain ⟨k1, k2, k3, k4, k5, k6⟩ := hSw
            go_simp
          simp only [Act.put, List.setIfInBounds_toArray, List.set_cons_zero, List.set_cons_succ]
          refine wpAnyS_take (i := 24) (oi := ⟨some 144, _, _, _, _, _⟩) (v := .pointer (some ⟨g2, q * 3 + 2, none⟩)) rfl (by kernel_rfl) (by kernel_rfl) (by kernel_rfl) (by kernel_rfl) (fun _ _ _ h => Norm.panic h) (Or.inl ⟨by rfl, ?_⟩) (by assumption) ?_
          · intro w' hSw
            obtain ⟨k1, k2, k3, k4, k5, k6⟩ := hSw
            go_simp
          simp only [Act.put, List.setIfInBounds_toArray, List.set_cons_zero, List.set_cons_succ]
          refine wpAnyS_take (i := 25) (oi := ⟨some 145, _, _, _, _, _⟩) (v := .int .i64 za) rfl (by kernel_rfl) (by kernel_rfl) (by kernel_rfl) (by kernel_rfl) (fun _ _ _ h => Norm.panic h) (Or.inl ⟨by rfl, ?_⟩) (by assumption) ?_
          · intro w' hSw
            obtain ⟨k1, k2, k3, k4, k5, k6⟩ := hSw
            go_simp
          simp only [Act.put, List.setIfInBounds_toArray, List.set_cons_zero, List.set_cons_succ]
          refine wpAnyS_take (i := 26) (oi := ⟨some 146, _, _, _, _, _⟩) (v := .string s) rfl (by kernel_rfl) (by kernel_rfl) (by kernel_rfl) (by kernel_rfl) (fun _ _ _ h => Norm.panic h) (Or.inl ⟨by rfl, ?_⟩) (by assumption) ?_
          · intro w' hSw
            obtain ⟨k1, k2, k3, k4, k5, k6⟩ := hSw
            go_simp
          simp only [Act.put, List.setIfInBounds_toArray, List.set_cons_zero, List.set_cons_succ]
          refine wpAnyS_take (i := 27) (oi := ⟨some 147, _, _, _, _, _⟩) (v := .int .i64 (s.size : Int)) rfl (by kernel_rfl) (by kernel_rfl) (by kernel_rfl) (by kernel_rfl) (fun _ _ _ h => Norm.panic h) (Or.inl ⟨by rfl, ?_⟩) (by assumption) ?_
          · intro w' hSw
            obtain ⟨k1, k2, k3, k4, k5, k6⟩ := hSw
            go_simp
          simp only [Act.put, List.setIfInBounds_toArray, List.set_cons_zero, List.set_cons_succ]
          refine wpAnyS_take (i := 28) (oi := ⟨some 148, _, _, _, _, _⟩) (v := .int .i64 (za + (s.size : Int))) rfl (by kernel_rfl) (by kernel_rfl) (by kernel_rfl) (by kernel_rfl) (fun _ _ _ h => Norm.panic h) (Or.inl ⟨by rfl, ?_⟩) (by assumption) ?_
          · intro w' hSw
            obtain ⟨k1, k2, k3, k4, k5, k6⟩ := hSw
            go_simp
          simp only [Act.put, List.setIfInBounds_toArray, List.set_cons_zero, List.set_cons_succ]
          refine wpAnyS_take (i := 29) (oi := ⟨some 149, _, _, _, _, _⟩) (v := .int .i64 (za + (s.size : Int) + 1)) rfl (by kernel_rfl) (by kernel_rfl) (by kernel_rfl) (by kernel_rfl) (fun _ _ _ h => Norm.panic h) (Or.inl ⟨by rfl, ?_⟩) (by assumption) ?_
          · intro w' hSw
            obtain ⟨k1, k2, k3, k4, k5, k6⟩ := hSw
            go_simp
          simp only [Act.put, List.setIfInBounds_toArray, List.set_cons_zero, List.set_cons_succ]
          refine wpAnyS_take (i := 30) (oi := ⟨some 150, _, _, _, _, _⟩) (v := .bool false) rfl (by kernel_rfl) (by kernel_rfl) (by kernel_rfl) (by kernel_rfl) (fun _ _ _ h => Norm.panic h) (Or.inl ⟨by rfl, ?_⟩) (by assumption) ?_
          · intro w' hSw
            obtain ⟨k1, k2, k3, k4, k5, k6⟩ := hSw
            go_simp
          simp only [Act.put, List.setIfInBounds_toArray, List.set_cons_zero, List.set_cons_succ]
          refine wpAnyS_take (i := 31) (oi := ⟨some 151, _, _, _, _, _⟩) (v := .bool false) rfl (by kernel_rfl) (by kernel_rfl) (by kernel_rfl) (by kernel_rfl) (fun _ _ _ h => Norm.panic h) (Or.inl ⟨by rfl, ?_⟩) (by assumption) ?_
          · intro w' hSw
            obtain ⟨k1, k2, k3, k4, k5, k6⟩ := hSw
            go_simp
          simp only [Act.put, List.setIfInBounds_toArray, List.set_cons_zero, List.set_cons_succ]
          refine wpAnyS_done (by kernel_rfl) ?_
          refine Norm.normal ?_
          go_wp2_with fail
          have HBB := Lib.hid (show Below wr.heap.size wr ((wr.alloc (.cells #[.int .u8 kk, .string y, .int .i64 (za + (s.size : Int) + 1)] 26)).drew) from Below.drew ((Below.refl _ _).alloc (Nat.le_refl _) _))
          exact ⟨⟨q + 1, by go_num, by omega, HBR.out.trans (HBB.out.mono HBR.out.size), HTL.out.grow HBB.out, HTT.out.grow HBB.out, HTU.out.grow HBB.out⟩, by simp [intOf]; omega⟩
        · obtain rfl : q = n := by omega
          clear hbr htl htt htu
          have m6 : IntKind.i64.wrap (p : Int) = (p : Int) := IntWalk.i64_in _ (by omega)
          have m7 : (p : Int) ≤ (cap3 : Int) := by omega
          have m8 : (p : Int) ≤ (cap : Int) := by omega
          have m9 : (0 : Int) ≤ (p : Int) := by omega
          have HK := Lib.hid (fun w h1 h2 => both_alike ls lt (s.size + 1) p g g3 cap cap3 w HP.out (by omega) h1 h2)
          go_wp2_with fail
          go_region_with (go_at_call 14; refine (HK.out _ (HTL.out.grow (Below.drew (Below.refl _ _))) (HTU.out.grow (Below.drew (Below.refl _ _)))).mono ?_; rintro e w1 ⟨rfl, hb⟩)
          go_wp2_with fail
          go_ret
          exact ⟨rfl, HBR.out.trans (((Below.drew (Below.refl wr.heap.size wr)).trans hb).mono HBR.out.size)⟩
set_option maxHeartbeats 4000000 in
set_option maxRecDepth 20000 in
theorem both_1 (s t : ByteArray) (x : Int) (w : World) (hs : s.size ≤ 1500) (ht : t.size ≤ 1500) (h0 : 0 ≤ x) (h1 : x ≤ 255) (hx : x % 4 = 1) : Calls Try.prog 6 #[.string s, .string t, .int .u8 x] w fun e w' => e = .returned (.bool true) ∧ Below w.heap.size w w' := by
  have HA := Lib.hid awake_c
  have hE : (⟨#[32, 9, 10, 13]⟩ : ByteArray).extract 1 (1 + 1) = ⟨#[9]⟩ := by decide
  have d1 : decide (1500 < s.size) = false := decide_eq_false (by omega)
  have d2 : decide (1500 < (s.size : Int)) = false := decide_eq_false (by omega)
  have d3 : decide (1500 < t.size) = false := decide_eq_false (by omega)
  have d4 : decide (1500 < (t.size : Int)) = false := decide_eq_false (by omega)
  have hu : (s ++ ⟨#[9]⟩ ++ t).data.toList = s.data.toList ++ 9 :: t.data.toList := by rw [app_list, app_list]; simp
  have hsz : (s ++ ⟨#[9]⟩ ++ t).size ≤ 16384 := by
    rw [ByteArray.size_append, ByteArray.size_append]
    show s.size + 1 + t.size ≤ 16384
    omega
  have HU := Lib.hid hu
  have HS := Lib.hid hsz
  clear hu hsz
  have hs2 : s.size ≤ 16384 := by omega
  have ht2 : t.size ≤ 16384 := by omega
  cases he : errs (ysL s) with
  | true =>
    obtain ⟨z, hz, hz2, hz3⟩ := err_last s he
    have hzn : z.2 ≠ 0 := by omega
    have dz : ((z.2 : Int) != 0) = true := by simp; omega
    have dz2 : ((z.2 : Int) == 0) = false := by simp; omega
    have HL := Lib.hid (fun w => lex_er s w hs2 z hz hzn)
    have HM := Lib.hid (fun w => lex_er (s ++ ⟨#[9]⟩ ++ t) w HS.out z (by rw [both_er1 s t _ 9 rfl HU.out he]; exact hz) hzn)
    have hT : ∀ w, Calls Try.prog 13 #[.string t] w fun e w' => ∃ a p q : Value, e = .returned (.tuple #[a, p, q]) ∧ Below w.heap.size w w' := by
      intro w
      cases hf : errs (ysL t) with
      | true =>
        obtain ⟨z, hz, hz2, hz3⟩ := err_last t hf
        refine (lex_er t w ht2 z hz (by omega)).mono ?_
        rintro e w' ⟨rfl, hb⟩
        exact ⟨_, _, _, rfl, hb⟩
      | false =>
        refine (lex_ok t w ht2 hf).mono ?_
        rintro e w' ⟨g, cap, rfl, hb, _, _⟩
        exact ⟨_, _, _, rfl, hb⟩
    have HT := Lib.hid hT
    clear hT
    clear hz hz2 hz3 he HU HS hzn
    go_enter Try.func6, Try.ntmps6
    go_wp2_with fail
    with_reducible refine (HA.out _).mono ?_
    rintro e w1 ⟨rfl, hb1⟩
    go_wp2_with fail
    with_reducible refine (HL.out _).mono ?_
    rintro e w2 ⟨rfl, hb2⟩
    go_wp2_with fail
    with_reducible refine (HT.out _).mono ?_
    rintro e w3 ⟨pa, pb, pc, rfl, hb3⟩
    go_wp2_with fail
    clear hE
    with_reducible refine (HM.out _).mono ?_
    rintro e w4 ⟨rfl, hb4⟩
    go_wp2_with fail
    go_ret
    exact ⟨by simp, below_4 hb1 hb2 hb3 hb4⟩
  | false =>
    cases hf : errs (ysL t) with
    | true =>
      obtain ⟨z, hz, hz2, hz3⟩ := err_last t hf
      have hzn : z.2 ≠ 0 := by omega
      have dz : ((z.2 : Int) != 0) = true := by simp; omega
      have dz2 : ((z.2 : Int) == 0) = false := by simp; omega
      have HL := Lib.hid (fun w => lex_ok s w hs2 he)
      have HT := Lib.hid (fun w => lex_er t w ht2 z hz hzn)
      have hM : ∀ w, Calls Try.prog 13 #[.string (s ++ ⟨#[9]⟩ ++ t)] w fun e w' => e = .returned (.tuple #[.slice none 0 0, .int .i64 ((z.1.a : Int) + (s.size : Int) + 1), .int .i64 (z.2 : Int)]) ∧ Below w.heap.size w w' := by
        intro w
        refine (lex_er (s ++ ⟨#[9]⟩ ++ t) w HS.out (mv (s.size + 1) z) (both_er2 s t _ 9 rfl HU.out he hz) hzn).mono ?_
        rintro e w' ⟨rfl, hb⟩
        refine ⟨?_, hb⟩
        have : (((mv (s.size + 1) z).1.a : Nat) : Int) = (z.1.a : Int) + (s.size : Int) + 1 := by
          show ((z.1.a + (s.size + 1) : Nat) : Int) = _
          omega
        rw [this]; rfl
      have HM := Lib.hid hM
      have z0 : (0 : Int) ≤ (z.1.a : Int) := by omega
      have z1 : (z.1.a : Int) ≤ 1500 := by omega
      generalize (z.1.a : Int) = za at *
      clear hM hz hz2 hz3 he hf HU HS hzn
      go_enter Try.func6, Try.ntmps6
      go_wp2_with fail
      with_reducible refine (HA.out _).mono ?_
      rintro e w1 ⟨rfl, hb1⟩
      go_wp2_with fail
      with_reducible refine (HL.out _).mono ?_
      rintro e w2 ⟨g, cap, rfl, hb2, hg, ht⟩
      clear ht hg
      go_wp2_with fail
      with_reducible refine (HT.out _).mono ?_
      rintro e w3 ⟨rfl, hb3⟩
      go_wp2_with fail
      clear hE
      with_reducible refine (HM.out _).mono ?_
      rintro e w4 ⟨rfl, hb4⟩
      go_wp2_with fail
      go_ret
      exact ⟨by simp, below_4 hb1 hb2 hb3 hb4⟩
    | false =>
      obtain ⟨hue, hut⟩ := both_ok s t _ 9 rfl HU.out he hf
      have l1 := tgL_len s
      have l2 := tgL_len t
      have l3 := tgL_pos s
      have l4 := tgL_pos t
      obtain ⟨p, hp⟩ : ∃ p, (tgL s).length = p + 1 := ⟨(tgL s).length - 1, by omega⟩
      obtain ⟨n, hn⟩ : ∃ n, (tgL t).length = n := ⟨_, rfl⟩
      have hL : ∀ w, Calls Try.prog 13 #[.string s] w fun e w' => ∃ g cap, e = .returned (.tuple #[.slice (some ⟨g, 0, none⟩) (p + 1) cap, .int .i64 0, .int .i64 0]) ∧ p + 1 ≤ cap ∧ Below w.heap.size w w' ∧ TsV w' (some ⟨g, 0, none⟩) (tgL s) := by
        intro w
        refine (lex_ok_cap s w hs2 he).mono ?_
        rintro e w' ⟨g, cap, rfl, hc, hb, h⟩
        exact ⟨g, cap, by rw [hp], by rw [← hp]; exact hc, hb, h⟩
      have hT : ∀ w, Calls Try.prog 13 #[.string t] w fun e w' => ∃ g cap, e = .returned (.tuple #[.slice (some ⟨g, 0, none⟩) n cap, .int .i64 0, .int .i64 0]) ∧ Below w.heap.size w w' ∧ TsV w' (some ⟨g, 0, none⟩) (tgL t) := by
        intro w
        refine (lex_ok t w ht2 hf).mono ?_
        rintro e w' ⟨g, cap, rfl, hb, _, h⟩
        exact ⟨g, cap, by rw [hn], hb, h⟩
      have hM : ∀ w, Calls Try.prog 13 #[.string (s ++ ⟨#[9]⟩ ++ t)] w fun e w' => ∃ g cap, e = .returned (.tuple #[.slice (some ⟨g, 0, none⟩) (p + n) cap, .int .i64 0, .int .i64 0]) ∧ p + n ≤ cap ∧ Below w.heap.size w w' ∧ TsV w' (some ⟨g, 0, none⟩) ((tgL s).dropLast ++ (tgL t).map (shG (s.size + 1))) := by
        intro w
        have h := lex_ok_cap _ w HS.out hue
        rw [hut] at h
        refine h.mono ?_
        rintro e w' ⟨g, cap, rfl, hc, hb, h⟩
        have hl : ((tgL s).dropLast ++ (tgL t).map (shG (s.size + 1))).length = p + n := by
          rw [List.length_append, List.length_dropLast, List.length_map]; omega
        exact ⟨g, cap, by rw [hl], by rw [← hl]; exact hc, hb, h⟩
      have HL := Lib.hid hL
      have HT := Lib.hid hT
      have HM := Lib.hid hM
      have HBD := Lib.hid (at_bd t hf)
      clear hL hT hM hue hut he hf HU HS
      generalize tgL s = ls at *
      generalize tgL t = lt at *
      have HP := Lib.hid hp
      have HN := Lib.hid hn
      rw [hp] at l1
      rw [hn] at l2 l4
      clear l3 hp hn
      go_enter Try.func6, Try.ntmps6
      go_wp2_with fail
      with_reducible refine (HA.out _).mono ?_
      rintro e w1 ⟨rfl, hb1⟩
      go_wp2_with fail
      with_reducible refine (HL.out _).mono ?_
      rintro e w2 ⟨g, cap, rfl, hcp, hb2, htl⟩
      go_wp2_with fail
      with_reducible refine (HT.out _).mono ?_
      rintro e w3 ⟨g2, cap2, rfl, hb3, htt⟩
      go_wp2_with fail
      clear hE
      with_reducible refine (HM.out _).mono ?_
      rintro e w4 ⟨g3, cap3, rfl, hcp3, hb4, htu⟩
      have HB4 := Lib.hid (below_4 hb1 hb2 hb3 hb4)
      have HTL := Lib.hid ((htl.grow hb3).grow hb4)
      have HTT := Lib.hid (htt.grow hb4)
      have HTU := Lib.hid htu
      have f2 : ((p : Int) + (n : Int) != (p : Int) + 1 + (n : Int) - 1) = false := by rw [bne_eq_false_iff_eq]; omega
      clear hb1 hb2 hb3 hb4 htl htt htu HL HT HM HA d1 d2 d3 d4
      go_wp2_with fail
      go_loopw [16] (fun i wr => BoR n g g2 g3 ls lt (ls.dropLast ++ lt.map (shG (s.size + 1))) w i wr) (fun i _ => n - (intOf i).toNat)
      case atStart => exact ⟨0, rfl, Nat.zero_le _, HB4.out, HTL.out, HTT.out, HTU.out⟩
      case round =>
        clear HB4 HTL HTT HTU
        obtain ⟨q, rfl, hq, hbr, htl, htt, htu⟩ := hrel
        have HBR := Lib.hid hbr
        have HTL := Lib.hid htl
        have HTT := Lib.hid htt
        have HTU := Lib.hid htu
        by_cases hlt : q < n
        · have hlt2 : q < lt.length := by have := HN.out; omega
          obtain ⟨hlu, hg⟩ := both_get ls lt (s.size + 1) p HP.out q hlt2
          obtain ⟨bd1, bd2⟩ := HBD.out q hlt2
          obtain ⟨g', o, hgo, hgl, b0, b1, b2⟩ := htu.get hlu
          injection hgo with hgo
          injection hgo with hgo hgo2
          subst hgo; subst hgo2
          obtain ⟨g', o, hgo, hgl2, e0, e1, e2⟩ := htt.get hlt2
          injection hgo with hgo
          injection hgo with hgo hgo2
          subst hgo; subst hgo2
          rw [hg] at b0 b1 b2
          rw [Nat.zero_add] at b0 b1 b2 e0 e1 e2
          have c2 : wr.cell? ⟨g3, (p + q) * 3 + 2, none⟩ = some (.int .i64 (lt[q].a + (s.size : Int) + 1)) := by
            rw [b2]; show some (Value.int .i64 (lt[q].a + ((s.size + 1 : Nat) : Int))) = _
            rw [show lt[q].a + ((s.size + 1 : Nat) : Int) = lt[q].a + (s.size : Int) + 1 by omega]
          have c0 : wr.cell? ⟨g3, (p + q) * 3, none⟩ = some (.int .u8 lt[q].k) := b0
          have c1 : wr.cell? ⟨g3, (p + q) * 3 + 1, none⟩ = some (.string lt[q].t) := b1
          clear hg hbr htl htt htu hlu b0 b1 b2
          generalize lt[q].k = kk at *
          generalize lt[q].t = y at *
          generalize lt[q].a = za at *
          have n0 : (0 : Int) ≤ (q : Int) := by omega
          have n1 : (q : Int) < (n : Int) := by omega
          have n2 : (0 : Int) ≤ (p : Int) + (q : Int) := by omega
          have n3 : (p : Int) + (q : Int) < (p : Int) + (n : Int) := by omega
          have n4 : ((p : Int) + (q : Int)).toNat = p + q := by omega
          have m1 : IntKind.i64.wrap ((p : Int) + (q : Int)) = (p : Int) + (q : Int) := IntWalk.i64_in _ (by omega)
          have m2 : IntKind.i64.wrap (za + (s.size : Int)) = za + (s.size : Int) := IntWalk.i64_in _ (by omega)
          have m3 : IntKind.i64.wrap (za + (s.size : Int) + 1) = za + (s.size : Int) + 1 := IntWalk.i64_in _ (by omega)
          have m4 : IntKind.i64.wrap ((q : Int) + 1) = (q : Int) + 1 := IntWalk.i64_in _ (by omega)
          have m5 : p + q < p + n := by omega
          go_wp2_with fail
          refine wp_region_S (fun w' => w'.cell? ⟨wr.heap.size, 0, none⟩ = some (.int .u8 kk) ∧ w'.cell? ⟨wr.heap.size, 1, none⟩ = some (.string y) ∧ w'.cell? ⟨wr.heap.size, 2, none⟩ = some (.int .i64 (za + (s.size : Int) + 1)) ∧ w'.cell? ⟨g2, q * 3, none⟩ = some (.int .u8 kk) ∧ w'.cell? ⟨g2, q * 3 + 1, none⟩ = some (.string y) ∧ w'.cell? ⟨g2, q * 3 + 2, none⟩ = some (.int .i64 za)) [] 32 #[false, false, false, false, false, false, false, false, false, false, false, false, false, false, false, false, false, false, false, false, false, false, false, false, false, false, false, false, false, false, false, false] (by kernel_rfl) (by kernel_rfl) (by kernel_rfl)
            (by
              rw [World.cell?_drew, World.cell?_drew, World.cell?_drew, World.cell?_drew, World.cell?_drew, World.cell?_drew]
              refine ⟨by rw [World.cell?_alloc_at _ _ _ _ rfl]; rfl, by rw [World.cell?_alloc_at _ _ _ _ rfl]; rfl, by rw [World.cell?_alloc_at _ _ _ _ rfl]; rfl, ?_, ?_, ?_⟩
              · rw [World.cell?_alloc_lt _ _ _ hgl2]; exact e0
              · rw [World.cell?_alloc_lt _ _ _ hgl2]; exact e1
              · rw [World.cell?_alloc_lt _ _ _ hgl2]; exact e2) (fun hHeld => ?_)
          refine wpAnyS_take (i := 0) (oi := ⟨some 120, _, _, _, _, _⟩) (v := .pointer (some ⟨wr.heap.size, 0, none⟩)) rfl (by kernel_rfl) (by kernel_rfl) (by kernel_rfl) (by kernel_rfl) (fun _ _ _ h => Norm.panic h) (Or.inl ⟨by rfl, ?_⟩) (by assumption) ?_
          · intro w' hSw
            obtain ⟨k1, k2, k3, k4, k5, k6⟩ := hSw
            go_simp
          simp only [Act.put, List.setIfInBounds_toArray, List.set_cons_zero, List.set_cons_succ]
          refine wpAnyS_take (i := 1) (oi := ⟨some 121, _, _, _, _, _⟩) (v := .int .u8 kk) rfl (by kernel_rfl) (by kernel_rfl) (by kernel_rfl) (by kernel_rfl) (fun _ _ _ h => Norm.panic h) (Or.inl ⟨by rfl, ?_⟩) (by assumption) ?_
          · intro w' hSw
            obtain ⟨k1, k2, k3, k4, k5, k6⟩ := hSw
            go_simp
          simp only [Act.put, List.setIfInBounds_toArray, List.set_cons_zero, List.set_cons_succ]
          refine wpAnyS_take (i := 2) (oi := ⟨some 122, _, _, _, _, _⟩) (v := .slice (some ⟨g2, 0, none⟩) n cap2) rfl (by kernel_rfl) (by kernel_rfl) (by kernel_rfl) (by kernel_rfl) (fun _ _ _ h => Norm.panic h) (Or.inl ⟨by rfl, ?_⟩) (by assumption) ?_
          · intro w' hSw
            obtain ⟨k1, k2, k3, k4, k5, k6⟩ := hSw
            go_simp
          simp only [Act.put, List.setIfInBounds_toArray, List.set_cons_zero, List.set_cons_succ]
          refine wpAnyS_take (i := 3) (oi := ⟨some 123, _, _, _, _, _⟩) (v := .int .i64 (q : Int)) rfl (by kernel_rfl) (by kernel_rfl) (by kernel_rfl) (by kernel_rfl) (fun _ _ _ h => Norm.panic h) (Or.inl ⟨by rfl, ?_⟩) (by assumption) ?_
          · intro w' hSw
            obtain ⟨k1, k2, k3, k4, k5, k6⟩ := hSw
            go_simp
          simp only [Act.put, List.setIfInBounds_toArray, List.set_cons_zero, List.set_cons_succ]
          refine wpAnyS_take (i := 4) (oi := ⟨some 124, _, _, _, _, _⟩) (v := .pointer (some ⟨g2, q * 3, none⟩)) rfl (by kernel_rfl) (by kernel_rfl) (by kernel_rfl) (by kernel_rfl) (fun _ _ _ h => Norm.panic h) (Or.inl ⟨by rfl, ?_⟩) (by assumption) ?_
          · intro w' hSw
            obtain ⟨k1, k2, k3, k4, k5, k6⟩ := hSw
            go_simp
          simp only [Act.put, List.setIfInBounds_toArray, List.set_cons_zero, List.set_cons_succ]
          refine wpAnyS_take (i := 5) (oi := ⟨some 125, _, _, _, _, _⟩) (v := .pointer (some ⟨g2, q * 3, none⟩)) rfl (by kernel_rfl) (by kernel_rfl) (by kernel_rfl) (by kernel_rfl) (fun _ _ _ h => Norm.panic h) (Or.inl ⟨by rfl, ?_⟩) (by assumption) ?_
          · intro w' hSw
            obtain ⟨k1, k2, k3, k4, k5, k6⟩ := hSw
            go_simp
          simp only [Act.put, List.setIfInBounds_toArray, List.set_cons_zero, List.set_cons_succ]
          refine wpAnyS_take (i := 6) (oi := ⟨some 126, _, _, _, _, _⟩) (v := .int .u8 kk) rfl (by kernel_rfl) (by kernel_rfl) (by kernel_rfl) (by kernel_rfl) (fun _ _ _ h => Norm.panic h) (Or.inl ⟨by rfl, ?_⟩) (by assumption) ?_
          · intro w' hSw
            obtain ⟨k1, k2, k3, k4, k5, k6⟩ := hSw
            go_simp
          simp only [Act.put, List.setIfInBounds_toArray, List.set_cons_zero, List.set_cons_succ]
          refine wpAnyS_take (i := 7) (oi := ⟨some 127, _, _, _, _, _⟩) (v := .bool false) rfl (by kernel_rfl) (by kernel_rfl) (by kernel_rfl) (by kernel_rfl) (fun _ _ _ h => Norm.panic h) (Or.inl ⟨by rfl, ?_⟩) (by assumption) ?_
          · intro w' hSw
            obtain ⟨k1, k2, k3, k4, k5, k6⟩ := hSw
            go_simp
          simp only [Act.put, List.setIfInBounds_toArray, List.set_cons_zero, List.set_cons_succ]
          refine wpAnyS_take (i := 8) (oi := ⟨some 128, _, _, _, _, _⟩) (v := .bool false) rfl (by kernel_rfl) (by kernel_rfl) (by kernel_rfl) (by kernel_rfl) (fun _ _ _ h => Norm.panic h) (Or.inl ⟨by rfl, ?_⟩) (by assumption) ?_
          · intro w' hSw
            obtain ⟨k1, k2, k3, k4, k5, k6⟩ := hSw
            go_simp
          simp only [Act.put, List.setIfInBounds_toArray, List.set_cons_zero, List.set_cons_succ]
          refine wpAnyS_take (i := 9) (oi := ⟨some 129, _, _, _, _, _⟩) (v := .pointer (some ⟨wr.heap.size, 1, none⟩)) rfl (by kernel_rfl) (by kernel_rfl) (by kernel_rfl) (by kernel_rfl) (fun _ _ _ h => Norm.panic h) (Or.inl ⟨by rfl, ?_⟩) (by assumption) ?_
          · intro w' hSw
            obtain ⟨k1, k2, k3, k4, k5, k6⟩ := hSw
            go_simp
          simp only [Act.put, List.setIfInBounds_toArray, List.set_cons_zero, List.set_cons_succ]
          refine wpAnyS_take (i := 10) (oi := ⟨some 130, _, _, _, _, _⟩) (v := .string y) rfl (by kernel_rfl) (by kernel_rfl) (by kernel_rfl) (by kernel_rfl) (fun _ _ _ h => Norm.panic h) (Or.inl ⟨by rfl, ?_⟩) (by assumption) ?_
          · intro w' hSw
            obtain ⟨k1, k2, k3, k4, k5, k6⟩ := hSw
            go_simp
          simp only [Act.put, List.setIfInBounds_toArray, List.set_cons_zero, List.set_cons_succ]
          refine wpAnyS_take (i := 11) (oi := ⟨some 131, _, _, _, _, _⟩) (v := .slice (some ⟨g2, 0, none⟩) n cap2) rfl (by kernel_rfl) (by kernel_rfl) (by kernel_rfl) (by kernel_rfl) (fun _ _ _ h => Norm.panic h) (Or.inl ⟨by rfl, ?_⟩) (by assumption) ?_
          · intro w' hSw
            obtain ⟨k1, k2, k3, k4, k5, k6⟩ := hSw
            go_simp
          simp only [Act.put, List.setIfInBounds_toArray, List.set_cons_zero, List.set_cons_succ]
          refine wpAnyS_take (i := 12) (oi := ⟨some 132, _, _, _, _, _⟩) (v := .int .i64 (q : Int)) rfl (by kernel_rfl) (by kernel_rfl) (by kernel_rfl) (by kernel_rfl) (fun _ _ _ h => Norm.panic h) (Or.inl ⟨by rfl, ?_⟩) (by assumption) ?_
          · intro w' hSw
            obtain ⟨k1, k2, k3, k4, k5, k6⟩ := hSw
            go_simp
          simp only [Act.put, List.setIfInBounds_toArray, List.set_cons_zero, List.set_cons_succ]
          refine wpAnyS_take (i := 13) (oi := ⟨some 133, _, _, _, _, _⟩) (v := .pointer (some ⟨g2, q * 3, none⟩)) rfl (by kernel_rfl) (by kernel_rfl) (by kernel_rfl) (by kernel_rfl) (fun _ _ _ h => Norm.panic h) (Or.inl ⟨by rfl, ?_⟩) (by assumption) ?_
          · intro w' hSw
            obtain ⟨k1, k2, k3, k4, k5, k6⟩ := hSw
            go_simp
          simp only [Act.put, List.setIfInBounds_toArray, List.set_cons_zero, List.set_cons_succ]
          refine wpAnyS_take (i := 14) (oi := ⟨some 134, _, _, _, _, _⟩) (v := .pointer (some ⟨g2, q * 3 + 1, none⟩)) rfl (by kernel_rfl) (by kernel_rfl) (by kernel_rfl) (by kernel_rfl) (fun _ _ _ h => Norm.panic h) (Or.inl ⟨by rfl, ?_⟩) (by assumption) ?_
          · intro w' hSw
            obtain ⟨k1, k2, k3, k4, k5, k6⟩ := hSw
            go_simp
          simp only [Act.put, List.setIfInBounds_toArray, List.set_cons_zero, List.set_cons_succ]
          refine wpAnyS_take (i := 15) (oi := ⟨some 135, _, _, _, _, _⟩) (v := .string y) rfl (by kernel_rfl) (by kernel_rfl) (by kernel_rfl) (by kernel_rfl) (fun _ _ _ h => Norm.panic h) (Or.inl ⟨by rfl, ?_⟩) (by assumption) ?_
          · intro w' hSw
            obtain ⟨k1, k2, k3, k4, k5, k6⟩ := hSw
            go_simp
          simp only [Act.put, List.setIfInBounds_toArray, List.set_cons_zero, List.set_cons_succ]
          refine wpAnyS_take (i := 16) (oi := ⟨some 136, _, _, _, _, _⟩) (v := .bool false) rfl (by kernel_rfl) (by kernel_rfl) (by kernel_rfl) (by kernel_rfl) (fun _ _ _ h => Norm.panic h) (Or.inl ⟨by rfl, ?_⟩) (by assumption) ?_
          · intro w' hSw
            obtain ⟨k1, k2, k3, k4, k5, k6⟩ := hSw
            go_simp
          simp only [Act.put, List.setIfInBounds_toArray, List.set_cons_zero, List.set_cons_succ]
          refine wpAnyS_take (i := 17) (oi := ⟨some 137, _, _, _, _, _⟩) (v := .bool false) rfl (by kernel_rfl) (by kernel_rfl) (by kernel_rfl) (by kernel_rfl) (fun _ _ _ h => Norm.panic h) (Or.inl ⟨by rfl, ?_⟩) (by assumption) ?_
          · intro w' hSw
            obtain ⟨k1, k2, k3, k4, k5, k6⟩ := hSw
            go_simp
          simp only [Act.put, List.setIfInBounds_toArray, List.set_cons_zero, List.set_cons_succ]
          refine wpAnyS_take (i := 18) (oi := ⟨some 138, _, _, _, _, _⟩) (v := .bool false) rfl (by kernel_rfl) (by kernel_rfl) (by kernel_rfl) (by kernel_rfl) (fun _ _ _ h => Norm.panic h) (Or.inl ⟨by rfl, ?_⟩) (by assumption) ?_
          · intro w' hSw
            obtain ⟨k1, k2, k3, k4, k5, k6⟩ := hSw
            go_simp
          simp only [Act.put, List.setIfInBounds_toArray, List.set_cons_zero, List.set_cons_succ]
          refine wpAnyS_take (i := 19) (oi := ⟨some 139, _, _, _, _, _⟩) (v := .pointer (some ⟨wr.heap.size, 2, none⟩)) rfl (by kernel_rfl) (by kernel_rfl) (by kernel_rfl) (by kernel_rfl) (fun _ _ _ h => Norm.panic h) (Or.inl ⟨by rfl, ?_⟩) (by assumption) ?_
          · intro w' hSw
            obtain ⟨k1, k2, k3, k4, k5, k6⟩ := hSw
            go_simp
          simp only [Act.put, List.setIfInBounds_toArray, List.set_cons_zero, List.set_cons_succ]
          refine wpAnyS_take (i := 20) (oi := ⟨some 140, _, _, _, _, _⟩) (v := .int .i64 (za + (s.size : Int) + 1)) rfl (by kernel_rfl) (by kernel_rfl) (by kernel_rfl) (by kernel_rfl) (fun _ _ _ h => Norm.panic h) (Or.inl ⟨by rfl, ?_⟩) (by assumption) ?_
          · intro w' hSw
            obtain ⟨k1, k2, k3, k4, k5, k6⟩ := hSw
            go_simp
          simp only [Act.put, List.setIfInBounds_toArray, List.set_cons_zero, List.set_cons_succ]
          refine wpAnyS_take (i := 21) (oi := ⟨some 141, _, _, _, _, _⟩) (v := .slice (some ⟨g2, 0, none⟩) n cap2) rfl (by kernel_rfl) (by kernel_rfl) (by kernel_rfl) (by kernel_rfl) (fun _ _ _ h => Norm.panic h) (Or.inl ⟨by rfl, ?_⟩) (by assumption) ?_
          · intro w' hSw
            obtain ⟨k1, k2, k3, k4, k5, k6⟩ := hSw
            go_simp
          simp only [Act.put, List.setIfInBounds_toArray, List.set_cons_zero, List.set_cons_succ]
          refine wpAnyS_take (i := 22) (oi := ⟨some 142, _, _, _, _, _⟩) (v := .int .i64 (q : Int)) rfl (by kernel_rfl) (by kernel_rfl) (by kernel_rfl) (by kernel_rfl) (fun _ _ _ h => Norm.panic h) (Or.inl ⟨by rfl, ?_⟩) (by assumption) ?_
          · intro w' hSw
            obtain ⟨k1, k2, k3, k4, k5, k6⟩ := hSw
            go_simp
          simp only [Act.put, List.setIfInBounds_toArray, List.set_cons_zero, List.set_cons_succ]
          refine wpAnyS_take (i := 23) (oi := ⟨some 143, _, _, _, _, _⟩) (v := .pointer (some ⟨g2, q * 3, none⟩)) rfl (by kernel_rfl) (by kernel_rfl) (by kernel_rfl) (by kernel_rfl) (fun _ _ _ h => Norm.panic h) (Or.inl ⟨by rfl, ?_⟩) (by assumption) ?_
          · intro w' hSw
            obtain ⟨k1, k2, k3, k4, k5, k6⟩ := hSw
            go_simp
          simp only [Act.put, List.setIfInBounds_toArray, List.set_cons_zero, List.set_cons_succ]
          refine wpAnyS_take (i := 24) (oi := ⟨some 144, _, _, _, _, _⟩) (v := .pointer (some ⟨g2, q * 3 + 2, none⟩)) rfl (by kernel_rfl) (by kernel_rfl) (by kernel_rfl) (by kernel_rfl) (fun _ _ _ h => Norm.panic h) (Or.inl ⟨by rfl, ?_⟩) (by assumption) ?_
          · intro w' hSw
            obtain ⟨k1, k2, k3, k4, k5, k6⟩ := hSw
            go_simp
          simp only [Act.put, List.setIfInBounds_toArray, List.set_cons_zero, List.set_cons_succ]
          refine wpAnyS_take (i := 25) (oi := ⟨some 145, _, _, _, _, _⟩) (v := .int .i64 za) rfl (by kernel_rfl) (by kernel_rfl) (by kernel_rfl) (by kernel_rfl) (fun _ _ _ h => Norm.panic h) (Or.inl ⟨by rfl, ?_⟩) (by assumption) ?_
          · intro w' hSw
            obtain ⟨k1, k2, k3, k4, k5, k6⟩ := hSw
            go_simp
          simp only [Act.put, List.setIfInBounds_toArray, List.set_cons_zero, List.set_cons_succ]
          refine wpAnyS_take (i := 26) (oi := ⟨some 146, _, _, _, _, _⟩) (v := .string s) rfl (by kernel_rfl) (by kernel_rfl) (by kernel_rfl) (by kernel_rfl) (fun _ _ _ h => Norm.panic h) (Or.inl ⟨by rfl, ?_⟩) (by assumption) ?_
          · intro w' hSw
            obtain ⟨k1, k2, k3, k4, k5, k6⟩ := hSw
            go_simp
          simp only [Act.put, List.setIfInBounds_toArray, List.set_cons_zero, List.set_cons_succ]
          refine wpAnyS_take (i := 27) (oi := ⟨some 147, _, _, _, _, _⟩) (v := .int .i64 (s.size : Int)) rfl (by kernel_rfl) (by kernel_rfl) (by kernel_rfl) (by kernel_rfl) (fun _ _ _ h => Norm.panic h) (Or.inl ⟨by rfl, ?_⟩) (by assumption) ?_
          · intro w' hSw
            obtain ⟨k1, k2, k3, k4, k5, k6⟩ := hSw
            go_simp
          simp only [Act.put, List.setIfInBounds_toArray, List.set_cons_zero, List.set_cons_succ]
          refine wpAnyS_take (i := 28) (oi := ⟨some 148, _, _, _, _, _⟩) (v := .int .i64 (za + (s.size : Int))) rfl (by kernel_rfl) (by kernel_rfl) (by kernel_rfl) (by kernel_rfl) (fun _ _ _ h => Norm.panic h) (Or.inl ⟨by rfl, ?_⟩) (by assumption) ?_
          · intro w' hSw
            obtain ⟨k1, k2, k3, k4, k5, k6⟩ := hSw
            go_simp
          simp only [Act.put, List.setIfInBounds_toArray, List.set_cons_zero, List.set_cons_succ]
          refine wpAnyS_take (i := 29) (oi := ⟨some 149, _, _, _, _, _⟩) (v := .int .i64 (za + (s.size : Int) + 1)) rfl (by kernel_rfl) (by kernel_rfl) (by kernel_rfl) (by kernel_rfl) (fun _ _ _ h => Norm.panic h) (Or.inl ⟨by rfl, ?_⟩) (by assumption) ?_
          · intro w' hSw
            obtain ⟨k1, k2, k3, k4, k5, k6⟩ := hSw
            go_simp
          simp only [Act.put, List.setIfInBounds_toArray, List.set_cons_zero, List.set_cons_succ]
          refine wpAnyS_take (i := 30) (oi := ⟨some 150, _, _, _, _, _⟩) (v := .bool false) rfl (by kernel_rfl) (by kernel_rfl) (by kernel_rfl) (by kernel_rfl) (fun _ _ _ h => Norm.panic h) (Or.inl ⟨by rfl, ?_⟩) (by assumption) ?_
          · intro w' hSw
            obtain ⟨k1, k2, k3, k4, k5, k6⟩ := hSw
            go_simp
          simp only [Act.put, List.setIfInBounds_toArray, List.set_cons_zero, List.set_cons_succ]
          refine wpAnyS_take (i := 31) (oi := ⟨some 151, _, _, _, _, _⟩) (v := .bool false) rfl (by kernel_rfl) (by kernel_rfl) (by kernel_rfl) (by kernel_rfl) (fun _ _ _ h => Norm.panic h) (Or.inl ⟨by rfl, ?_⟩) (by assumption) ?_
          · intro w' hSw
            obtain ⟨k1, k2, k3, k4, k5, k6⟩ := hSw
            go_simp
          simp only [Act.put, List.setIfInBounds_toArray, List.set_cons_zero, List.set_cons_succ]
          refine wpAnyS_done (by kernel_rfl) ?_
          refine Norm.normal ?_
          go_wp2_with fail
          have HBB := Lib.hid (show Below wr.heap.size wr ((wr.alloc (.cells #[.int .u8 kk, .string y, .int .i64 (za + (s.size : Int) + 1)] 26)).drew) from Below.drew ((Below.refl _ _).alloc (Nat.le_refl _) _))
          exact ⟨⟨q + 1, by go_num, by omega, HBR.out.trans (HBB.out.mono HBR.out.size), HTL.out.grow HBB.out, HTT.out.grow HBB.out, HTU.out.grow HBB.out⟩, by simp [intOf]; omega⟩
        · obtain rfl : q = n := by omega
          clear hbr htl htt htu
          have m6 : IntKind.i64.wrap (p : Int) = (p : Int) := IntWalk.i64_in _ (by omega)
          have m7 : (p : Int) ≤ (cap3 : Int) := by omega
          have m8 : (p : Int) ≤ (cap : Int) := by omega
          have m9 : (0 : Int) ≤ (p : Int) := by omega
          have HK := Lib.hid (fun w h1 h2 => both_alike ls lt (s.size + 1) p g g3 cap cap3 w HP.out (by omega) h1 h2)
          go_wp2_with fail
          go_region_with (go_at_call 14; refine (HK.out _ (HTL.out.grow (Below.drew (Below.refl _ _))) (HTU.out.grow (Below.drew (Below.refl _ _)))).mono ?_; rintro e w1 ⟨rfl, hb⟩)
          go_wp2_with fail
          go_ret
          exact ⟨rfl, HBR.out.trans (((Below.drew (Below.refl wr.heap.size wr)).trans hb).mono HBR.out.size)⟩
set_option maxHeartbeats 4000000 in
set_option maxRecDepth 20000 in
theorem both_2 (s t : ByteArray) (x : Int) (w : World) (hs : s.size ≤ 1500) (ht : t.size ≤ 1500) (h0 : 0 ≤ x) (h1 : x ≤ 255) (hx : x % 4 = 2) : Calls Try.prog 6 #[.string s, .string t, .int .u8 x] w fun e w' => e = .returned (.bool true) ∧ Below w.heap.size w w' := by
  have HA := Lib.hid awake_c
  have hE : (⟨#[32, 9, 10, 13]⟩ : ByteArray).extract 2 (2 + 1) = ⟨#[10]⟩ := by decide
  have d1 : decide (1500 < s.size) = false := decide_eq_false (by omega)
  have d2 : decide (1500 < (s.size : Int)) = false := decide_eq_false (by omega)
  have d3 : decide (1500 < t.size) = false := decide_eq_false (by omega)
  have d4 : decide (1500 < (t.size : Int)) = false := decide_eq_false (by omega)
  have hu : (s ++ ⟨#[10]⟩ ++ t).data.toList = s.data.toList ++ 10 :: t.data.toList := by rw [app_list, app_list]; simp
  have hsz : (s ++ ⟨#[10]⟩ ++ t).size ≤ 16384 := by
    rw [ByteArray.size_append, ByteArray.size_append]
    show s.size + 1 + t.size ≤ 16384
    omega
  have HU := Lib.hid hu
  have HS := Lib.hid hsz
  clear hu hsz
  have hs2 : s.size ≤ 16384 := by omega
  have ht2 : t.size ≤ 16384 := by omega
  cases he : errs (ysL s) with
  | true =>
    obtain ⟨z, hz, hz2, hz3⟩ := err_last s he
    have hzn : z.2 ≠ 0 := by omega
    have dz : ((z.2 : Int) != 0) = true := by simp; omega
    have dz2 : ((z.2 : Int) == 0) = false := by simp; omega
    have HL := Lib.hid (fun w => lex_er s w hs2 z hz hzn)
    have HM := Lib.hid (fun w => lex_er (s ++ ⟨#[10]⟩ ++ t) w HS.out z (by rw [both_er1 s t _ 10 rfl HU.out he]; exact hz) hzn)
    have hT : ∀ w, Calls Try.prog 13 #[.string t] w fun e w' => ∃ a p q : Value, e = .returned (.tuple #[a, p, q]) ∧ Below w.heap.size w w' := by
      intro w
      cases hf : errs (ysL t) with
      | true =>
        obtain ⟨z, hz, hz2, hz3⟩ := err_last t hf
        refine (lex_er t w ht2 z hz (by omega)).mono ?_
        rintro e w' ⟨rfl, hb⟩
        exact ⟨_, _, _, rfl, hb⟩
      | false =>
        refine (lex_ok t w ht2 hf).mono ?_
        rintro e w' ⟨g, cap, rfl, hb, _, _⟩
        exact ⟨_, _, _, rfl, hb⟩
    have HT := Lib.hid hT
    clear hT
    clear hz hz2 hz3 he HU HS hzn
    go_enter Try.func6, Try.ntmps6
    go_wp2_with fail
    with_reducible refine (HA.out _).mono ?_
    rintro e w1 ⟨rfl, hb1⟩
    go_wp2_with fail
    with_reducible refine (HL.out _).mono ?_
    rintro e w2 ⟨rfl, hb2⟩
    go_wp2_with fail
    with_reducible refine (HT.out _).mono ?_
    rintro e w3 ⟨pa, pb, pc, rfl, hb3⟩
    go_wp2_with fail
    clear hE
    with_reducible refine (HM.out _).mono ?_
    rintro e w4 ⟨rfl, hb4⟩
    go_wp2_with fail
    go_ret
    exact ⟨by simp, below_4 hb1 hb2 hb3 hb4⟩
  | false =>
    cases hf : errs (ysL t) with
    | true =>
      obtain ⟨z, hz, hz2, hz3⟩ := err_last t hf
      have hzn : z.2 ≠ 0 := by omega
      have dz : ((z.2 : Int) != 0) = true := by simp; omega
      have dz2 : ((z.2 : Int) == 0) = false := by simp; omega
      have HL := Lib.hid (fun w => lex_ok s w hs2 he)
      have HT := Lib.hid (fun w => lex_er t w ht2 z hz hzn)
      have hM : ∀ w, Calls Try.prog 13 #[.string (s ++ ⟨#[10]⟩ ++ t)] w fun e w' => e = .returned (.tuple #[.slice none 0 0, .int .i64 ((z.1.a : Int) + (s.size : Int) + 1), .int .i64 (z.2 : Int)]) ∧ Below w.heap.size w w' := by
        intro w
        refine (lex_er (s ++ ⟨#[10]⟩ ++ t) w HS.out (mv (s.size + 1) z) (both_er2 s t _ 10 rfl HU.out he hz) hzn).mono ?_
        rintro e w' ⟨rfl, hb⟩
        refine ⟨?_, hb⟩
        have : (((mv (s.size + 1) z).1.a : Nat) : Int) = (z.1.a : Int) + (s.size : Int) + 1 := by
          show ((z.1.a + (s.size + 1) : Nat) : Int) = _
          omega
        rw [this]; rfl
      have HM := Lib.hid hM
      have z0 : (0 : Int) ≤ (z.1.a : Int) := by omega
      have z1 : (z.1.a : Int) ≤ 1500 := by omega
      generalize (z.1.a : Int) = za at *
      clear hM hz hz2 hz3 he hf HU HS hzn
      go_enter Try.func6, Try.ntmps6
      go_wp2_with fail
      with_reducible refine (HA.out _).mono ?_
      rintro e w1 ⟨rfl, hb1⟩
      go_wp2_with fail
      with_reducible refine (HL.out _).mono ?_
      rintro e w2 ⟨g, cap, rfl, hb2, hg, ht⟩
      clear ht hg
      go_wp2_with fail
      with_reducible refine (HT.out _).mono ?_
      rintro e w3 ⟨rfl, hb3⟩
      go_wp2_with fail
      clear hE
      with_reducible refine (HM.out _).mono ?_
      rintro e w4 ⟨rfl, hb4⟩
      go_wp2_with fail
      go_ret
      exact ⟨by simp, below_4 hb1 hb2 hb3 hb4⟩
    | false =>
      obtain ⟨hue, hut⟩ := both_ok s t _ 10 rfl HU.out he hf
      have l1 := tgL_len s
      have l2 := tgL_len t
      have l3 := tgL_pos s
      have l4 := tgL_pos t
      obtain ⟨p, hp⟩ : ∃ p, (tgL s).length = p + 1 := ⟨(tgL s).length - 1, by omega⟩
      obtain ⟨n, hn⟩ : ∃ n, (tgL t).length = n := ⟨_, rfl⟩
      have hL : ∀ w, Calls Try.prog 13 #[.string s] w fun e w' => ∃ g cap, e = .returned (.tuple #[.slice (some ⟨g, 0, none⟩) (p + 1) cap, .int .i64 0, .int .i64 0]) ∧ p + 1 ≤ cap ∧ Below w.heap.size w w' ∧ TsV w' (some ⟨g, 0, none⟩) (tgL s) := by
        intro w
        refine (lex_ok_cap s w hs2 he).mono ?_
        rintro e w' ⟨g, cap, rfl, hc, hb, h⟩
        exact ⟨g, cap, by rw [hp], by rw [← hp]; exact hc, hb, h⟩
      have hT : ∀ w, Calls Try.prog 13 #[.string t] w fun e w' => ∃ g cap, e = .returned (.tuple #[.slice (some ⟨g, 0, none⟩) n cap, .int .i64 0, .int .i64 0]) ∧ Below w.heap.size w w' ∧ TsV w' (some ⟨g, 0, none⟩) (tgL t) := by
        intro w
        refine (lex_ok t w ht2 hf).mono ?_
        rintro e w' ⟨g, cap, rfl, hb, _, h⟩
        exact ⟨g, cap, by rw [hn], hb, h⟩
      have hM : ∀ w, Calls Try.prog 13 #[.string (s ++ ⟨#[10]⟩ ++ t)] w fun e w' => ∃ g cap, e = .returned (.tuple #[.slice (some ⟨g, 0, none⟩) (p + n) cap, .int .i64 0, .int .i64 0]) ∧ p + n ≤ cap ∧ Below w.heap.size w w' ∧ TsV w' (some ⟨g, 0, none⟩) ((tgL s).dropLast ++ (tgL t).map (shG (s.size + 1))) := by
        intro w
        have h := lex_ok_cap _ w HS.out hue
        rw [hut] at h
        refine h.mono ?_
        rintro e w' ⟨g, cap, rfl, hc, hb, h⟩
        have hl : ((tgL s).dropLast ++ (tgL t).map (shG (s.size + 1))).length = p + n := by
          rw [List.length_append, List.length_dropLast, List.length_map]; omega
        exact ⟨g, cap, by rw [hl], by rw [← hl]; exact hc, hb, h⟩
      have HL := Lib.hid hL
      have HT := Lib.hid hT
      have HM := Lib.hid hM
      have HBD := Lib.hid (at_bd t hf)
      clear hL hT hM hue hut he hf HU HS
      generalize tgL s = ls at *
      generalize tgL t = lt at *
      have HP := Lib.hid hp
      have HN := Lib.hid hn
      rw [hp] at l1
      rw [hn] at l2 l4
      clear l3 hp hn
      go_enter Try.func6, Try.ntmps6
      go_wp2_with fail
      with_reducible refine (HA.out _).mono ?_
      rintro e w1 ⟨rfl, hb1⟩
      go_wp2_with fail
      with_reducible refine (HL.out _).mono ?_
      rintro e w2 ⟨g, cap, rfl, hcp, hb2, htl⟩
      go_wp2_with fail
      with_reducible refine (HT.out _).mono ?_
      rintro e w3 ⟨g2, cap2, rfl, hb3, htt⟩
      go_wp2_with fail
      clear hE
      with_reducible refine (HM.out _).mono ?_
      rintro e w4 ⟨g3, cap3, rfl, hcp3, hb4, htu⟩
      have HB4 := Lib.hid (below_4 hb1 hb2 hb3 hb4)
      have HTL := Lib.hid ((htl.grow hb3).grow hb4)
      have HTT := Lib.hid (htt.grow hb4)
      have HTU := Lib.hid htu
      have f2 : ((p : Int) + (n : Int) != (p : Int) + 1 + (n : Int) - 1) = false := by rw [bne_eq_false_iff_eq]; omega
      clear hb1 hb2 hb3 hb4 htl htt htu HL HT HM HA d1 d2 d3 d4
      go_wp2_with fail
      go_loopw [16] (fun i wr => BoR n g g2 g3 ls lt (ls.dropLast ++ lt.map (shG (s.size + 1))) w i wr) (fun i _ => n - (intOf i).toNat)
      case atStart => exact ⟨0, rfl, Nat.zero_le _, HB4.out, HTL.out, HTT.out, HTU.out⟩
      case round =>
        clear HB4 HTL HTT HTU
        obtain ⟨q, rfl, hq, hbr, htl, htt, htu⟩ := hrel
        have HBR := Lib.hid hbr
        have HTL := Lib.hid htl
        have HTT := Lib.hid htt
        have HTU := Lib.hid htu
        by_cases hlt : q < n
        · have hlt2 : q < lt.length := by have := HN.out; omega
          obtain ⟨hlu, hg⟩ := both_get ls lt (s.size + 1) p HP.out q hlt2
          obtain ⟨bd1, bd2⟩ := HBD.out q hlt2
          obtain ⟨g', o, hgo, hgl, b0, b1, b2⟩ := htu.get hlu
          injection hgo with hgo
          injection hgo with hgo hgo2
          subst hgo; subst hgo2
          obtain ⟨g', o, hgo, hgl2, e0, e1, e2⟩ := htt.get hlt2
          injection hgo with hgo
          injection hgo with hgo hgo2
          subst hgo; subst hgo2
          rw [hg] at b0 b1 b2
          rw [Nat.zero_add] at b0 b1 b2 e0 e1 e2
          have c2 : wr.cell? ⟨g3, (p + q) * 3 + 2, none⟩ = some (.int .i64 (lt[q].a + (s.size : Int) + 1)) := by
            rw [b2]; show some (Value.int .i64 (lt[q].a + ((s.size + 1 : Nat) : Int))) = _
            rw [show lt[q].a + ((s.size + 1 : Nat) : Int) = lt[q].a + (s.size : Int) + 1 by omega]
          have c0 : wr.cell? ⟨g3, (p + q) * 3, none⟩ = some (.int .u8 lt[q].k) := b0
          have c1 : wr.cell? ⟨g3, (p + q) * 3 + 1, none⟩ = some (.string lt[q].t) := b1
          clear hg hbr htl htt htu hlu b0 b1 b2
          generalize lt[q].k = kk at *
          generalize lt[q].t = y at *
          generalize lt[q].a = za at *
          have n0 : (0 : Int) ≤ (q : Int) := by omega
          have n1 : (q : Int) < (n : Int) := by omega
          have n2 : (0 : Int) ≤ (p : Int) + (q : Int) := by omega
          have n3 : (p : Int) + (q : Int) < (p : Int) + (n : Int) := by omega
          have n4 : ((p : Int) + (q : Int)).toNat = p + q := by omega
          have m1 : IntKind.i64.wrap ((p : Int) + (q : Int)) = (p : Int) + (q : Int) := IntWalk.i64_in _ (by omega)
          have m2 : IntKind.i64.wrap (za + (s.size : Int)) = za + (s.size : Int) := IntWalk.i64_in _ (by omega)
          have m3 : IntKind.i64.wrap (za + (s.size : Int) + 1) = za + (s.size : Int) + 1 := IntWalk.i64_in _ (by omega)
          have m4 : IntKind.i64.wrap ((q : Int) + 1) = (q : Int) + 1 := IntWalk.i64_in _ (by omega)
          have m5 : p + q < p + n := by omega
          go_wp2_with fail
          refine wp_region_S (fun w' => w'.cell? ⟨wr.heap.size, 0, none⟩ = some (.int .u8 kk) ∧ w'.cell? ⟨wr.heap.size, 1, none⟩ = some (.string y) ∧ w'.cell? ⟨wr.heap.size, 2, none⟩ = some (.int .i64 (za + (s.size : Int) + 1)) ∧ w'.cell? ⟨g2, q * 3, none⟩ = some (.int .u8 kk) ∧ w'.cell? ⟨g2, q * 3 + 1, none⟩ = some (.string y) ∧ w'.cell? ⟨g2, q * 3 + 2, none⟩ = some (.int .i64 za)) [] 32 #[false, false, false, false, false, false, false, false, false, false, false, false, false, false, false, false, false, false, false, false, false, false, false, false, false, false, false, false, false, false, false, false] (by kernel_rfl) (by kernel_rfl) (by kernel_rfl)
            (by
              rw [World.cell?_drew, World.cell?_drew, World.cell?_drew, World.cell?_drew, World.cell?_drew, World.cell?_drew]
              refine ⟨by rw [World.cell?_alloc_at _ _ _ _ rfl]; rfl, by rw [World.cell?_alloc_at _ _ _ _ rfl]; rfl, by rw [World.cell?_alloc_at _ _ _ _ rfl]; rfl, ?_, ?_, ?_⟩
              · rw [World.cell?_alloc_lt _ _ _ hgl2]; exact e0
              · rw [World.cell?_alloc_lt _ _ _ hgl2]; exact e1
              · rw [World.cell?_alloc_lt _ _ _ hgl2]; exact e2) (fun hHeld => ?_)
          refine wpAnyS_take (i := 0) (oi := ⟨some 120, _, _, _, _, _⟩) (v := .pointer (some ⟨wr.heap.size, 0, none⟩)) rfl (by kernel_rfl) (by kernel_rfl) (by kernel_rfl) (by kernel_rfl) (fun _ _ _ h => Norm.panic h) (Or.inl ⟨by rfl, ?_⟩) (by assumption) ?_
          · intro w' hSw
            obtain ⟨k1, k2, k3, k4, k5, k6⟩ := hSw
            go_simp
          simp only [Act.put, List.setIfInBounds_toArray, List.set_cons_zero, List.set_cons_succ]
          refine wpAnyS_take (i := 1) (oi := ⟨some 121, _, _, _, _, _⟩) (v := .int .u8 kk) rfl (by kernel_rfl) (by kernel_rfl) (by kernel_rfl) (by kernel_rfl) (fun _ _ _ h => Norm.panic h) (Or.inl ⟨by rfl, ?_⟩) (by assumption) ?_
          · intro w' hSw
            obtain ⟨k1, k2, k3, k4, k5, k6⟩ := hSw
            go_simp
          simp only [Act.put, List.setIfInBounds_toArray, List.set_cons_zero, List.set_cons_succ]
          refine wpAnyS_take (i := 2) (oi := ⟨some 122, _, _, _, _, _⟩) (v := .slice (some ⟨g2, 0, none⟩) n cap2) rfl (by kernel_rfl) (by kernel_rfl) (by kernel_rfl) (by kernel_rfl) (fun _ _ _ h => Norm.panic h) (Or.inl ⟨by rfl, ?_⟩) (by assumption) ?_
          · intro w' hSw
            obtain ⟨k1, k2, k3, k4, k5, k6⟩ := hSw
            go_simp
          simp only [Act.put, List.setIfInBounds_toArray, List.set_cons_zero, List.set_cons_succ]
          refine wpAnyS_take (i := 3) (oi := ⟨some 123, _, _, _, _, _⟩) (v := .int .i64 (q : Int)) rfl (by kernel_rfl) (by kernel_rfl) (by kernel_rfl) (by kernel_rfl) (fun _ _ _ h => Norm.panic h) (Or.inl ⟨by rfl, ?_⟩) (by assumption) ?_
          · intro w' hSw
            obtain ⟨k1, k2, k3, k4, k5, k6⟩ := hSw
            go_simp
          simp only [Act.put, List.setIfInBounds_toArray, List.set_cons_zero, List.set_cons_succ]
          refine wpAnyS_take (i := 4) (oi := ⟨some 124, _, _, _, _, _⟩) (v := .pointer (some ⟨g2, q * 3, none⟩)) rfl (by kernel_rfl) (by kernel_rfl) (by kernel_rfl) (by kernel_rfl) (fun _ _ _ h => Norm.panic h) (Or.inl ⟨by rfl, ?_⟩) (by assumption) ?_
          · intro w' hSw
            obtain ⟨k1, k2, k3, k4, k5, k6⟩ := hSw
            go_simp
          simp only [Act.put, List.setIfInBounds_toArray, List.set_cons_zero, List.set_cons_succ]
          refine wpAnyS_take (i := 5) (oi := ⟨some 125, _, _, _, _, _⟩) (v := .pointer (some ⟨g2, q * 3, none⟩)) rfl (by kernel_rfl) (by kernel_rfl) (by kernel_rfl) (by kernel_rfl) (fun _ _ _ h => Norm.panic h) (Or.inl ⟨by rfl, ?_⟩) (by assumption) ?_
          · intro w' hSw
            obtain ⟨k1, k2, k3, k4, k5, k6⟩ := hSw
            go_simp
          simp only [Act.put, List.setIfInBounds_toArray, List.set_cons_zero, List.set_cons_succ]
          refine wpAnyS_take (i := 6) (oi := ⟨some 126, _, _, _, _, _⟩) (v := .int .u8 kk) rfl (by kernel_rfl) (by kernel_rfl) (by kernel_rfl) (by kernel_rfl) (fun _ _ _ h => Norm.panic h) (Or.inl ⟨by rfl, ?_⟩) (by assumption) ?_
          · intro w' hSw
            obtain ⟨k1, k2, k3, k4, k5, k6⟩ := hSw
            go_simp
          simp only [Act.put, List.setIfInBounds_toArray, List.set_cons_zero, List.set_cons_succ]
          refine wpAnyS_take (i := 7) (oi := ⟨some 127, _, _, _, _, _⟩) (v := .bool false) rfl (by kernel_rfl) (by kernel_rfl) (by kernel_rfl) (by kernel_rfl) (fun _ _ _ h => Norm.panic h) (Or.inl ⟨by rfl, ?_⟩) (by assumption) ?_
          · intro w' hSw
            obtain ⟨k1, k2, k3, k4, k5, k6⟩ := hSw
            go_simp
          simp only [Act.put, List.setIfInBounds_toArray, List.set_cons_zero, List.set_cons_succ]
          refine wpAnyS_take (i := 8) (oi := ⟨some 128, _, _, _, _, _⟩) (v := .bool false) rfl (by kernel_rfl) (by kernel_rfl) (by kernel_rfl) (by kernel_rfl) (fun _ _ _ h => Norm.panic h) (Or.inl ⟨by rfl, ?_⟩) (by assumption) ?_
          · intro w' hSw
            obtain ⟨k1, k2, k3, k4, k5, k6⟩ := hSw
            go_simp
          simp only [Act.put, List.setIfInBounds_toArray, List.set_cons_zero, List.set_cons_succ]
          refine wpAnyS_take (i := 9) (oi := ⟨some 129, _, _, _, _, _⟩) (v := .pointer (some ⟨wr.heap.size, 1, none⟩)) rfl (by kernel_rfl) (by kernel_rfl) (by kernel_rfl) (by kernel_rfl) (fun _ _ _ h => Norm.panic h) (Or.inl ⟨by rfl, ?_⟩) (by assumption) ?_
          · intro w' hSw
            obtain ⟨k1, k2, k3, k4, k5, k6⟩ := hSw
            go_simp
          simp only [Act.put, List.setIfInBounds_toArray, List.set_cons_zero, List.set_cons_succ]
          refine wpAnyS_take (i := 10) (oi := ⟨some 130, _, _, _, _, _⟩) (v := .string y) rfl (by kernel_rfl) (by kernel_rfl) (by kernel_rfl) (by kernel_rfl) (fun _ _ _ h => Norm.panic h) (Or.inl ⟨by rfl, ?_⟩) (by assumption) ?_
          · intro w' hSw
            obtain ⟨k1, k2, k3, k4, k5, k6⟩ := hSw
            go_simp
          simp only [Act.put, List.setIfInBounds_toArray, List.set_cons_zero, List.set_cons_succ]
          refine wpAnyS_take (i := 11) (oi := ⟨some 131, _, _, _, _, _⟩) (v := .slice (some ⟨g2, 0, none⟩) n cap2) rfl (by kernel_rfl) (by kernel_rfl) (by kernel_rfl) (by kernel_rfl) (fun _ _ _ h => Norm.panic h) (Or.inl ⟨by rfl, ?_⟩) (by assumption) ?_
          · intro w' hSw
            obtain ⟨k1, k2, k3, k4, k5, k6⟩ := hSw
            go_simp
          simp only [Act.put, List.setIfInBounds_toArray, List.set_cons_zero, List.set_cons_succ]
          refine wpAnyS_take (i := 12) (oi := ⟨some 132, _, _, _, _, _⟩) (v := .int .i64 (q : Int)) rfl (by kernel_rfl) (by kernel_rfl) (by kernel_rfl) (by kernel_rfl) (fun _ _ _ h => Norm.panic h) (Or.inl ⟨by rfl, ?_⟩) (by assumption) ?_
          · intro w' hSw
            obtain ⟨k1, k2, k3, k4, k5, k6⟩ := hSw
            go_simp
          simp only [Act.put, List.setIfInBounds_toArray, List.set_cons_zero, List.set_cons_succ]
          refine wpAnyS_take (i := 13) (oi := ⟨some 133, _, _, _, _, _⟩) (v := .pointer (some ⟨g2, q * 3, none⟩)) rfl (by kernel_rfl) (by kernel_rfl) (by kernel_rfl) (by kernel_rfl) (fun _ _ _ h => Norm.panic h) (Or.inl ⟨by rfl, ?_⟩) (by assumption) ?_
          · intro w' hSw
            obtain ⟨k1, k2, k3, k4, k5, k6⟩ := hSw
            go_simp
          simp only [Act.put, List.setIfInBounds_toArray, List.set_cons_zero, List.set_cons_succ]
          refine wpAnyS_take (i := 14) (oi := ⟨some 134, _, _, _, _, _⟩) (v := .pointer (some ⟨g2, q * 3 + 1, none⟩)) rfl (by kernel_rfl) (by kernel_rfl) (by kernel_rfl) (by kernel_rfl) (fun _ _ _ h => Norm.panic h) (Or.inl ⟨by rfl, ?_⟩) (by assumption) ?_
          · intro w' hSw
            obtain ⟨k1, k2, k3, k4, k5, k6⟩ := hSw
            go_simp
          simp only [Act.put, List.setIfInBounds_toArray, List.set_cons_zero, List.set_cons_succ]
          refine wpAnyS_take (i := 15) (oi := ⟨some 135, _, _, _, _, _⟩) (v := .string y) rfl (by kernel_rfl) (by kernel_rfl) (by kernel_rfl) (by kernel_rfl) (fun _ _ _ h => Norm.panic h) (Or.inl ⟨by rfl, ?_⟩) (by assumption) ?_
          · intro w' hSw
            obtain ⟨k1, k2, k3, k4, k5, k6⟩ := hSw
            go_simp
          simp only [Act.put, List.setIfInBounds_toArray, List.set_cons_zero, List.set_cons_succ]
          refine wpAnyS_take (i := 16) (oi := ⟨some 136, _, _, _, _, _⟩) (v := .bool false) rfl (by kernel_rfl) (by kernel_rfl) (by kernel_rfl) (by kernel_rfl) (fun _ _ _ h => Norm.panic h) (Or.inl ⟨by rfl, ?_⟩) (by assumption) ?_
          · intro w' hSw
            obtain ⟨k1, k2, k3, k4, k5, k6⟩ := hSw
            go_simp
          simp only [Act.put, List.setIfInBounds_toArray, List.set_cons_zero, List.set_cons_succ]
          refine wpAnyS_take (i := 17) (oi := ⟨some 137, _, _, _, _, _⟩) (v := .bool false) rfl (by kernel_rfl) (by kernel_rfl) (by kernel_rfl) (by kernel_rfl) (fun _ _ _ h => Norm.panic h) (Or.inl ⟨by rfl, ?_⟩) (by assumption) ?_
          · intro w' hSw
            obtain ⟨k1, k2, k3, k4, k5, k6⟩ := hSw
            go_simp
          simp only [Act.put, List.setIfInBounds_toArray, List.set_cons_zero, List.set_cons_succ]
          refine wpAnyS_take (i := 18) (oi := ⟨some 138, _, _, _, _, _⟩) (v := .bool false) rfl (by kernel_rfl) (by kernel_rfl) (by kernel_rfl) (by kernel_rfl) (fun _ _ _ h => Norm.panic h) (Or.inl ⟨by rfl, ?_⟩) (by assumption) ?_
          · intro w' hSw
            obtain ⟨k1, k2, k3, k4, k5, k6⟩ := hSw
            go_simp
          simp only [Act.put, List.setIfInBounds_toArray, List.set_cons_zero, List.set_cons_succ]
          refine wpAnyS_take (i := 19) (oi := ⟨some 139, _, _, _, _, _⟩) (v := .pointer (some ⟨wr.heap.size, 2, none⟩)) rfl (by kernel_rfl) (by kernel_rfl) (by kernel_rfl) (by kernel_rfl) (fun _ _ _ h => Norm.panic h) (Or.inl ⟨by rfl, ?_⟩) (by assumption) ?_
          · intro w' hSw
            obtain ⟨k1, k2, k3, k4, k5, k6⟩ := hSw
            go_simp
          simp only [Act.put, List.setIfInBounds_toArray, List.set_cons_zero, List.set_cons_succ]
          refine wpAnyS_take (i := 20) (oi := ⟨some 140, _, _, _, _, _⟩) (v := .int .i64 (za + (s.size : Int) + 1)) rfl (by kernel_rfl) (by kernel_rfl) (by kernel_rfl) (by kernel_rfl) (fun _ _ _ h => Norm.panic h) (Or.inl ⟨by rfl, ?_⟩) (by assumption) ?_
          · intro w' hSw
            obtain ⟨k1, k2, k3, k4, k5, k6⟩ := hSw
            go_simp
          simp only [Act.put, List.setIfInBounds_toArray, List.set_cons_zero, List.set_cons_succ]
          refine wpAnyS_take (i := 21) (oi := ⟨some 141, _, _, _, _, _⟩) (v := .slice (some ⟨g2, 0, none⟩) n cap2) rfl (by kernel_rfl) (by kernel_rfl) (by kernel_rfl) (by kernel_rfl) (fun _ _ _ h => Norm.panic h) (Or.inl ⟨by rfl, ?_⟩) (by assumption) ?_
          · intro w' hSw
            obtain ⟨k1, k2, k3, k4, k5, k6⟩ := hSw
            go_simp
          simp only [Act.put, List.setIfInBounds_toArray, List.set_cons_zero, List.set_cons_succ]
          refine wpAnyS_take (i := 22) (oi := ⟨some 142, _, _, _, _, _⟩) (v := .int .i64 (q : Int)) rfl (by kernel_rfl) (by kernel_rfl) (by kernel_rfl) (by kernel_rfl) (fun _ _ _ h => Norm.panic h) (Or.inl ⟨by rfl, ?_⟩) (by assumption) ?_
          · intro w' hSw
            obtain ⟨k1, k2, k3, k4, k5, k6⟩ := hSw
            go_simp
          simp only [Act.put, List.setIfInBounds_toArray, List.set_cons_zero, List.set_cons_succ]
          refine wpAnyS_take (i := 23) (oi := ⟨some 143, _, _, _, _, _⟩) (v := .pointer (some ⟨g2, q * 3, none⟩)) rfl (by kernel_rfl) (by kernel_rfl) (by kernel_rfl) (by kernel_rfl) (fun _ _ _ h => Norm.panic h) (Or.inl ⟨by rfl, ?_⟩) (by assumption) ?_
          · intro w' hSw
            obtain ⟨k1, k2, k3, k4, k5, k6⟩ := hSw
            go_simp
          simp only [Act.put, List.setIfInBounds_toArray, List.set_cons_zero, List.set_cons_succ]
          refine wpAnyS_take (i := 24) (oi := ⟨some 144, _, _, _, _, _⟩) (v := .pointer (some ⟨g2, q * 3 + 2, none⟩)) rfl (by kernel_rfl) (by kernel_rfl) (by kernel_rfl) (by kernel_rfl) (fun _ _ _ h => Norm.panic h) (Or.inl ⟨by rfl, ?_⟩) (by assumption) ?_
          · intro w' hSw
            obtain ⟨k1, k2, k3, k4, k5, k6⟩ := hSw
            go_simp
          simp only [Act.put, List.setIfInBounds_toArray, List.set_cons_zero, List.set_cons_succ]
          refine wpAnyS_take (i := 25) (oi := ⟨some 145, _, _, _, _, _⟩) (v := .int .i64 za) rfl (by kernel_rfl) (by kernel_rfl) (by kernel_rfl) (by kernel_rfl) (fun _ _ _ h => Norm.panic h) (Or.inl ⟨by rfl, ?_⟩) (by assumption) ?_
          · intro w' hSw
            obtain ⟨k1, k2, k3, k4, k5, k6⟩ := hSw
            go_simp
          simp only [Act.put, List.setIfInBounds_toArray, List.set_cons_zero, List.set_cons_succ]
          refine wpAnyS_take (i := 26) (oi := ⟨some 146, _, _, _, _, _⟩) (v := .string s) rfl (by kernel_rfl) (by kernel_rfl) (by kernel_rfl) (by kernel_rfl) (fun _ _ _ h => Norm.panic h) (Or.inl ⟨by rfl, ?_⟩) (by assumption) ?_
          · intro w' hSw
            obtain ⟨k1, k2, k3, k4, k5, k6⟩ := hSw
            go_simp
          simp only [Act.put, List.setIfInBounds_toArray, List.set_cons_zero, List.set_cons_succ]
          refine wpAnyS_take (i := 27) (oi := ⟨some 147, _, _, _, _, _⟩) (v := .int .i64 (s.size : Int)) rfl (by kernel_rfl) (by kernel_rfl) (by kernel_rfl) (by kernel_rfl) (fun _ _ _ h => Norm.panic h) (Or.inl ⟨by rfl, ?_⟩) (by assumption) ?_
          · intro w' hSw
            obtain ⟨k1, k2, k3, k4, k5, k6⟩ := hSw
            go_simp
          simp only [Act.put, List.setIfInBounds_toArray, List.set_cons_zero, List.set_cons_succ]
          refine wpAnyS_take (i := 28) (oi := ⟨some 148, _, _, _, _, _⟩) (v := .int .i64 (za + (s.size : Int))) rfl (by kernel_rfl) (by kernel_rfl) (by kernel_rfl) (by kernel_rfl) (fun _ _ _ h => Norm.panic h) (Or.inl ⟨by rfl, ?_⟩) (by assumption) ?_
          · intro w' hSw
            obtain ⟨k1, k2, k3, k4, k5, k6⟩ := hSw
            go_simp
          simp only [Act.put, List.setIfInBounds_toArray, List.set_cons_zero, List.set_cons_succ]
          refine wpAnyS_take (i := 29) (oi := ⟨some 149, _, _, _, _, _⟩) (v := .int .i64 (za + (s.size : Int) + 1)) rfl (by kernel_rfl) (by kernel_rfl) (by kernel_rfl) (by kernel_rfl) (fun _ _ _ h => Norm.panic h) (Or.inl ⟨by rfl, ?_⟩) (by assumption) ?_
          · intro w' hSw
            obtain ⟨k1, k2, k3, k4, k5, k6⟩ := hSw
            go_simp
          simp only [Act.put, List.setIfInBounds_toArray, List.set_cons_zero, List.set_cons_succ]
          refine wpAnyS_take (i := 30) (oi := ⟨some 150, _, _, _, _, _⟩) (v := .bool false) rfl (by kernel_rfl) (by kernel_rfl) (by kernel_rfl) (by kernel_rfl) (fun _ _ _ h => Norm.panic h) (Or.inl ⟨by rfl, ?_⟩) (by assumption) ?_
          · intro w' hSw
            obtain ⟨k1, k2, k3, k4, k5, k6⟩ := hSw
            go_simp
          simp only [Act.put, List.setIfInBounds_toArray, List.set_cons_zero, List.set_cons_succ]
          refine wpAnyS_take (i := 31) (oi := ⟨some 151, _, _, _, _, _⟩) (v := .bool false) rfl (by kernel_rfl) (by kernel_rfl) (by kernel_rfl) (by kernel_rfl) (fun _ _ _ h => Norm.panic h) (Or.inl ⟨by rfl, ?_⟩) (by assumption) ?_
          · intro w' hSw
            obtain ⟨k1, k2, k3, k4, k5, k6⟩ := hSw
            go_simp
          simp only [Act.put, List.setIfInBounds_toArray, List.set_cons_zero, List.set_cons_succ]
          refine wpAnyS_done (by kernel_rfl) ?_
          refine Norm.normal ?_
          go_wp2_with fail
          have HBB := Lib.hid (show Below wr.heap.size wr ((wr.alloc (.cells #[.int .u8 kk, .string y, .int .i64 (za + (s.size : Int) + 1)] 26)).drew) from Below.drew ((Below.refl _ _).alloc (Nat.le_refl _) _))
          exact ⟨⟨q + 1, by go_num, by omega, HBR.out.trans (HBB.out.mono HBR.out.size), HTL.out.grow HBB.out, HTT.out.grow HBB.out, HTU.out.grow HBB.out⟩, by simp [intOf]; omega⟩
        · obtain rfl : q = n := by omega
          clear hbr htl htt htu
          have m6 : IntKind.i64.wrap (p : Int) = (p : Int) := IntWalk.i64_in _ (by omega)
          have m7 : (p : Int) ≤ (cap3 : Int) := by omega
          have m8 : (p : Int) ≤ (cap : Int) := by omega
          have m9 : (0 : Int) ≤ (p : Int) := by omega
          have HK := Lib.hid (fun w h1 h2 => both_alike ls lt (s.size + 1) p g g3 cap cap3 w HP.out (by omega) h1 h2)
          go_wp2_with fail
          go_region_with (go_at_call 14; refine (HK.out _ (HTL.out.grow (Below.drew (Below.refl _ _))) (HTU.out.grow (Below.drew (Below.refl _ _)))).mono ?_; rintro e w1 ⟨rfl, hb⟩)
          go_wp2_with fail
          go_ret
          exact ⟨rfl, HBR.out.trans (((Below.drew (Below.refl wr.heap.size wr)).trans hb).mono HBR.out.size)⟩
set_option maxHeartbeats 4000000 in
set_option maxRecDepth 20000 in
theorem both_3 (s t : ByteArray) (x : Int) (w : World) (hs : s.size ≤ 1500) (ht : t.size ≤ 1500) (h0 : 0 ≤ x) (h1 : x ≤ 255) (hx : x % 4 = 3) : Calls Try.prog 6 #[.string s, .string t, .int .u8 x] w fun e w' => e = .returned (.bool true) ∧ Below w.heap.size w w' := by
  have HA := Lib.hid awake_c
  have hE : (⟨#[32, 9, 10, 13]⟩ : ByteArray).extract 3 (3 + 1) = ⟨#[13]⟩ := by decide
  have d1 : decide (1500 < s.size) = false := decide_eq_false (by omega)
  have d2 : decide (1500 < (s.size : Int)) = false := decide_eq_false (by omega)
  have d3 : decide (1500 < t.size) = false := decide_eq_false (by omega)
  have d4 : decide (1500 < (t.size : Int)) = false := decide_eq_false (by omega)
  have hu : (s ++ ⟨#[13]⟩ ++ t).data.toList = s.data.toList ++ 13 :: t.data.toList := by rw [app_list, app_list]; simp
  have hsz : (s ++ ⟨#[13]⟩ ++ t).size ≤ 16384 := by
    rw [ByteArray.size_append, ByteArray.size_append]
    show s.size + 1 + t.size ≤ 16384
    omega
  have HU := Lib.hid hu
  have HS := Lib.hid hsz
  clear hu hsz
  have hs2 : s.size ≤ 16384 := by omega
  have ht2 : t.size ≤ 16384 := by omega
  cases he : errs (ysL s) with
  | true =>
    obtain ⟨z, hz, hz2, hz3⟩ := err_last s he
    have hzn : z.2 ≠ 0 := by omega
    have dz : ((z.2 : Int) != 0) = true := by simp; omega
    have dz2 : ((z.2 : Int) == 0) = false := by simp; omega
    have HL := Lib.hid (fun w => lex_er s w hs2 z hz hzn)
    have HM := Lib.hid (fun w => lex_er (s ++ ⟨#[13]⟩ ++ t) w HS.out z (by rw [both_er1 s t _ 13 rfl HU.out he]; exact hz) hzn)
    have hT : ∀ w, Calls Try.prog 13 #[.string t] w fun e w' => ∃ a p q : Value, e = .returned (.tuple #[a, p, q]) ∧ Below w.heap.size w w' := by
      intro w
      cases hf : errs (ysL t) with
      | true =>
        obtain ⟨z, hz, hz2, hz3⟩ := err_last t hf
        refine (lex_er t w ht2 z hz (by omega)).mono ?_
        rintro e w' ⟨rfl, hb⟩
        exact ⟨_, _, _, rfl, hb⟩
      | false =>
        refine (lex_ok t w ht2 hf).mono ?_
        rintro e w' ⟨g, cap, rfl, hb, _, _⟩
        exact ⟨_, _, _, rfl, hb⟩
    have HT := Lib.hid hT
    clear hT
    clear hz hz2 hz3 he HU HS hzn
    go_enter Try.func6, Try.ntmps6
    go_wp2_with fail
    with_reducible refine (HA.out _).mono ?_
    rintro e w1 ⟨rfl, hb1⟩
    go_wp2_with fail
    with_reducible refine (HL.out _).mono ?_
    rintro e w2 ⟨rfl, hb2⟩
    go_wp2_with fail
    with_reducible refine (HT.out _).mono ?_
    rintro e w3 ⟨pa, pb, pc, rfl, hb3⟩
    go_wp2_with fail
    clear hE
    with_reducible refine (HM.out _).mono ?_
    rintro e w4 ⟨rfl, hb4⟩
    go_wp2_with fail
    go_ret
    exact ⟨by simp, below_4 hb1 hb2 hb3 hb4⟩
  | false =>
    cases hf : errs (ysL t) with
    | true =>
      obtain ⟨z, hz, hz2, hz3⟩ := err_last t hf
      have hzn : z.2 ≠ 0 := by omega
      have dz : ((z.2 : Int) != 0) = true := by simp; omega
      have dz2 : ((z.2 : Int) == 0) = false := by simp; omega
      have HL := Lib.hid (fun w => lex_ok s w hs2 he)
      have HT := Lib.hid (fun w => lex_er t w ht2 z hz hzn)
      have hM : ∀ w, Calls Try.prog 13 #[.string (s ++ ⟨#[13]⟩ ++ t)] w fun e w' => e = .returned (.tuple #[.slice none 0 0, .int .i64 ((z.1.a : Int) + (s.size : Int) + 1), .int .i64 (z.2 : Int)]) ∧ Below w.heap.size w w' := by
        intro w
        refine (lex_er (s ++ ⟨#[13]⟩ ++ t) w HS.out (mv (s.size + 1) z) (both_er2 s t _ 13 rfl HU.out he hz) hzn).mono ?_
        rintro e w' ⟨rfl, hb⟩
        refine ⟨?_, hb⟩
        have : (((mv (s.size + 1) z).1.a : Nat) : Int) = (z.1.a : Int) + (s.size : Int) + 1 := by
          show ((z.1.a + (s.size + 1) : Nat) : Int) = _
          omega
        rw [this]; rfl
      have HM := Lib.hid hM
      have z0 : (0 : Int) ≤ (z.1.a : Int) := by omega
      have z1 : (z.1.a : Int) ≤ 1500 := by omega
      generalize (z.1.a : Int) = za at *
      clear hM hz hz2 hz3 he hf HU HS hzn
      go_enter Try.func6, Try.ntmps6
      go_wp2_with fail
      with_reducible refine (HA.out _).mono ?_
      rintro e w1 ⟨rfl, hb1⟩
      go_wp2_with fail
      with_reducible refine (HL.out _).mono ?_
      rintro e w2 ⟨g, cap, rfl, hb2, hg, ht⟩
      clear ht hg
      go_wp2_with fail
      with_reducible refine (HT.out _).mono ?_
      rintro e w3 ⟨rfl, hb3⟩
      go_wp2_with fail
      clear hE
      with_reducible refine (HM.out _).mono ?_
      rintro e w4 ⟨rfl, hb4⟩
      go_wp2_with fail
      go_ret
      exact ⟨by simp, below_4 hb1 hb2 hb3 hb4⟩
    | false =>
      obtain ⟨hue, hut⟩ := both_ok s t _ 13 rfl HU.out he hf
      have l1 := tgL_len s
      have l2 := tgL_len t
      have l3 := tgL_pos s
      have l4 := tgL_pos t
      obtain ⟨p, hp⟩ : ∃ p, (tgL s).length = p + 1 := ⟨(tgL s).length - 1, by omega⟩
      obtain ⟨n, hn⟩ : ∃ n, (tgL t).length = n := ⟨_, rfl⟩
      have hL : ∀ w, Calls Try.prog 13 #[.string s] w fun e w' => ∃ g cap, e = .returned (.tuple #[.slice (some ⟨g, 0, none⟩) (p + 1) cap, .int .i64 0, .int .i64 0]) ∧ p + 1 ≤ cap ∧ Below w.heap.size w w' ∧ TsV w' (some ⟨g, 0, none⟩) (tgL s) := by
        intro w
        refine (lex_ok_cap s w hs2 he).mono ?_
        rintro e w' ⟨g, cap, rfl, hc, hb, h⟩
        exact ⟨g, cap, by rw [hp], by rw [← hp]; exact hc, hb, h⟩
      have hT : ∀ w, Calls Try.prog 13 #[.string t] w fun e w' => ∃ g cap, e = .returned (.tuple #[.slice (some ⟨g, 0, none⟩) n cap, .int .i64 0, .int .i64 0]) ∧ Below w.heap.size w w' ∧ TsV w' (some ⟨g, 0, none⟩) (tgL t) := by
        intro w
        refine (lex_ok t w ht2 hf).mono ?_
        rintro e w' ⟨g, cap, rfl, hb, _, h⟩
        exact ⟨g, cap, by rw [hn], hb, h⟩
      have hM : ∀ w, Calls Try.prog 13 #[.string (s ++ ⟨#[13]⟩ ++ t)] w fun e w' => ∃ g cap, e = .returned (.tuple #[.slice (some ⟨g, 0, none⟩) (p + n) cap, .int .i64 0, .int .i64 0]) ∧ p + n ≤ cap ∧ Below w.heap.size w w' ∧ TsV w' (some ⟨g, 0, none⟩) ((tgL s).dropLast ++ (tgL t).map (shG (s.size + 1))) := by
        intro w
        have h := lex_ok_cap _ w HS.out hue
        rw [hut] at h
        refine h.mono ?_
        rintro e w' ⟨g, cap, rfl, hc, hb, h⟩
        have hl : ((tgL s).dropLast ++ (tgL t).map (shG (s.size + 1))).length = p + n := by
          rw [List.length_append, List.length_dropLast, List.length_map]; omega
        exact ⟨g, cap, by rw [hl], by rw [← hl]; exact hc, hb, h⟩
      have HL := Lib.hid hL
      have HT := Lib.hid hT
      have HM := Lib.hid hM
      have HBD := Lib.hid (at_bd t hf)
      clear hL hT hM hue hut he hf HU HS
      generalize tgL s = ls at *
      generalize tgL t = lt at *
      have HP := Lib.hid hp
      have HN := Lib.hid hn
      rw [hp] at l1
      rw [hn] at l2 l4
      clear l3 hp hn
      go_enter Try.func6, Try.ntmps6
      go_wp2_with fail
      with_reducible refine (HA.out _).mono ?_
      rintro e w1 ⟨rfl, hb1⟩
      go_wp2_with fail
      with_reducible refine (HL.out _).mono ?_
      rintro e w2 ⟨g, cap, rfl, hcp, hb2, htl⟩
      go_wp2_with fail
      with_reducible refine (HT.out _).mono ?_
      rintro e w3 ⟨g2, cap2, rfl, hb3, htt⟩
      go_wp2_with fail
      clear hE
      with_reducible refine (HM.out _).mono ?_
      rintro e w4 ⟨g3, cap3, rfl, hcp3, hb4, htu⟩
      have HB4 := Lib.hid (below_4 hb1 hb2 hb3 hb4)
      have HTL := Lib.hid ((htl.grow hb3).grow hb4)
      have HTT := Lib.hid (htt.grow hb4)
      have HTU := Lib.hid htu
      have f2 : ((p : Int) + (n : Int) != (p : Int) + 1 + (n : Int) - 1) = false := by rw [bne_eq_false_iff_eq]; omega
      clear hb1 hb2 hb3 hb4 htl htt htu HL HT HM HA d1 d2 d3 d4
      go_wp2_with fail
      go_loopw [16] (fun i wr => BoR n g g2 g3 ls lt (ls.dropLast ++ lt.map (shG (s.size + 1))) w i wr) (fun i _ => n - (intOf i).toNat)
      case atStart => exact ⟨0, rfl, Nat.zero_le _, HB4.out, HTL.out, HTT.out, HTU.out⟩
      case round =>
        clear HB4 HTL HTT HTU
        obtain ⟨q, rfl, hq, hbr, htl, htt, htu⟩ := hrel
        have HBR := Lib.hid hbr
        have HTL := Lib.hid htl
        have HTT := Lib.hid htt
        have HTU := Lib.hid htu
        by_cases hlt : q < n
        · have hlt2 : q < lt.length := by have := HN.out; omega
          obtain ⟨hlu, hg⟩ := both_get ls lt (s.size + 1) p HP.out q hlt2
          obtain ⟨bd1, bd2⟩ := HBD.out q hlt2
          obtain ⟨g', o, hgo, hgl, b0, b1, b2⟩ := htu.get hlu
          injection hgo with hgo
          injection hgo with hgo hgo2
          subst hgo; subst hgo2
          obtain ⟨g', o, hgo, hgl2, e0, e1, e2⟩ := htt.get hlt2
          injection hgo with hgo
          injection hgo with hgo hgo2
          subst hgo; subst hgo2
          rw [hg] at b0 b1 b2
          rw [Nat.zero_add] at b0 b1 b2 e0 e1 e2
          have c2 : wr.cell? ⟨g3, (p + q) * 3 + 2, none⟩ = some (.int .i64 (lt[q].a + (s.size : Int) + 1)) := by
            rw [b2]; show some (Value.int .i64 (lt[q].a + ((s.size + 1 : Nat) : Int))) = _
            rw [show lt[q].a + ((s.size + 1 : Nat) : Int) = lt[q].a + (s.size : Int) + 1 by omega]
          have c0 : wr.cell? ⟨g3, (p + q) * 3, none⟩ = some (.int .u8 lt[q].k) := b0
          have c1 : wr.cell? ⟨g3, (p + q) * 3 + 1, none⟩ = some (.string lt[q].t) := b1
          clear hg hbr htl htt htu hlu b0 b1 b2
          generalize lt[q].k = kk at *
          generalize lt[q].t = y at *
          generalize lt[q].a = za at *
          have n0 : (0 : Int) ≤ (q : Int) := by omega
          have n1 : (q : Int) < (n : Int) := by omega
          have n2 : (0 : Int) ≤ (p : Int) + (q : Int) := by omega
          have n3 : (p : Int) + (q : Int) < (p : Int) + (n : Int) := by omega
          have n4 : ((p : Int) + (q : Int)).toNat = p + q := by omega
          have m1 : IntKind.i64.wrap ((p : Int) + (q : Int)) = (p : Int) + (q : Int) := IntWalk.i64_in _ (by omega)
          have m2 : IntKind.i64.wrap (za + (s.size : Int)) = za + (s.size : Int) := IntWalk.i64_in _ (by omega)
          have m3 : IntKind.i64.wrap (za + (s.size : Int) + 1) = za + (s.size : Int) + 1 := IntWalk.i64_in _ (by omega)
          have m4 : IntKind.i64.wrap ((q : Int) + 1) = (q : Int) + 1 := IntWalk.i64_in _ (by omega)
          have m5 : p + q < p + n := by omega
          go_wp2_with fail
          refine wp_region_S (fun w' => w'.cell? ⟨wr.heap.size, 0, none⟩ = some (.int .u8 kk) ∧ w'.cell? ⟨wr.heap.size, 1, none⟩ = some (.string y) ∧ w'.cell? ⟨wr.heap.size, 2, none⟩ = some (.int .i64 (za + (s.size : Int) + 1)) ∧ w'.cell? ⟨g2, q * 3, none⟩ = some (.int .u8 kk) ∧ w'.cell? ⟨g2, q * 3 + 1, none⟩ = some (.string y) ∧ w'.cell? ⟨g2, q * 3 + 2, none⟩ = some (.int .i64 za)) [] 32 #[false, false, false, false, false, false, false, false, false, false, false, false, false, false, false, false, false, false, false, false, false, false, false, false, false, false, false, false, false, false, false, false] (by kernel_rfl) (by kernel_rfl) (by kernel_rfl)
            (by
              rw [World.cell?_drew, World.cell?_drew, World.cell?_drew, World.cell?_drew, World.cell?_drew, World.cell?_drew]
              refine ⟨by rw [World.cell?_alloc_at _ _ _ _ rfl]; rfl, by rw [World.cell?_alloc_at _ _ _ _ rfl]; rfl, by rw [World.cell?_alloc_at _ _ _ _ rfl]; rfl, ?_, ?_, ?_⟩
              · rw [World.cell?_alloc_lt _ _ _ hgl2]; exact e0
              · rw [World.cell?_alloc_lt _ _ _ hgl2]; exact e1
              · rw [World.cell?_alloc_lt _ _ _ hgl2]; exact e2) (fun hHeld => ?_)
          refine wpAnyS_take (i := 0) (oi := ⟨some 120, _, _, _, _, _⟩) (v := .pointer (some ⟨wr.heap.size, 0, none⟩)) rfl (by kernel_rfl) (by kernel_rfl) (by kernel_rfl) (by kernel_rfl) (fun _ _ _ h => Norm.panic h) (Or.inl ⟨by rfl, ?_⟩) (by assumption) ?_
          · intro w' hSw
            obtain ⟨k1, k2, k3, k4, k5, k6⟩ := hSw
            go_simp
          simp only [Act.put, List.setIfInBounds_toArray, List.set_cons_zero, List.set_cons_succ]
          refine wpAnyS_take (i := 1) (oi := ⟨some 121, _, _, _, _, _⟩) (v := .int .u8 kk) rfl (by kernel_rfl) (by kernel_rfl) (by kernel_rfl) (by kernel_rfl) (fun _ _ _ h => Norm.panic h) (Or.inl ⟨by rfl, ?_⟩) (by assumption) ?_
          · intro w' hSw
            obtain ⟨k1, k2, k3, k4, k5, k6⟩ := hSw
            go_simp
          simp only [Act.put, List.setIfInBounds_toArray, List.set_cons_zero, List.set_cons_succ]
          refine wpAnyS_take (i := 2) (oi := ⟨some 122, _, _, _, _, _⟩) (v := .slice (some ⟨g2, 0, none⟩) n cap2) rfl (by kernel_rfl) (by kernel_rfl) (by kernel_rfl) (by kernel_rfl) (fun _ _ _ h => Norm.panic h) (Or.inl ⟨by rfl, ?_⟩) (by assumption) ?_
          · intro w' hSw
            obtain ⟨k1, k2, k3, k4, k5, k6⟩ := hSw
            go_simp
          simp only [Act.put, List.setIfInBounds_toArray, List.set_cons_zero, List.set_cons_succ]
          refine wpAnyS_take (i := 3) (oi := ⟨some 123, _, _, _, _, _⟩) (v := .int .i64 (q : Int)) rfl (by kernel_rfl) (by kernel_rfl) (by kernel_rfl) (by kernel_rfl) (fun _ _ _ h => Norm.panic h) (Or.inl ⟨by rfl, ?_⟩) (by assumption) ?_
          · intro w' hSw
            obtain ⟨k1, k2, k3, k4, k5, k6⟩ := hSw
            go_simp
          simp only [Act.put, List.setIfInBounds_toArray, List.set_cons_zero, List.set_cons_succ]
          refine wpAnyS_take (i := 4) (oi := ⟨some 124, _, _, _, _, _⟩) (v := .pointer (some ⟨g2, q * 3, none⟩)) rfl (by kernel_rfl) (by kernel_rfl) (by kernel_rfl) (by kernel_rfl) (fun _ _ _ h => Norm.panic h) (Or.inl ⟨by rfl, ?_⟩) (by assumption) ?_
          · intro w' hSw
            obtain ⟨k1, k2, k3, k4, k5, k6⟩ := hSw
            go_simp
          simp only [Act.put, List.setIfInBounds_toArray, List.set_cons_zero, List.set_cons_succ]
          refine wpAnyS_take (i := 5) (oi := ⟨some 125, _, _, _, _, _⟩) (v := .pointer (some ⟨g2, q * 3, none⟩)) rfl (by kernel_rfl) (by kernel_rfl) (by kernel_rfl) (by kernel_rfl) (fun _ _ _ h => Norm.panic h) (Or.inl ⟨by rfl, ?_⟩) (by assumption) ?_
          · intro w' hSw
            obtain ⟨k1, k2, k3, k4, k5, k6⟩ := hSw
            go_simp
          simp only [Act.put, List.setIfInBounds_toArray, List.set_cons_zero, List.set_cons_succ]
          refine wpAnyS_take (i := 6) (oi := ⟨some 126, _, _, _, _, _⟩) (v := .int .u8 kk) rfl (by kernel_rfl) (by kernel_rfl) (by kernel_rfl) (by kernel_rfl) (fun _ _ _ h => Norm.panic h) (Or.inl ⟨by rfl, ?_⟩) (by assumption) ?_
          · intro w' hSw
            obtain ⟨k1, k2, k3, k4, k5, k6⟩ := hSw
            go_simp
          simp only [Act.put, List.setIfInBounds_toArray, List.set_cons_zero, List.set_cons_succ]
          refine wpAnyS_take (i := 7) (oi := ⟨some 127, _, _, _, _, _⟩) (v := .bool false) rfl (by kernel_rfl) (by kernel_rfl) (by kernel_rfl) (by kernel_rfl) (fun _ _ _ h => Norm.panic h) (Or.inl ⟨by rfl, ?_⟩) (by assumption) ?_
          · intro w' hSw
            obtain ⟨k1, k2, k3, k4, k5, k6⟩ := hSw
            go_simp
          simp only [Act.put, List.setIfInBounds_toArray, List.set_cons_zero, List.set_cons_succ]
          refine wpAnyS_take (i := 8) (oi := ⟨some 128, _, _, _, _, _⟩) (v := .bool false) rfl (by kernel_rfl) (by kernel_rfl) (by kernel_rfl) (by kernel_rfl) (fun _ _ _ h => Norm.panic h) (Or.inl ⟨by rfl, ?_⟩) (by assumption) ?_
          · intro w' hSw
            obtain ⟨k1, k2, k3, k4, k5, k6⟩ := hSw
            go_simp
          simp only [Act.put, List.setIfInBounds_toArray, List.set_cons_zero, List.set_cons_succ]
          refine wpAnyS_take (i := 9) (oi := ⟨some 129, _, _, _, _, _⟩) (v := .pointer (some ⟨wr.heap.size, 1, none⟩)) rfl (by kernel_rfl) (by kernel_rfl) (by kernel_rfl) (by kernel_rfl) (fun _ _ _ h => Norm.panic h) (Or.inl ⟨by rfl, ?_⟩) (by assumption) ?_
          · intro w' hSw
            obtain ⟨k1, k2, k3, k4, k5, k6⟩ := hSw
            go_simp
          simp only [Act.put, List.setIfInBounds_toArray, List.set_cons_zero, List.set_cons_succ]
          refine wpAnyS_take (i := 10) (oi := ⟨some 130, _, _, _, _, _⟩) (v := .string y) rfl (by kernel_rfl) (by kernel_rfl) (by kernel_rfl) (by kernel_rfl) (fun _ _ _ h => Norm.panic h) (Or.inl ⟨by rfl, ?_⟩) (by assumption) ?_
          · intro w' hSw
            obtain ⟨k1, k2, k3, k4, k5, k6⟩ := hSw
            go_simp
          simp only [Act.put, List.setIfInBounds_toArray, List.set_cons_zero, List.set_cons_succ]
          refine wpAnyS_take (i := 11) (oi := ⟨some 131, _, _, _, _, _⟩) (v := .slice (some ⟨g2, 0, none⟩) n cap2) rfl (by kernel_rfl) (by kernel_rfl) (by kernel_rfl) (by kernel_rfl) (fun _ _ _ h => Norm.panic h) (Or.inl ⟨by rfl, ?_⟩) (by assumption) ?_
          · intro w' hSw
            obtain ⟨k1, k2, k3, k4, k5, k6⟩ := hSw
            go_simp
          simp only [Act.put, List.setIfInBounds_toArray, List.set_cons_zero, List.set_cons_succ]
          refine wpAnyS_take (i := 12) (oi := ⟨some 132, _, _, _, _, _⟩) (v := .int .i64 (q : Int)) rfl (by kernel_rfl) (by kernel_rfl) (by kernel_rfl) (by kernel_rfl) (fun _ _ _ h => Norm.panic h) (Or.inl ⟨by rfl, ?_⟩) (by assumption) ?_
          · intro w' hSw
            obtain ⟨k1, k2, k3, k4, k5, k6⟩ := hSw
            go_simp
          simp only [Act.put, List.setIfInBounds_toArray, List.set_cons_zero, List.set_cons_succ]
          refine wpAnyS_take (i := 13) (oi := ⟨some 133, _, _, _, _, _⟩) (v := .pointer (some ⟨g2, q * 3, none⟩)) rfl (by kernel_rfl) (by kernel_rfl) (by kernel_rfl) (by kernel_rfl) (fun _ _ _ h => Norm.panic h) (Or.inl ⟨by rfl, ?_⟩) (by assumption) ?_
          · intro w' hSw
            obtain ⟨k1, k2, k3, k4, k5, k6⟩ := hSw
            go_simp
          simp only [Act.put, List.setIfInBounds_toArray, List.set_cons_zero, List.set_cons_succ]
          refine wpAnyS_take (i := 14) (oi := ⟨some 134, _, _, _, _, _⟩) (v := .pointer (some ⟨g2, q * 3 + 1, none⟩)) rfl (by kernel_rfl) (by kernel_rfl) (by kernel_rfl) (by kernel_rfl) (fun _ _ _ h => Norm.panic h) (Or.inl ⟨by rfl, ?_⟩) (by assumption) ?_
          · intro w' hSw
            obtain ⟨k1, k2, k3, k4, k5, k6⟩ := hSw
            go_simp
          simp only [Act.put, List.setIfInBounds_toArray, List.set_cons_zero, List.set_cons_succ]
          refine wpAnyS_take (i := 15) (oi := ⟨some 135, _, _, _, _, _⟩) (v := .string y) rfl (by kernel_rfl) (by kernel_rfl) (by kernel_rfl) (by kernel_rfl) (fun _ _ _ h => Norm.panic h) (Or.inl ⟨by rfl, ?_⟩) (by assumption) ?_
          · intro w' hSw
            obtain ⟨k1, k2, k3, k4, k5, k6⟩ := hSw
            go_simp
          simp only [Act.put, List.setIfInBounds_toArray, List.set_cons_zero, List.set_cons_succ]
          refine wpAnyS_take (i := 16) (oi := ⟨some 136, _, _, _, _, _⟩) (v := .bool false) rfl (by kernel_rfl) (by kernel_rfl) (by kernel_rfl) (by kernel_rfl) (fun _ _ _ h => Norm.panic h) (Or.inl ⟨by rfl, ?_⟩) (by assumption) ?_
          · intro w' hSw
            obtain ⟨k1, k2, k3, k4, k5, k6⟩ := hSw
            go_simp
          simp only [Act.put, List.setIfInBounds_toArray, List.set_cons_zero, List.set_cons_succ]
          refine wpAnyS_take (i := 17) (oi := ⟨some 137, _, _, _, _, _⟩) (v := .bool false) rfl (by kernel_rfl) (by kernel_rfl) (by kernel_rfl) (by kernel_rfl) (fun _ _ _ h => Norm.panic h) (Or.inl ⟨by rfl, ?_⟩) (by assumption) ?_
          · intro w' hSw
            obtain ⟨k1, k2, k3, k4, k5, k6⟩ := hSw
            go_simp
          simp only [Act.put, List.setIfInBounds_toArray, List.set_cons_zero, List.set_cons_succ]
          refine wpAnyS_take (i := 18) (oi := ⟨some 138, _, _, _, _, _⟩) (v := .bool false) rfl (by kernel_rfl) (by kernel_rfl) (by kernel_rfl) (by kernel_rfl) (fun _ _ _ h => Norm.panic h) (Or.inl ⟨by rfl, ?_⟩) (by assumption) ?_
          · intro w' hSw
            obtain ⟨k1, k2, k3, k4, k5, k6⟩ := hSw
            go_simp
          simp only [Act.put, List.setIfInBounds_toArray, List.set_cons_zero, List.set_cons_succ]
          refine wpAnyS_take (i := 19) (oi := ⟨some 139, _, _, _, _, _⟩) (v := .pointer (some ⟨wr.heap.size, 2, none⟩)) rfl (by kernel_rfl) (by kernel_rfl) (by kernel_rfl) (by kernel_rfl) (fun _ _ _ h => Norm.panic h) (Or.inl ⟨by rfl, ?_⟩) (by assumption) ?_
          · intro w' hSw
            obtain ⟨k1, k2, k3, k4, k5, k6⟩ := hSw
            go_simp
          simp only [Act.put, List.setIfInBounds_toArray, List.set_cons_zero, List.set_cons_succ]
          refine wpAnyS_take (i := 20) (oi := ⟨some 140, _, _, _, _, _⟩) (v := .int .i64 (za + (s.size : Int) + 1)) rfl (by kernel_rfl) (by kernel_rfl) (by kernel_rfl) (by kernel_rfl) (fun _ _ _ h => Norm.panic h) (Or.inl ⟨by rfl, ?_⟩) (by assumption) ?_
          · intro w' hSw
            obtain ⟨k1, k2, k3, k4, k5, k6⟩ := hSw
            go_simp
          simp only [Act.put, List.setIfInBounds_toArray, List.set_cons_zero, List.set_cons_succ]
          refine wpAnyS_take (i := 21) (oi := ⟨some 141, _, _, _, _, _⟩) (v := .slice (some ⟨g2, 0, none⟩) n cap2) rfl (by kernel_rfl) (by kernel_rfl) (by kernel_rfl) (by kernel_rfl) (fun _ _ _ h => Norm.panic h) (Or.inl ⟨by rfl, ?_⟩) (by assumption) ?_
          · intro w' hSw
            obtain ⟨k1, k2, k3, k4, k5, k6⟩ := hSw
            go_simp
          simp only [Act.put, List.setIfInBounds_toArray, List.set_cons_zero, List.set_cons_succ]
          refine wpAnyS_take (i := 22) (oi := ⟨some 142, _, _, _, _, _⟩) (v := .int .i64 (q : Int)) rfl (by kernel_rfl) (by kernel_rfl) (by kernel_rfl) (by kernel_rfl) (fun _ _ _ h => Norm.panic h) (Or.inl ⟨by rfl, ?_⟩) (by assumption) ?_
          · intro w' hSw
            obtain ⟨k1, k2, k3, k4, k5, k6⟩ := hSw
            go_simp
          simp only [Act.put, List.setIfInBounds_toArray, List.set_cons_zero, List.set_cons_succ]
          refine wpAnyS_take (i := 23) (oi := ⟨some 143, _, _, _, _, _⟩) (v := .pointer (some ⟨g2, q * 3, none⟩)) rfl (by kernel_rfl) (by kernel_rfl) (by kernel_rfl) (by kernel_rfl) (fun _ _ _ h => Norm.panic h) (Or.inl ⟨by rfl, ?_⟩) (by assumption) ?_
          · intro w' hSw
            obtain ⟨k1, k2, k3, k4, k5, k6⟩ := hSw
            go_simp
          simp only [Act.put, List.setIfInBounds_toArray, List.set_cons_zero, List.set_cons_succ]
          refine wpAnyS_take (i := 24) (oi := ⟨some 144, _, _, _, _, _⟩) (v := .pointer (some ⟨g2, q * 3 + 2, none⟩)) rfl (by kernel_rfl) (by kernel_rfl) (by kernel_rfl) (by kernel_rfl) (fun _ _ _ h => Norm.panic h) (Or.inl ⟨by rfl, ?_⟩) (by assumption) ?_
          · intro w' hSw
            obtain ⟨k1, k2, k3, k4, k5, k6⟩ := hSw
            go_simp
          simp only [Act.put, List.setIfInBounds_toArray, List.set_cons_zero, List.set_cons_succ]
          refine wpAnyS_take (i := 25) (oi := ⟨some 145, _, _, _, _, _⟩) (v := .int .i64 za) rfl (by kernel_rfl) (by kernel_rfl) (by kernel_rfl) (by kernel_rfl) (fun _ _ _ h => Norm.panic h) (Or.inl ⟨by rfl, ?_⟩) (by assumption) ?_
          · intro w' hSw
            obtain ⟨k1, k2, k3, k4, k5, k6⟩ := hSw
            go_simp
          simp only [Act.put, List.setIfInBounds_toArray, List.set_cons_zero, List.set_cons_succ]
          refine wpAnyS_take (i := 26) (oi := ⟨some 146, _, _, _, _, _⟩) (v := .string s) rfl (by kernel_rfl) (by kernel_rfl) (by kernel_rfl) (by kernel_rfl) (fun _ _ _ h => Norm.panic h) (Or.inl ⟨by rfl, ?_⟩) (by assumption) ?_
          · intro w' hSw
            obtain ⟨k1, k2, k3, k4, k5, k6⟩ := hSw
            go_simp
          simp only [Act.put, List.setIfInBounds_toArray, List.set_cons_zero, List.set_cons_succ]
          refine wpAnyS_take (i := 27) (oi := ⟨some 147, _, _, _, _, _⟩) (v := .int .i64 (s.size : Int)) rfl (by kernel_rfl) (by kernel_rfl) (by kernel_rfl) (by kernel_rfl) (fun _ _ _ h => Norm.panic h) (Or.inl ⟨by rfl, ?_⟩) (by assumption) ?_
          · intro w' hSw
            obtain ⟨k1, k2, k3, k4, k5, k6⟩ := hSw
            go_simp
          simp only [Act.put, List.setIfInBounds_toArray, List.set_cons_zero, List.set_cons_succ]
          refine wpAnyS_take (i := 28) (oi := ⟨some 148, _, _, _, _, _⟩) (v := .int .i64 (za + (s.size : Int))) rfl (by kernel_rfl) (by kernel_rfl) (by kernel_rfl) (by kernel_rfl) (fun _ _ _ h => Norm.panic h) (Or.inl ⟨by rfl, ?_⟩) (by assumption) ?_
          · intro w' hSw
            obtain ⟨k1, k2, k3, k4, k5, k6⟩ := hSw
            go_simp
          simp only [Act.put, List.setIfInBounds_toArray, List.set_cons_zero, List.set_cons_succ]
          refine wpAnyS_take (i := 29) (oi := ⟨some 149, _, _, _, _, _⟩) (v := .int .i64 (za + (s.size : Int) + 1)) rfl (by kernel_rfl) (by kernel_rfl) (by kernel_rfl) (by kernel_rfl) (fun _ _ _ h => Norm.panic h) (Or.inl ⟨by rfl, ?_⟩) (by assumption) ?_
          · intro w' hSw
            obtain ⟨k1, k2, k3, k4, k5, k6⟩ := hSw
            go_simp
          simp only [Act.put, List.setIfInBounds_toArray, List.set_cons_zero, List.set_cons_succ]
          refine wpAnyS_take (i := 30) (oi := ⟨some 150, _, _, _, _, _⟩) (v := .bool false) rfl (by kernel_rfl) (by kernel_rfl) (by kernel_rfl) (by kernel_rfl) (fun _ _ _ h => Norm.panic h) (Or.inl ⟨by rfl, ?_⟩) (by assumption) ?_
          · intro w' hSw
            obtain ⟨k1, k2, k3, k4, k5, k6⟩ := hSw
            go_simp
          simp only [Act.put, List.setIfInBounds_toArray, List.set_cons_zero, List.set_cons_succ]
          refine wpAnyS_take (i := 31) (oi := ⟨some 151, _, _, _, _, _⟩) (v := .bool false) rfl (by kernel_rfl) (by kernel_rfl) (by kernel_rfl) (by kernel_rfl) (fun _ _ _ h => Norm.panic h) (Or.inl ⟨by rfl, ?_⟩) (by assumption) ?_
          · intro w' hSw
            obtain ⟨k1, k2, k3, k4, k5, k6⟩ := hSw
            go_simp
          simp only [Act.put, List.setIfInBounds_toArray, List.set_cons_zero, List.set_cons_succ]
          refine wpAnyS_done (by kernel_rfl) ?_
          refine Norm.normal ?_
          go_wp2_with fail
          have HBB := Lib.hid (show Below wr.heap.size wr ((wr.alloc (.cells #[.int .u8 kk, .string y, .int .i64 (za + (s.size : Int) + 1)] 26)).drew) from Below.drew ((Below.refl _ _).alloc (Nat.le_refl _) _))
          exact ⟨⟨q + 1, by go_num, by omega, HBR.out.trans (HBB.out.mono HBR.out.size), HTL.out.grow HBB.out, HTT.out.grow HBB.out, HTU.out.grow HBB.out⟩, by simp [intOf]; omega⟩
        · obtain rfl : q = n := by omega
          clear hbr htl htt htu
          have m6 : IntKind.i64.wrap (p : Int) = (p : Int) := IntWalk.i64_in _ (by omega)
          have m7 : (p : Int) ≤ (cap3 : Int) := by omega
          have m8 : (p : Int) ≤ (cap : Int) := by omega
          have m9 : (0 : Int) ≤ (p : Int) := by omega
          have HK := Lib.hid (fun w h1 h2 => both_alike ls lt (s.size + 1) p g g3 cap cap3 w HP.out (by omega) h1 h2)
          go_wp2_with fail
          go_region_with (go_at_call 14; refine (HK.out _ (HTL.out.grow (Below.drew (Below.refl _ _))) (HTU.out.grow (Below.drew (Below.refl _ _)))).mono ?_; rintro e w1 ⟨rfl, hb⟩)
          go_wp2_with fail
          go_ret
          exact ⟨rfl, HBR.out.trans (((Below.drew (Below.refl wr.heap.size wr)).trans hb).mono HBR.out.size)⟩
set_option maxHeartbeats 2000000 in
theorem lex_both_c (s t : ByteArray) (x : Int) (w : World) (hs : s.size ≤ 140737488351232) (ht : t.size ≤ 140737488351232) (h0 : 0 ≤ x) (h1 : x ≤ 255) : Calls Try.prog 6 #[.string s, .string t, .int .u8 x] w fun e w' => e = .returned (.bool true) ∧ Below w.heap.size w w' := by
  by_cases hlong : 1500 < s.size
  · have HA := Lib.hid awake_c
    have d1 : decide (1500 < s.size) = true := decide_eq_true hlong
    have d2 : decide (1500 < (s.size : Int)) = true := decide_eq_true (by omega)
    go_enter Try.func6, Try.ntmps6
    go_wp2_with ((refine (HA.out _).mono ?_; rintro e w1 ⟨rfl, hb1⟩))
    go_ret
    exact ⟨rfl, hb1⟩
  · by_cases hlong2 : 1500 < t.size
    · have HA := Lib.hid awake_c
      have d1 : decide (1500 < s.size) = false := decide_eq_false hlong
      have d2 : decide (1500 < (s.size : Int)) = false := decide_eq_false (by omega)
      have d3 : decide (1500 < t.size) = true := decide_eq_true hlong2
      have d4 : decide (1500 < (t.size : Int)) = true := decide_eq_true (by omega)
      go_enter Try.func6, Try.ntmps6
      go_wp2_with ((refine (HA.out _).mono ?_; rintro e w1 ⟨rfl, hb1⟩))
      go_ret
      exact ⟨rfl, hb1⟩
    · have hx : x % 4 = 0 ∨ x % 4 = 1 ∨ x % 4 = 2 ∨ x % 4 = 3 := by omega
      have hs' : s.size ≤ 1500 := by omega
      have ht' : t.size ≤ 1500 := by omega
      rcases hx with hx | hx | hx | hx
      · exact both_0 s t x w hs' ht' h0 h1 hx
      · exact both_1 s t x w hs' ht' h0 h1 hx
      · exact both_2 s t x w hs' ht' h0 h1 hx
      · exact both_3 s t x w hs' ht' h0 h1 hx
end Go.Proofs.Yteoaglhdandhkaa.Lx

