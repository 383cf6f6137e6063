/-
  The reference's Join.
-/
import Derived.Test.YteoaglhdandhkaaLxSame
namespace Go.Proofs.Yteoaglhdandhkaa.Lx
open Go Go.RowKit Go.Shelf Go.Proofs.Yteoaglhdandhkaa.Fm
set_option linter.unusedVariables false
set_option linter.unusedSimpArgs false
theorem joinB_snoc (x : Bs) : ∀ l : List Bs, joinB (l ++ [x]) = if l = [] then x else joinB l ++ 32 :: x
  | [] => rfl
  | [a] => rfl
  | a :: b :: r => by
    have h := joinB_snoc x (b :: r)
    rw [if_neg (by simp)] at h ⊢
    show a ++ 32 :: joinB (b :: r ++ [x]) = a ++ 32 :: joinB (b :: r) ++ 32 :: x
    rw [h]; simp
def JJ (l : List ByteArray) : ByteArray := ⟨(Lib.join (l.map (·.data.toList)) [32]).toArray⟩
theorem JJ_one (x : ByteArray) : JJ [x] = JJ [] ++ x := by
  apply ByteArray.ext
  rw [ByteArray.data_append]
  unfold JJ
  rw [join_joinB, join_joinB]
  simp [joinB]
theorem JJ_snoc (l : List ByteArray) (x : ByteArray) (h : l ≠ []) : JJ (l ++ [x]) = JJ l ++ ⟨#[32]⟩ ++ x := by
  apply ByteArray.ext
  rw [ByteArray.data_append, ByteArray.data_append]
  unfold JJ
  rw [join_joinB, join_joinB, List.map_append, List.map_cons, List.map_nil, joinB_snoc, if_neg (by simpa using h)]
  apply Array.toList_inj.1
  simp
theorem txG_skip (ts : List Tg) (q : Nat) (hq : q < ts.length) (h : ts[q].k = 5) : txG (ts.take (q + 1)) = txG (ts.take q) := by
  unfold txG
  rw [List.take_succ_eq_append_getElem hq, List.filter_append]
  simp [h]
theorem txG_step (ts : List Tg) (q : Nat) (hq : q < ts.length) (h : ts[q].k ≠ 5) : txG (ts.take (q + 1)) = txG (ts.take q) ++ [ts[q].t] := by
  unfold txG
  rw [List.take_succ_eq_append_getElem hq, List.filter_append]
  simp [h]
theorem txG_le (ts : List Tg) (q : Nat) : (txG (ts.take q)).length ≤ q := by
  unfold txG
  rw [List.length_map]
  exact Nat.le_trans (List.length_filter_le _ _) (by rw [List.length_take]; omega)
def RJ (ts : List Tg) (w : World) (s many i : Value) (wr : World) : Prop := ∃ q : Nat, i = .int .i64 (q : Int) ∧ q ≤ ts.length ∧ s = .string (JJ (txG (ts.take q))) ∧ many = .int .i64 ((txG (ts.take q)).length : Int) ∧ (JJ (txG (ts.take q))).size ≤ 101 * q ∧ wr = w
set_option maxHeartbeats 4000000 in
set_option maxRecDepth 20000 in
theorem rjoin_c (ts : List Tg) (a : Option Addr) (ca : Nat) (w : World) (ha : TsV w a ts) (hl : ts.length ≤ 100) (hs : ∀ x ∈ ts, x.t.size ≤ 100) :
    Calls Try.prog 11 #[.slice a ts.length ca] w fun e w' => e = .returned (.string (joinG ts)) ∧ Below w.heap.size w w' := by
  have HA := Lib.hid ha
  obtain ⟨m, hm⟩ : ∃ m, ts.length = m := ⟨_, rfl⟩
  rw [hm] at hl ⊢
  have HM := Lib.hid hm
  clear ha hm
  go_enter Try.func11, Try.ntmps11
  go_wp2_with fail
  go_loopw [3, 4, 5] (fun s many i wr => RJ ts w s many i wr) (fun _ _ i _ => m - (intOf i).toNat)
  case atStart => exact ⟨0, rfl, Nat.zero_le _, rfl, rfl, Nat.le_refl _, rfl⟩
  case round =>
    obtain ⟨q, rfl, hq, rfl, rfl, hsz, rfl⟩ := hrel
    rw [HM.out] at hq
    by_cases hlt : q < m
    · have hlt2 : q < ts.length := by have := HM.out; omega
      obtain ⟨g, o, rfl, _, c0, c1, c2⟩ := HA.out.get hlt2
      have n0 : (0 : Int) ≤ (q : Int) := by omega
      have n1 : (q : Int) < (m : Int) := by omega
      have m4 : IntKind.i64.wrap ((q : Int) + 1) = (q : Int) + 1 := IntWalk.i64_in _ (by omega)
      have hle := txG_le ts q
      have ht := hs _ (List.getElem_mem hlt2)
      have w1 : ¬ 9223372036854775807 < (JJ (txG (ts.take q))).size + ts[q].t.size := by omega
      have w2 : ¬ 9223372036854775807 < (JJ (txG (ts.take q))).size + 1 + ts[q].t.size := by omega
      have w3 : ¬ 9223372036854775807 < (JJ (txG (ts.take q))).size + 1 := by omega
      by_cases hk : ts[q].k = 5
      · have hx := txG_skip ts q hlt2 hk
        have HR := Lib.hid (show RJ ts wr (.string (JJ (txG (ts.take q)))) (.int .i64 ((txG (ts.take q)).length : Int)) (.int .i64 ((q : Int) + 1)) wr from ⟨q + 1, by go_num, hlt2, by rw [hx], by rw [hx], by rw [hx]; omega, rfl⟩)
        have k1 : (ts[q].k == 5) = true := by rw [hk]; rfl
        clear hx
        go_wp2_with fail
        exact ⟨HR.out, by simp [intOf]; omega⟩
      · have hx := txG_step ts q hlt2 hk
        have k1 : (ts[q].k == 5) = false := by simpa using hk
        by_cases h0 : txG (ts.take q) = []
        · have HR := Lib.hid (show RJ ts wr (.string (JJ (txG (ts.take q)) ++ ts[q].t)) (.int .i64 (((txG (ts.take q)).length : Int) + 1)) (.int .i64 ((q : Int) + 1)) wr from ⟨q + 1, by go_num, hlt2, by rw [hx, h0, List.nil_append, JJ_one], by rw [hx, List.length_append]; rfl, by rw [hx, h0, List.nil_append, JJ_one, ByteArray.size_append]; rw [h0] at hsz; omega, rfl⟩)
          have hz : (txG (ts.take q)).length = 0 := by rw [h0]; rfl
          have m5 : IntKind.i64.wrap (((txG (ts.take q)).length : Int) + 1) = ((txG (ts.take q)).length : Int) + 1 := IntWalk.i64_in _ (by omega)
          have d1 : decide ((0 : Int) < ((txG (ts.take q)).length : Int)) = false := decide_eq_false (by omega)
          have d2 : decide (0 < (txG (ts.take q)).length) = false := decide_eq_false (by omega)
          clear hx h0 hz hle
          go_wp2_with fail
          exact ⟨HR.out, by simp [intOf]; omega⟩
        · have HR := Lib.hid (show RJ ts wr (.string (JJ (txG (ts.take q)) ++ ⟨#[32]⟩ ++ ts[q].t)) (.int .i64 (((txG (ts.take q)).length : Int) + 1)) (.int .i64 ((q : Int) + 1)) wr from ⟨q + 1, by go_num, hlt2, by rw [hx, JJ_snoc _ _ h0], by rw [hx, List.length_append]; rfl, by rw [hx, JJ_snoc _ _ h0, ByteArray.size_append, ByteArray.size_append]; show (JJ (txG (ts.take q))).size + 1 + ts[q].t.size ≤ _; omega, rfl⟩)
          have hz : 0 < (txG (ts.take q)).length := List.length_pos_iff.2 h0
          have m5 : IntKind.i64.wrap (((txG (ts.take q)).length : Int) + 1) = ((txG (ts.take q)).length : Int) + 1 := IntWalk.i64_in _ (by omega)
          have d1 : decide ((0 : Int) < ((txG (ts.take q)).length : Int)) = true := decide_eq_true (by omega)
          have d2 : decide (0 < (txG (ts.take q)).length) = true := decide_eq_true (by omega)
          clear hx h0 hz hle
          go_wp2_with fail
          exact ⟨HR.out, by simp [intOf]; omega⟩
    · have hqm : q = m := by omega
      have ht : txG (ts.take q) = txG ts := by rw [List.take_of_length_le (by have := HM.out; omega)]
      have hJ : JJ (txG ts) = joinG ts := rfl
      rw [ht, hJ]
      go_wp2_with fail
      go_ret
      exact ⟨rfl, Below.refl _ _⟩
end Go.Proofs.Yteoaglhdandhkaa.Lx
