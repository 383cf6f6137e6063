/-
  LexJoined: the tokens of the text of tokens.
-/
import Derived.Test.YteoaglhdandhkaaLxAlike
namespace Go.Proofs.Yteoaglhdandhkaa.Lx
open Go Go.RowKit Go.Shelf Go.Proofs.Yteoaglhdandhkaa.Fm
set_option linter.unusedVariables false
set_option linter.unusedSimpArgs false
theorem err_last (s : ByteArray) (h : errs (ysL s) = true) : ∃ z, (ysL s).getLast? = some z ∧ (z.2 = 40 ∨ z.2 = 41) ∧ z.1.a < s.size := by
  obtain ⟨zs, y, e1, e2, e3⟩ := toks_ends KK 0 s.data.toList
  have hz : (ysL s).getLast? = some y := by
    show (toks KK 0 s.data.toList).getLast? = some y
    rw [e1, List.getLast?_concat]
  have hl : s.data.toList.length = s.size := by simp
  rcases e3 with ⟨h0, _⟩ | ⟨h0, _, _, h1⟩
  · exfalso
    have hf : errs (ysL s) = false := by
      show errs (toks KK 0 s.data.toList) = false
      unfold errs
      rw [List.any_eq_false]
      intro x hx
      rw [e1] at hx
      rcases List.mem_append.1 hx with hx | hx
      · simp [(e2 x hx).1]
      · rw [List.mem_singleton.1 hx]; simp [h0]
    rw [hf] at h; exact absurd h (by decide)
  · exact ⟨y, hz, h0, by omega⟩
theorem tgL_text (s : ByteArray) : joinG (tgL s) = bs (join (tks KK 0 s.data.toList)) := joinG_toG _
theorem text_size (s : ByteArray) : (joinG (tgL s)).size ≤ 2 * s.size + 1 := by
  rw [tgL_text]
  have h := join_len KK s.data.toList
  have hl : s.data.toList.length = s.size := by simp
  have : (bs (join (tks KK 0 s.data.toList))).size = (join (tks KK 0 s.data.toList)).length := by unfold bs; simp [ByteArray.size]
  omega
theorem text_join (s : ByteArray) : (Lib.join ((txG (tgL s)).map (·.data.toList)) [32]).length ≤ 2 * s.size + 1 := by
  have h := text_size s
  have e : (joinG (tgL s)).size = (Lib.join ((txG (tgL s)).map (·.data.toList)) [32]).length := by unfold joinG; simp [ByteArray.size]
  omega
theorem tgL_len (s : ByteArray) : (tgL s).length ≤ s.size + 1 := by
  have h := (toks_len KK 0 s.data.toList).2
  have hl : s.data.toList.length = s.size := by simp
  unfold tgL tksL
  rw [List.length_map, List.length_map]
  show (toks KK 0 s.data.toList).length ≤ _
  omega
theorem joined_all (s : ByteArray) (h : errs (ysL s) = false) : errs (ysL (joinG (tgL s))) = false ∧ alikeG (tgL s) (tgL (joinG (tgL s))) ∧ joinG (tgL (joinG (tgL s))) = joinG (tgL s) := by
  obtain ⟨h1, h2, h3⟩ := joined KK s.data.toList h
  have e : (joinG (tgL s)).data.toList = join (tks KK 0 s.data.toList) := by rw [tgL_text, bs_toList]
  refine ⟨?_, ?_, ?_⟩
  · show errs (toks KK 0 (joinG (tgL s)).data.toList) = false
    rw [e]; exact h1
  · unfold alikeG tgL tksL ysL
    unfold alike at h2
    have h2' := congrArg (fun l => l.map (fun x : Nat × Bs => ((x.1 : Int), bs x.2))) h2
    simp only [List.map_map] at h2' ⊢
    have e2 : (joinG (List.map (toG ∘ fun x => x.1) (toks KK 0 s.data.toList))).data.toList = join (tks KK 0 s.data.toList) := by
      rw [← e]; unfold tgL tksL ysL; rw [List.map_map]
    rw [e2]
    unfold tks at h2'
    simp only [List.map_map] at h2'
    exact h2'
  · rw [tgL_text (joinG (tgL s)), e, h3, tgL_text]
set_option maxHeartbeats 2000000 in
set_option maxRecDepth 20000 in
theorem lex_joined_c (s : ByteArray) (w : World) (hs : s.size ≤ 140737488351232) : Calls Try.prog 4 #[.string s] w fun e w' => e = .returned (.bool true) ∧ Below w.heap.size w w' := by
  have HA := Lib.hid awake_c
  by_cases hlong : 3000 < s.size
  · have d1 : decide (3000 < s.size) = true := decide_eq_true hlong
    have d2 : decide (3000 < (s.size : Int)) = true := decide_eq_true (by omega)
    go_enter Try.func4, Try.ntmps4
    go_wp2_with ((refine (HA.out _).mono ?_; rintro e w1 ⟨rfl, hb1⟩))
    go_ret
    exact ⟨rfl, hb1⟩
  · have d1 : decide (3000 < s.size) = false := decide_eq_false hlong
    have d2 : decide (3000 < (s.size : Int)) = false := decide_eq_false (by omega)
    cases he : errs (ysL s) with
    | true =>
      obtain ⟨z, hz, hz2, _⟩ := err_last s he
      have HL := Lib.hid (fun w => lex_er s w (by omega) z hz (by omega))
      clear hz
      rcases hz2 with hz2 | hz2
      all_goals
        rw [hz2] at HL
        clear hz2 he
        go_enter Try.func4, Try.ntmps4
        go_wp2_with (first
          | (go_at_call 9; refine (HA.out _).mono ?_; rintro e w1 ⟨rfl, hb1⟩)
          | (go_at_call 13; refine (HL.out _).mono ?_; rintro e w2 ⟨rfl, hb2⟩))
        go_ret
        exact ⟨rfl, hb1.trans (hb2.mono hb1.size)⟩
    | false =>
      obtain ⟨h1, h2, h3⟩ := joined_all s he
      have hz := text_size s
      have hz2 := text_size (joinG (tgL s))
      have HL := Lib.hid (fun w => lex_ok s w (by omega) he)
      have HM := Lib.hid (fun w => lex_ok (joinG (tgL s)) w (by omega) h1)
      have hn1 := tgL_len s
      have hn2 := tgL_len (joinG (tgL s))
      have HJ1 := Lib.hid (fun a cap w h => join_c (tgL s) a cap w h (by omega) (Nat.le_trans (text_join s) (by omega)))
      have HJ2 := Lib.hid (fun a cap w h => join_c (tgL (joinG (tgL s))) a cap w h (by omega) (Nat.le_trans (text_join (joinG (tgL s))) (by omega)))
      have HK := Lib.hid (fun a b ca cb w ha hb => alike_c (tgL s) (tgL (joinG (tgL s))) a b ca cb w ha hb h2 (by omega))
      rw [h3] at HJ2
      clear he h1 h2 h3 hz hz2 hn1 hn2
      generalize joinG (tgL s) = x at *
      generalize tgL s = ts at *
      generalize tgL x = us at *
      go_enter Try.func4, Try.ntmps4
      go_wp2_with fail
      refine (HA.out _).mono ?_
      rintro e w1 ⟨rfl, hb1⟩
      go_wp2_with fail
      refine (HL.out _).mono ?_
      rintro e w2 ⟨g, cap, rfl, hb2, hg, ht⟩
      have HB2 := Lib.hid (hb1.trans (hb2.mono hb1.size))
      have HT := Lib.hid ht
      clear hb1 hb2 ht hg
      go_wp2_with fail
      refine (HJ1.out _ _ _ HT.out).mono ?_
      rintro e w3 ⟨rfl, hb3⟩
      have HB3 := Lib.hid (HB2.out.trans (hb3.mono HB2.out.size))
      have HT3 := Lib.hid (HT.out.grow hb3)
      clear hb3
      go_wp2_with fail
      refine (HM.out _).mono ?_
      rintro e w4 ⟨g2, cap2, rfl, hb4, hg2, ht2⟩
      have HB4 := Lib.hid (HB3.out.trans (hb4.mono HB3.out.size))
      have HT4 := Lib.hid (HT3.out.grow hb4)
      have HU4 := Lib.hid ht2
      clear hb4 ht2 hg2
      go_wp2_with fail
      refine (HK.out _ _ _ _ _ HT4.out HU4.out).mono ?_
      rintro e w5 ⟨rfl, hb5⟩
      have HB5 := Lib.hid (HB4.out.trans (hb5.mono HB4.out.size))
      have HU5 := Lib.hid (HU4.out.grow hb5)
      clear hb5
      go_wp2_with fail
      refine (HJ2.out _ _ _ HU5.out).mono ?_
      rintro e w6 ⟨rfl, hb6⟩
      go_wp2_with fail
      go_ret
      exact ⟨by simp, HB5.out.trans (hb6.mono HB5.out.size)⟩
end Go.Proofs.Yteoaglhdandhkaa.Lx
