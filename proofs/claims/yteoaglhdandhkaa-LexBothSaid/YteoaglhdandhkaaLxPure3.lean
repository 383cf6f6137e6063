/-
  Two tokens, one directly behind the other.
-/
import Derived.Test.YteoaglhdandhkaaLxPure2
namespace Go.Proofs.Yteoaglhdandhkaa.Lx
set_option linter.unusedVariables false
set_option linter.unusedSimpArgs false
variable (K : Kinds)
theorem tw_next (r r2 : Bs) (c : UInt8) (hc : lod c = false) : (r.takeWhile lod ++ c :: r2).takeWhile lod = r.takeWhile lod := by
  induction r with
  | nil => rw [List.takeWhile_nil, List.nil_append, List.takeWhile_cons, if_neg (by rw [hc]; decide)]
  | cons a r ih =>
    rw [List.takeWhile_cons]
    split
    · rename_i h; rw [List.cons_append, List.takeWhile_cons, if_pos h, ih]
    · rw [List.nil_append, List.takeWhile_cons, if_neg (by rw [hc]; decide)]
theorem tw_stop (r : Bs) (c : UInt8) (r2 : Bs) (h : r.drop (r.takeWhile lod).length = c :: r2) : lod c = false := by
  induction r with
  | nil => simp at h
  | cons a r ih =>
    rw [List.takeWhile_cons] at h
    split at h
    · exact ih (by simpa using h)
    · rename_i h1
      simp only [List.length_nil, List.drop_zero, List.cons.injEq] at h
      rw [← h.1]; simpa using h1
theorem sgn_next (c : UInt8) (r : Bs) (h : sgn (c :: r) ≠ 0) (d : UInt8) (r2 r3 : Bs) (hd : (c :: r).drop (sgn (c :: r)) = d :: r2) : sgn ((c :: r).take (sgn (c :: r)) ++ d :: r3) = sgn (c :: r) := by
  rw [sgn_cons] at h hd ⊢
  split
  · rename_i h1
    rw [if_pos h1] at h hd
    split
    · rename_i h2
      match r, h2 with
      | a :: b :: r, h2 =>
        show sgn (c :: a :: b :: d :: r3) = 3
        rw [sgn_cons, if_pos h1]; exact if_pos h2
      | [a], h2 => simp at h2
      | [], h2 => simp at h2
    · rename_i h2
      rw [if_neg h2] at h
      split
      · rename_i h3
        match r, h3 with
        | a :: r, h3 =>
          have e : a = 62 := by simpa using h3
          subst e
          show sgn (c :: 62 :: d :: r3) = 2
          rw [sgn_cons, if_pos h1, if_neg (by simp)]; exact if_pos h3
        | [], h3 => simp at h3
      · rename_i h3; rw [if_neg h3] at h; exact absurd rfl h
  · rename_i h1
    rw [if_neg h1] at h hd
    split
    · rename_i h2
      rw [if_pos h2] at h
      split
      · rename_i h3
        match r, h3 with
        | a :: r, h3 =>
          show sgn (c :: a :: d :: r3) = 2
          rw [sgn_cons, if_neg h1, if_pos h2]; exact if_pos h3
        | [], h3 => simp at h3
      · rename_i h3; rw [if_neg h3] at h; exact absurd rfl h
    · rename_i h2
      rw [if_neg h2] at h hd
      split
      · rename_i h3
        rw [if_pos h3] at h hd
        split
        · rename_i h4
          match r, h4 with
          | a :: r, h4 =>
            show sgn (c :: a :: d :: r3) = 2
            rw [sgn_cons, if_neg h1, if_neg h2, if_pos h3]; exact if_pos h4
          | [], h4 => simp at h4
        · rename_i h4
          rw [if_neg h4] at hd
          have hr : r = d :: r2 := by simpa using hd
          show sgn (c :: d :: r3) = 1
          rw [sgn_cons, if_neg h1, if_neg h2, if_pos h3, if_neg]
          rw [hr] at h4
          simpa using h4
      · rename_i h3
        rw [if_neg h3] at h
        split
        · rename_i h4
          show sgn (c :: d :: r3) = 1
          rw [sgn_cons, if_neg h1, if_neg h2, if_neg h3, if_pos h4]
        · rename_i h4; rw [if_neg h4] at h; exact absurd rfl h
/-- What is read looks no further than at the next byte. -/
theorem tok1_next (c : UInt8) (r : Bs) (h : (tok1 K (c :: r)).2.2 = 0) (d : UInt8) (r2 r3 : Bs) (hd : (c :: r).drop (tok1 K (c :: r)).2.1 = d :: r2) : tok1 K ((c :: r).take (tok1 K (c :: r)).2.1 ++ d :: r3) = tok1 K (c :: r) ∧
    ((tok1 K (c :: r)).1 = 4 ∨ lod d = false) := by
  rw [tok1_cons] at h hd ⊢
  split
  · rename_i h1
    rw [if_pos h1] at h hd
    split
    · rename_i h2; rw [if_pos h2] at h; simp at h
    · rename_i h2
      rw [if_neg h2] at hd
      have hs : lod d = false := tw_stop r d r2 (by simpa using hd)
      refine ⟨?_, .inr hs⟩
      simp only [List.take_succ_cons, take_tw, List.cons_append]
      rw [tok1_cons, if_pos h1, tw_next _ _ _ hs, if_neg h2]
  · rename_i h1
    rw [if_neg h1] at h hd
    split
    · rename_i h2
      rw [if_pos h2] at h hd
      split
      · rename_i h3; rw [if_pos h3] at h; simp at h
      · rename_i h3
        rw [if_neg h3] at hd
        have hs : lod d = false := tw_stop r d r2 (by simpa using hd)
        refine ⟨?_, .inr hs⟩
        simp only [List.take_succ_cons, take_tw, List.cons_append]
        rw [tok1_cons, if_neg h1, if_pos h2, tw_next _ _ _ hs, if_neg h3]
    · rename_i h2
      rw [if_neg h2] at h hd
      split
      · rename_i h3; rw [if_pos h3] at h; simp at h
      · rename_i h3
        rw [if_neg h3] at hd
        have h4 := sgn_next c r h3 d r2 r3 hd
        refine ⟨?_, .inl rfl⟩
        obtain ⟨n, hn⟩ : ∃ n, sgn (c :: r) = n + 1 := ⟨sgn (c :: r) - 1, by omega⟩
        simp only
        rw [hn, List.take_succ_cons] at h4 ⊢
        rw [List.cons_append] at h4 ⊢
        rw [tok1_cons, if_neg h1, if_neg h2, h4, if_neg (by omega)]
/-- What kind a token has that begins with no letter or digit. -/
theorem tok1_kind (c : UInt8) (r : Bs) (h : (tok1 K (c :: r)).2.2 = 0) (hc : lod c = false) : (tok1 K (c :: r)).1 = 4 ∨ (tok1 K (c :: r)).1 = 2 := by
  have hl : ltr c = false := by unfold lod at hc; simp at hc; exact hc.1
  rw [tok1_cons, hl] at h ⊢
  simp only [Bool.false_eq_true, if_false] at h ⊢
  split
  · rename_i h2
    rw [if_pos h2] at h
    split
    · rename_i h3; rw [if_pos h3] at h; simp at h
    · rename_i h3
      right
      rcases K.mne (c :: r.takeWhile lod) with h4 | h4
      · exact absurd h4 h3
      · exact h4
  · rename_i h2
    rw [if_neg h2] at h
    split
    · rename_i h3; rw [if_pos h3] at h; simp at h
    · exact .inl rfl
theorem adj {l : Bs} {k n k' n' : Nat} (h : tok1 K l = (k, n, 0)) (h2 : tok1 K (l.drop n) = (k', n', 0)) :
    toks K 0 (l.take n ++ (l.drop n).take n') = [(⟨k, l.take n, 0⟩, 0), (⟨k', (l.drop n).take n', n⟩, 0), (⟨5, [], n + n'⟩, 0)] ∧ (k = 4 ∨ k' = 4 ∨ k' = 2) := by
  match l, h with
  | [], h => simp [tok1] at h
  | c :: r, h =>
    have hb := tok1_bd K (l := c :: r) (by rw [h])
    rw [h] at hb
    have hnn : 1 ≤ n ∧ n ≤ (c :: r).length := ⟨hb.1, hb.2.1⟩
    match hd : (c :: r).drop n, h2 with
    | [], h2 => simp [tok1] at h2
    | d :: r2, h2 =>
      have hb2 := tok1_bd K (l := d :: r2) (by rw [h2])
      rw [h2] at hb2
      have hn2 : 1 ≤ n' ∧ n' ≤ (d :: r2).length := ⟨hb2.1, hb2.2.1⟩
      obtain ⟨m', rfl⟩ : ∃ m', n' = m' + 1 := ⟨n' - 1, by omega⟩
      have hnx := tok1_next K c r (by rw [h]) d r2 (r2.take m') (by rw [h]; exact hd)
      rw [h] at hnx
      have hself := self_of K (c := d) (l := r2) (by rw [h2])
      rw [h2] at hself
      have hblk := blk_err K (c := c) (l := r) (by rw [h])
      constructor
      · have ht : (d :: r2).take (m' + 1) = d :: r2.take m' := List.take_succ_cons
        obtain ⟨m, rfl⟩ : ∃ m, n = m + 1 := ⟨n - 1, by omega⟩
        have hlen : ((c :: r).take (m + 1)).length = m + 1 := by rw [List.length_take]; omega
        have h3 : tok1 K ((c :: r).take (m + 1) ++ (d :: r2).take (m' + 1)) = (k, m + 1, 0) := by rw [ht]; exact hnx.1
        have h5 : toks K 0 ((c :: r).take (m + 1) ++ (d :: r2).take (m' + 1)) = (⟨k, (c :: r).take (m + 1), 0⟩, 0) :: toks K (m + 1) ((d :: r2).take (m' + 1)) := by
          rw [List.take_succ_cons, List.cons_append] at h3 ⊢
          rw [toks_tok K hblk (by rw [h3]), h3]
          simp only [Nat.zero_add]
          rw [← List.cons_append, ← List.take_succ_cons, List.take_left' hlen, List.drop_left' hlen]
        have h6 := toks_self K hself (m + 1) [] trivial
        rw [List.append_nil, toks_nil] at h6
        have hlen2 : ((d :: r2).take (m' + 1)).length = m' + 1 := by rw [List.length_take]; omega
        rw [h5, h6, hlen2]
      · rcases hnx.2 with h4 | h4
        · exact .inl h4
        · have := tok1_kind K d r2 (by rw [h2]) h4
          rw [h2] at this
          exact .inr this
end Go.Proofs.Yteoaglhdandhkaa.Lx
