/-
  The statements on tokens as plain mathematics.
-/
import Derived.Test.YtkeckecdhcknhaaDoorLxPure
namespace Go.Proofs.YtkeckecdhcknhaaDoor.Lx
set_option linter.unusedVariables false
set_option linter.unusedSimpArgs false
variable (K : Kinds)
/-- The text of tokens. -/
def texts (ts : List Tk) : List Bs := (ts.filter fun t => t.k != 5).map (·.t)
def joinB : List Bs → Bs
  | [] => []
  | [a] => a
  | a :: b :: r => a ++ 32 :: joinB (b :: r)
def join (ts : List Tk) : Bs := joinB (texts ts)
def alike (a b : List Tk) : Prop := a.map (fun t => (t.k, t.t)) = b.map (fun t => (t.k, t.t))
def tks (off : Nat) (l : Bs) : List Tk := (toks K off l).map (·.1)
def Good (off : Nat) (l : Bs) : Prop := errs (toks K off l) = false
/-- A text that is a token, wherever something that ends it follows. -/
structure Self (k : Nat) (t : Bs) : Prop where
  ne : ∃ c r, t = c :: r ∧ blk c = false
  k1 : k ≠ 5
  tok : ∀ rest, Sep rest → tok1 K (t ++ rest) = (k, t.length, 0)
theorem blk_err {c : UInt8} {l : Bs} (h : (tok1 K (c :: l)).2.2 = 0) : blk c = false := by
  cases hb : blk c with
  | false => rfl
  | true =>
    unfold blk at hb
    simp only [Bool.or_eq_true, beq_iff_eq] at hb
    exfalso
    rcases hb with ((rfl | rfl) | rfl) | rfl <;> simp [tok1, ltr, sgn, one] at h
theorem toks_self {k : Nat} {t : Bs} (h : Self K k t) (off : Nat) (rest : Bs) (hs : Sep rest) : toks K off (t ++ rest) = (⟨k, t, off⟩, 0) :: toks K (off + t.length) rest := by
  obtain ⟨c, r, rfl, hb⟩ := h.ne
  have h1 := h.tok rest hs
  rw [List.cons_append] at h1 ⊢
  rw [toks_tok K hb (by rw [h1]), h1]
  simp only
  rw [← List.cons_append, List.take_left, List.drop_left]
/-- The tokens of joined texts. -/
theorem toks_join : ∀ (ts : List (Nat × Bs)) (off : Nat), (∀ x ∈ ts, Self K x.1 x.2) → ∃ zs n, toks K off (joinB (ts.map (·.2))) = zs ++ [(⟨5, [], n⟩, 0)] ∧ zs.map (fun z => (z.1.k, z.1.t)) = ts ∧ errs zs = false
  | [], off, _ => ⟨[], off, toks_nil K off, rfl, rfl⟩
  | [x], off, h => by
    have h1 := toks_self K (h x (by simp)) off [] trivial
    rw [List.append_nil, toks_nil] at h1
    exact ⟨[(⟨x.1, x.2, off⟩, 0)], _, h1, rfl, rfl⟩
  | x :: y :: r, off, h => by
    obtain ⟨zs, n, e1, e2, e3⟩ := toks_join (y :: r) (off + x.2.length + 1) fun z hz => h z (List.mem_cons_of_mem _ hz)
    have h1 := toks_self K (h x (by simp)) off (32 :: joinB ((y :: r).map (·.2))) rfl
    rw [toks_blank K rfl, e1] at h1
    exact ⟨(⟨x.1, x.2, off⟩, 0) :: zs, n, h1, by rw [List.map_cons, e2], by rw [errs] at e3 ⊢; rw [List.any_cons, e3]; rfl⟩
theorem sgn_take (c : UInt8) (r : Bs) (h : sgn (c :: r) ≠ 0) (rest : Bs) (hs : Sep rest) : sgn ((c :: r).take (sgn (c :: r)) ++ rest) = sgn (c :: r) := by
  rw [sgn_cons] at h ⊢
  split
  · rename_i h1
    rw [if_pos h1] at h
    split
    · rename_i h2
      match r, h2 with
      | a :: b :: r, h2 =>
        show sgn (c :: a :: b :: rest) = 3
        rw [sgn_cons, if_pos h1]; exact if_pos h2
      | [a], h2 => simp at h2
      | [], h2 => simp at h2
    · rename_i h2
      rw [if_neg h2] at h
      split
      · rename_i h3
        match r, h3 with
        | a :: r, h3 =>
          have e : a = 62 := by simpa using h3
          subst e
          show sgn (c :: 62 :: rest) = 2
          rw [sgn_cons, if_pos h1, if_neg (by simp)]; exact if_pos h3
        | [], h3 => simp at h3
      · rename_i h3; rw [if_neg h3] at h; exact absurd rfl h
  · rename_i h1
    rw [if_neg h1] at h
    split
    · rename_i h2
      rw [if_pos h2] at h
      split
      · rename_i h3
        match r, h3 with
        | a :: r, h3 =>
          show sgn (c :: a :: rest) = 2
          rw [sgn_cons, if_neg h1, if_pos h2]; exact if_pos h3
        | [], h3 => simp at h3
      · rename_i h3; rw [if_neg h3] at h; exact absurd rfl h
    · rename_i h2
      rw [if_neg h2] at h
      split
      · rename_i h3
        rw [if_pos h3] at h
        split
        · rename_i h4
          match r, h4 with
          | a :: r, h4 =>
            show sgn (c :: a :: rest) = 2
            rw [sgn_cons, if_neg h1, if_neg h2, if_pos h3]; exact if_pos h4
          | [], h4 => simp at h4
        · show sgn (c :: rest) = 1
          rw [sgn_cons, if_neg h1, if_neg h2, if_pos h3, if_neg]
          match rest, hs with
          | [], _ => simp
          | b :: rest, hs =>
            have := (blk_lod (show blk b = true from hs)).2.2.2.2.2
            simpa using this
      · rename_i h3
        rw [if_neg h3] at h
        split
        · rename_i h4
          show sgn (c :: rest) = 1
          rw [sgn_cons, if_neg h1, if_neg h2, if_neg h3, if_pos h4]
        · rename_i h4; rw [if_neg h4] at h; exact absurd rfl h
theorem tw_idem (r : Bs) : (r.takeWhile lod).takeWhile lod = r.takeWhile lod := by
  induction r with
  | nil => rfl
  | cons a r ih =>
    rw [List.takeWhile_cons]
    split
    · rename_i h; rw [List.takeWhile_cons, if_pos h, ih]
    · rfl
theorem take_tw (r : Bs) : r.take (r.takeWhile lod).length = r.takeWhile lod := by
  induction r with
  | nil => rfl
  | cons a r ih =>
    rw [List.takeWhile_cons]
    split
    · rw [List.length_cons, List.take_succ_cons, ih]
    · rfl
/-- A token that was read is one by itself. -/
theorem self_of {c : UInt8} {l : Bs} (h : (tok1 K (c :: l)).2.2 = 0) : Self K (tok1 K (c :: l)).1 ((c :: l).take (tok1 K (c :: l)).2.1) := by
  have hbd := tok1_bd K h
  have hb := blk_err K h
  obtain ⟨n, hn⟩ : ∃ n, (tok1 K (c :: l)).2.1 = n + 1 := ⟨(tok1 K (c :: l)).2.1 - 1, by omega⟩
  refine ⟨⟨c, l.take n, by rw [hn, List.take_succ_cons], hb⟩, by omega, fun rest hs => ?_⟩
  rw [tok1_cons] at h hn ⊢
  split
  · rename_i h1
    rw [if_pos h1] at h hn
    split
    · rename_i h2; rw [if_pos h2] at h; simp at h
    · rename_i h2
      simp only [List.take_succ_cons, take_tw, List.cons_append]
      rw [tok1_cons, if_pos h1, tw_sep _ _ hs, tw_idem, if_neg h2]
      simp
  · rename_i h1
    rw [if_neg h1] at h hn
    split
    · rename_i h2
      rw [if_pos h2] at h hn
      split
      · rename_i h3; rw [if_pos h3] at h; simp at h
      · rename_i h3
        simp only [List.take_succ_cons, take_tw, List.cons_append]
        rw [tok1_cons, if_neg h1, if_pos h2, tw_sep _ _ hs, tw_idem, if_neg h3]
        simp
    · rename_i h2
      rw [if_neg h2] at h hn
      split
      · rename_i h3; rw [if_pos h3] at h; simp at h
      · rename_i h3
        rw [if_neg h3] at hn
        have h4 := sgn_take c l h3 rest hs
        simp only at hn ⊢
        rw [hn, List.take_succ_cons] at h4 ⊢
        rw [List.cons_append] at h4 ⊢
        rw [tok1_cons, if_neg h1, if_neg h2, h4, if_neg (by omega)]
        have := sgn_le (c :: l)
        simp at this
        simp
        omega
theorem toks_selfs (off : Nat) (l : Bs) : ∀ y ∈ toks K off l, y.2 = 0 → y.1.k ≠ 5 → Self K y.1.k y.1.t := by
  revert off l
  refine toks_ind K ?_ ?_ ?_ ?_
  · intro off y hy; rw [toks_nil] at hy; simp at hy; subst hy; intro _ h; exact absurd rfl h
  · intro off c l hc ih; rw [toks_blank K hc]; exact ih
  · intro off c l hc he y hy h0
    rw [toks_err K hc he] at hy; simp at hy; subst hy; exact absurd h0 he
  · intro off c l hc he ih y hy
    rw [toks_tok K hc he] at hy
    rcases List.mem_cons.1 hy with rfl | hy
    · exact fun _ _ => self_of K he
    · exact ih y hy
theorem errs_all {ys : List (Tk × Nat)} (h : errs ys = false) : ∀ y ∈ ys, y.2 = 0 := by
  unfold errs at h
  rw [List.any_eq_false] at h
  intro y hy
  have := h y hy
  simpa using this
theorem join_alike {a b : List Tk} (h : alike a b) : join b = join a := by
  have key : ∀ ts : List Tk, join ts = joinB (((ts.map fun t => (t.k, t.t)).filter fun x => x.1 != 5).map (·.2)) := by
    intro ts
    unfold join texts
    rw [List.filter_map, List.map_map]
    rfl
  unfold alike at h
  rw [key, key, h]
/-- THE THEOREM of the layer. -/
theorem joined (s : Bs) (h : errs (toks K 0 s) = false) : errs (toks K 0 (join (tks K 0 s))) = false ∧ alike (tks K 0 s) (tks K 0 (join (tks K 0 s))) ∧ join (tks K 0 (join (tks K 0 s))) = join (tks K 0 s) := by
  obtain ⟨zs, y, e1, e2, e3⟩ := toks_ends K 0 s
  have hall := errs_all h
  have hy : y.1 = ⟨5, [], 0 + s.length⟩ := by
    rcases e3 with ⟨_, h⟩ | ⟨h, _⟩
    · exact h
    · have := hall y (by rw [e1]; simp); omega
  have hself := toks_selfs K 0 s
  have hz : (zs.map (·.1)).filter (fun t => t.k != 5) = zs.map (·.1) := by
    rw [List.filter_eq_self]
    intro t ht
    obtain ⟨z, hz, rfl⟩ := List.mem_map.1 ht
    simpa using (e2 z hz).2.1
  have ht : texts (tks K 0 s) = (zs.map fun z => (z.1.k, z.1.t)).map (·.2) := by
    unfold texts tks
    rw [e1, List.map_append, List.filter_append, hz]
    simp [hy, Function.comp_def]
  obtain ⟨zs', n, f1, f2, f3⟩ := toks_join K (zs.map fun z => (z.1.k, z.1.t)) 0 (by
    intro x hx
    obtain ⟨z, hz, rfl⟩ := List.mem_map.1 hx
    exact hself z (by rw [e1]; simp [hz]) (e2 z hz).1 (e2 z hz).2.1)
  rw [← ht] at f1
  change toks K 0 (join (tks K 0 s)) = _ at f1
  have ha : alike (tks K 0 s) (tks K 0 (join (tks K 0 s))) := by
    unfold alike tks at *
    rw [f1, e1]
    rw [List.map_map, List.map_map, List.map_append, List.map_append]
    have g1 : zs.map ((fun t : Tk => (t.k, t.t)) ∘ fun x => x.1) = zs.map fun z => (z.1.k, z.1.t) := rfl
    have g2 : zs'.map ((fun t : Tk => (t.k, t.t)) ∘ fun x => x.1) = zs'.map fun z => (z.1.k, z.1.t) := rfl
    rw [g1, g2, f2]
    simp [hy]
  refine ⟨?_, ha, ?_⟩
  · rw [f1]; unfold errs at f3 ⊢; rw [List.any_append, f3]; rfl
  · exact join_alike ha
/-- How long the joined text is. -/
theorem joinB_len : ∀ l : List Bs, (joinB l).length ≤ (l.map fun t => t.length + 1).sum
  | [] => by simp [joinB]
  | [a] => by simp [joinB]
  | a :: b :: r => by
    have := joinB_len (b :: r)
    simp [joinB] at this ⊢
    omega
theorem toks_len (off : Nat) (l : Bs) : ((toks K off l).map fun y => y.1.t.length).sum ≤ l.length ∧ (toks K off l).length ≤ l.length + 1 := by
  revert off l
  refine toks_ind K ?_ ?_ ?_ ?_
  · intro off; rw [toks_nil]; simp
  · intro off c l hc ih; rw [toks_blank K hc]; simp at ih ⊢; omega
  · intro off c l hc he; rw [toks_err K hc he]; simp
  · intro off c l hc he ih
    have hbd := tok1_bd K he
    rw [toks_tok K hc he]
    rw [List.length_drop] at ih
    simp only [List.map_cons, List.sum_cons, List.length_take, List.length_cons] at ih hbd ⊢
    omega
theorem sum_filter_le (l : List Tk) : ((l.filter fun t => t.k != 5).map fun t => t.t.length + 1).sum ≤ (l.map fun t => t.t.length).sum + l.length := by
  induction l with
  | nil => simp
  | cons a l ih =>
    rw [List.filter_cons]
    split
    · simp at ih ⊢; omega
    · simp at ih ⊢; omega
theorem join_len (s : Bs) : (join (tks K 0 s)).length ≤ 2 * s.length + 1 := by
  have h1 := joinB_len (texts (tks K 0 s))
  have h2 := toks_len K 0 s
  have h3 := sum_filter_le (tks K 0 s)
  unfold join
  have e1 : (texts (tks K 0 s)).map (fun t => t.length + 1) = ((tks K 0 s).filter fun t => t.k != 5).map fun t => t.t.length + 1 := by unfold texts; rw [List.map_map]; rfl
  have e2 : (tks K 0 s).map (fun t => t.t.length) = (toks K 0 s).map fun y => y.1.t.length := by unfold tks; rw [List.map_map]; rfl
  have e3 : (tks K 0 s).length = (toks K 0 s).length := by unfold tks; rw [List.length_map]
  rw [e1] at h1
  rw [e2, e3] at h3
  omega
end Go.Proofs.YtkeckecdhcknhaaDoor.Lx
