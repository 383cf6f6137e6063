/-
  Several texts in one: LxPure, LxPure2, LxNames, LxTg, PsPure, FtGram.
-/
import Derived.Lib.Hide
import Derived.Test.YtdapnjnmhkdnpaaDoorFmVars
import Derived.Deep.RegionHeld3
import Derived.Below
import Derived.Test.YtdapnjnmhkdnpaaDoorFmRightT

/-
  Tokens of texts as plain mathematics: what is read, and what follows from that.
-/
namespace Go.Proofs.YtdapnjnmhkdnpaaDoor.Lx
set_option linter.unusedVariables false
set_option linter.unusedSimpArgs false
abbrev Bs := List UInt8
def blk (c : UInt8) : Bool := c == 32 || c == 9 || c == 10 || c == 13
def ltr (c : UInt8) : Bool := 97 ≤ c && c ≤ 122 || 65 ≤ c && c ≤ 90
def lod (c : UInt8) : Bool := ltr c || 48 ≤ c && c ≤ 57
structure Tk where
  k : Nat
  t : Bs
  a : Nat
def one (c : UInt8) : Bool := c == 40 || c == 41 || c == 44 || c == 126 || c == 38 || c == 124 || c == 47 || c == 91 || c == 93
def sgn : Bs → Nat
  | [] => 0
  | c :: r => if c == 60 then (if r.take 2 == [45, 62] then 3 else if r.take 1 == [62] then 2 else 0)
    else if c == 45 then (if r.take 1 == [62] then 2 else 0)
    else if c == 91 then (if r.take 1 == [93] then 2 else 1)
    else if one c then 1 else 0
/-- The kinds of a run, of a mark; 0 if it is none. -/
structure Kinds where
  ru : Bs → Nat
  ma : Bs → Nat
  rlt : ∀ l, ru l < 5
  mlt : ∀ l, ma l < 5
  rne : ∀ l, ru l = 0 ∨ ru l = 1 ∨ ru l = 3
  mne : ∀ l, ma l = 0 ∨ ma l = 2
variable (K : Kinds)
def tok1 : Bs → Nat × Nat × Nat
  | [] => (0, 0, 40)
  | c :: r =>
    if ltr c then (if K.ru (c :: r.takeWhile lod) = 0 then (0, 0, 41) else (K.ru (c :: r.takeWhile lod), (r.takeWhile lod).length + 1, 0))
    else if c == 63 then (if K.ma (c :: r.takeWhile lod) = 0 then (0, 0, 41) else (K.ma (c :: r.takeWhile lod), (r.takeWhile lod).length + 1, 0))
    else if sgn (c :: r) = 0 then (0, 0, 40) else (4, sgn (c :: r), 0)
def toksF : Nat → Nat → Bs → List (Tk × Nat)
  | 0, _, _ => []
  | f + 1, off, l =>
    let l' := l.dropWhile blk
    let o := off + (l.length - l'.length)
    if l' = [] then [(⟨5, [], o⟩, 0)]
    else if (tok1 K l').2.2 = 0 then (⟨(tok1 K l').1, l'.take (tok1 K l').2.1, o⟩, 0) :: toksF f (o + (tok1 K l').2.1) (l'.drop (tok1 K l').2.1)
    else [(⟨0, [], o⟩, (tok1 K l').2.2)]
def toks (off : Nat) (l : Bs) : List (Tk × Nat) := toksF K (l.length + 1) off l
theorem sgn_cons (c : UInt8) (r : Bs) : sgn (c :: r) = if c == 60 then (if r.take 2 == [45, 62] then 3 else if r.take 1 == [62] then 2 else 0)
    else if c == 45 then (if r.take 1 == [62] then 2 else 0)
    else if c == 91 then (if r.take 1 == [93] then 2 else 1)
    else if one c then 1 else 0 := rfl
theorem take_len {r : Bs} {n : Nat} {x : Bs} (h : (r.take n == x) = true) : x.length ≤ r.length := by
  rw [beq_iff_eq] at h
  rw [← h, List.length_take]; omega
theorem sgn_le : ∀ l, sgn l ≤ l.length
  | [] => Nat.le_refl _
  | c :: r => by
    rw [sgn_cons]
    split
    · split
      · rename_i h; have := take_len h; simp at this ⊢; omega
      · split
        · rename_i h; have := take_len h; simp at this ⊢; omega
        · simp
    · split
      · split
        · rename_i h; have := take_len h; simp at this ⊢; omega
        · simp
      · split
        · split
          · rename_i h; have := take_len h; simp at this ⊢; omega
          · simp
        · split <;> simp
theorem tok1_cons (c : UInt8) (r : Bs) : tok1 K (c :: r) = 
    if ltr c then (if K.ru (c :: r.takeWhile lod) = 0 then (0, 0, 41) else (K.ru (c :: r.takeWhile lod), (r.takeWhile lod).length + 1, 0))
    else if c == 63 then (if K.ma (c :: r.takeWhile lod) = 0 then (0, 0, 41) else (K.ma (c :: r.takeWhile lod), (r.takeWhile lod).length + 1, 0))
    else if sgn (c :: r) = 0 then (0, 0, 40) else (4, sgn (c :: r), 0) := rfl
theorem tw_le (r : Bs) : (r.takeWhile lod).length ≤ r.length := (List.takeWhile_sublist _).length_le
theorem tok1_bd {l : Bs} (h : (tok1 K l).2.2 = 0) : 1 ≤ (tok1 K l).2.1 ∧ (tok1 K l).2.1 ≤ l.length ∧ 1 ≤ (tok1 K l).1 ∧ (tok1 K l).1 < 5 := by
  match l with
  | [] => simp [tok1] at h
  | c :: r =>
    have hs := sgn_le (c :: r)
    have ht := tw_le r
    rw [tok1_cons] at h ⊢
    split
    · rename_i h1
      rw [if_pos h1] at h
      split
      · rename_i h2; rw [if_pos h2] at h; simp at h
      · have := K.rlt (c :: r.takeWhile lod); simp; omega
    · rename_i h1
      rw [if_neg h1] at h
      split
      · rename_i h1
        rw [if_pos h1] at h
        split
        · rename_i h2; rw [if_pos h2] at h; simp at h
        · have := K.mlt (c :: r.takeWhile lod); simp; omega
      · rename_i h1
        rw [if_neg h1] at h
        split
        · rename_i h2; rw [if_pos h2] at h; simp at h
        · simp at hs ⊢; omega
theorem dw_le (l : Bs) : (l.dropWhile blk).length ≤ l.length := (List.dropWhile_sublist _).length_le
theorem toksF_irr : ∀ (f g off : Nat) (l : Bs), l.length < f → l.length < g → toksF K f off l = toksF K g off l
  | 0, _, _, _, h, _ => absurd h (Nat.not_lt_zero _)
  | _ + 1, 0, _, _, _, h => absurd h (Nat.not_lt_zero _)
  | f + 1, g + 1, off, l, h1, h2 => by
    simp only [toksF]
    split
    · rfl
    · split
      · rename_i h3
        have hb := tok1_bd K h3
        have hd := dw_le l
        rw [toksF_irr f g _ _ (by rw [List.length_drop]; omega) (by rw [List.length_drop]; omega)]
      · rfl
theorem toks_eq (off : Nat) (l : Bs) : toks K off l =
    if l.dropWhile blk = [] then [(⟨5, [], off + (l.length - (l.dropWhile blk).length)⟩, 0)]
    else if (tok1 K (l.dropWhile blk)).2.2 = 0 then (⟨(tok1 K (l.dropWhile blk)).1, (l.dropWhile blk).take (tok1 K (l.dropWhile blk)).2.1, off + (l.length - (l.dropWhile blk).length)⟩, 0) ::
        toks K (off + (l.length - (l.dropWhile blk).length) + (tok1 K (l.dropWhile blk)).2.1) ((l.dropWhile blk).drop (tok1 K (l.dropWhile blk)).2.1)
    else [(⟨0, [], off + (l.length - (l.dropWhile blk).length)⟩, (tok1 K (l.dropWhile blk)).2.2)] := by
  unfold toks
  rw [toksF]
  split
  · rfl
  · split
    · rename_i h3
      have hb := tok1_bd K h3
      have hd := dw_le l
      rw [toksF_irr K l.length _ _ _ (by rw [List.length_drop]; omega) (Nat.lt_succ_self _)]
    · rfl
theorem dw_blk {c : UInt8} (h : blk c = true) (l : Bs) : (c :: l).dropWhile blk = l.dropWhile blk := by rw [List.dropWhile_cons, if_pos h]
theorem dw_not {c : UInt8} (h : blk c = false) (l : Bs) : (c :: l).dropWhile blk = c :: l := by rw [List.dropWhile_cons, if_neg (by rw [h]; decide)]
/-- A blank ahead only moves. -/
theorem toks_blank {c : UInt8} (h : blk c = true) (off : Nat) (l : Bs) : toks K off (c :: l) = toks K (off + 1) l := by
  rw [toks_eq, toks_eq K (off + 1) l, dw_blk h]
  have hd := dw_le l
  have e : off + ((c :: l).length - (l.dropWhile blk).length) = off + 1 + (l.length - (l.dropWhile blk).length) := by simp; omega
  rw [e]
theorem toks_nil (off : Nat) : toks K off [] = [(⟨5, [], off⟩, 0)] := by rw [toks_eq]; simp
theorem toks_tok {c : UInt8} {l : Bs} (hb : blk c = false) (h : (tok1 K (c :: l)).2.2 = 0) (off : Nat) : toks K off (c :: l) = (⟨(tok1 K (c :: l)).1, (c :: l).take (tok1 K (c :: l)).2.1, off⟩, 0) ::
    toks K (off + (tok1 K (c :: l)).2.1) ((c :: l).drop (tok1 K (c :: l)).2.1) := by
  rw [toks_eq, dw_not hb, if_neg (by simp), if_pos h]; simp
theorem toks_err {c : UInt8} {l : Bs} (hb : blk c = false) (h : (tok1 K (c :: l)).2.2 ≠ 0) (off : Nat) : toks K off (c :: l) = [(⟨0, [], off⟩, (tok1 K (c :: l)).2.2)] := by
  rw [toks_eq, dw_not hb, if_neg (by simp), if_neg h]; simp
/-- Induction along the tokens. -/
theorem toks_ind {M : Nat → Bs → Prop} (h0 : ∀ off, M off []) (hb : ∀ off c l, blk c = true → M (off + 1) l → M off (c :: l)) (he : ∀ off c l, blk c = false → (tok1 K (c :: l)).2.2 ≠ 0 → M off (c :: l))
    (ht : ∀ off c l, blk c = false → (tok1 K (c :: l)).2.2 = 0 → M (off + (tok1 K (c :: l)).2.1) ((c :: l).drop (tok1 K (c :: l)).2.1) → M off (c :: l)) : ∀ off l, M off l := by
  intro off l
  obtain ⟨n, hn⟩ : ∃ n, l.length ≤ n := ⟨_, Nat.le_refl _⟩
  induction n generalizing off l with
  | zero => have := List.eq_nil_of_length_eq_zero (Nat.le_zero.1 hn); subst this; exact h0 off
  | succ n ih =>
    match l with
    | [] => exact h0 off
    | c :: l =>
      cases hc : blk c with
      | true => exact hb off c l hc (ih _ _ (by simpa using hn))
      | false =>
        by_cases h : (tok1 K (c :: l)).2.2 = 0
        · have := tok1_bd K h
          exact ht off c l hc h (ih _ _ (by rw [List.length_drop]; omega))
        · exact he off c l hc h
/-- What may stand behind a token without making it longer. -/
def Sep : Bs → Prop
  | [] => True
  | c :: _ => blk c = true
theorem blk_lod {c : UInt8} (h : blk c = true) : lod c = false ∧ ltr c = false ∧ (c == 63) = false ∧ (c == 62) = false ∧ (c == 45) = false ∧ (c == 93) = false := by
  unfold blk at h
  simp only [Bool.or_eq_true, beq_iff_eq] at h
  rcases h with ((rfl | rfl) | rfl) | rfl <;> decide
theorem tw_sep (r rest : Bs) (h : Sep rest) : (r ++ rest).takeWhile lod = r.takeWhile lod := by
  induction r with
  | nil =>
    match rest, h with
    | [], _ => rfl
    | c :: rest, h => rw [List.nil_append, List.takeWhile_cons, (blk_lod h).1]; rfl
  | cons a r ih => rw [List.cons_append, List.takeWhile_cons, List.takeWhile_cons, ih]
theorem sgn_sep (c : UInt8) (r rest : Bs) (h : Sep rest) : sgn (c :: r ++ rest) = sgn (c :: r) := by
  match rest, h with
  | [], _ => rw [List.append_nil]
  | b :: rest, h =>
    obtain ⟨_, _, _, h1, h2, h3⟩ := blk_lod h
    match r with
    | [] => simp [sgn, h1, h2, h3]
    | [x] => simp [sgn, h1, h2, h3]
    | x :: y :: r => simp [sgn]
/-- A blank behind it changes no token. -/
theorem tok1_sep (c : UInt8) (r rest : Bs) (h : Sep rest) : tok1 K (c :: r ++ rest) = tok1 K (c :: r) := by
  have h2 := sgn_sep c r rest h
  rw [List.cons_append] at h2 ⊢
  simp only [tok1, tw_sep r rest h, h2]
/-- Two texts with a blank between them. -/
def errs (ys : List (Tk × Nat)) : Bool := ys.any fun y => y.2 != 0
theorem toks_both (off : Nat) (s : Bs) (b : UInt8) (t : Bs) (hb : blk b = true) : toks K off (s ++ b :: t) = if errs (toks K off s) then toks K off s else (toks K off s).dropLast ++ toks K (off + s.length + 1) t := by
  revert off s
  refine toks_ind K ?_ ?_ ?_ ?_
  · intro off
    rw [List.nil_append, toks_blank K hb, toks_nil]
    simp [errs]
  · intro off c l hc ih
    rw [List.cons_append, toks_blank K hc, toks_blank K hc, ih]
    have : off + (c :: l).length + 1 = off + 1 + l.length + 1 := by simp; omega
    rw [this]
  · intro off c l hc he
    have h1 := tok1_sep K c l (b :: t) hb
    rw [List.cons_append] at h1 ⊢
    rw [toks_err K hc (by rw [h1]; exact he), toks_err K hc he, h1]
    simp [errs, he]
  · intro off c l hc he ih
    have h1 := tok1_sep K c l (b :: t) hb
    have hbd := tok1_bd K he
    rw [List.cons_append] at h1 ⊢
    rw [toks_tok K hc (by rw [h1]; exact he), toks_tok K hc he, h1]
    rw [← List.cons_append, List.take_append_of_le_length hbd.2.1, List.drop_append_of_le_length hbd.2.1, ih]
    have hne : toks K (off + (tok1 K (c :: l)).2.1) ((c :: l).drop (tok1 K (c :: l)).2.1) ≠ [] := by
      rw [toks_eq]; split
      · simp
      · split <;> simp
    have e2 : off + (tok1 K (c :: l)).2.1 + ((c :: l).drop (tok1 K (c :: l)).2.1).length + 1 = off + (c :: l).length + 1 := by rw [List.length_drop]; omega
    rw [e2]
    generalize toks K (off + (tok1 K (c :: l)).2.1) ((c :: l).drop (tok1 K (c :: l)).2.1) = ys at *
    have e3 : errs ((⟨(tok1 K (c :: l)).1, (c :: l).take (tok1 K (c :: l)).2.1, off⟩, 0) :: ys) = errs ys := by simp [errs]
    rw [e3]
    split
    · rfl
    · rw [List.dropLast_cons_of_ne_nil hne]; rfl
/-- Moved. -/
def mv (d : Nat) (y : Tk × Nat) : Tk × Nat := (⟨y.1.k, y.1.t, y.1.a + d⟩, y.2)
theorem toks_mv (d : Nat) (off : Nat) (l : Bs) : toks K (off + d) l = (toks K off l).map (mv d) := by
  revert off l
  refine toks_ind K ?_ ?_ ?_ ?_
  · intro off; rw [toks_nil, toks_nil]; rfl
  · intro off c l hc ih
    rw [toks_blank K hc, toks_blank K hc, ← ih]; congr 1; omega
  · intro off c l hc he; rw [toks_err K hc he, toks_err K hc he]; rfl
  · intro off c l hc he ih
    rw [toks_tok K hc he, toks_tok K hc he, List.map_cons, ← ih]
    have : off + d + (tok1 K (c :: l)).2.1 = off + (tok1 K (c :: l)).2.1 + d := by omega
    rw [this]; rfl
/-- The last one is the end, or has the error. -/
def Ends (ys : List (Tk × Nat)) (n : Nat) : Prop := ∃ zs y, ys = zs ++ [y] ∧ (∀ z ∈ zs, z.2 = 0 ∧ z.1.k ≠ 5 ∧ z.1.k ≠ 0 ∧ z.1.t ≠ []) ∧ ((y.2 = 0 ∧ y.1 = ⟨5, [], n⟩) ∨ ((y.2 = 40 ∨ y.2 = 41) ∧ y.1.k = 0 ∧ y.1.t = [] ∧ y.1.a < n))
theorem tok1_err (l : Bs) : (tok1 K l).2.2 = 0 ∨ (tok1 K l).2.2 = 40 ∨ (tok1 K l).2.2 = 41 := by
  match l with
  | [] => simp [tok1]
  | c :: r =>
    rw [tok1_cons]
    split
    · split <;> simp
    · split
      · split <;> simp
      · split <;> simp
theorem toks_ends (off : Nat) (l : Bs) : Ends (toks K off l) (off + l.length) := by
  revert off l
  refine toks_ind K ?_ ?_ ?_ ?_
  · intro off; rw [toks_nil]; exact ⟨[], _, rfl, by simp, .inl ⟨rfl, rfl⟩⟩
  · intro off c l hc ih
    rw [toks_blank K hc]
    have : off + (c :: l).length = off + 1 + l.length := by simp; omega
    rw [this]; exact ih
  · intro off c l hc he
    rw [toks_err K hc he]
    exact ⟨[], _, rfl, by simp, .inr ⟨(tok1_err K (c :: l)).resolve_left he, rfl, rfl, by simp⟩⟩
  · intro off c l hc he ih
    obtain ⟨zs, y, e1, e2, e3⟩ := ih
    have hbd := tok1_bd K he
    rw [List.length_drop] at e3
    rw [toks_tok K hc he, e1]
    refine ⟨_ :: zs, y, rfl, ?_, ?_⟩
    · intro z hz
      rcases List.mem_cons.1 hz with rfl | hz
      · refine ⟨rfl, by have := hbd.2.2.2; simp; omega, by have := hbd.2.2.1; simp; omega, fun h => ?_⟩
        have := congrArg List.length h
        rw [List.length_take] at this
        simp only [List.length_nil] at this
        omega
      · exact e2 z hz
    · have : off + (tok1 K (c :: l)).2.1 + ((c :: l).length - (tok1 K (c :: l)).2.1) = off + (c :: l).length := by omega
      rw [this] at e3; exact e3
end Go.Proofs.YtdapnjnmhkdnpaaDoor.Lx

/-
  The statements on tokens as plain mathematics.
-/
namespace Go.Proofs.YtdapnjnmhkdnpaaDoor.Lx
set_option linter.unusedVariables false
set_option linter.unusedSimpArgs false
variable (K : Kinds)
/-- The text of tokens. -/
def texts (ts : List Tk) : List Bs := (ts.filter fun t => t.k != 5).map (·.t)
def joinB : List Bs → Bs
  | [] => []
  | [a] => a
  | a :: b :: r => a ++ 32 :: joinB (b :: r)
def join (ts : List Tk) : Bs := joinB (texts ts)
def alike (a b : List Tk) : Prop := a.map (fun t => (t.k, t.t)) = b.map (fun t => (t.k, t.t))
def tks (off : Nat) (l : Bs) : List Tk := (toks K off l).map (·.1)
def Good (off : Nat) (l : Bs) : Prop := errs (toks K off l) = false
/-- A text that is a token, wherever something that ends it follows. -/
structure Self (k : Nat) (t : Bs) : Prop where
  ne : ∃ c r, t = c :: r ∧ blk c = false
  k1 : k ≠ 5
  tok : ∀ rest, Sep rest → tok1 K (t ++ rest) = (k, t.length, 0)
theorem blk_err {c : UInt8} {l : Bs} (h : (tok1 K (c :: l)).2.2 = 0) : blk c = false := by
  cases hb : blk c with
  | false => rfl
  | true =>
    unfold blk at hb
    simp only [Bool.or_eq_true, beq_iff_eq] at hb
    exfalso
    rcases hb with ((rfl | rfl) | rfl) | rfl <;> simp [tok1, ltr, sgn, one] at h
theorem toks_self {k : Nat} {t : Bs} (h : Self K k t) (off : Nat) (rest : Bs) (hs : Sep rest) : toks K off (t ++ rest) = (⟨k, t, off⟩, 0) :: toks K (off + t.length) rest := by
  obtain ⟨c, r, rfl, hb⟩ := h.ne
  have h1 := h.tok rest hs
  rw [List.cons_append] at h1 ⊢
  rw [toks_tok K hb (by rw [h1]), h1]
  simp only
  rw [← List.cons_append, List.take_left, List.drop_left]
/-- The tokens of joined texts. -/
theorem toks_join : ∀ (ts : List (Nat × Bs)) (off : Nat), (∀ x ∈ ts, Self K x.1 x.2) → ∃ zs n, toks K off (joinB (ts.map (·.2))) = zs ++ [(⟨5, [], n⟩, 0)] ∧ zs.map (fun z => (z.1.k, z.1.t)) = ts ∧ errs zs = false
  | [], off, _ => ⟨[], off, toks_nil K off, rfl, rfl⟩
  | [x], off, h => by
    have h1 := toks_self K (h x (by simp)) off [] trivial
    rw [List.append_nil, toks_nil] at h1
    exact ⟨[(⟨x.1, x.2, off⟩, 0)], _, h1, rfl, rfl⟩
  | x :: y :: r, off, h => by
    obtain ⟨zs, n, e1, e2, e3⟩ := toks_join (y :: r) (off + x.2.length + 1) fun z hz => h z (List.mem_cons_of_mem _ hz)
    have h1 := toks_self K (h x (by simp)) off (32 :: joinB ((y :: r).map (·.2))) rfl
    rw [toks_blank K rfl, e1] at h1
    exact ⟨(⟨x.1, x.2, off⟩, 0) :: zs, n, h1, by rw [List.map_cons, e2], by rw [errs] at e3 ⊢; rw [List.any_cons, e3]; rfl⟩
theorem sgn_take (c : UInt8) (r : Bs) (h : sgn (c :: r) ≠ 0) (rest : Bs) (hs : Sep rest) : sgn ((c :: r).take (sgn (c :: r)) ++ rest) = sgn (c :: r) := by
  rw [sgn_cons] at h ⊢
  split
  · rename_i h1
    rw [if_pos h1] at h
    split
    · rename_i h2
      match r, h2 with
      | a :: b :: r, h2 =>
        show sgn (c :: a :: b :: rest) = 3
        rw [sgn_cons, if_pos h1]; exact if_pos h2
      | [a], h2 => simp at h2
      | [], h2 => simp at h2
    · rename_i h2
      rw [if_neg h2] at h
      split
      · rename_i h3
        match r, h3 with
        | a :: r, h3 =>
          have e : a = 62 := by simpa using h3
          subst e
          show sgn (c :: 62 :: rest) = 2
          rw [sgn_cons, if_pos h1, if_neg (by simp)]; exact if_pos h3
        | [], h3 => simp at h3
      · rename_i h3; rw [if_neg h3] at h; exact absurd rfl h
  · rename_i h1
    rw [if_neg h1] at h
    split
    · rename_i h2
      rw [if_pos h2] at h
      split
      · rename_i h3
        match r, h3 with
        | a :: r, h3 =>
          show sgn (c :: a :: rest) = 2
          rw [sgn_cons, if_neg h1, if_pos h2]; exact if_pos h3
        | [], h3 => simp at h3
      · rename_i h3; rw [if_neg h3] at h; exact absurd rfl h
    · rename_i h2
      rw [if_neg h2] at h
      split
      · rename_i h3
        rw [if_pos h3] at h
        split
        · rename_i h4
          match r, h4 with
          | a :: r, h4 =>
            show sgn (c :: a :: rest) = 2
            rw [sgn_cons, if_neg h1, if_neg h2, if_pos h3]; exact if_pos h4
          | [], h4 => simp at h4
        · show sgn (c :: rest) = 1
          rw [sgn_cons, if_neg h1, if_neg h2, if_pos h3, if_neg]
          match rest, hs with
          | [], _ => simp
          | b :: rest, hs =>
            have := (blk_lod (show blk b = true from hs)).2.2.2.2.2
            simpa using this
      · rename_i h3
        rw [if_neg h3] at h
        split
        · rename_i h4
          show sgn (c :: rest) = 1
          rw [sgn_cons, if_neg h1, if_neg h2, if_neg h3, if_pos h4]
        · rename_i h4; rw [if_neg h4] at h; exact absurd rfl h
theorem tw_idem (r : Bs) : (r.takeWhile lod).takeWhile lod = r.takeWhile lod := by
  induction r with
  | nil => rfl
  | cons a r ih =>
    rw [List.takeWhile_cons]
    split
    · rename_i h; rw [List.takeWhile_cons, if_pos h, ih]
    · rfl
theorem take_tw (r : Bs) : r.take (r.takeWhile lod).length = r.takeWhile lod := by
  induction r with
  | nil => rfl
  | cons a r ih =>
    rw [List.takeWhile_cons]
    split
    · rw [List.length_cons, List.take_succ_cons, ih]
    · rfl
/-- A token that was read is one by itself. -/
theorem self_of {c : UInt8} {l : Bs} (h : (tok1 K (c :: l)).2.2 = 0) : Self K (tok1 K (c :: l)).1 ((c :: l).take (tok1 K (c :: l)).2.1) := by
  have hbd := tok1_bd K h
  have hb := blk_err K h
  obtain ⟨n, hn⟩ : ∃ n, (tok1 K (c :: l)).2.1 = n + 1 := ⟨(tok1 K (c :: l)).2.1 - 1, by omega⟩
  refine ⟨⟨c, l.take n, by rw [hn, List.take_succ_cons], hb⟩, by omega, fun rest hs => ?_⟩
  rw [tok1_cons] at h hn ⊢
  split
  · rename_i h1
    rw [if_pos h1] at h hn
    split
    · rename_i h2; rw [if_pos h2] at h; simp at h
    · rename_i h2
      simp only [List.take_succ_cons, take_tw, List.cons_append]
      rw [tok1_cons, if_pos h1, tw_sep _ _ hs, tw_idem, if_neg h2]
      simp
  · rename_i h1
    rw [if_neg h1] at h hn
    split
    · rename_i h2
      rw [if_pos h2] at h hn
      split
      · rename_i h3; rw [if_pos h3] at h; simp at h
      · rename_i h3
        simp only [List.take_succ_cons, take_tw, List.cons_append]
        rw [tok1_cons, if_neg h1, if_pos h2, tw_sep _ _ hs, tw_idem, if_neg h3]
        simp
    · rename_i h2
      rw [if_neg h2] at h hn
      split
      · rename_i h3; rw [if_pos h3] at h; simp at h
      · rename_i h3
        rw [if_neg h3] at hn
        have h4 := sgn_take c l h3 rest hs
        simp only at hn ⊢
        rw [hn, List.take_succ_cons] at h4 ⊢
        rw [List.cons_append] at h4 ⊢
        rw [tok1_cons, if_neg h1, if_neg h2, h4, if_neg (by omega)]
        have := sgn_le (c :: l)
        simp at this
        simp
        omega
theorem toks_selfs (off : Nat) (l : Bs) : ∀ y ∈ toks K off l, y.2 = 0 → y.1.k ≠ 5 → Self K y.1.k y.1.t := by
  revert off l
  refine toks_ind K ?_ ?_ ?_ ?_
  · intro off y hy; rw [toks_nil] at hy; simp at hy; subst hy; intro _ h; exact absurd rfl h
  · intro off c l hc ih; rw [toks_blank K hc]; exact ih
  · intro off c l hc he y hy h0
    rw [toks_err K hc he] at hy; simp at hy; subst hy; exact absurd h0 he
  · intro off c l hc he ih y hy
    rw [toks_tok K hc he] at hy
    rcases List.mem_cons.1 hy with rfl | hy
    · exact fun _ _ => self_of K he
    · exact ih y hy
theorem errs_all {ys : List (Tk × Nat)} (h : errs ys = false) : ∀ y ∈ ys, y.2 = 0 := by
  unfold errs at h
  rw [List.any_eq_false] at h
  intro y hy
  have := h y hy
  simpa using this
theorem join_alike {a b : List Tk} (h : alike a b) : join b = join a := by
  have key : ∀ ts : List Tk, join ts = joinB (((ts.map fun t => (t.k, t.t)).filter fun x => x.1 != 5).map (·.2)) := by
    intro ts
    unfold join texts
    rw [List.filter_map, List.map_map]
    rfl
  unfold alike at h
  rw [key, key, h]
/-- THE THEOREM of the layer. -/
theorem joined (s : Bs) (h : errs (toks K 0 s) = false) : errs (toks K 0 (join (tks K 0 s))) = false ∧ alike (tks K 0 s) (tks K 0 (join (tks K 0 s))) ∧ join (tks K 0 (join (tks K 0 s))) = join (tks K 0 s) := by
  obtain ⟨zs, y, e1, e2, e3⟩ := toks_ends K 0 s
  have hall := errs_all h
  have hy : y.1 = ⟨5, [], 0 + s.length⟩ := by
    rcases e3 with ⟨_, h⟩ | ⟨h, _⟩
    · exact h
    · have := hall y (by rw [e1]; simp); omega
  have hself := toks_selfs K 0 s
  have hz : (zs.map (·.1)).filter (fun t => t.k != 5) = zs.map (·.1) := by
    rw [List.filter_eq_self]
    intro t ht
    obtain ⟨z, hz, rfl⟩ := List.mem_map.1 ht
    simpa using (e2 z hz).2.1
  have ht : texts (tks K 0 s) = (zs.map fun z => (z.1.k, z.1.t)).map (·.2) := by
    unfold texts tks
    rw [e1, List.map_append, List.filter_append, hz]
    simp [hy, Function.comp_def]
  obtain ⟨zs', n, f1, f2, f3⟩ := toks_join K (zs.map fun z => (z.1.k, z.1.t)) 0 (by
    intro x hx
    obtain ⟨z, hz, rfl⟩ := List.mem_map.1 hx
    exact hself z (by rw [e1]; simp [hz]) (e2 z hz).1 (e2 z hz).2.1)
  rw [← ht] at f1
  change toks K 0 (join (tks K 0 s)) = _ at f1
  have ha : alike (tks K 0 s) (tks K 0 (join (tks K 0 s))) := by
    unfold alike tks at *
    rw [f1, e1]
    rw [List.map_map, List.map_map, List.map_append, List.map_append]
    have g1 : zs.map ((fun t : Tk => (t.k, t.t)) ∘ fun x => x.1) = zs.map fun z => (z.1.k, z.1.t) := rfl
    have g2 : zs'.map ((fun t : Tk => (t.k, t.t)) ∘ fun x => x.1) = zs'.map fun z => (z.1.k, z.1.t) := rfl
    rw [g1, g2, f2]
    simp [hy]
  refine ⟨?_, ha, ?_⟩
  · rw [f1]; unfold errs at f3 ⊢; rw [List.any_append, f3]; rfl
  · exact join_alike ha
/-- How long the joined text is. -/
theorem joinB_len : ∀ l : List Bs, (joinB l).length ≤ (l.map fun t => t.length + 1).sum
  | [] => by simp [joinB]
  | [a] => by simp [joinB]
  | a :: b :: r => by
    have := joinB_len (b :: r)
    simp [joinB] at this ⊢
    omega
theorem toks_len (off : Nat) (l : Bs) : ((toks K off l).map fun y => y.1.t.length).sum ≤ l.length ∧ (toks K off l).length ≤ l.length + 1 := by
  revert off l
  refine toks_ind K ?_ ?_ ?_ ?_
  · intro off; rw [toks_nil]; simp
  · intro off c l hc ih; rw [toks_blank K hc]; simp at ih ⊢; omega
  · intro off c l hc he; rw [toks_err K hc he]; simp
  · intro off c l hc he ih
    have hbd := tok1_bd K he
    rw [toks_tok K hc he]
    rw [List.length_drop] at ih
    simp only [List.map_cons, List.sum_cons, List.length_take, List.length_cons] at ih hbd ⊢
    omega
theorem sum_filter_le (l : List Tk) : ((l.filter fun t => t.k != 5).map fun t => t.t.length + 1).sum ≤ (l.map fun t => t.t.length).sum + l.length := by
  induction l with
  | nil => simp
  | cons a l ih =>
    rw [List.filter_cons]
    split
    · simp at ih ⊢; omega
    · simp at ih ⊢; omega
theorem join_len (s : Bs) : (join (tks K 0 s)).length ≤ 2 * s.length + 1 := by
  have h1 := joinB_len (texts (tks K 0 s))
  have h2 := toks_len K 0 s
  have h3 := sum_filter_le (tks K 0 s)
  unfold join
  have e1 : (texts (tks K 0 s)).map (fun t => t.length + 1) = ((tks K 0 s).filter fun t => t.k != 5).map fun t => t.t.length + 1 := by unfold texts; rw [List.map_map]; rfl
  have e2 : (tks K 0 s).map (fun t => t.t.length) = (toks K 0 s).map fun y => y.1.t.length := by unfold tks; rw [List.map_map]; rfl
  have e3 : (tks K 0 s).length = (toks K 0 s).length := by unfold tks; rw [List.length_map]
  rw [e1] at h1
  rw [e2, e3] at h3
  omega
end Go.Proofs.YtdapnjnmhkdnpaaDoor.Lx

/-
  The kinds of runs and marks: the contracts of Word, kindOfRun, kindOfMark, letter, digit, blank, named and its closure.
-/
namespace Go.Proofs.YtdapnjnmhkdnpaaDoor.Lx
open Go Go.RowKit Go.Shelf Go.Proofs.YtdapnjnmhkdnpaaDoor.Fm
set_option linter.unusedVariables false
set_option linter.unusedSimpArgs false
def bs (l : Bs) : ByteArray := ⟨l.toArray⟩
theorem bs_list (s : ByteArray) : bs s.data.toList = s := by unfold bs; simp
theorem bs_toList (l : Bs) : (bs l).data.toList = l := by unfold bs; simp
def metB (s : ByteArray) : Bool := metaB predB s || metaB fnB s
def namB (s : ByteArray) : Bool := varB s || fnB s || predB s
def runS (s : ByteArray) : Nat := if wordB s then 3 else if namB s then 1 else 0
def marS (s : ByteArray) : Nat := if metB s then 2 else 0
def KK : Kinds where
  ru l := runS (bs l)
  ma l := marS (bs l)
  rlt l := by unfold runS; split <;> (try split) <;> omega
  mlt l := by unfold marS; split <;> omega
  rne l := by unfold runS; split <;> (try split) <;> omega
  mne l := by unfold marS; split <;> omega
theorem ltr_int (c : UInt8) : ltr c = (decide (97 ≤ (c.toNat : Int)) && decide ((c.toNat : Int) ≤ 122) || decide (65 ≤ (c.toNat : Int)) && decide ((c.toNat : Int) ≤ 90)) := by
  unfold ltr
  have h (a : UInt8) : (decide (a ≤ c)) = decide ((a.toNat : Int) ≤ (c.toNat : Int)) := by
    rw [Bool.eq_iff_iff]; simp [UInt8.le_iff_toNat_le]
  have h' (a : UInt8) : (decide (c ≤ a)) = decide ((c.toNat : Int) ≤ (a.toNat : Int)) := by
    rw [Bool.eq_iff_iff]; simp [UInt8.le_iff_toNat_le]
  rw [h, h', h, h']; rfl
theorem dgt_int (c : UInt8) : (decide (48 ≤ c) && decide (c ≤ 57)) = (decide (48 ≤ (c.toNat : Int)) && decide ((c.toNat : Int) ≤ 57)) := by
  have h (a : UInt8) : (decide (a ≤ c)) = decide ((a.toNat : Int) ≤ (c.toNat : Int)) := by
    rw [Bool.eq_iff_iff]; simp [UInt8.le_iff_toNat_le]
  have h' (a : UInt8) : (decide (c ≤ a)) = decide ((c.toNat : Int) ≤ (a.toNat : Int)) := by
    rw [Bool.eq_iff_iff]; simp [UInt8.le_iff_toNat_le]
  rw [h, h']; rfl
def dgt (c : UInt8) : Bool := decide (48 ≤ c) && decide (c ≤ 57)
theorem lod_eq (c : UInt8) : lod c = (ltr c || dgt c) := rfl
end Go.Proofs.YtdapnjnmhkdnpaaDoor.Lx

/-
  Tokens and how they lie in memory.
-/
namespace Go.Proofs.YtdapnjnmhkdnpaaDoor.Lx
open Go Go.RowKit Go.Shelf Go.Proofs.YtdapnjnmhkdnpaaDoor.Fm
set_option linter.unusedVariables false
set_option linter.unusedSimpArgs false
/-- Any tokens: kind, text, place. -/
structure Tg where
  k : Int
  t : ByteArray
  a : Int
def toG (t : Tk) : Tg := ⟨t.k, bs t.t, t.a⟩
def encG (t : Tg) : List Value := [.int .u8 t.k, .string t.t, .int .i64 t.a]
def flatG (ts : List Tg) : List Value := ts.flatMap encG
theorem flatG_get : ∀ (ts : List Tg) (i : Nat) (t : Tg), ts[i]? = some t → (flatG ts)[i * 3]? = some (.int .u8 t.k) ∧ (flatG ts)[i * 3 + 1]? = some (.string t.t) ∧ (flatG ts)[i * 3 + 2]? = some (.int .i64 t.a)
  | [], i, t, h => by simp at h
  | u :: r, 0, t, h => by
    obtain rfl : u = t := by simpa using h
    exact ⟨rfl, rfl, rfl⟩
  | u :: r, i + 1, t, h => by
    obtain ⟨h1, h2, h3⟩ := flatG_get r i t (by simpa using h)
    have e : (i + 1) * 3 = i * 3 + 3 := by omega
    rw [e]
    exact ⟨h1, h2, h3⟩
/-- A slice of tokens. -/
structure TsV (w : World) (a : Option Addr) (ts : List Tg) : Prop where
  h : ts = [] ∨ ∃ g o, a = some ⟨g, o, none⟩ ∧ g < w.heap.size ∧ ∀ j u, (flatG ts)[j]? = some u → w.cell? ⟨g, o + j, none⟩ = some u
theorem TsV.below {w w' : World} {a : Option Addr} {ts : List Tg} (h : TsV w a ts) {n : Nat} (hb : Below n w w') (hn : ∀ g o, a = some ⟨g, o, none⟩ → g < n) : TsV w' a ts := by
  rcases h.h with h | ⟨g, o, rfl, h1, h2⟩
  · exact ⟨.inl h⟩
  · exact ⟨.inr ⟨g, o, rfl, Nat.lt_of_lt_of_le h1 hb.size, fun j u hj => (hb.cell (p := ⟨g, o + j, none⟩) (hn g o rfl)).trans (h2 j u hj)⟩⟩
theorem TsV.grow {w w' : World} {a : Option Addr} {ts : List Tg} (h : TsV w a ts) (hb : Below w.heap.size w w') : TsV w' a ts := by
  rcases h.h with h | ⟨g, o, rfl, h1, h2⟩
  · exact ⟨.inl h⟩
  · exact ⟨.inr ⟨g, o, rfl, Nat.lt_of_lt_of_le h1 hb.size, fun j u hj => (hb.cell (p := ⟨g, o + j, none⟩) h1).trans (h2 j u hj)⟩⟩
theorem TsV.get {w : World} {a : Option Addr} {ts : List Tg} (h : TsV w a ts) {i : Nat} (hi : i < ts.length) : ∃ g o, a = some ⟨g, o, none⟩ ∧ g < w.heap.size ∧ w.cell? ⟨g, o + i * 3, none⟩ = some (.int .u8 ts[i].k) ∧ w.cell? ⟨g, o + i * 3 + 1, none⟩ = some (.string ts[i].t) ∧ w.cell? ⟨g, o + i * 3 + 2, none⟩ = some (.int .i64 ts[i].a) := by
  rcases h.h with rfl | ⟨g, o, h0, h1, h2⟩
  · simp at hi
  · obtain ⟨a1, a2, a3⟩ := flatG_get ts i _ (List.getElem?_eq_getElem hi)
    exact ⟨g, o, h0, h1, h2 _ _ a1, h2 _ _ a2, h2 _ _ a3⟩
end Go.Proofs.YtdapnjnmhkdnpaaDoor.Lx

/-
  The grammar as functions over lists of tokens.
-/
namespace Go.Proofs.YtdapnjnmhkdnpaaDoor.Ps
open Go Go.RowKit Go.Proofs.YtdapnjnmhkdnpaaDoor.Fm Go.Proofs.YtdapnjnmhkdnpaaDoor.Lx
set_option linter.unusedVariables false
set_option linter.unusedSimpArgs false
/-- What a rule reads: a value and the tokens that are left, or the place of an error and the error. -/
inductive R (α : Type) where
  | ok (a : α) (r : List Tg)
  | er (a e : Int)
def R.bind {α β : Type} : R α → (α → List Tg → R β) → R β
  | .ok a r, f => f a r
  | .er a e, _ => .er a e
def eqB (a b : ByteArray) : Bool := a.data.toList == b.data.toList
theorem eqB_iff {a b : ByteArray} : eqB a b = true ↔ a = b := by
  unfold eqB
  rw [beq_iff_eq]
  constructor
  · intro h
    obtain ⟨⟨l⟩⟩ := a
    obtain ⟨⟨k⟩⟩ := b
    simpa using h
  · rintro rfl; rfl
def hd (ts : List Tg) : Tg := ts.headD ⟨5, ⟨#[]⟩, 0⟩
def tx (ts : List Tg) : ByteArray := (hd ts).t
def is (ts : List Tg) (s : ByteArray) : Bool := eqB (tx ts) s
def bad {α : Type} (ts : List Tg) (e : Int) : R α := .er (hd ts).a e
/-- A metavariable of terms, of formulas, where such can stand. -/
def mtB (m : Bool) (s : ByteArray) : Bool := m && metB s && fnB (s.extract 1 s.size)
def mfB (m : Bool) (s : ByteArray) : Bool := m && metB s && predB (s.extract 1 s.size)
mutual
def termF (m : Bool) : Nat → Nat → List Tg → R Tm
  | 0, _, _ => .er 0 0
  | k + 1, n, ts => if 120 < n then bad ts 51 else if varB (tx ts) || mtB m (tx ts) then .ok (.mk true (tx ts) []) (ts.drop 1) else
      if fnB (tx ts) then (argsF m k n (ts.drop 1)).bind fun l r => .ok (.mk false (tx ts) l) r else bad ts 50
def argsF (m : Bool) : Nat → Nat → List Tg → R (List Tm)
  | 0, _, _ => .er 0 0
  | k + 1, n, ts => if is ts ⟨#[40]⟩ then (listF m k (n + 1) (ts.drop 1)).bind fun l r => if is r ⟨#[41]⟩ then .ok l (r.drop 1) else bad r 50 else .ok [] ts
def listF (m : Bool) : Nat → Nat → List Tg → R (List Tm)
  | 0, _, _ => .er 0 0
  | k + 1, n, ts => (termF m k n ts).bind fun t r => moreF m k n [t] r
def moreF (m : Bool) : Nat → Nat → List Tm → List Tg → R (List Tm)
  | 0, _, _, _ => .er 0 0
  | k + 1, n, l, ts => if is ts ⟨#[44]⟩ then (termF m k n (ts.drop 1)).bind fun t r => moreF m k n (l ++ [t]) r else .ok l ts
end
def termC (m : Bool) (n : Nat) (ts : List Tg) : R Tm := termF m (4 * ts.length + 4) n ts
def argsC (m : Bool) (n : Nat) (ts : List Tg) : R (List Tm) := argsF m (4 * ts.length + 4) n ts
def listC (m : Bool) (n : Nat) (ts : List Tg) : R (List Tm) := listF m (4 * ts.length + 4) n ts
def moreC (m : Bool) (n : Nat) (l : List Tm) (ts : List Tg) : R (List Tm) := moreF m (4 * ts.length + 4) n l ts
/-- The operator of a sign or word ahead of a unary; 0 for none. -/
def unOp (s : ByteArray) : Int := if eqB s ⟨#[126]⟩ then 3 else if eqB s ⟨#[91, 93]⟩ then 10 else if eqB s ⟨#[60, 62]⟩ then 11 else if eqB s ⟨#[110, 101, 120, 116]⟩ then 12 else
  if eqB s ⟨#[97, 108, 119, 97, 121, 115]⟩ then 13 else if eqB s ⟨#[97, 108, 108]⟩ then 8 else if eqB s ⟨#[115, 111, 109, 101]⟩ then 9 else 0
/-- The levels of binary signs: sign, operator, whether it is grouped from the right. -/
def lvS : Nat → ByteArray
  | 0 => ⟨#[60, 45, 62]⟩
  | 1 => ⟨#[45, 62]⟩
  | 2 => ⟨#[117, 110, 116, 105, 108]⟩
  | 3 => ⟨#[124]⟩
  | _ => ⟨#[38]⟩
def lvO : Nat → Int
  | 0 => 7
  | 1 => 6
  | 2 => 14
  | 3 => 5
  | _ => 4
def lvR : Nat → Bool
  | 1 => true
  | 2 => true
  | _ => false
def two (o : Int) (f g : Fo) : Fo := .mk o ⟨#[]⟩ [] [f, g]
def metaD (n t x : ByteArray) (r : List Tg) : R Fo := if is r ⟨#[93]⟩ then .ok (.mk 16 n [.mk true x [], .mk true t []] []) (r.drop 1) else bad r 50
def metaE (n t : ByteArray) (r : List Tg) : R Fo := if varB (tx r) then metaD n t (tx r) (r.drop 1) else bad r 50
def metaS (n t : ByteArray) (r : List Tg) : R Fo := if is r ⟨#[47]⟩ then metaE n t (r.drop 1) else bad r 50
def metaA (m : Bool) (n : ByteArray) (r : List Tg) : R Fo := if mtB m (tx r) then metaS n (tx r) (r.drop 1) else bad r 50
def metaQ (m : Bool) (n : ByteArray) (r : List Tg) : R Fo := if is r ⟨#[91]⟩ then metaA m n (r.drop 1) else .ok (.mk 15 n [] []) r
def metaP (m : Bool) (ts : List Tg) : R Fo := metaQ m (tx ts) (ts.drop 1)
mutual
def binF (m : Bool) : Nat → Nat → Nat → List Tg → R Fo
  | 0, _, _, _ => .er 0 0
  | k + 1, i, n, ts => if 5 ≤ i then unF m k n ts else (binF m k (i + 1) n ts).bind fun f r =>
      if lvR i then (if is r (lvS i) then (binF m k i (n + 1) (r.drop 1)).bind fun g r2 => .ok (two (lvO i) f g) r2 else .ok f r) else chF m k i n f r
def chF (m : Bool) : Nat → Nat → Nat → Fo → List Tg → R Fo
  | 0, _, _, _, _ => .er 0 0
  | k + 1, i, n, f, ts => if is ts (lvS i) then (binF m k (i + 1) n (ts.drop 1)).bind fun g r => chF m k i n (two (lvO i) f g) r else .ok f ts
def unF (m : Bool) : Nat → Nat → List Tg → R Fo
  | 0, _, _ => .er 0 0
  | k + 1, n, ts => if 120 < n then bad ts 51 else if unOp (tx ts) = 0 then basF m k n ts else
      if unOp (tx ts) = 8 ∨ unOp (tx ts) = 9 then
        if varB (tx (ts.drop 1)) then (unF m k (n + 1) (ts.drop 2)).bind fun g r => .ok (.mk (unOp (tx ts)) (tx (ts.drop 1)) [] [g]) r else bad (ts.drop 1) 50
      else (unF m k (n + 1) (ts.drop 1)).bind fun g r => .ok (.mk (unOp (tx ts)) ⟨#[]⟩ [] [g]) r
def basF (m : Bool) : Nat → Nat → List Tg → R Fo
  | 0, _, _ => .er 0 0
  | k + 1, n, ts => if is ts ⟨#[40]⟩ then (binF m k 0 (n + 1) (ts.drop 1)).bind fun f r => if is r ⟨#[41]⟩ then .ok f (r.drop 1) else bad r 50 else
      if is ts ⟨#[102, 97, 108, 115, 101]⟩ then .ok (.mk 2 ⟨#[]⟩ [] []) (ts.drop 1) else
      if mfB m (tx ts) then metaP m ts else
      if predB (tx ts) then (argsC m n (ts.drop 1)).bind fun l r => .ok (.mk 1 (tx ts) l []) r else bad ts 50
end
def binC (m : Bool) (i n : Nat) (ts : List Tg) : R Fo := binF m (12 * ts.length + 12 - i) i n ts
def chC (m : Bool) (i n : Nat) (f : Fo) (ts : List Tg) : R Fo := chF m (12 * ts.length + 12) i n f ts
def unC (m : Bool) (n : Nat) (ts : List Tg) : R Fo := unF m (12 * ts.length + 5) n ts
def basC (m : Bool) (n : Nat) (ts : List Tg) : R Fo := basF m (12 * ts.length + 4) n ts
/-- What is read is followed by fewer tokens, or by no more. -/
theorem drop_len {ts : List Tg} {s : ByteArray} (h : is ts s = true) (hs : s ≠ ⟨#[]⟩) : (ts.drop 1).length < ts.length := by
  cases ts with
  | nil => exact absurd (eqB_iff.1 h).symm hs
  | cons a r => simp
theorem drop_tx {ts : List Tg} (h : tx ts ≠ ⟨#[]⟩) : (ts.drop 1).length < ts.length := by
  cases ts with
  | nil => exact absurd rfl h
  | cons a r => simp
theorem varB_ne {s : ByteArray} (h : varB s = true) : s ≠ ⟨#[]⟩ := by rintro rfl; exact absurd h (by rw [show varB ⟨#[]⟩ = false from names_empty _ _ _ _ rfl]; decide)
theorem fnB_ne {s : ByteArray} (h : fnB s = true) : s ≠ ⟨#[]⟩ := by rintro rfl; unfold fnB at h; rw [names_empty _ _ _ _ rfl] at h; exact absurd h (by decide)
theorem predB_ne {s : ByteArray} (h : predB s = true) : s ≠ ⟨#[]⟩ := by rintro rfl; exact absurd h (by rw [show predB ⟨#[]⟩ = false from names_empty _ _ _ _ rfl]; decide)
theorem markB_ne {s : ByteArray} (h : markB s = true) : s ≠ ⟨#[]⟩ := by rintro rfl; exact absurd h (by unfold markB; rw [show decide (1 ≤ (⟨#[]⟩ : ByteArray).size) = false from rfl, Bool.false_and]; decide)
theorem metB_ne {s : ByteArray} (h : metB s = true) : s ≠ ⟨#[]⟩ := by
  unfold metB metaB at h
  rw [Bool.or_eq_true] at h
  rcases h with h | h <;> (rw [Bool.and_eq_true, Bool.and_eq_true] at h; exact markB_ne h.1.1)
theorem mtB_ne {m : Bool} {s : ByteArray} (h : mtB m s = true) : s ≠ ⟨#[]⟩ := by unfold mtB at h; rw [Bool.and_eq_true, Bool.and_eq_true] at h; exact metB_ne h.1.2
theorem mfB_ne {m : Bool} {s : ByteArray} (h : mfB m s = true) : s ≠ ⟨#[]⟩ := by unfold mfB at h; rw [Bool.and_eq_true, Bool.and_eq_true] at h; exact metB_ne h.1.2
theorem unOp_ne {s : ByteArray} (h : unOp s ≠ 0) : s ≠ ⟨#[]⟩ := by rintro rfl; exact h rfl
theorem lvS_ne (i : Nat) : lvS i ≠ ⟨#[]⟩ := by
  match i with
  | 0 => decide
  | 1 => decide
  | 2 => decide
  | 3 => decide
  | _ + 4 => exact (by decide : lvS 4 ≠ ⟨#[]⟩)
def R.Le {α : Type} (n : Nat) (x : R α) : Prop := ∀ a r, x = .ok a r → r.length ≤ n
def R.Lt {α : Type} (n : Nat) (x : R α) : Prop := ∀ a r, x = .ok a r → r.length < n
theorem R.Lt.le {α : Type} {n : Nat} {x : R α} (h : x.Lt n) : x.Le n := fun a r e => Nat.le_of_lt (h a r e)
theorem bad_le {α : Type} {n : Nat} {ts : List Tg} {e : Int} : (bad ts e : R α).Le n := fun _ _ h => by cases h
theorem bad_lt {α : Type} {n : Nat} {ts : List Tg} {e : Int} : (bad ts e : R α).Lt n := fun _ _ h => by cases h
theorem ok_le {α : Type} {n : Nat} {a : α} {r : List Tg} (h : r.length ≤ n) : (R.ok a r).Le n := fun _ _ e => by cases e; exact h
theorem ok_lt {α : Type} {n : Nat} {a : α} {r : List Tg} (h : r.length < n) : (R.ok a r).Lt n := fun _ _ e => by cases e; exact h
theorem er_le {α : Type} {n : Nat} {a e : Int} : (R.er a e : R α).Le n := fun _ _ h => by cases h
theorem er_lt {α : Type} {n : Nat} {a e : Int} : (R.er a e : R α).Lt n := fun _ _ h => by cases h
theorem bind_le {α β : Type} {n m : Nat} {x : R α} {f : α → List Tg → R β} (h : x.Le n) (hf : ∀ a r, r.length ≤ n → (f a r).Le m) : (x.bind f).Le m := by
  cases x with
  | ok a r => exact hf a r (h a r rfl)
  | er a e => exact er_le
theorem bind_lt {α β : Type} {n m : Nat} {x : R α} {f : α → List Tg → R β} (h : x.Le n) (hf : ∀ a r, r.length ≤ n → (f a r).Lt m) : (x.bind f).Lt m := by
  cases x with
  | ok a r => exact hf a r (h a r rfl)
  | er a e => exact er_lt
theorem bind_lt' {α β : Type} {n m : Nat} {x : R α} {f : α → List Tg → R β} (h : x.Lt n) (hf : ∀ a r, r.length < n → (f a r).Lt m) : (x.bind f).Lt m := by
  cases x with
  | ok a r => exact hf a r (h a r rfl)
  | er a e => exact er_lt
theorem R.eq_bind {α β : Type} {n : Nat} {x y : R α} {f g : α → List Tg → R β} (h : x = y) (hl : y.Le n) (hf : ∀ a r, r.length ≤ n → f a r = g a r) : x.bind f = y.bind g := by
  subst h
  cases x with
  | ok a r => exact hf a r (hl a r rfl)
  | er a e => rfl
theorem R.eq_bind' {α β : Type} {n : Nat} {x y : R α} {f g : α → List Tg → R β} (h : x = y) (hl : y.Lt n) (hf : ∀ a r, r.length < n → f a r = g a r) : x.bind f = y.bind g := by
  subst h
  cases x with
  | ok a r => exact hf a r (hl a r rfl)
  | er a e => rfl
theorem R.Lt.mono {α : Type} {n m : Nat} {x : R α} (h : x.Lt n) (hm : n ≤ m) : x.Lt m := fun a r e => Nat.lt_of_lt_of_le (h a r e) hm
theorem R.Le.mono {α : Type} {n m : Nat} {x : R α} (h : x.Le n) (hm : n ≤ m) : x.Le m := fun a r e => Nat.le_trans (h a r e) hm
theorem R.Le.lt {α : Type} {n m : Nat} {x : R α} (h : x.Le n) (hm : n < m) : x.Lt m := fun a r e => Nat.lt_of_le_of_lt (h a r e) hm
theorem dl (ts : List Tg) (i : Nat) : (ts.drop i).length ≤ ts.length := by simp
theorem terms_len (m : Bool) : ∀ k, (∀ n ts, (termF m k n ts).Lt ts.length) ∧ (∀ n ts, (argsF m k n ts).Le ts.length) ∧ (∀ n ts, (listF m k n ts).Lt ts.length) ∧ ∀ n l ts, (moreF m k n l ts).Le ts.length
  | 0 => ⟨fun _ _ => by unfold termF; exact er_lt, fun _ _ => by unfold argsF; exact er_le, fun _ _ => by unfold listF; exact er_lt, fun _ _ _ => by unfold moreF; exact er_le⟩
  | k + 1 => by
    obtain ⟨h1, h2, h3, h4⟩ := terms_len m k
    refine ⟨fun n ts => ?_, fun n ts => ?_, fun n ts => ?_, fun n l ts => ?_⟩
    · unfold termF
      split
      · exact bad_lt
      split
      · next _ h =>
        rw [Bool.or_eq_true] at h
        exact ok_lt (drop_tx (h.elim varB_ne mtB_ne))
      split
      · next _ _ h =>
        have hd := drop_tx (fnB_ne h)
        exact bind_lt (h2 n (ts.drop 1)) fun a r hr => ok_lt (by omega)
      · exact bad_lt
    · unfold argsF
      split
      · refine bind_le (h3 (n + 1) (ts.drop 1)).le fun a r hr => ?_
        have hd := dl ts 1
        have hd2 := dl r 1
        split
        · exact ok_le (by omega)
        · exact bad_le
      · exact ok_le (Nat.le_refl _)
    · unfold listF
      exact bind_lt' (h1 n ts) fun a r hr => (h4 n [a] r).lt hr
    · unfold moreF
      split
      · next h =>
        have hd := drop_len h (by decide)
        exact bind_le (h1 n (ts.drop 1)).le fun a r hr => (h4 n _ r).mono (by omega)
      · exact ok_le (Nat.le_refl _)
/-- More fuel changes nothing. -/
theorem terms_irr (m : Bool) : ∀ k, (∀ n ts, 4 * ts.length + 1 ≤ k → termF m (k + 1) n ts = termF m k n ts) ∧ (∀ n ts, 4 * ts.length + 1 ≤ k → argsF m (k + 1) n ts = argsF m k n ts) ∧
    (∀ n ts, 4 * ts.length + 2 ≤ k → listF m (k + 1) n ts = listF m k n ts) ∧ ∀ n l ts, 4 * ts.length + 2 ≤ k → moreF m (k + 1) n l ts = moreF m k n l ts
  | 0 => ⟨fun _ _ h => by omega, fun _ _ h => by omega, fun _ _ h => by omega, fun _ _ _ h => by omega⟩
  | k + 1 => by
    obtain ⟨h1, h2, h3, h4⟩ := terms_irr m k
    obtain ⟨l1, l2, l3, l4⟩ := terms_len m k
    refine ⟨fun n ts hk => ?_, fun n ts hk => ?_, fun n ts hk => ?_, fun n l ts hk => ?_⟩
    · conv => lhs; rw [termF]
      conv => rhs; rw [termF]
      split
      · rfl
      split
      · rfl
      split
      · next _ _ h =>
        have hd := drop_tx (fnB_ne h)
        rw [h2 n (ts.drop 1) (by omega)]
      · rfl
    · conv => lhs; rw [argsF]
      conv => rhs; rw [argsF]
      split
      · next h =>
        have hd := drop_len h (by decide)
        rw [h3 (n + 1) (ts.drop 1) (by omega)]
      · rfl
    · conv => lhs; rw [listF]
      conv => rhs; rw [listF]
      exact R.eq_bind' (h1 n ts (by omega)) (l1 n ts) fun a r hr => h4 n [a] r (by omega)
    · conv => lhs; rw [moreF]
      conv => rhs; rw [moreF]
      split
      · next h =>
        have hd := drop_len h (by decide)
        exact R.eq_bind' (h1 n (ts.drop 1) (by omega)) (l1 n (ts.drop 1)) fun a r hr => h4 n _ r (by omega)
      · rfl
theorem irr_up {α : Type} {f : Nat → α} {b : Nat} (h : ∀ k, b ≤ k → f (k + 1) = f k) {k : Nat} (hk : b ≤ k) : f k = f b := by
  obtain ⟨d, rfl⟩ := Nat.exists_eq_add_of_le hk
  induction d with
  | zero => rfl
  | succ d ih => exact (h (b + d) (by omega)).trans (ih (by omega))
theorem termF_C {m : Bool} {n : Nat} {ts : List Tg} {k : Nat} (h : 4 * ts.length + 1 ≤ k) : termF m k n ts = termF m (4 * ts.length + 1) n ts := irr_up (f := fun k => termF m k n ts) (fun k h => (terms_irr m k).1 n ts h) h
theorem argsF_C {m : Bool} {n : Nat} {ts : List Tg} {k : Nat} (h : 4 * ts.length + 1 ≤ k) : argsF m k n ts = argsF m (4 * ts.length + 1) n ts := irr_up (f := fun k => argsF m k n ts) (fun k h => (terms_irr m k).2.1 n ts h) h
theorem listF_C {m : Bool} {n : Nat} {ts : List Tg} {k : Nat} (h : 4 * ts.length + 2 ≤ k) : listF m k n ts = listF m (4 * ts.length + 2) n ts := irr_up (f := fun k => listF m k n ts) (fun k h => (terms_irr m k).2.2.1 n ts h) h
theorem moreF_C {m : Bool} {n : Nat} {l : List Tm} {ts : List Tg} {k : Nat} (h : 4 * ts.length + 2 ≤ k) : moreF m k n l ts = moreF m (4 * ts.length + 2) n l ts := irr_up (f := fun k => moreF m k n l ts) (fun k h => (terms_irr m k).2.2.2 n l ts h) h
theorem termC_len (m : Bool) (n : Nat) (ts : List Tg) : (termC m n ts).Lt ts.length := (terms_len m _).1 n ts
theorem argsC_len (m : Bool) (n : Nat) (ts : List Tg) : (argsC m n ts).Le ts.length := (terms_len m _).2.1 n ts
theorem listC_len (m : Bool) (n : Nat) (ts : List Tg) : (listC m n ts).Lt ts.length := (terms_len m _).2.2.1 n ts
theorem moreC_len (m : Bool) (n : Nat) (l : List Tm) (ts : List Tg) : (moreC m n l ts).Le ts.length := (terms_len m _).2.2.2 n l ts
theorem termC_eq (m : Bool) (n : Nat) (ts : List Tg) : termC m n ts = if 120 < n then bad ts 51 else if varB (tx ts) || mtB m (tx ts) then .ok (.mk true (tx ts) []) (ts.drop 1) else
    if fnB (tx ts) then (argsC m n (ts.drop 1)).bind fun l r => .ok (.mk false (tx ts) l) r else bad ts 50 := by
  unfold termC
  rw [termF]
  split
  · rfl
  split
  · rfl
  split
  · next _ _ h =>
    have hd := drop_tx (fnB_ne h)
    rw [argsF_C (by omega), argsC, argsF_C (k := 4 * (ts.drop 1).length + 4) (by omega)]
  · rfl
theorem argsC_eq (m : Bool) (n : Nat) (ts : List Tg) : argsC m n ts = if is ts ⟨#[40]⟩ then (listC m (n + 1) (ts.drop 1)).bind fun l r => if is r ⟨#[41]⟩ then .ok l (r.drop 1) else bad r 50 else .ok [] ts := by
  unfold argsC
  rw [argsF]
  split
  · next h =>
    have hd := drop_len h (by decide)
    rw [listF_C (by omega), listC, listF_C (k := 4 * (ts.drop 1).length + 4) (by omega)]
  · rfl
theorem listC_eq (m : Bool) (n : Nat) (ts : List Tg) : listC m n ts = (termC m n ts).bind fun t r => moreC m n [t] r := by
  unfold listC
  rw [listF]
  refine R.eq_bind' ?_ (termC_len m n ts) fun a r hr => ?_
  · rw [termF_C (by omega), termC, termF_C (k := 4 * ts.length + 4) (by omega)]
  · rw [moreF_C (by omega), moreC, moreF_C (k := 4 * r.length + 4) (by omega)]
theorem moreC_eq (m : Bool) (n : Nat) (l : List Tm) (ts : List Tg) : moreC m n l ts = if is ts ⟨#[44]⟩ then (termC m n (ts.drop 1)).bind fun t r => moreC m n (l ++ [t]) r else .ok l ts := by
  unfold moreC
  rw [moreF]
  split
  · next h =>
    have hd := drop_len h (by decide)
    refine R.eq_bind' ?_ (termC_len m n (ts.drop 1)) fun a r hr => ?_
    · rw [termF_C (by omega), termC, termF_C (k := 4 * (ts.drop 1).length + 4) (by omega)]
    · rw [moreF_C (by omega), moreF_C (k := 4 * r.length + 4) (by omega)]
  · rfl
theorem meta_len (m : Bool) (ts : List Tg) (h : tx ts ≠ ⟨#[]⟩) : (metaP m ts).Lt ts.length := by
  have h1 := drop_tx h
  have hq : ∀ r : List Tg, (r.drop 1).length ≤ r.length := fun r => by simp
  unfold metaP metaQ metaA metaS metaE metaD
  have e1 := hq (ts.drop 1)
  have e2 := hq ((ts.drop 1).drop 1)
  have e3 := hq (((ts.drop 1).drop 1).drop 1)
  have e4 := hq ((((ts.drop 1).drop 1).drop 1).drop 1)
  have e5 := hq (((((ts.drop 1).drop 1).drop 1).drop 1).drop 1)
  repeat' split
  all_goals first | exact bad_lt | exact ok_lt (by omega)
theorem forms_len (m : Bool) : ∀ k, (∀ i n ts, (binF m k i n ts).Lt ts.length) ∧ (∀ i n f ts, (chF m k i n f ts).Le ts.length) ∧ (∀ n ts, (unF m k n ts).Lt ts.length) ∧ ∀ n ts, (basF m k n ts).Lt ts.length
  | 0 => ⟨fun _ _ _ => by unfold binF; exact er_lt, fun _ _ _ _ => by unfold chF; exact er_le, fun _ _ => by unfold unF; exact er_lt, fun _ _ => by unfold basF; exact er_lt⟩
  | k + 1 => by
    obtain ⟨h1, h2, h3, h4⟩ := forms_len m k
    refine ⟨fun i n ts => ?_, fun i n f ts => ?_, fun n ts => ?_, fun n ts => ?_⟩
    · unfold binF
      split
      · exact h3 n ts
      refine bind_lt' (h1 (i + 1) n ts) fun f r hr => ?_
      have hd := dl r 1
      split
      · split
        · exact bind_lt (h1 i (n + 1) (r.drop 1)).le fun g r2 h2 => ok_lt (by omega)
        · exact ok_lt hr
      · exact (h2 i n f r).lt hr
    · unfold chF
      split
      · next h =>
        have hd := drop_len h (lvS_ne i)
        exact bind_le (h1 (i + 1) n (ts.drop 1)).le fun g r hr => (h2 i n _ r).mono (by omega)
      · exact ok_le (Nat.le_refl _)
    · unfold unF
      split
      · exact bad_lt
      split
      · exact h4 n ts
      next h =>
      have hd := drop_tx (unOp_ne h)
      split
      · split
        · have h2 : (ts.drop 2).length ≤ (ts.drop 1).length := by simp; omega
          exact bind_lt (h3 (n + 1) (ts.drop 2)).le fun g r hr => ok_lt (by omega)
        · exact bad_lt
      · exact bind_lt (h3 (n + 1) (ts.drop 1)).le fun g r hr => ok_lt (by omega)
    · unfold basF
      split
      · refine bind_lt' (h1 0 (n + 1) (ts.drop 1)) fun f r hr => ?_
        have hd := dl ts 1
        have hd2 := dl r 1
        split
        · exact ok_lt (by omega)
        · exact bad_lt
      split
      · next h => exact ok_lt (drop_len h (by decide))
      split
      · next h => exact meta_len m ts (mfB_ne h)
      split
      · next h =>
        have hd := drop_tx (predB_ne h)
        exact bind_lt (argsC_len m n (ts.drop 1)) fun l r hr => ok_lt (by omega)
      · exact bad_lt
theorem forms_irr (m : Bool) : ∀ k, (∀ i n ts, 12 * ts.length + 8 - i ≤ k → i ≤ 5 → binF m (k + 1) i n ts = binF m k i n ts) ∧ (∀ i n f ts, 12 * ts.length + 1 ≤ k → i < 5 → chF m (k + 1) i n f ts = chF m k i n f ts) ∧
    (∀ n ts, 12 * ts.length + 2 ≤ k → unF m (k + 1) n ts = unF m k n ts) ∧ ∀ n ts, 12 * ts.length + 1 ≤ k → basF m (k + 1) n ts = basF m k n ts
  | 0 => ⟨fun _ _ _ h _ => by omega, fun _ _ _ _ h => by omega, fun _ _ h => by omega, fun _ _ h => by omega⟩
  | k + 1 => by
    obtain ⟨h1, h2, h3, h4⟩ := forms_irr m k
    obtain ⟨l1, l2, l3, l4⟩ := forms_len m k
    refine ⟨fun i n ts hk hi => ?_, fun i n f ts hk hi => ?_, fun n ts hk => ?_, fun n ts hk => ?_⟩
    · conv => lhs; rw [binF]
      conv => rhs; rw [binF]
      split
      · exact h3 n ts (by omega)
      refine R.eq_bind' (h1 (i + 1) n ts (by omega) (by omega)) (l1 (i + 1) n ts) fun f r hr => ?_
      split
      · split
        · next h =>
          have hd := drop_len h (lvS_ne i)
          rw [h1 i (n + 1) (r.drop 1) (by omega) hi]
        · rfl
      · exact h2 i n f r (by omega) (by omega)
    · conv => lhs; rw [chF]
      conv => rhs; rw [chF]
      split
      · next h =>
        have hd := drop_len h (lvS_ne i)
        exact R.eq_bind' (h1 (i + 1) n (ts.drop 1) (by omega) (by omega)) (l1 (i + 1) n (ts.drop 1)) fun g r hr => h2 i n _ r (by omega) hi
      · rfl
    · conv => lhs; rw [unF]
      conv => rhs; rw [unF]
      split
      · rfl
      split
      · exact h4 n ts (by omega)
      next h =>
      have hd := drop_tx (unOp_ne h)
      have hd2 : (ts.drop 2).length ≤ (ts.drop 1).length := by simp; omega
      rw [h3 (n + 1) (ts.drop 2) (by omega), h3 (n + 1) (ts.drop 1) (by omega)]
    · conv => lhs; rw [basF]
      conv => rhs; rw [basF]
      split
      · next h =>
        have hd := drop_len h (by decide)
        rw [h1 0 (n + 1) (ts.drop 1) (by omega) (by omega)]
      · rfl
theorem binF_C {m : Bool} {i n : Nat} {ts : List Tg} {k : Nat} (h : 12 * ts.length + 8 - i ≤ k) (hi : i ≤ 5) : binF m k i n ts = binF m (12 * ts.length + 8 - i) i n ts := irr_up (f := fun k => binF m k i n ts) (fun k h => (forms_irr m k).1 i n ts h hi) h
theorem chF_C {m : Bool} {i n : Nat} {f : Fo} {ts : List Tg} {k : Nat} (h : 12 * ts.length + 1 ≤ k) (hi : i < 5) : chF m k i n f ts = chF m (12 * ts.length + 1) i n f ts := irr_up (f := fun k => chF m k i n f ts) (fun k h => (forms_irr m k).2.1 i n f ts h hi) h
theorem unF_C {m : Bool} {n : Nat} {ts : List Tg} {k : Nat} (h : 12 * ts.length + 2 ≤ k) : unF m k n ts = unF m (12 * ts.length + 2) n ts := irr_up (f := fun k => unF m k n ts) (fun k h => (forms_irr m k).2.2.1 n ts h) h
theorem basF_C {m : Bool} {n : Nat} {ts : List Tg} {k : Nat} (h : 12 * ts.length + 1 ≤ k) : basF m k n ts = basF m (12 * ts.length + 1) n ts := irr_up (f := fun k => basF m k n ts) (fun k h => (forms_irr m k).2.2.2 n ts h) h
theorem binC_len (m : Bool) (i n : Nat) (ts : List Tg) : (binC m i n ts).Lt ts.length := (forms_len m _).1 i n ts
theorem chC_len (m : Bool) (i n : Nat) (f : Fo) (ts : List Tg) : (chC m i n f ts).Le ts.length := (forms_len m _).2.1 i n f ts
theorem unC_len (m : Bool) (n : Nat) (ts : List Tg) : (unC m n ts).Lt ts.length := (forms_len m _).2.2.1 n ts
theorem basC_len (m : Bool) (n : Nat) (ts : List Tg) : (basC m n ts).Lt ts.length := (forms_len m _).2.2.2 n ts
theorem binC_un (m : Bool) (n : Nat) (ts : List Tg) : binC m 5 n ts = unC m n ts := by
  unfold binC
  obtain ⟨k, hk⟩ : ∃ k, 12 * ts.length + 12 - 5 = k + 1 := ⟨12 * ts.length + 6, by omega⟩
  rw [hk, binF, if_pos (by decide), unC, unF_C (by omega), unF_C (k := 12 * ts.length + 5) (by omega)]
theorem binC_eq (m : Bool) (i n : Nat) (ts : List Tg) (hi : i < 5) : binC m i n ts = (binC m (i + 1) n ts).bind fun f r =>
    if lvR i then (if is r (lvS i) then (binC m i (n + 1) (r.drop 1)).bind fun g r2 => .ok (two (lvO i) f g) r2 else .ok f r) else chC m i n f r := by
  conv => lhs; unfold binC
  obtain ⟨k, hk⟩ : ∃ k, 12 * ts.length + 12 - i = k + 1 := ⟨12 * ts.length + 11 - i, by omega⟩
  rw [hk, binF, if_neg (by omega)]
  refine R.eq_bind' ?_ (binC_len m (i + 1) n ts) fun f r hr => ?_
  · rw [binF_C (by omega) (by omega), binC, binF_C (k := 12 * ts.length + 12 - (i + 1)) (by omega) (by omega)]
  split
  · split
    · next h =>
      have hd := drop_len h (lvS_ne i)
      rw [binF_C (by omega) (by omega), binC, binF_C (k := 12 * (r.drop 1).length + 12 - i) (by omega) (by omega)]
    · rfl
  · rw [chF_C (by omega) hi, chC, chF_C (k := 12 * r.length + 12) (by omega) hi]
theorem chC_eq (m : Bool) (i n : Nat) (f : Fo) (ts : List Tg) (hi : i < 5) : chC m i n f ts = if is ts (lvS i) then (binC m (i + 1) n (ts.drop 1)).bind fun g r => chC m i n (two (lvO i) f g) r else .ok f ts := by
  unfold chC
  rw [chF]
  split
  · next h =>
    have hd := drop_len h (lvS_ne i)
    refine R.eq_bind' ?_ (binC_len m (i + 1) n (ts.drop 1)) fun g r hr => ?_
    · rw [binF_C (by omega) (by omega), binC, binF_C (k := 12 * (ts.drop 1).length + 12 - (i + 1)) (by omega) (by omega)]
    · rw [chF_C (by omega) hi, chF_C (k := 12 * r.length + 12) (by omega) hi]
  · rfl
theorem unC_eq (m : Bool) (n : Nat) (ts : List Tg) : unC m n ts = if 120 < n then bad ts 51 else if unOp (tx ts) = 0 then basC m n ts else
    if unOp (tx ts) = 8 ∨ unOp (tx ts) = 9 then
      if varB (tx (ts.drop 1)) then (unC m (n + 1) (ts.drop 2)).bind fun g r => .ok (.mk (unOp (tx ts)) (tx (ts.drop 1)) [] [g]) r else bad (ts.drop 1) 50
    else (unC m (n + 1) (ts.drop 1)).bind fun g r => .ok (.mk (unOp (tx ts)) ⟨#[]⟩ [] [g]) r := by
  conv => lhs; unfold unC
  rw [unF]
  split
  · rfl
  split
  · rw [basF_C (by omega), basC, basF_C (k := 12 * ts.length + 4) (by omega)]
  next h =>
  have hd := drop_tx (unOp_ne h)
  have hd2 : (ts.drop 2).length ≤ (ts.drop 1).length := by simp; omega
  rw [unF_C (ts := ts.drop 2) (by omega), unF_C (ts := ts.drop 1) (by omega), unC, unC, unF_C (k := 12 * (ts.drop 2).length + 5) (by omega), unF_C (k := 12 * (ts.drop 1).length + 5) (by omega)]
theorem basC_eq (m : Bool) (n : Nat) (ts : List Tg) : basC m n ts = if is ts ⟨#[40]⟩ then (binC m 0 (n + 1) (ts.drop 1)).bind fun f r => if is r ⟨#[41]⟩ then .ok f (r.drop 1) else bad r 50 else
    if is ts ⟨#[102, 97, 108, 115, 101]⟩ then .ok (.mk 2 ⟨#[]⟩ [] []) (ts.drop 1) else
    if mfB m (tx ts) then metaP m ts else
    if predB (tx ts) then (argsC m n (ts.drop 1)).bind fun l r => .ok (.mk 1 (tx ts) l []) r else bad ts 50 := by
  unfold basC
  rw [basF]
  split
  · next h =>
    have hd := drop_len h (by decide)
    rw [binF_C (by omega) (by omega), binC, binF_C (k := 12 * (ts.drop 1).length + 12 - 0) (by omega) (by omega)]
  · rfl
/-- A list of formulas with commas between them. -/
def fsF (m : Bool) : Nat → List Fo → List Tg → R (List Fo)
  | 0, _, _ => .er 0 0
  | k + 1, l, ts => if is ts ⟨#[44]⟩ then (binC m 0 0 (ts.drop 1)).bind fun f r => fsF m k (l ++ [f]) r else .ok l ts
def fsC (m : Bool) (l : List Fo) (ts : List Tg) : R (List Fo) := fsF m (ts.length + 1) l ts
theorem fs_irr (m : Bool) : ∀ k l ts, ts.length + 1 ≤ k → fsF m (k + 1) l ts = fsF m k l ts
  | 0, _, _, h => by omega
  | k + 1, l, ts, h => by
    conv => lhs; rw [fsF]
    conv => rhs; rw [fsF]
    split
    · next h =>
      have hd := drop_len h (by decide)
      exact R.eq_bind' rfl (binC_len m 0 0 (ts.drop 1)) fun f r hr => fs_irr m k _ r (by omega)
    · rfl
theorem fsF_C {m : Bool} {l : List Fo} {ts : List Tg} {k : Nat} (h : ts.length + 1 ≤ k) : fsF m k l ts = fsC m l ts := irr_up (f := fun k => fsF m k l ts) (fun k h => fs_irr m k l ts h) h
theorem fsC_eq (m : Bool) (l : List Fo) (ts : List Tg) : fsC m l ts = if is ts ⟨#[44]⟩ then (binC m 0 0 (ts.drop 1)).bind fun f r => fsC m (l ++ [f]) r else .ok l ts := by
  conv => lhs; unfold fsC
  rw [fsF]
  split
  · next h =>
    have hd := drop_len h (by decide)
    exact R.eq_bind' rfl (binC_len m 0 0 (ts.drop 1)) fun f r hr => fsF_C (by omega)
  · rfl
def formsC (m : Bool) (ts : List Tg) : R (List Fo) := if (hd ts).k = 5 then .ok [] ts else (binC m 0 0 ts).bind fun f r => fsC m [f] r
end Go.Proofs.YtdapnjnmhkdnpaaDoor.Ps

/-
  The texts that the grammar reads: words of a formula at a level, and that they are read so.
-/
namespace Go.Proofs.YtdapnjnmhkdnpaaDoor.Ft
open Go Go.RowKit Go.Proofs.YtdapnjnmhkdnpaaDoor.Fm Go.Proofs.YtdapnjnmhkdnpaaDoor.Lx Go.Proofs.YtdapnjnmhkdnpaaDoor.Ps
set_option linter.unusedVariables false
set_option linter.unusedSimpArgs false
/-- What may follow what is read from a level on. -/
structure Stop (i : Nat) (rest : List Tg) : Prop where
  p : tx rest ≠ ⟨#[40]⟩
  b : tx rest ≠ ⟨#[91]⟩
  s : ∀ k, i ≤ k → k < 5 → tx rest ≠ lvS k
theorem Stop.up {i j : Nat} {rest : List Tg} (h : Stop i rest) (hj : i ≤ j) : Stop j rest := ⟨h.p, h.b, fun k h1 h2 => h.s k (Nat.le_trans hj h1) h2⟩
theorem is_eq {ts : List Tg} {s : ByteArray} (h : tx ts = s) : is ts s = true := eqB_iff.2 h
theorem is_ne {ts : List Tg} {s : ByteArray} (h : tx ts ≠ s) : is ts s = false := by
  cases hb : is ts s with
  | false => rfl
  | true => exact absurd (eqB_iff.1 hb) h
theorem eqB_no {a b : ByteArray} (h : a ≠ b) : eqB a b = false := by
  cases hb : eqB a b with
  | false => rfl
  | true => exact absurd (eqB_iff.1 hb) h
/-- Words of names. -/
theorem names_head {f t : Int} {p : Int → Bool} {s : ByteArray} (h : namesB f t p s = true) : s.size ≤ 16 ∧ ∃ c r, s.data.toList = c :: r ∧ f ≤ (c.toNat : Int) ∧ (c.toNat : Int) ≤ t ∧ (r.all fun c => p c.toNat) = true := by
  unfold namesB at h
  rw [Bool.and_eq_true, Bool.and_eq_true] at h
  obtain ⟨⟨_, h1⟩, h⟩ := h
  refine ⟨of_decide_eq_true h1, ?_⟩
  split at h
  · cases h
  · next c r e =>
    simp only [Bool.and_eq_true, decide_eq_true_eq] at h
    exact ⟨c, r, e, h.1.1, h.1.2, h.2⟩
theorem mark_head {s : ByteArray} (h : markB s = true) : ∃ r, s.data.toList = 63 :: r := by
  obtain ⟨⟨l⟩⟩ := s
  cases l with
  | nil => exact absurd rfl (markB_ne h)
  | cons c r =>
    unfold markB at h
    rw [Bool.and_eq_true, ByteArray.toList_eq] at h
    have h2 := h.2
    simp [ByteArray.data_extract] at h2
    exact ⟨r, by rw [← h2]⟩
theorem met_head {s : ByteArray} (h : metB s = true) : s.size ≤ 16 ∧ ∃ r, s.data.toList = 63 :: r := by
  unfold metB metaB at h
  rw [Bool.or_eq_true] at h
  rcases h with h | h <;> (rw [Bool.and_eq_true, Bool.and_eq_true] at h; exact ⟨of_decide_eq_true h.1.2, mark_head h.1.1⟩)
theorem unOp_no {s : ByteArray} {p : ByteArray → Bool} (h : p s = true) (h1 : p ⟨#[126]⟩ = false) (h2 : p ⟨#[91, 93]⟩ = false) (h3 : p ⟨#[60, 62]⟩ = false) (h4 : p ⟨#[110, 101, 120, 116]⟩ = false)
    (h5 : p ⟨#[97, 108, 119, 97, 121, 115]⟩ = false) (h6 : p ⟨#[97, 108, 108]⟩ = false) (h7 : p ⟨#[115, 111, 109, 101]⟩ = false) : unOp s = 0 := by
  have hn : ∀ x, p x = false → eqB s x = false := fun x hx => eqB_no (by rintro rfl; rw [h] at hx; cases hx)
  unfold unOp
  rw [hn _ h1, hn _ h2, hn _ h3, hn _ h4, hn _ h5, hn _ h6, hn _ h7]
  rfl
theorem lit_no {s x : ByteArray} {p : ByteArray → Bool} (h : p s = true) (hx : p x = false) : s ≠ x := by rintro rfl; rw [h] at hx; cases hx
theorem pred_un {s : ByteArray} (h : predB s = true) : unOp s = 0 := unOp_no h (by kernel_rfl) (by kernel_rfl) (by kernel_rfl) (by kernel_rfl) (by kernel_rfl) (by kernel_rfl) (by kernel_rfl)
theorem mf_un {s : ByteArray} (h : mfB true s = true) : unOp s = 0 := unOp_no (p := mfB true) h (by kernel_rfl) (by kernel_rfl) (by kernel_rfl) (by kernel_rfl) (by kernel_rfl) (by kernel_rfl) (by kernel_rfl)
theorem mt_met {m : Bool} {s : ByteArray} (h : mtB m s = true) : metB s = true := by unfold mtB at h; rw [Bool.and_eq_true, Bool.and_eq_true] at h; exact h.1.2
theorem mf_met {m : Bool} {s : ByteArray} (h : mfB m s = true) : metB s = true := by unfold mfB at h; rw [Bool.and_eq_true, Bool.and_eq_true] at h; exact h.1.2
theorem name_met {f t : Int} {p : Int → Bool} {s : ByteArray} (h : namesB f t p s = true) (hf : 63 < f) : metB s = false := by
  cases hm : metB s with
  | false => rfl
  | true =>
    obtain ⟨_, c, r, e, h1, _⟩ := names_head h
    obtain ⟨_, r', e'⟩ := met_head hm
    rw [e] at e'
    obtain ⟨rfl, _⟩ := List.cons.inj e'
    exact absurd h1 (by show ¬ f ≤ ((63 : UInt8).toNat : Int); have : ((63 : UInt8).toNat : Int) = 63 := rfl; omega)
theorem pred_mf {m : Bool} {s : ByteArray} (h : predB s = true) : mfB m s = false := by
  cases hm : mfB m s with
  | false => rfl
  | true => exact absurd (mf_met hm) (by rw [name_met h (by decide)]; decide)
theorem fn_names {s : ByteArray} (h : fnB s = true) : namesB 97 116 lodB s = true := by unfold fnB at h; rw [Bool.and_eq_true] at h; exact h.1
theorem fn_mt {m : Bool} {s : ByteArray} (h : fnB s = true) : mtB m s = false := by
  cases hm : mtB m s with
  | false => rfl
  | true => exact absurd (mt_met hm) (by rw [name_met (fn_names h) (by decide)]; decide)
theorem fn_var {s : ByteArray} (h : fnB s = true) : varB s = false := by
  cases hm : varB s with
  | false => rfl
  | true =>
    obtain ⟨_, c, r, e, _, h1, _⟩ := names_head (fn_names h)
    obtain ⟨_, c', r', e', h2, _⟩ := names_head hm
    rw [e] at e'
    obtain ⟨rfl, _⟩ := List.cons.inj e'
    omega
/-- A word is a piece; none is a blank. -/
abbrev Pc := List (Option ByteArray)
def wd (p : Pc) : List ByteArray := p.filterMap id
@[simp] theorem wd_nil : wd [] = [] := rfl
@[simp] theorem wd_some (a : ByteArray) (p : Pc) : wd (some a :: p) = a :: wd p := rfl
@[simp] theorem wd_none (p : Pc) : wd (none :: p) = wd p := rfl
@[simp] theorem wd_app (p q : Pc) : wd (p ++ q) = wd p ++ wd q := by unfold wd; rw [List.filterMap_append]
mutual
def tmP (c : Pc) : Tm → Pc
  | .mk _ n l => some n :: tmPA c l
def tmPA (c : Pc) : List Tm → Pc
  | [] => []
  | a :: r => some ⟨#[40]⟩ :: (tmP c a ++ (tmPR c r ++ [some ⟨#[41]⟩]))
def tmPR (c : Pc) : List Tm → Pc
  | [] => []
  | a :: r => some ⟨#[44]⟩ :: (c ++ (tmP c a ++ tmPR c r))
end
/-- Right terms whose levels are at most 40. -/
def Tm40 (lv : Int) (t : Tm) : Prop := ∀ x ∈ t.all lv, x.1 ≤ 40
theorem Tm40.head {lv : Int} {t : Tm} (h : Tm40 lv t) : lv ≤ 40 := h (lv, t) (by rw [Tm.all_eq]; exact List.mem_cons_self ..)
theorem Tm40.arg {lv : Int} {t a : Tm} (h : Tm40 lv t) (h1 : 1 ≤ lv) (ha : a ∈ t.args) : Tm40 (lv + 1) a := by
  intro x hx
  have hl := h.head
  refine h x ?_
  rw [Tm.all_eq]
  refine List.mem_cons_of_mem _ (List.mem_flatMap.2 ⟨a, ha, ?_⟩)
  rw [show wrap64 (lv + 1) = lv + 1 from wrap_id (by omega) (by omega)]
  exact hx
theorem meta_fn {s : ByteArray} (h : metaB fnB s = true) : mtB true s = true := by
  unfold mtB metB
  rw [h, Bool.or_true, Bool.true_and, Bool.true_and]
  unfold metaB at h
  rw [Bool.and_eq_true, Bool.and_eq_true] at h
  have := h.2
  unfold cutR at this
  rwa [if_pos h.1.1] at this
theorem meta_pred {s : ByteArray} (h : metaB predB s = true) : mfB true s = true := by
  unfold mfB metB
  rw [h, Bool.true_or, Bool.true_and, Bool.true_and]
  unfold metaB at h
  rw [Bool.and_eq_true, Bool.and_eq_true] at h
  have := h.2
  unfold cutR at this
  rwa [if_pos h.1.1] at this
theorem right_var {m : Bool} {n : ByteArray} {l : List Tm} (h : (Tm.mk true n l).right m = true) : l = [] ∧ (varB n || mtB m n) = true := by
  rw [Tm.right_eq] at h
  simp only [Tm.v, if_true, varT, metaT, Tm.n, Tm.args, Bool.true_and, Bool.or_eq_true, Bool.and_eq_true, decide_eq_true_eq] at h
  rcases h with ⟨h1, h2⟩ | ⟨hm, h1, h2⟩
  · exact ⟨List.eq_nil_of_length_eq_zero (of_decide_eq_true h1), by rw [h2]; rfl⟩
  · subst hm
    exact ⟨List.eq_nil_of_length_eq_zero (of_decide_eq_true h1), by rw [meta_fn h2, Bool.or_true]⟩
theorem right_fn {m : Bool} {n : ByteArray} {l : List Tm} (h : (Tm.mk false n l).right m = true) : fnB n = true ∧ l.length ≤ 4 ∧ ∀ a ∈ l, a.right m = true := by
  rw [Tm.right_eq] at h
  simp only [Tm.v, Bool.false_eq_true, if_false, Tm.n, Tm.args, Bool.and_eq_true, decide_eq_true_eq, List.all_eq_true] at h
  exact ⟨h.1.1, of_decide_eq_true h.1.2, h.2⟩
theorem map_cons {us : List Tg} {a : ByteArray} {l : List ByteArray} (h : us.map (·.t) = a :: l) : ∃ u v, us = u :: v ∧ u.t = a ∧ v.map (·.t) = l := by
  cases us with
  | nil => simp at h
  | cons u v =>
    rw [List.map_cons] at h
    obtain ⟨h1, h2⟩ := List.cons.inj h
    exact ⟨u, v, rfl, h1, h2⟩
theorem map_app {us : List Tg} {a l : List ByteArray} (h : us.map (·.t) = a ++ l) : ∃ u v, us = u ++ v ∧ u.map (·.t) = a ∧ v.map (·.t) = l := by
  obtain ⟨u, v, h1, h2, h3⟩ := List.map_eq_append_iff.1 h
  exact ⟨u, v, h1, h2, h3⟩
theorem map_nil {us : List Tg} (h : us.map (·.t) = []) : us = [] := List.map_eq_nil_iff.1 h
theorem tx_cons (u : Tg) (r : List Tg) : tx (u :: r) = u.t := rfl
mutual
theorem term_txt (m : Bool) (c : Pc) (hc : wd c = []) : ∀ (t : Tm) (lv : Int) (n : Nat) (us rest : List Tg), t.right m = true → Tm40 lv t → 1 ≤ lv → (n : Int) + (40 - lv) ≤ 120 → us.map (·.t) = wd (tmP c t) → tx rest ≠ ⟨#[40]⟩ →
    termC m n (us ++ rest) = .ok t rest
  | .mk true nm l, lv, n, us, rest, hr, h40, h1, hn, hu, hp => by
    obtain ⟨rfl, hv⟩ := right_var hr
    have hl := h40.head
    rw [tmP, tmPA, wd_some, wd_nil] at hu
    obtain ⟨u, v, rfl, rfl, hv2⟩ := map_cons hu
    obtain rfl := map_nil hv2
    rw [termC_eq, if_neg (by omega)]
    show (if (varB u.t || mtB m u.t) = true then R.ok (Tm.mk true u.t []) rest else _) = _
    rw [if_pos hv]
  | .mk false nm l, lv, n, us, rest, hr, h40, h1, hn, hu, hp => by
    obtain ⟨hf, h4, hl⟩ := right_fn hr
    have hlv := h40.head
    rw [tmP, wd_some] at hu
    obtain ⟨u, v, rfl, rfl, hv⟩ := map_cons hu
    rw [termC_eq, if_neg (by omega)]
    show (if (varB u.t || mtB m u.t) = true then _ else if fnB u.t = true then (argsC m n (v ++ rest)).bind fun l r => R.ok (Tm.mk false u.t l) r else _) = _
    rw [fn_var hf, fn_mt hf, if_neg (by decide), if_pos hf, args_txt m c hc l lv n v rest hl (fun a ha => h40.arg h1 ha) h1 hlv hn hv hp]
    rfl
theorem args_txt (m : Bool) (c : Pc) (hc : wd c = []) : ∀ (l : List Tm) (lv : Int) (n : Nat) (us rest : List Tg), (∀ a ∈ l, a.right m = true) → (∀ a ∈ l, Tm40 (lv + 1) a) → 1 ≤ lv → lv ≤ 40 → (n : Int) + (40 - lv) ≤ 120 → us.map (·.t) = wd (tmPA c l) → tx rest ≠ ⟨#[40]⟩ →
    argsC m n (us ++ rest) = .ok l rest
  | [], lv, n, us, rest, hr, h40, h1, hlv, hn, hu, hp => by
    rw [tmPA, wd_nil] at hu
    obtain rfl := map_nil hu
    rw [List.nil_append, argsC_eq, is_ne hp]
    rfl
  | a :: l, lv, n, us, rest, hr, h40, h1, hlv, hn, hu, hp => by
    rw [tmPA, wd_some, wd_app, wd_app, wd_some, wd_nil] at hu
    obtain ⟨u, v, rfl, hu1, hv⟩ := map_cons hu
    obtain ⟨va, vb, rfl, hva, hvb⟩ := map_app hv
    obtain ⟨vc, vd, rfl, hvc, hvd⟩ := map_app hvb
    obtain ⟨w, x, rfl, hw, hx⟩ := map_cons hvd
    obtain rfl := map_nil hx
    have ha := h40 a (List.mem_cons_self ..)
    have hal := ha.head
    have e1 : u :: (va ++ (vc ++ [w])) ++ rest = u :: (va ++ (vc ++ (w :: rest))) := by simp
    have hne : tx (vc ++ (w :: rest)) ≠ ⟨#[40]⟩ := by
      cases l with
      | nil => rw [tmPR, wd_nil] at hvc; obtain rfl := map_nil hvc; rw [List.nil_append, tx_cons, hw]; decide
      | cons b l => rw [tmPR, wd_some] at hvc; obtain ⟨y, z, rfl, hy, _⟩ := map_cons hvc; rw [List.cons_append, tx_cons, hy]; decide
    rw [e1, argsC_eq, is_eq (by rw [tx_cons]; exact hu1), if_pos rfl]
    show (listC m (n + 1) (va ++ (vc ++ w :: rest))).bind _ = _
    rw [listC_eq, term_txt m c hc a (lv + 1) (n + 1) va _ (hr a (List.mem_cons_self ..)) ha (by omega) (by push_cast; omega) hva hne]
    show (moreC m (n + 1) [a] (vc ++ w :: rest)).bind _ = _
    rw [more_txt m c hc l [a] (lv + 1) (n + 1) vc (w :: rest) (fun b hb => hr b (List.mem_cons_of_mem _ hb)) (fun b hb => h40 b (List.mem_cons_of_mem _ hb)) (by omega) (by push_cast; omega) hvc (by rw [tx_cons, hw]; decide) (by rw [tx_cons, hw]; decide)]
    show (if is (w :: rest) ⟨#[41]⟩ = true then R.ok ([a] ++ l) rest else _) = _
    rw [if_pos (is_eq (by rw [tx_cons]; exact hw))]
    rfl
theorem more_txt (m : Bool) (c : Pc) (hc : wd c = []) : ∀ (l acc : List Tm) (lv : Int) (n : Nat) (us rest : List Tg), (∀ a ∈ l, a.right m = true) → (∀ a ∈ l, Tm40 lv a) → 1 ≤ lv → (n : Int) + (40 - lv) ≤ 120 → us.map (·.t) = wd (tmPR c l) → tx rest ≠ ⟨#[40]⟩ → tx rest ≠ ⟨#[44]⟩ →
    moreC m n acc (us ++ rest) = .ok (acc ++ l) rest
  | [], acc, lv, n, us, rest, hr, h40, h1, hn, hu, hp, hq => by
    rw [tmPR, wd_nil] at hu
    obtain rfl := map_nil hu
    rw [List.nil_append, moreC_eq, is_ne hq, List.append_nil]
    rfl
  | a :: l, acc, lv, n, us, rest, hr, h40, h1, hn, hu, hp, hq => by
    rw [tmPR, wd_some, wd_app, wd_app, hc, List.nil_append] at hu
    obtain ⟨u, v, rfl, hu1, hv⟩ := map_cons hu
    obtain ⟨va, vb, rfl, hva, hvb⟩ := map_app hv
    have ha := h40 a (List.mem_cons_self ..)
    have hal := ha.head
    have hne : tx (vb ++ rest) ≠ ⟨#[40]⟩ := by
      cases l with
      | nil => rw [tmPR, wd_nil] at hvb; obtain rfl := map_nil hvb; exact hp
      | cons b l => rw [tmPR, wd_some] at hvb; obtain ⟨y, z, rfl, hy, _⟩ := map_cons hvb; rw [List.cons_append, tx_cons, hy]; decide
    rw [moreC_eq, is_eq (by rw [List.cons_append, tx_cons]; exact hu1), if_pos rfl]
    show (termC m n (va ++ vb ++ rest)).bind _ = _
    rw [List.append_assoc, term_txt m c hc a lv n va _ (hr a (List.mem_cons_self ..)) ha h1 hn hva hne]
    show moreC m n (acc ++ [a]) (vb ++ rest) = _
    rw [more_txt m c hc l (acc ++ [a]) lv n vb rest (fun b hb => hr b (List.mem_cons_of_mem _ hb)) (fun b hb => h40 b (List.mem_cons_of_mem _ hb)) h1 hn hvb hp hq, List.append_assoc]
    rfl
end
/-- The words of a formula at a level, with the depth that it takes. -/
inductive TxF (m : Bool) : Nat → Nat → Fo → List ByteArray → Prop
  | up {i d f xs} : i < 5 → TxF m (i + 1) d f xs → TxF m i d f xs
  | lef {i d f g xs ys} : i < 5 → lvR i = false → TxF m i d f xs → TxF m (i + 1) d g ys → TxF m i d (two (lvO i) f g) (xs ++ lvS i :: ys)
  | rig {i d f g xs ys} : i < 5 → lvR i = true → TxF m (i + 1) (d + 1) f xs → TxF m i d g ys → TxF m i (d + 1) (two (lvO i) f g) (xs ++ lvS i :: ys)
  | una {d f xs s} : unOp s ≠ 0 → unOp s ≠ 8 → unOp s ≠ 9 → TxF m 5 d f xs → TxF m 5 (d + 1) (.mk (unOp s) ⟨#[]⟩ [] [f]) (s :: xs)
  | qua {d f xs s x} : (unOp s = 8 ∨ unOp s = 9) → varB x = true → TxF m 5 d f xs → TxF m 5 (d + 1) (.mk (unOp s) x [] [f]) (s :: x :: xs)
  | bra {d f xs} : TxF m 0 d f xs → TxF m 5 (d + 1) f (⟨#[40]⟩ :: (xs ++ [⟨#[41]⟩]))
  | fal {d} : TxF m 5 d (.mk 2 ⟨#[]⟩ [] []) [⟨#[102, 97, 108, 115, 101]⟩]
  | met {d n} : m = true → mfB m n = true → TxF m 5 d (.mk 15 n [] []) [n]
  | ins {d n t x} : m = true → mfB m n = true → mtB m t = true → varB x = true → TxF m 5 d (.mk 16 n [.mk true x [], .mk true t []] []) [n, ⟨#[91]⟩, t, ⟨#[47]⟩, x, ⟨#[93]⟩]
  | ato {d : Nat} {n l c} {lv : Int} : predB n = true → wd c = [] → (∀ a ∈ l, a.right m = true) → (∀ a ∈ l, Tm40 (lv + 1) a) → 1 ≤ lv → lv ≤ 40 → 40 - lv ≤ (d : Int) → TxF m 5 d (.mk 1 n l []) (n :: wd (tmPA c l))
  | deep {i d e f xs} : d ≤ e → TxF m i d f xs → TxF m i e f xs
def TxQ (m : Bool) (i d : Nat) (f : Fo) (xs : List ByteArray) : Prop := ∀ (n : Nat) (us rest : List Tg), us.map (·.t) = xs → n + d ≤ 120 →
  (Stop i rest → binC m i n (us ++ rest) = .ok f rest) ∧ (i < 5 → lvR i = false → Stop (i + 1) rest → binC m i n (us ++ rest) = chC m i n f rest)
theorem ch_stop {m : Bool} {i n : Nat} {f : Fo} {rest : List Tg} (hi : i < 5) (h : Stop i rest) : chC m i n f rest = .ok f rest := by
  rw [chC_eq m i n f rest hi, is_ne (h.s i (Nat.le_refl _) hi)]
  rfl
theorem stop_sign {i k : Nat} (u : Tg) (r : List Tg) (hi : i < 5) (hu : u.t = lvS i) (hk : i < k) : Stop k (u :: r) := by
  refine ⟨?_, ?_, fun j h1 h2 => ?_⟩ <;> rw [tx_cons, hu]
  · rcases (by omega : i = 0 ∨ i = 1 ∨ i = 2 ∨ i = 3 ∨ i = 4) with rfl | rfl | rfl | rfl | rfl <;> decide
  · rcases (by omega : i = 0 ∨ i = 1 ∨ i = 2 ∨ i = 3 ∨ i = 4) with rfl | rfl | rfl | rfl | rfl <;> decide
  · rcases (by omega : i = 0 ∨ i = 1 ∨ i = 2 ∨ i = 3 ∨ i = 4) with rfl | rfl | rfl | rfl | rfl <;>
    rcases (by omega : j = 0 ∨ j = 1 ∨ j = 2 ∨ j = 3 ∨ j = 4) with rfl | rfl | rfl | rfl | rfl <;> first | omega | decide
theorem five {m : Bool} {d : Nat} {f : Fo} {xs : List ByteArray} (h : ∀ (n : Nat) (us rest : List Tg), us.map (·.t) = xs → n + d ≤ 120 → Stop 5 rest → unC m n (us ++ rest) = .ok f rest) : TxQ m 5 d f xs := by
  intro n us rest hu hn
  refine ⟨fun hs => by rw [binC_un]; exact h n us rest hu hn hs, fun h => absurd h (by omega)⟩
theorem bas {m : Bool} {n : Nat} {ts : List Tg} {x : R Fo} (hn : n ≤ 120) (hu : unOp (tx ts) = 0) (h : basC m n ts = x) : unC m n ts = x := by
  rw [unC_eq, if_neg (by omega), if_pos hu, h]
theorem mf_true {m : Bool} {s : ByteArray} (hm : m = true) (h : mfB m s = true) : mfB true s = true := by subst hm; exact h
theorem txt_read {m : Bool} {i d : Nat} {f : Fo} {xs : List ByteArray} (h : TxF m i d f xs) : TxQ m i d f xs := by
  induction h with
  | @up i d f xs hi _ ih =>
    intro n us rest hu hn
    have h2 : lvR i = false → Stop (i + 1) rest → binC m i n (us ++ rest) = chC m i n f rest := by
      intro hr hs
      rw [binC_eq m i n _ hi, (ih n us rest hu hn).1 hs]
      show (if lvR i = true then _ else _) = _
      rw [hr]
      rfl
    refine ⟨fun hs => ?_, fun _ => h2⟩
    cases hr : lvR i with
    | false => rw [h2 hr (hs.up (by omega)), ch_stop hi hs]
    | true =>
      rw [binC_eq m i n _ hi, (ih n us rest hu hn).1 (hs.up (by omega))]
      show (if lvR i = true then (if is rest (lvS i) = true then _ else R.ok f rest) else _) = _
      rw [hr, if_pos rfl, is_ne (hs.s i (Nat.le_refl _) hi)]
      rfl
  | @lef i d f g xs ys hi hr _ _ ihf ihg =>
    intro n us rest hu hn
    obtain ⟨ua, ub, rfl, hua, hub⟩ := map_app hu
    obtain ⟨u, v, rfl, hu1, hv⟩ := map_cons hub
    have h2 : Stop (i + 1) rest → binC m i n (ua ++ u :: v ++ rest) = chC m i n (two (lvO i) f g) rest := by
      intro hs
      rw [List.append_assoc, List.cons_append, (ihf n ua (u :: (v ++ rest)) hua hn).2 hi hr (stop_sign u _ hi hu1 (by omega)), chC_eq m i n f _ hi, is_eq (by rw [tx_cons]; exact hu1), if_pos rfl]
      show (binC m (i + 1) n (v ++ rest)).bind _ = _
      rw [(ihg n v rest hv hn).1 hs]
      rfl
    refine ⟨fun hs => ?_, fun _ _ => h2⟩
    rw [h2 (hs.up (by omega)), ch_stop hi hs]
  | @rig i d f g xs ys hi hr _ _ ihf ihg =>
    intro n us rest hu hn
    obtain ⟨ua, ub, rfl, hua, hub⟩ := map_app hu
    obtain ⟨u, v, rfl, hu1, hv⟩ := map_cons hub
    refine ⟨fun hs => ?_, fun _ h => by rw [hr] at h; cases h⟩
    rw [List.append_assoc, List.cons_append, binC_eq m i n _ hi, (ihf n ua (u :: (v ++ rest)) hua hn).1 (stop_sign u _ hi hu1 (by omega))]
    show (if lvR i = true then (if is (u :: (v ++ rest)) (lvS i) = true then (binC m i (n + 1) (v ++ rest)).bind _ else _) else _) = _
    rw [hr, if_pos rfl, is_eq (by rw [tx_cons]; exact hu1), if_pos rfl, (ihg (n + 1) v rest hv (by omega)).1 hs]
    rfl
  | @una d f xs s h0 h8 h9 _ ih =>
    refine five fun n us rest hu hn hs => ?_
    obtain ⟨u, v, rfl, rfl, hv⟩ := map_cons hu
    rw [List.cons_append, unC_eq, if_neg (by omega), tx_cons, if_neg h0, if_neg (by rintro (h | h); exact h8 h; exact h9 h)]
    show (unC m (n + 1) (v ++ rest)).bind _ = _
    rw [← binC_un, (ih (n + 1) v rest hv (by omega)).1 hs]
    rfl
  | @qua d f xs s x h8 hx _ ih =>
    refine five fun n us rest hu hn hs => ?_
    obtain ⟨u, v, rfl, rfl, hv⟩ := map_cons hu
    obtain ⟨y, v, rfl, rfl, hv2⟩ := map_cons hv
    rw [List.cons_append, List.cons_append, unC_eq, if_neg (by omega), tx_cons, if_neg (by rcases h8 with h | h <;> rw [h] <;> decide), if_pos h8]
    show (if varB y.t = true then (unC m (n + 1) (v ++ rest)).bind _ else _) = _
    rw [if_pos hx, ← binC_un, (ih (n + 1) v rest hv2 (by omega)).1 hs]
    rfl
  | @bra d f xs _ ih =>
    refine five fun n us rest hu hn hs => ?_
    obtain ⟨u, v, rfl, hu1, hv⟩ := map_cons hu
    obtain ⟨va, vb, rfl, hva, hvb⟩ := map_app hv
    obtain ⟨w, x, rfl, hw, hx⟩ := map_cons hvb
    obtain rfl := map_nil hx
    have e1 : u :: (va ++ [w]) ++ rest = u :: (va ++ (w :: rest)) := by simp
    refine bas (by omega) (by rw [List.cons_append, tx_cons, hu1]; kernel_rfl) ?_
    rw [e1, basC_eq, is_eq (by rw [tx_cons]; exact hu1), if_pos rfl]
    show (binC m 0 (n + 1) (va ++ w :: rest)).bind _ = _
    rw [(ih (n + 1) va (w :: rest) hva (by omega)).1 ⟨by rw [tx_cons, hw]; decide, by rw [tx_cons, hw]; decide, fun k _ hk => by
      rw [tx_cons, hw]
      rcases (by omega : k = 0 ∨ k = 1 ∨ k = 2 ∨ k = 3 ∨ k = 4) with rfl | rfl | rfl | rfl | rfl <;> decide⟩]
    show (if is (w :: rest) ⟨#[41]⟩ = true then R.ok f rest else _) = _
    rw [if_pos (is_eq (by rw [tx_cons]; exact hw))]
  | @fal d =>
    refine five fun n us rest hu hn hs => ?_
    obtain ⟨u, v, rfl, hu1, hv⟩ := map_cons hu
    obtain rfl := map_nil hv
    refine bas (by omega) (by rw [List.cons_append, tx_cons, hu1]; kernel_rfl) ?_
    rw [List.cons_append, basC_eq, is_ne (by rw [tx_cons, hu1]; decide), if_neg (by decide), is_eq (by rw [tx_cons]; exact hu1), if_pos rfl]
    rfl
  | @met d n' hm hf =>
    refine five fun n us rest hu hn hs => ?_
    obtain ⟨u, v, rfl, rfl, hv⟩ := map_cons hu
    obtain rfl := map_nil hv
    refine bas (by omega) (mf_un (mf_true hm hf)) ?_
    rw [List.cons_append, basC_eq, is_ne (by rw [tx_cons]; exact lit_no (mf_true hm hf) (by kernel_rfl)), if_neg (by decide), is_ne (by rw [tx_cons]; exact lit_no (mf_true hm hf) (by kernel_rfl)), if_neg (by decide), tx_cons, if_pos hf]
    unfold metaP metaQ
    show (if is rest ⟨#[91]⟩ = true then _ else R.ok (Fo.mk 15 u.t [] []) rest) = _
    rw [is_ne hs.b]
    rfl
  | @ins d n' t x hm hf ht hx =>
    refine five fun n us rest hu hn hs => ?_
    obtain ⟨u, v, rfl, rfl, hv⟩ := map_cons hu
    obtain ⟨u1, v1, rfl, hu1, hv1⟩ := map_cons hv
    obtain ⟨u2, v2, rfl, rfl, hv2⟩ := map_cons hv1
    obtain ⟨u3, v3, rfl, hu3, hv3⟩ := map_cons hv2
    obtain ⟨u4, v4, rfl, rfl, hv4⟩ := map_cons hv3
    obtain ⟨u5, v5, rfl, hu5, hv5⟩ := map_cons hv4
    obtain rfl := map_nil hv5
    refine bas (by omega) (mf_un (mf_true hm hf)) ?_
    show basC m n (u :: u1 :: u2 :: u3 :: u4 :: u5 :: rest) = _
    rw [basC_eq, is_ne (by rw [tx_cons]; exact lit_no (mf_true hm hf) (by kernel_rfl)), if_neg (by decide), is_ne (by rw [tx_cons]; exact lit_no (mf_true hm hf) (by kernel_rfl)), if_neg (by decide), tx_cons, if_pos hf]
    unfold metaP metaQ
    show (if is (u1 :: u2 :: u3 :: u4 :: u5 :: rest) ⟨#[91]⟩ = true then metaA m u.t (u2 :: u3 :: u4 :: u5 :: rest) else _) = _
    rw [if_pos (is_eq (by rw [tx_cons]; exact hu1))]
    unfold metaA
    rw [tx_cons, if_pos ht]
    show metaS u.t u2.t (u3 :: u4 :: u5 :: rest) = _
    unfold metaS
    rw [if_pos (is_eq (by rw [tx_cons]; exact hu3))]
    show metaE u.t u2.t (u4 :: u5 :: rest) = _
    unfold metaE
    rw [tx_cons, if_pos hx]
    show metaD u.t u2.t u4.t (u5 :: rest) = _
    unfold metaD
    rw [if_pos (is_eq (by rw [tx_cons]; exact hu5))]
    rfl
  | @ato d n' l c lv hp hc hr h40 h1 hlv hd =>
    refine five fun n us rest hu hn hs => ?_
    obtain ⟨u, v, rfl, rfl, hv⟩ := map_cons hu
    refine bas (by omega) (pred_un hp) ?_
    rw [List.cons_append, basC_eq, is_ne (by rw [tx_cons]; exact lit_no hp (by kernel_rfl)), if_neg (by decide), is_ne (by rw [tx_cons]; exact lit_no hp (by kernel_rfl)), if_neg (by decide), tx_cons, pred_mf hp, if_neg (by decide), if_pos hp]
    show (argsC m n (v ++ rest)).bind _ = _
    rw [args_txt m c hc l lv n v rest hr h40 h1 hlv (by omega) hv hs.p]
    rfl
  | @deep i d e f xs hde _ ih => exact fun n us rest hu hn => ih n us rest hu (by omega)
end Go.Proofs.YtdapnjnmhkdnpaaDoor.Ft
