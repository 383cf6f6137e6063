/-
  Tokens of texts as plain mathematics: what is read, and what follows from that.
-/
import Derived.Lib.Hide
namespace Go.Proofs.YtkeckecdhcknhaaDoor.Lx
set_option linter.unusedVariables false
set_option linter.unusedSimpArgs false
abbrev Bs := List UInt8
def blk (c : UInt8) : Bool := c == 32 || c == 9 || c == 10 || c == 13
def ltr (c : UInt8) : Bool := 97 ≤ c && c ≤ 122 || 65 ≤ c && c ≤ 90
def lod (c : UInt8) : Bool := ltr c || 48 ≤ c && c ≤ 57
structure Tk where
  k : Nat
  t : Bs
  a : Nat
def one (c : UInt8) : Bool := c == 40 || c == 41 || c == 44 || c == 126 || c == 38 || c == 124 || c == 47 || c == 91 || c == 93
def sgn : Bs → Nat
  | [] => 0
  | c :: r => if c == 60 then (if r.take 2 == [45, 62] then 3 else if r.take 1 == [62] then 2 else 0)
    else if c == 45 then (if r.take 1 == [62] then 2 else 0)
    else if c == 91 then (if r.take 1 == [93] then 2 else 1)
    else if one c then 1 else 0
/-- The kinds of a run, of a mark; 0 if it is none. -/
structure Kinds where
  ru : Bs → Nat
  ma : Bs → Nat
  rlt : ∀ l, ru l < 5
  mlt : ∀ l, ma l < 5
  rne : ∀ l, ru l = 0 ∨ ru l = 1 ∨ ru l = 3
  mne : ∀ l, ma l = 0 ∨ ma l = 2
variable (K : Kinds)
def tok1 : Bs → Nat × Nat × Nat
  | [] => (0, 0, 40)
  | c :: r =>
    if ltr c then (if K.ru (c :: r.takeWhile lod) = 0 then (0, 0, 41) else (K.ru (c :: r.takeWhile lod), (r.takeWhile lod).length + 1, 0))
    else if c == 63 then (if K.ma (c :: r.takeWhile lod) = 0 then (0, 0, 41) else (K.ma (c :: r.takeWhile lod), (r.takeWhile lod).length + 1, 0))
    else if sgn (c :: r) = 0 then (0, 0, 40) else (4, sgn (c :: r), 0)
def toksF : Nat → Nat → Bs → List (Tk × Nat)
  | 0, _, _ => []
  | f + 1, off, l =>
    let l' := l.dropWhile blk
    let o := off + (l.length - l'.length)
    if l' = [] then [(⟨5, [], o⟩, 0)]
    else if (tok1 K l').2.2 = 0 then (⟨(tok1 K l').1, l'.take (tok1 K l').2.1, o⟩, 0) :: toksF f (o + (tok1 K l').2.1) (l'.drop (tok1 K l').2.1)
    else [(⟨0, [], o⟩, (tok1 K l').2.2)]
def toks (off : Nat) (l : Bs) : List (Tk × Nat) := toksF K (l.length + 1) off l
theorem sgn_cons (c : UInt8) (r : Bs) : sgn (c :: r) = if c == 60 then (if r.take 2 == [45, 62] then 3 else if r.take 1 == [62] then 2 else 0)
    else if c == 45 then (if r.take 1 == [62] then 2 else 0)
    else if c == 91 then (if r.take 1 == [93] then 2 else 1)
    else if one c then 1 else 0 := rfl
theorem take_len {r : Bs} {n : Nat} {x : Bs} (h : (r.take n == x) = true) : x.length ≤ r.length := by
  rw [beq_iff_eq] at h
  rw [← h, List.length_take]; omega
theorem sgn_le : ∀ l, sgn l ≤ l.length
  | [] => Nat.le_refl _
  | c :: r => by
    rw [sgn_cons]
    split
    · split
      · rename_i h; have := take_len h; simp at this ⊢; omega
      · split
        · rename_i h; have := take_len h; simp at this ⊢; omega
        · simp
    · split
      · split
        · rename_i h; have := take_len h; simp at this ⊢; omega
        · simp
      · split
        · split
          · rename_i h; have := take_len h; simp at this ⊢; omega
          · simp
        · split <;> simp
theorem tok1_cons (c : UInt8) (r : Bs) : tok1 K (c :: r) = 
    if ltr c then (if K.ru (c :: r.takeWhile lod) = 0 then (0, 0, 41) else (K.ru (c :: r.takeWhile lod), (r.takeWhile lod).length + 1, 0))
    else if c == 63 then (if K.ma (c :: r.takeWhile lod) = 0 then (0, 0, 41) else (K.ma (c :: r.takeWhile lod), (r.takeWhile lod).length + 1, 0))
    else if sgn (c :: r) = 0 then (0, 0, 40) else (4, sgn (c :: r), 0) := rfl
theorem tw_le (r : Bs) : (r.takeWhile lod).length ≤ r.length := (List.takeWhile_sublist _).length_le
theorem tok1_bd {l : Bs} (h : (tok1 K l).2.2 = 0) : 1 ≤ (tok1 K l).2.1 ∧ (tok1 K l).2.1 ≤ l.length ∧ 1 ≤ (tok1 K l).1 ∧ (tok1 K l).1 < 5 := by
  match l with
  | [] => simp [tok1] at h
  | c :: r =>
    have hs := sgn_le (c :: r)
    have ht := tw_le r
    rw [tok1_cons] at h ⊢
    split
    · rename_i h1
      rw [if_pos h1] at h
      split
      · rename_i h2; rw [if_pos h2] at h; simp at h
      · have := K.rlt (c :: r.takeWhile lod); simp; omega
    · rename_i h1
      rw [if_neg h1] at h
      split
      · rename_i h1
        rw [if_pos h1] at h
        split
        · rename_i h2; rw [if_pos h2] at h; simp at h
        · have := K.mlt (c :: r.takeWhile lod); simp; omega
      · rename_i h1
        rw [if_neg h1] at h
        split
        · rename_i h2; rw [if_pos h2] at h; simp at h
        · simp at hs ⊢; omega
theorem dw_le (l : Bs) : (l.dropWhile blk).length ≤ l.length := (List.dropWhile_sublist _).length_le
theorem toksF_irr : ∀ (f g off : Nat) (l : Bs), l.length < f → l.length < g → toksF K f off l = toksF K g off l
  | 0, _, _, _, h, _ => absurd h (Nat.not_lt_zero _)
  | _ + 1, 0, _, _, _, h => absurd h (Nat.not_lt_zero _)
  | f + 1, g + 1, off, l, h1, h2 => by
    simp only [toksF]
    split
    · rfl
    · split
      · rename_i h3
        have hb := tok1_bd K h3
        have hd := dw_le l
        rw [toksF_irr f g _ _ (by rw [List.length_drop]; omega) (by rw [List.length_drop]; omega)]
      · rfl
theorem toks_eq (off : Nat) (l : Bs) : toks K off l =
    if l.dropWhile blk = [] then [(⟨5, [], off + (l.length - (l.dropWhile blk).length)⟩, 0)]
    else if (tok1 K (l.dropWhile blk)).2.2 = 0 then (⟨(tok1 K (l.dropWhile blk)).1, (l.dropWhile blk).take (tok1 K (l.dropWhile blk)).2.1, off + (l.length - (l.dropWhile blk).length)⟩, 0) ::
        toks K (off + (l.length - (l.dropWhile blk).length) + (tok1 K (l.dropWhile blk)).2.1) ((l.dropWhile blk).drop (tok1 K (l.dropWhile blk)).2.1)
    else [(⟨0, [], off + (l.length - (l.dropWhile blk).length)⟩, (tok1 K (l.dropWhile blk)).2.2)] := by
  unfold toks
  rw [toksF]
  split
  · rfl
  · split
    · rename_i h3
      have hb := tok1_bd K h3
      have hd := dw_le l
      rw [toksF_irr K l.length _ _ _ (by rw [List.length_drop]; omega) (Nat.lt_succ_self _)]
    · rfl
theorem dw_blk {c : UInt8} (h : blk c = true) (l : Bs) : (c :: l).dropWhile blk = l.dropWhile blk := by rw [List.dropWhile_cons, if_pos h]
theorem dw_not {c : UInt8} (h : blk c = false) (l : Bs) : (c :: l).dropWhile blk = c :: l := by rw [List.dropWhile_cons, if_neg (by rw [h]; decide)]
/-- A blank ahead only moves. -/
theorem toks_blank {c : UInt8} (h : blk c = true) (off : Nat) (l : Bs) : toks K off (c :: l) = toks K (off + 1) l := by
  rw [toks_eq, toks_eq K (off + 1) l, dw_blk h]
  have hd := dw_le l
  have e : off + ((c :: l).length - (l.dropWhile blk).length) = off + 1 + (l.length - (l.dropWhile blk).length) := by simp; omega
  rw [e]
theorem toks_nil (off : Nat) : toks K off [] = [(⟨5, [], off⟩, 0)] := by rw [toks_eq]; simp
theorem toks_tok {c : UInt8} {l : Bs} (hb : blk c = false) (h : (tok1 K (c :: l)).2.2 = 0) (off : Nat) : toks K off (c :: l) = (⟨(tok1 K (c :: l)).1, (c :: l).take (tok1 K (c :: l)).2.1, off⟩, 0) ::
    toks K (off + (tok1 K (c :: l)).2.1) ((c :: l).drop (tok1 K (c :: l)).2.1) := by
  rw [toks_eq, dw_not hb, if_neg (by simp), if_pos h]; simp
theorem toks_err {c : UInt8} {l : Bs} (hb : blk c = false) (h : (tok1 K (c :: l)).2.2 ≠ 0) (off : Nat) : toks K off (c :: l) = [(⟨0, [], off⟩, (tok1 K (c :: l)).2.2)] := by
  rw [toks_eq, dw_not hb, if_neg (by simp), if_neg h]; simp
/-- Induction along the tokens. -/
theorem toks_ind {M : Nat → Bs → Prop} (h0 : ∀ off, M off []) (hb : ∀ off c l, blk c = true → M (off + 1) l → M off (c :: l)) (he : ∀ off c l, blk c = false → (tok1 K (c :: l)).2.2 ≠ 0 → M off (c :: l))
    (ht : ∀ off c l, blk c = false → (tok1 K (c :: l)).2.2 = 0 → M (off + (tok1 K (c :: l)).2.1) ((c :: l).drop (tok1 K (c :: l)).2.1) → M off (c :: l)) : ∀ off l, M off l := by
  intro off l
  obtain ⟨n, hn⟩ : ∃ n, l.length ≤ n := ⟨_, Nat.le_refl _⟩
  induction n generalizing off l with
  | zero => have := List.eq_nil_of_length_eq_zero (Nat.le_zero.1 hn); subst this; exact h0 off
  | succ n ih =>
    match l with
    | [] => exact h0 off
    | c :: l =>
      cases hc : blk c with
      | true => exact hb off c l hc (ih _ _ (by simpa using hn))
      | false =>
        by_cases h : (tok1 K (c :: l)).2.2 = 0
        · have := tok1_bd K h
          exact ht off c l hc h (ih _ _ (by rw [List.length_drop]; omega))
        · exact he off c l hc h
/-- What may stand behind a token without making it longer. -/
def Sep : Bs → Prop
  | [] => True
  | c :: _ => blk c = true
theorem blk_lod {c : UInt8} (h : blk c = true) : lod c = false ∧ ltr c = false ∧ (c == 63) = false ∧ (c == 62) = false ∧ (c == 45) = false ∧ (c == 93) = false := by
  unfold blk at h
  simp only [Bool.or_eq_true, beq_iff_eq] at h
  rcases h with ((rfl | rfl) | rfl) | rfl <;> decide
theorem tw_sep (r rest : Bs) (h : Sep rest) : (r ++ rest).takeWhile lod = r.takeWhile lod := by
  induction r with
  | nil =>
    match rest, h with
    | [], _ => rfl
    | c :: rest, h => rw [List.nil_append, List.takeWhile_cons, (blk_lod h).1]; rfl
  | cons a r ih => rw [List.cons_append, List.takeWhile_cons, List.takeWhile_cons, ih]
theorem sgn_sep (c : UInt8) (r rest : Bs) (h : Sep rest) : sgn (c :: r ++ rest) = sgn (c :: r) := by
  match rest, h with
  | [], _ => rw [List.append_nil]
  | b :: rest, h =>
    obtain ⟨_, _, _, h1, h2, h3⟩ := blk_lod h
    match r with
    | [] => simp [sgn, h1, h2, h3]
    | [x] => simp [sgn, h1, h2, h3]
    | x :: y :: r => simp [sgn]
/-- A blank behind it changes no token. -/
theorem tok1_sep (c : UInt8) (r rest : Bs) (h : Sep rest) : tok1 K (c :: r ++ rest) = tok1 K (c :: r) := by
  have h2 := sgn_sep c r rest h
  rw [List.cons_append] at h2 ⊢
  simp only [tok1, tw_sep r rest h, h2]
/-- Two texts with a blank between them. -/
def errs (ys : List (Tk × Nat)) : Bool := ys.any fun y => y.2 != 0
theorem toks_both (off : Nat) (s : Bs) (b : UInt8) (t : Bs) (hb : blk b = true) : toks K off (s ++ b :: t) = if errs (toks K off s) then toks K off s else (toks K off s).dropLast ++ toks K (off + s.length + 1) t := by
  revert off s
  refine toks_ind K ?_ ?_ ?_ ?_
  · intro off
    rw [List.nil_append, toks_blank K hb, toks_nil]
    simp [errs]
  · intro off c l hc ih
    rw [List.cons_append, toks_blank K hc, toks_blank K hc, ih]
    have : off + (c :: l).length + 1 = off + 1 + l.length + 1 := by simp; omega
    rw [this]
  · intro off c l hc he
    have h1 := tok1_sep K c l (b :: t) hb
    rw [List.cons_append] at h1 ⊢
    rw [toks_err K hc (by rw [h1]; exact he), toks_err K hc he, h1]
    simp [errs, he]
  · intro off c l hc he ih
    have h1 := tok1_sep K c l (b :: t) hb
    have hbd := tok1_bd K he
    rw [List.cons_append] at h1 ⊢
    rw [toks_tok K hc (by rw [h1]; exact he), toks_tok K hc he, h1]
    rw [← List.cons_append, List.take_append_of_le_length hbd.2.1, List.drop_append_of_le_length hbd.2.1, ih]
    have hne : toks K (off + (tok1 K (c :: l)).2.1) ((c :: l).drop (tok1 K (c :: l)).2.1) ≠ [] := by
      rw [toks_eq]; split
      · simp
      · split <;> simp
    have e2 : off + (tok1 K (c :: l)).2.1 + ((c :: l).drop (tok1 K (c :: l)).2.1).length + 1 = off + (c :: l).length + 1 := by rw [List.length_drop]; omega
    rw [e2]
    generalize toks K (off + (tok1 K (c :: l)).2.1) ((c :: l).drop (tok1 K (c :: l)).2.1) = ys at *
    have e3 : errs ((⟨(tok1 K (c :: l)).1, (c :: l).take (tok1 K (c :: l)).2.1, off⟩, 0) :: ys) = errs ys := by simp [errs]
    rw [e3]
    split
    · rfl
    · rw [List.dropLast_cons_of_ne_nil hne]; rfl
/-- Moved. -/
def mv (d : Nat) (y : Tk × Nat) : Tk × Nat := (⟨y.1.k, y.1.t, y.1.a + d⟩, y.2)
theorem toks_mv (d : Nat) (off : Nat) (l : Bs) : toks K (off + d) l = (toks K off l).map (mv d) := by
  revert off l
  refine toks_ind K ?_ ?_ ?_ ?_
  · intro off; rw [toks_nil, toks_nil]; rfl
  · intro off c l hc ih
    rw [toks_blank K hc, toks_blank K hc, ← ih]; congr 1; omega
  · intro off c l hc he; rw [toks_err K hc he, toks_err K hc he]; rfl
  · intro off c l hc he ih
    rw [toks_tok K hc he, toks_tok K hc he, List.map_cons, ← ih]
    have : off + d + (tok1 K (c :: l)).2.1 = off + (tok1 K (c :: l)).2.1 + d := by omega
    rw [this]; rfl
/-- The last one is the end, or has the error. -/
def Ends (ys : List (Tk × Nat)) (n : Nat) : Prop := ∃ zs y, ys = zs ++ [y] ∧ (∀ z ∈ zs, z.2 = 0 ∧ z.1.k ≠ 5 ∧ z.1.k ≠ 0 ∧ z.1.t ≠ []) ∧ ((y.2 = 0 ∧ y.1 = ⟨5, [], n⟩) ∨ ((y.2 = 40 ∨ y.2 = 41) ∧ y.1.k = 0 ∧ y.1.t = [] ∧ y.1.a < n))
theorem tok1_err (l : Bs) : (tok1 K l).2.2 = 0 ∨ (tok1 K l).2.2 = 40 ∨ (tok1 K l).2.2 = 41 := by
  match l with
  | [] => simp [tok1]
  | c :: r =>
    rw [tok1_cons]
    split
    · split <;> simp
    · split
      · split <;> simp
      · split <;> simp
theorem toks_ends (off : Nat) (l : Bs) : Ends (toks K off l) (off + l.length) := by
  revert off l
  refine toks_ind K ?_ ?_ ?_ ?_
  · intro off; rw [toks_nil]; exact ⟨[], _, rfl, by simp, .inl ⟨rfl, rfl⟩⟩
  · intro off c l hc ih
    rw [toks_blank K hc]
    have : off + (c :: l).length = off + 1 + l.length := by simp; omega
    rw [this]; exact ih
  · intro off c l hc he
    rw [toks_err K hc he]
    exact ⟨[], _, rfl, by simp, .inr ⟨(tok1_err K (c :: l)).resolve_left he, rfl, rfl, by simp⟩⟩
  · intro off c l hc he ih
    obtain ⟨zs, y, e1, e2, e3⟩ := ih
    have hbd := tok1_bd K he
    rw [List.length_drop] at e3
    rw [toks_tok K hc he, e1]
    refine ⟨_ :: zs, y, rfl, ?_, ?_⟩
    · intro z hz
      rcases List.mem_cons.1 hz with rfl | hz
      · refine ⟨rfl, by have := hbd.2.2.2; simp; omega, by have := hbd.2.2.1; simp; omega, fun h => ?_⟩
        have := congrArg List.length h
        rw [List.length_take] at this
        simp only [List.length_nil] at this
        omega
      · exact e2 z hz
    · have : off + (tok1 K (c :: l)).2.1 + ((c :: l).length - (tok1 K (c :: l)).2.1) = off + (c :: l).length := by omega
      rw [this] at e3; exact e3
end Go.Proofs.YtkeckecdhcknhaaDoor.Lx
