/-
  Several texts in one: FtGram, FtText, FtLex, FtErr, FtFullT, FtSize, FtFull.
-/
import Derived.Test.YtkeckecdhcknhaaDoorPsPure
import Derived.Test.YtkeckecdhcknhaaDoorFmRightT
import Derived.Test.YtkeckecdhcknhaaDoorFmRight
import Derived.Test.YtkeckecdhcknhaaDoorLxPure2
import Derived.Test.YtkeckecdhcknhaaDoorLxNames
import Derived.Test.YtkeckecdhcknhaaDoorFmSat

/-
  The texts that the grammar reads: words of a formula at a level, and that they are read so.
-/
namespace Go.Proofs.YtkeckecdhcknhaaDoor.Ft
open Go Go.RowKit Go.Proofs.YtkeckecdhcknhaaDoor.Fm Go.Proofs.YtkeckecdhcknhaaDoor.Lx Go.Proofs.YtkeckecdhcknhaaDoor.Ps
set_option linter.unusedVariables false
set_option linter.unusedSimpArgs false
/-- What may follow what is read from a level on. -/
structure Stop (i : Nat) (rest : List Tg) : Prop where
  p : tx rest ≠ ⟨#[40]⟩
  b : tx rest ≠ ⟨#[91]⟩
  s : ∀ k, i ≤ k → k < 5 → tx rest ≠ lvS k
theorem Stop.up {i j : Nat} {rest : List Tg} (h : Stop i rest) (hj : i ≤ j) : Stop j rest := ⟨h.p, h.b, fun k h1 h2 => h.s k (Nat.le_trans hj h1) h2⟩
theorem is_eq {ts : List Tg} {s : ByteArray} (h : tx ts = s) : is ts s = true := eqB_iff.2 h
theorem is_ne {ts : List Tg} {s : ByteArray} (h : tx ts ≠ s) : is ts s = false := by
  cases hb : is ts s with
  | false => rfl
  | true => exact absurd (eqB_iff.1 hb) h
theorem eqB_no {a b : ByteArray} (h : a ≠ b) : eqB a b = false := by
  cases hb : eqB a b with
  | false => rfl
  | true => exact absurd (eqB_iff.1 hb) h
/-- Words of names. -/
theorem names_head {f t : Int} {p : Int → Bool} {s : ByteArray} (h : namesB f t p s = true) : s.size ≤ 16 ∧ ∃ c r, s.data.toList = c :: r ∧ f ≤ (c.toNat : Int) ∧ (c.toNat : Int) ≤ t ∧ (r.all fun c => p c.toNat) = true := by
  unfold namesB at h
  rw [Bool.and_eq_true, Bool.and_eq_true] at h
  obtain ⟨⟨_, h1⟩, h⟩ := h
  refine ⟨of_decide_eq_true h1, ?_⟩
  split at h
  · cases h
  · next c r e =>
    simp only [Bool.and_eq_true, decide_eq_true_eq] at h
    exact ⟨c, r, e, h.1.1, h.1.2, h.2⟩
theorem mark_head {s : ByteArray} (h : markB s = true) : ∃ r, s.data.toList = 63 :: r := by
  obtain ⟨⟨l⟩⟩ := s
  cases l with
  | nil => exact absurd rfl (markB_ne h)
  | cons c r =>
    unfold markB at h
    rw [Bool.and_eq_true, ByteArray.toList_eq] at h
    have h2 := h.2
    simp [ByteArray.data_extract] at h2
    exact ⟨r, by rw [← h2]⟩
theorem met_head {s : ByteArray} (h : metB s = true) : s.size ≤ 16 ∧ ∃ r, s.data.toList = 63 :: r := by
  unfold metB metaB at h
  rw [Bool.or_eq_true] at h
  rcases h with h | h <;> (rw [Bool.and_eq_true, Bool.and_eq_true] at h; exact ⟨of_decide_eq_true h.1.2, mark_head h.1.1⟩)
theorem unOp_no {s : ByteArray} {p : ByteArray → Bool} (h : p s = true) (h1 : p ⟨#[126]⟩ = false) (h2 : p ⟨#[91, 93]⟩ = false) (h3 : p ⟨#[60, 62]⟩ = false) (h4 : p ⟨#[110, 101, 120, 116]⟩ = false)
    (h5 : p ⟨#[97, 108, 119, 97, 121, 115]⟩ = false) (h6 : p ⟨#[97, 108, 108]⟩ = false) (h7 : p ⟨#[115, 111, 109, 101]⟩ = false) : unOp s = 0 := by
  have hn : ∀ x, p x = false → eqB s x = false := fun x hx => eqB_no (by rintro rfl; rw [h] at hx; cases hx)
  unfold unOp
  rw [hn _ h1, hn _ h2, hn _ h3, hn _ h4, hn _ h5, hn _ h6, hn _ h7]
  rfl
theorem lit_no {s x : ByteArray} {p : ByteArray → Bool} (h : p s = true) (hx : p x = false) : s ≠ x := by rintro rfl; rw [h] at hx; cases hx
theorem pred_un {s : ByteArray} (h : predB s = true) : unOp s = 0 := unOp_no h (by kernel_rfl) (by kernel_rfl) (by kernel_rfl) (by kernel_rfl) (by kernel_rfl) (by kernel_rfl) (by kernel_rfl)
theorem mf_un {s : ByteArray} (h : mfB true s = true) : unOp s = 0 := unOp_no (p := mfB true) h (by kernel_rfl) (by kernel_rfl) (by kernel_rfl) (by kernel_rfl) (by kernel_rfl) (by kernel_rfl) (by kernel_rfl)
theorem mt_met {m : Bool} {s : ByteArray} (h : mtB m s = true) : metB s = true := by unfold mtB at h; rw [Bool.and_eq_true, Bool.and_eq_true] at h; exact h.1.2
theorem mf_met {m : Bool} {s : ByteArray} (h : mfB m s = true) : metB s = true := by unfold mfB at h; rw [Bool.and_eq_true, Bool.and_eq_true] at h; exact h.1.2
theorem name_met {f t : Int} {p : Int → Bool} {s : ByteArray} (h : namesB f t p s = true) (hf : 63 < f) : metB s = false := by
  cases hm : metB s with
  | false => rfl
  | true =>
    obtain ⟨_, c, r, e, h1, _⟩ := names_head h
    obtain ⟨_, r', e'⟩ := met_head hm
    rw [e] at e'
    obtain ⟨rfl, _⟩ := List.cons.inj e'
    exact absurd h1 (by show ¬ f ≤ ((63 : UInt8).toNat : Int); have : ((63 : UInt8).toNat : Int) = 63 := rfl; omega)
theorem pred_mf {m : Bool} {s : ByteArray} (h : predB s = true) : mfB m s = false := by
  cases hm : mfB m s with
  | false => rfl
  | true => exact absurd (mf_met hm) (by rw [name_met h (by decide)]; decide)
theorem fn_names {s : ByteArray} (h : fnB s = true) : namesB 97 116 lodB s = true := by unfold fnB at h; rw [Bool.and_eq_true] at h; exact h.1
theorem fn_mt {m : Bool} {s : ByteArray} (h : fnB s = true) : mtB m s = false := by
  cases hm : mtB m s with
  | false => rfl
  | true => exact absurd (mt_met hm) (by rw [name_met (fn_names h) (by decide)]; decide)
theorem fn_var {s : ByteArray} (h : fnB s = true) : varB s = false := by
  cases hm : varB s with
  | false => rfl
  | true =>
    obtain ⟨_, c, r, e, _, h1, _⟩ := names_head (fn_names h)
    obtain ⟨_, c', r', e', h2, _⟩ := names_head hm
    rw [e] at e'
    obtain ⟨rfl, _⟩ := List.cons.inj e'
    omega
/-- A word is a piece; none is a blank. -/
abbrev Pc := List (Option ByteArray)
def wd (p : Pc) : List ByteArray := p.filterMap id
@[simp] theorem wd_nil : wd [] = [] := rfl
@[simp] theorem wd_some (a : ByteArray) (p : Pc) : wd (some a :: p) = a :: wd p := rfl
@[simp] theorem wd_none (p : Pc) : wd (none :: p) = wd p := rfl
@[simp] theorem wd_app (p q : Pc) : wd (p ++ q) = wd p ++ wd q := by unfold wd; rw [List.filterMap_append]
mutual
def tmP (c : Pc) : Tm → Pc
  | .mk _ n l => some n :: tmPA c l
def tmPA (c : Pc) : List Tm → Pc
  | [] => []
  | a :: r => some ⟨#[40]⟩ :: (tmP c a ++ (tmPR c r ++ [some ⟨#[41]⟩]))
def tmPR (c : Pc) : List Tm → Pc
  | [] => []
  | a :: r => some ⟨#[44]⟩ :: (c ++ (tmP c a ++ tmPR c r))
end
/-- Right terms whose levels are at most 40. -/
def Tm40 (lv : Int) (t : Tm) : Prop := ∀ x ∈ t.all lv, x.1 ≤ 40
theorem Tm40.head {lv : Int} {t : Tm} (h : Tm40 lv t) : lv ≤ 40 := h (lv, t) (by rw [Tm.all_eq]; exact List.mem_cons_self ..)
theorem Tm40.arg {lv : Int} {t a : Tm} (h : Tm40 lv t) (h1 : 1 ≤ lv) (ha : a ∈ t.args) : Tm40 (lv + 1) a := by
  intro x hx
  have hl := h.head
  refine h x ?_
  rw [Tm.all_eq]
  refine List.mem_cons_of_mem _ (List.mem_flatMap.2 ⟨a, ha, ?_⟩)
  rw [show wrap64 (lv + 1) = lv + 1 from wrap_id (by omega) (by omega)]
  exact hx
theorem meta_fn {s : ByteArray} (h : metaB fnB s = true) : mtB true s = true := by
  unfold mtB metB
  rw [h, Bool.or_true, Bool.true_and, Bool.true_and]
  unfold metaB at h
  rw [Bool.and_eq_true, Bool.and_eq_true] at h
  have := h.2
  unfold cutR at this
  rwa [if_pos h.1.1] at this
theorem meta_pred {s : ByteArray} (h : metaB predB s = true) : mfB true s = true := by
  unfold mfB metB
  rw [h, Bool.true_or, Bool.true_and, Bool.true_and]
  unfold metaB at h
  rw [Bool.and_eq_true, Bool.and_eq_true] at h
  have := h.2
  unfold cutR at this
  rwa [if_pos h.1.1] at this
theorem right_var {m : Bool} {n : ByteArray} {l : List Tm} (h : (Tm.mk true n l).right m = true) : l = [] ∧ (varB n || mtB m n) = true := by
  rw [Tm.right_eq] at h
  simp only [Tm.v, if_true, varT, metaT, Tm.n, Tm.args, Bool.true_and, Bool.or_eq_true, Bool.and_eq_true, decide_eq_true_eq] at h
  rcases h with ⟨h1, h2⟩ | ⟨hm, h1, h2⟩
  · exact ⟨List.eq_nil_of_length_eq_zero (of_decide_eq_true h1), by rw [h2]; rfl⟩
  · subst hm
    exact ⟨List.eq_nil_of_length_eq_zero (of_decide_eq_true h1), by rw [meta_fn h2, Bool.or_true]⟩
theorem right_fn {m : Bool} {n : ByteArray} {l : List Tm} (h : (Tm.mk false n l).right m = true) : fnB n = true ∧ l.length ≤ 4 ∧ ∀ a ∈ l, a.right m = true := by
  rw [Tm.right_eq] at h
  simp only [Tm.v, Bool.false_eq_true, if_false, Tm.n, Tm.args, Bool.and_eq_true, decide_eq_true_eq, List.all_eq_true] at h
  exact ⟨h.1.1, of_decide_eq_true h.1.2, h.2⟩
theorem map_cons {us : List Tg} {a : ByteArray} {l : List ByteArray} (h : us.map (·.t) = a :: l) : ∃ u v, us = u :: v ∧ u.t = a ∧ v.map (·.t) = l := by
  cases us with
  | nil => simp at h
  | cons u v =>
    rw [List.map_cons] at h
    obtain ⟨h1, h2⟩ := List.cons.inj h
    exact ⟨u, v, rfl, h1, h2⟩
theorem map_app {us : List Tg} {a l : List ByteArray} (h : us.map (·.t) = a ++ l) : ∃ u v, us = u ++ v ∧ u.map (·.t) = a ∧ v.map (·.t) = l := by
  obtain ⟨u, v, h1, h2, h3⟩ := List.map_eq_append_iff.1 h
  exact ⟨u, v, h1, h2, h3⟩
theorem map_nil {us : List Tg} (h : us.map (·.t) = []) : us = [] := List.map_eq_nil_iff.1 h
theorem tx_cons (u : Tg) (r : List Tg) : tx (u :: r) = u.t := rfl
mutual
theorem term_txt (m : Bool) (c : Pc) (hc : wd c = []) : ∀ (t : Tm) (lv : Int) (n : Nat) (us rest : List Tg), t.right m = true → Tm40 lv t → 1 ≤ lv → (n : Int) + (40 - lv) ≤ 120 → us.map (·.t) = wd (tmP c t) → tx rest ≠ ⟨#[40]⟩ →
    termC m n (us ++ rest) = .ok t rest
  | .mk true nm l, lv, n, us, rest, hr, h40, h1, hn, hu, hp => by
    obtain ⟨rfl, hv⟩ := right_var hr
    have hl := h40.head
    rw [tmP, tmPA, wd_some, wd_nil] at hu
    obtain ⟨u, v, rfl, rfl, hv2⟩ := map_cons hu
    obtain rfl := map_nil hv2
    rw [termC_eq, if_neg (by omega)]
    show (if (varB u.t || mtB m u.t) = true then R.ok (Tm.mk true u.t []) rest else _) = _
    rw [if_pos hv]
  | .mk false nm l, lv, n, us, rest, hr, h40, h1, hn, hu, hp => by
    obtain ⟨hf, h4, hl⟩ := right_fn hr
    have hlv := h40.head
    rw [tmP, wd_some] at hu
    obtain ⟨u, v, rfl, rfl, hv⟩ := map_cons hu
    rw [termC_eq, if_neg (by omega)]
    show (if (varB u.t || mtB m u.t) = true then _ else if fnB u.t = true then (argsC m n (v ++ rest)).bind fun l r => R.ok (Tm.mk false u.t l) r else _) = _
    rw [fn_var hf, fn_mt hf, if_neg (by decide), if_pos hf, args_txt m c hc l lv n v rest hl (fun a ha => h40.arg h1 ha) h1 hlv hn hv hp]
    rfl
theorem args_txt (m : Bool) (c : Pc) (hc : wd c = []) : ∀ (l : List Tm) (lv : Int) (n : Nat) (us rest : List Tg), (∀ a ∈ l, a.right m = true) → (∀ a ∈ l, Tm40 (lv + 1) a) → 1 ≤ lv → lv ≤ 40 → (n : Int) + (40 - lv) ≤ 120 → us.map (·.t) = wd (tmPA c l) → tx rest ≠ ⟨#[40]⟩ →
    argsC m n (us ++ rest) = .ok l rest
  | [], lv, n, us, rest, hr, h40, h1, hlv, hn, hu, hp => by
    rw [tmPA, wd_nil] at hu
    obtain rfl := map_nil hu
    rw [List.nil_append, argsC_eq, is_ne hp]
    rfl
  | a :: l, lv, n, us, rest, hr, h40, h1, hlv, hn, hu, hp => by
    rw [tmPA, wd_some, wd_app, wd_app, wd_some, wd_nil] at hu
    obtain ⟨u, v, rfl, hu1, hv⟩ := map_cons hu
    obtain ⟨va, vb, rfl, hva, hvb⟩ := map_app hv
    obtain ⟨vc, vd, rfl, hvc, hvd⟩ := map_app hvb
    obtain ⟨w, x, rfl, hw, hx⟩ := map_cons hvd
    obtain rfl := map_nil hx
    have ha := h40 a (List.mem_cons_self ..)
    have hal := ha.head
    have e1 : u :: (va ++ (vc ++ [w])) ++ rest = u :: (va ++ (vc ++ (w :: rest))) := by simp
    have hne : tx (vc ++ (w :: rest)) ≠ ⟨#[40]⟩ := by
      cases l with
      | nil => rw [tmPR, wd_nil] at hvc; obtain rfl := map_nil hvc; rw [List.nil_append, tx_cons, hw]; decide
      | cons b l => rw [tmPR, wd_some] at hvc; obtain ⟨y, z, rfl, hy, _⟩ := map_cons hvc; rw [List.cons_append, tx_cons, hy]; decide
    rw [e1, argsC_eq, is_eq (by rw [tx_cons]; exact hu1), if_pos rfl]
    show (listC m (n + 1) (va ++ (vc ++ w :: rest))).bind _ = _
    rw [listC_eq, term_txt m c hc a (lv + 1) (n + 1) va _ (hr a (List.mem_cons_self ..)) ha (by omega) (by push_cast; omega) hva hne]
    show (moreC m (n + 1) [a] (vc ++ w :: rest)).bind _ = _
    rw [more_txt m c hc l [a] (lv + 1) (n + 1) vc (w :: rest) (fun b hb => hr b (List.mem_cons_of_mem _ hb)) (fun b hb => h40 b (List.mem_cons_of_mem _ hb)) (by omega) (by push_cast; omega) hvc (by rw [tx_cons, hw]; decide) (by rw [tx_cons, hw]; decide)]
    show (if is (w :: rest) ⟨#[41]⟩ = true then R.ok ([a] ++ l) rest else _) = _
    rw [if_pos (is_eq (by rw [tx_cons]; exact hw))]
    rfl
theorem more_txt (m : Bool) (c : Pc) (hc : wd c = []) : ∀ (l acc : List Tm) (lv : Int) (n : Nat) (us rest : List Tg), (∀ a ∈ l, a.right m = true) → (∀ a ∈ l, Tm40 lv a) → 1 ≤ lv → (n : Int) + (40 - lv) ≤ 120 → us.map (·.t) = wd (tmPR c l) → tx rest ≠ ⟨#[40]⟩ → tx rest ≠ ⟨#[44]⟩ →
    moreC m n acc (us ++ rest) = .ok (acc ++ l) rest
  | [], acc, lv, n, us, rest, hr, h40, h1, hn, hu, hp, hq => by
    rw [tmPR, wd_nil] at hu
    obtain rfl := map_nil hu
    rw [List.nil_append, moreC_eq, is_ne hq, List.append_nil]
    rfl
  | a :: l, acc, lv, n, us, rest, hr, h40, h1, hn, hu, hp, hq => by
    rw [tmPR, wd_some, wd_app, wd_app, hc, List.nil_append] at hu
    obtain ⟨u, v, rfl, hu1, hv⟩ := map_cons hu
    obtain ⟨va, vb, rfl, hva, hvb⟩ := map_app hv
    have ha := h40 a (List.mem_cons_self ..)
    have hal := ha.head
    have hne : tx (vb ++ rest) ≠ ⟨#[40]⟩ := by
      cases l with
      | nil => rw [tmPR, wd_nil] at hvb; obtain rfl := map_nil hvb; exact hp
      | cons b l => rw [tmPR, wd_some] at hvb; obtain ⟨y, z, rfl, hy, _⟩ := map_cons hvb; rw [List.cons_append, tx_cons, hy]; decide
    rw [moreC_eq, is_eq (by rw [List.cons_append, tx_cons]; exact hu1), if_pos rfl]
    show (termC m n (va ++ vb ++ rest)).bind _ = _
    rw [List.append_assoc, term_txt m c hc a lv n va _ (hr a (List.mem_cons_self ..)) ha h1 hn hva hne]
    show moreC m n (acc ++ [a]) (vb ++ rest) = _
    rw [more_txt m c hc l (acc ++ [a]) lv n vb rest (fun b hb => hr b (List.mem_cons_of_mem _ hb)) (fun b hb => h40 b (List.mem_cons_of_mem _ hb)) h1 hn hvb hp hq, List.append_assoc]
    rfl
end
/-- The words of a formula at a level, with the depth that it takes. -/
inductive TxF (m : Bool) : Nat → Nat → Fo → List ByteArray → Prop
  | up {i d f xs} : i < 5 → TxF m (i + 1) d f xs → TxF m i d f xs
  | lef {i d f g xs ys} : i < 5 → lvR i = false → TxF m i d f xs → TxF m (i + 1) d g ys → TxF m i d (two (lvO i) f g) (xs ++ lvS i :: ys)
  | rig {i d f g xs ys} : i < 5 → lvR i = true → TxF m (i + 1) (d + 1) f xs → TxF m i d g ys → TxF m i (d + 1) (two (lvO i) f g) (xs ++ lvS i :: ys)
  | una {d f xs s} : unOp s ≠ 0 → unOp s ≠ 8 → unOp s ≠ 9 → TxF m 5 d f xs → TxF m 5 (d + 1) (.mk (unOp s) ⟨#[]⟩ [] [f]) (s :: xs)
  | qua {d f xs s x} : (unOp s = 8 ∨ unOp s = 9) → varB x = true → TxF m 5 d f xs → TxF m 5 (d + 1) (.mk (unOp s) x [] [f]) (s :: x :: xs)
  | bra {d f xs} : TxF m 0 d f xs → TxF m 5 (d + 1) f (⟨#[40]⟩ :: (xs ++ [⟨#[41]⟩]))
  | fal {d} : TxF m 5 d (.mk 2 ⟨#[]⟩ [] []) [⟨#[102, 97, 108, 115, 101]⟩]
  | met {d n} : m = true → mfB m n = true → TxF m 5 d (.mk 15 n [] []) [n]
  | ins {d n t x} : m = true → mfB m n = true → mtB m t = true → varB x = true → TxF m 5 d (.mk 16 n [.mk true x [], .mk true t []] []) [n, ⟨#[91]⟩, t, ⟨#[47]⟩, x, ⟨#[93]⟩]
  | ato {d : Nat} {n l c} {lv : Int} : predB n = true → wd c = [] → (∀ a ∈ l, a.right m = true) → (∀ a ∈ l, Tm40 (lv + 1) a) → 1 ≤ lv → lv ≤ 40 → 40 - lv ≤ (d : Int) → TxF m 5 d (.mk 1 n l []) (n :: wd (tmPA c l))
  | deep {i d e f xs} : d ≤ e → TxF m i d f xs → TxF m i e f xs
def TxQ (m : Bool) (i d : Nat) (f : Fo) (xs : List ByteArray) : Prop := ∀ (n : Nat) (us rest : List Tg), us.map (·.t) = xs → n + d ≤ 120 →
  (Stop i rest → binC m i n (us ++ rest) = .ok f rest) ∧ (i < 5 → lvR i = false → Stop (i + 1) rest → binC m i n (us ++ rest) = chC m i n f rest)
theorem ch_stop {m : Bool} {i n : Nat} {f : Fo} {rest : List Tg} (hi : i < 5) (h : Stop i rest) : chC m i n f rest = .ok f rest := by
  rw [chC_eq m i n f rest hi, is_ne (h.s i (Nat.le_refl _) hi)]
  rfl
theorem stop_sign {i k : Nat} (u : Tg) (r : List Tg) (hi : i < 5) (hu : u.t = lvS i) (hk : i < k) : Stop k (u :: r) := by
  refine ⟨?_, ?_, fun j h1 h2 => ?_⟩ <;> rw [tx_cons, hu]
  · rcases (by omega : i = 0 ∨ i = 1 ∨ i = 2 ∨ i = 3 ∨ i = 4) with rfl | rfl | rfl | rfl | rfl <;> decide
  · rcases (by omega : i = 0 ∨ i = 1 ∨ i = 2 ∨ i = 3 ∨ i = 4) with rfl | rfl | rfl | rfl | rfl <;> decide
  · rcases (by omega : i = 0 ∨ i = 1 ∨ i = 2 ∨ i = 3 ∨ i = 4) with rfl | rfl | rfl | rfl | rfl <;>
    rcases (by omega : j = 0 ∨ j = 1 ∨ j = 2 ∨ j = 3 ∨ j = 4) with rfl | rfl | rfl | rfl | rfl <;> first | omega | decide
theorem five {m : Bool} {d : Nat} {f : Fo} {xs : List ByteArray} (h : ∀ (n : Nat) (us rest : List Tg), us.map (·.t) = xs → n + d ≤ 120 → Stop 5 rest → unC m n (us ++ rest) = .ok f rest) : TxQ m 5 d f xs := by
  intro n us rest hu hn
  refine ⟨fun hs => by rw [binC_un]; exact h n us rest hu hn hs, fun h => absurd h (by omega)⟩
theorem bas {m : Bool} {n : Nat} {ts : List Tg} {x : R Fo} (hn : n ≤ 120) (hu : unOp (tx ts) = 0) (h : basC m n ts = x) : unC m n ts = x := by
  rw [unC_eq, if_neg (by omega), if_pos hu, h]
theorem mf_true {m : Bool} {s : ByteArray} (hm : m = true) (h : mfB m s = true) : mfB true s = true := by subst hm; exact h
theorem txt_read {m : Bool} {i d : Nat} {f : Fo} {xs : List ByteArray} (h : TxF m i d f xs) : TxQ m i d f xs := by
  induction h with
  | @up i d f xs hi _ ih =>
    intro n us rest hu hn
    have h2 : lvR i = false → Stop (i + 1) rest → binC m i n (us ++ rest) = chC m i n f rest := by
      intro hr hs
      rw [binC_eq m i n _ hi, (ih n us rest hu hn).1 hs]
      show (if lvR i = true then _ else _) = _
      rw [hr]
      rfl
    refine ⟨fun hs => ?_, fun _ => h2⟩
    cases hr : lvR i with
    | false => rw [h2 hr (hs.up (by omega)), ch_stop hi hs]
    | true =>
      rw [binC_eq m i n _ hi, (ih n us rest hu hn).1 (hs.up (by omega))]
      show (if lvR i = true then (if is rest (lvS i) = true then _ else R.ok f rest) else _) = _
      rw [hr, if_pos rfl, is_ne (hs.s i (Nat.le_refl _) hi)]
      rfl
  | @lef i d f g xs ys hi hr _ _ ihf ihg =>
    intro n us rest hu hn
    obtain ⟨ua, ub, rfl, hua, hub⟩ := map_app hu
    obtain ⟨u, v, rfl, hu1, hv⟩ := map_cons hub
    have h2 : Stop (i + 1) rest → binC m i n (ua ++ u :: v ++ rest) = chC m i n (two (lvO i) f g) rest := by
      intro hs
      rw [List.append_assoc, List.cons_append, (ihf n ua (u :: (v ++ rest)) hua hn).2 hi hr (stop_sign u _ hi hu1 (by omega)), chC_eq m i n f _ hi, is_eq (by rw [tx_cons]; exact hu1), if_pos rfl]
      show (binC m (i + 1) n (v ++ rest)).bind _ = _
      rw [(ihg n v rest hv hn).1 hs]
      rfl
    refine ⟨fun hs => ?_, fun _ _ => h2⟩
    rw [h2 (hs.up (by omega)), ch_stop hi hs]
  | @rig i d f g xs ys hi hr _ _ ihf ihg =>
    intro n us rest hu hn
    obtain ⟨ua, ub, rfl, hua, hub⟩ := map_app hu
    obtain ⟨u, v, rfl, hu1, hv⟩ := map_cons hub
    refine ⟨fun hs => ?_, fun _ h => by rw [hr] at h; cases h⟩
    rw [List.append_assoc, List.cons_append, binC_eq m i n _ hi, (ihf n ua (u :: (v ++ rest)) hua hn).1 (stop_sign u _ hi hu1 (by omega))]
    show (if lvR i = true then (if is (u :: (v ++ rest)) (lvS i) = true then (binC m i (n + 1) (v ++ rest)).bind _ else _) else _) = _
    rw [hr, if_pos rfl, is_eq (by rw [tx_cons]; exact hu1), if_pos rfl, (ihg (n + 1) v rest hv (by omega)).1 hs]
    rfl
  | @una d f xs s h0 h8 h9 _ ih =>
    refine five fun n us rest hu hn hs => ?_
    obtain ⟨u, v, rfl, rfl, hv⟩ := map_cons hu
    rw [List.cons_append, unC_eq, if_neg (by omega), tx_cons, if_neg h0, if_neg (by rintro (h | h); exact h8 h; exact h9 h)]
    show (unC m (n + 1) (v ++ rest)).bind _ = _
    rw [← binC_un, (ih (n + 1) v rest hv (by omega)).1 hs]
    rfl
  | @qua d f xs s x h8 hx _ ih =>
    refine five fun n us rest hu hn hs => ?_
    obtain ⟨u, v, rfl, rfl, hv⟩ := map_cons hu
    obtain ⟨y, v, rfl, rfl, hv2⟩ := map_cons hv
    rw [List.cons_append, List.cons_append, unC_eq, if_neg (by omega), tx_cons, if_neg (by rcases h8 with h | h <;> rw [h] <;> decide), if_pos h8]
    show (if varB y.t = true then (unC m (n + 1) (v ++ rest)).bind _ else _) = _
    rw [if_pos hx, ← binC_un, (ih (n + 1) v rest hv2 (by omega)).1 hs]
    rfl
  | @bra d f xs _ ih =>
    refine five fun n us rest hu hn hs => ?_
    obtain ⟨u, v, rfl, hu1, hv⟩ := map_cons hu
    obtain ⟨va, vb, rfl, hva, hvb⟩ := map_app hv
    obtain ⟨w, x, rfl, hw, hx⟩ := map_cons hvb
    obtain rfl := map_nil hx
    have e1 : u :: (va ++ [w]) ++ rest = u :: (va ++ (w :: rest)) := by simp
    refine bas (by omega) (by rw [List.cons_append, tx_cons, hu1]; kernel_rfl) ?_
    rw [e1, basC_eq, is_eq (by rw [tx_cons]; exact hu1), if_pos rfl]
    show (binC m 0 (n + 1) (va ++ w :: rest)).bind _ = _
    rw [(ih (n + 1) va (w :: rest) hva (by omega)).1 ⟨by rw [tx_cons, hw]; decide, by rw [tx_cons, hw]; decide, fun k _ hk => by
      rw [tx_cons, hw]
      rcases (by omega : k = 0 ∨ k = 1 ∨ k = 2 ∨ k = 3 ∨ k = 4) with rfl | rfl | rfl | rfl | rfl <;> decide⟩]
    show (if is (w :: rest) ⟨#[41]⟩ = true then R.ok f rest else _) = _
    rw [if_pos (is_eq (by rw [tx_cons]; exact hw))]
  | @fal d =>
    refine five fun n us rest hu hn hs => ?_
    obtain ⟨u, v, rfl, hu1, hv⟩ := map_cons hu
    obtain rfl := map_nil hv
    refine bas (by omega) (by rw [List.cons_append, tx_cons, hu1]; kernel_rfl) ?_
    rw [List.cons_append, basC_eq, is_ne (by rw [tx_cons, hu1]; decide), if_neg (by decide), is_eq (by rw [tx_cons]; exact hu1), if_pos rfl]
    rfl
  | @met d n' hm hf =>
    refine five fun n us rest hu hn hs => ?_
    obtain ⟨u, v, rfl, rfl, hv⟩ := map_cons hu
    obtain rfl := map_nil hv
    refine bas (by omega) (mf_un (mf_true hm hf)) ?_
    rw [List.cons_append, basC_eq, is_ne (by rw [tx_cons]; exact lit_no (mf_true hm hf) (by kernel_rfl)), if_neg (by decide), is_ne (by rw [tx_cons]; exact lit_no (mf_true hm hf) (by kernel_rfl)), if_neg (by decide), tx_cons, if_pos hf]
    unfold metaP metaQ
    show (if is rest ⟨#[91]⟩ = true then _ else R.ok (Fo.mk 15 u.t [] []) rest) = _
    rw [is_ne hs.b]
    rfl
  | @ins d n' t x hm hf ht hx =>
    refine five fun n us rest hu hn hs => ?_
    obtain ⟨u, v, rfl, rfl, hv⟩ := map_cons hu
    obtain ⟨u1, v1, rfl, hu1, hv1⟩ := map_cons hv
    obtain ⟨u2, v2, rfl, rfl, hv2⟩ := map_cons hv1
    obtain ⟨u3, v3, rfl, hu3, hv3⟩ := map_cons hv2
    obtain ⟨u4, v4, rfl, rfl, hv4⟩ := map_cons hv3
    obtain ⟨u5, v5, rfl, hu5, hv5⟩ := map_cons hv4
    obtain rfl := map_nil hv5
    refine bas (by omega) (mf_un (mf_true hm hf)) ?_
    show basC m n (u :: u1 :: u2 :: u3 :: u4 :: u5 :: rest) = _
    rw [basC_eq, is_ne (by rw [tx_cons]; exact lit_no (mf_true hm hf) (by kernel_rfl)), if_neg (by decide), is_ne (by rw [tx_cons]; exact lit_no (mf_true hm hf) (by kernel_rfl)), if_neg (by decide), tx_cons, if_pos hf]
    unfold metaP metaQ
    show (if is (u1 :: u2 :: u3 :: u4 :: u5 :: rest) ⟨#[91]⟩ = true then metaA m u.t (u2 :: u3 :: u4 :: u5 :: rest) else _) = _
    rw [if_pos (is_eq (by rw [tx_cons]; exact hu1))]
    unfold metaA
    rw [tx_cons, if_pos ht]
    show metaS u.t u2.t (u3 :: u4 :: u5 :: rest) = _
    unfold metaS
    rw [if_pos (is_eq (by rw [tx_cons]; exact hu3))]
    show metaE u.t u2.t (u4 :: u5 :: rest) = _
    unfold metaE
    rw [tx_cons, if_pos hx]
    show metaD u.t u2.t u4.t (u5 :: rest) = _
    unfold metaD
    rw [if_pos (is_eq (by rw [tx_cons]; exact hu5))]
    rfl
  | @ato d n' l c lv hp hc hr h40 h1 hlv hd =>
    refine five fun n us rest hu hn hs => ?_
    obtain ⟨u, v, rfl, rfl, hv⟩ := map_cons hu
    refine bas (by omega) (pred_un hp) ?_
    rw [List.cons_append, basC_eq, is_ne (by rw [tx_cons]; exact lit_no hp (by kernel_rfl)), if_neg (by decide), is_ne (by rw [tx_cons]; exact lit_no hp (by kernel_rfl)), if_neg (by decide), tx_cons, pred_mf hp, if_neg (by decide), if_pos hp]
    show (argsC m n (v ++ rest)).bind _ = _
    rw [args_txt m c hc l lv n v rest hr h40 h1 hlv (by omega) hv hs.p]
    rfl
  | @deep i d e f xs hde _ ih => exact fun n us rest hu hn => ih n us rest hu (by omega)
end Go.Proofs.YtkeckecdhcknhaaDoor.Ft

/-
  The text of a right formula or schema, with brackets where they are asked for: the grammar reads it so.
-/
namespace Go.Proofs.YtkeckecdhcknhaaDoor.Ft
open Go Go.RowKit Go.Proofs.YtkeckecdhcknhaaDoor.Fm Go.Proofs.YtkeckecdhcknhaaDoor.Lx Go.Proofs.YtkeckecdhcknhaaDoor.Ps
set_option linter.unusedVariables false
set_option linter.unusedSimpArgs false
theorem emp {s : ByteArray} (h : s.toList.isEmpty = true) : s = ⟨#[]⟩ := by
  obtain ⟨⟨l⟩⟩ := s
  rw [ByteArray.toList_eq] at h
  cases l with
  | nil => rfl
  | cons a r => cases h
theorem len0 {α : Type} {l : List α} (h : (l.length : Int) = 0) : l = [] := List.eq_nil_of_length_eq_zero (by omega)
theorem len1 {α : Type} {l : List α} (h : (l.length : Int) = 1) : ∃ a, l = [a] := List.length_eq_one_iff.1 (by omega)
theorem len2 {α : Type} {l : List α} (h : (l.length : Int) = 2) : ∃ a b, l = [a, b] := by
  match l, h with
  | [a, b], _ => exact ⟨a, b, rfl⟩
/-- What right nodes look like. -/
inductive Shp (m : Bool) : Fo → Prop
  | ato {n a} : predB n = true → (a : List Tm).length ≤ 4 → (∀ t ∈ a, t.right m = true) → Shp m (.mk 1 n a [])
  | fal : Shp m (.mk 2 ⟨#[]⟩ [] [])
  | met {n} : m = true → mfB true n = true → Shp m (.mk 15 n [] [])
  | ins {n t x} : m = true → mfB true n = true → mtB true t = true → varB x = true → Shp m (.mk 16 n [.mk true x [], .mk true t []] [])
  | qua {o n g} : o = 8 ∨ o = 9 → varB n = true → Shp m (.mk o n [] [g])
  | una {o g} : o = 3 ∨ o = 10 ∨ o = 11 ∨ o = 12 ∨ o = 13 → Shp m (.mk o ⟨#[]⟩ [] [g])
  | bin {o g h} : o = 4 ∨ o = 5 ∨ o = 6 ∨ o = 7 ∨ o = 14 → Shp m (.mk o ⟨#[]⟩ [] [g, h])
theorem head_row {m : Bool} {f : Fo} (h : headB m f = true) : ((rowOf f.op).schema = true → m = true) ∧ nameB (rowOf f.op).name f.n = true ∧ (f.sub.length : Int) = (rowOf f.op).sub ∧ (rowOf f.op).least ≤ (f.args.length : Int) ∧ (f.args.length : Int) ≤ (rowOf f.op).most := by
  rw [headB_eq] at h
  simp only [Bool.and_eq_true, Bool.not_eq_true', bne_eq_false_iff_eq, decide_eq_false_iff_not] at h
  obtain ⟨⟨⟨⟨h1, h2⟩, h3⟩, h4⟩, h5⟩ := h
  refine ⟨fun hs => ?_, h2, h3, by omega, by omega⟩
  rw [hs] at h1
  cases m with
  | true => rfl
  | false => cases h1
theorem shape {m : Bool} {f : Fo} (hop : 0 ≤ f.op) (h : satB m f = true) : Shp m f := by
  unfold satB at h
  rw [Bool.and_eq_true] at h
  obtain ⟨hh, ht⟩ := h
  obtain ⟨h1, h2, h3, h4, h5⟩ := head_row hh
  obtain ⟨o, n, a, s⟩ := f
  simp only [Fo.op, Fo.n, Fo.args, Fo.sub] at *
  have hk : o = 0 ∨ o = 1 ∨ o = 2 ∨ o = 3 ∨ o = 4 ∨ o = 5 ∨ o = 6 ∨ o = 7 ∨ o = 8 ∨ o = 9 ∨ o = 10 ∨ o = 11 ∨ o = 12 ∨ o = 13 ∨ o = 14 ∨ o = 15 ∨ o = 16 ∨ 17 ≤ o := by omega
  rcases hk with rfl | rfl | rfl | rfl | rfl | rfl | rfl | rfl | rfl | rfl | rfl | rfl | rfl | rfl | rfl | rfl | rfl | hk
  · exact absurd h2 (by simp [rowOf, rowsL, nameB])
  · have h2 : predB n = true := h2
    have h5 : (a.length : Int) ≤ 4 := h5
    obtain rfl := len0 h3
    have ht : (a.all fun t => t.right m) = true := ht
    exact .ato h2 (by omega) (List.all_eq_true.1 ht)
  · have h5 : (a.length : Int) ≤ 0 := h5
    obtain rfl := len0 h3
    obtain rfl : a = [] := len0 (by omega)
    obtain rfl := emp h2
    exact .fal
  all_goals try (
    have h5 : (a.length : Int) ≤ 0 := h5
    obtain ⟨g, rfl⟩ := len1 h3
    obtain rfl : a = [] := len0 (by omega)
    obtain rfl := emp h2
    exact .una (by omega))
  all_goals try (
    have h5 : (a.length : Int) ≤ 0 := h5
    obtain ⟨g, g', rfl⟩ := len2 h3
    obtain rfl : a = [] := len0 (by omega)
    obtain rfl := emp h2
    exact .bin (by omega))
  all_goals try (
    have h5 : (a.length : Int) ≤ 0 := h5
    obtain ⟨g, rfl⟩ := len1 h3
    obtain rfl : a = [] := len0 (by omega)
    exact .qua (by omega) h2)
  · have h5 : (a.length : Int) ≤ 0 := h5
    obtain rfl := len0 h3
    obtain rfl : a = [] := len0 (by omega)
    exact .met (h1 rfl) (meta_pred h2)
  · obtain rfl := len0 h3
    have h4 : 2 ≤ (a.length : Int) := h4
    have h5 : (a.length : Int) ≤ 2 := h5
    obtain ⟨x, t, rfl⟩ : ∃ x t, a = [x, t] := len2 (by omega)
    have ht : (varT x && metaT t) = true := ht
    obtain ⟨xv, xn, xa⟩ := x
    obtain ⟨tv, tn, ta⟩ := t
    simp only [varT, metaT, Tm.v, Tm.n, Tm.args, Bool.and_eq_true, decide_eq_true_eq] at ht
    obtain ⟨⟨⟨rfl, hx⟩, hx2⟩, ⟨rfl, ht1⟩, ht2⟩ := ht
    obtain rfl := List.eq_nil_of_length_eq_zero (of_decide_eq_true hx)
    obtain rfl := List.eq_nil_of_length_eq_zero (of_decide_eq_true ht1)
    exact .ins (h1 rfl) (meta_pred h2) (meta_fn ht2) hx2
  · have : rowOf o = ⟨0, 0, 0, 0, false⟩ := by unfold rowOf; rw [List.getElem?_eq_none (by show 17 ≤ o.toNat; omega)]; rfl
    rw [this] at h2
    exact absurd h2 (by simp [nameB])
/-- Everything in a formula is right, and no level is beyond 40. -/
def FoK (m : Bool) (lv : Int) (f : Fo) : Prop := ∀ x ∈ f.all lv, satB m x.2 = true ∧ 0 ≤ x.2.op ∧ x.1 ≤ 40 ∧ ∀ t ∈ x.2.args, Tm40 (wrap64 (x.1 + 1)) t
theorem FoK.head {m : Bool} {lv : Int} {f : Fo} (h : FoK m lv f) : satB m f = true ∧ 0 ≤ f.op ∧ lv ≤ 40 ∧ ∀ t ∈ f.args, Tm40 (wrap64 (lv + 1)) t := h (lv, f) (by rw [Fo.all_eq]; exact List.mem_cons_self ..)
theorem FoK.sub {m : Bool} {lv : Int} {f g : Fo} (h : FoK m lv f) (h1 : 1 ≤ lv) (hg : g ∈ f.sub) : FoK m (lv + 1) g := by
  intro x hx
  have hl := h.head.2.2.1
  refine h x ?_
  rw [Fo.all_eq]
  refine List.mem_cons_of_mem _ (List.mem_flatMap.2 ⟨g, hg, ?_⟩)
  rw [show wrap64 (lv + 1) = lv + 1 from wrap_id (by omega) (by omega)]
  exact hx
/-- All operators are numbers from 0 on (bytes). -/
def OpsOk (f : Fo) : Prop := ∀ x ∈ f.all 1, 0 ≤ x.2.op
theorem fok_right {m : Bool} {f : Fo} (h : rightB m f = true) (ho : OpsOk f) : FoK m 1 f := by
  unfold rightB fitsB levelsL at h
  rw [Bool.and_eq_true, Bool.and_eq_true] at h
  obtain ⟨⟨_, h2⟩, h3⟩ := h
  unfold allB at h3
  rw [List.all_eq_true] at h2 h3
  intro x hx
  refine ⟨h3 x hx, ho x hx, ?_, fun t ht y hy => ?_⟩
  · exact of_decide_eq_true (h2 x.1 (List.mem_append_left _ (List.mem_map.2 ⟨x, hx, rfl⟩)))
  · refine of_decide_eq_true (h2 y.1 (List.mem_append_right _ (List.mem_map.2 ⟨y, ?_, rfl⟩)))
    exact List.mem_flatMap.2 ⟨x, hx, List.mem_flatMap.2 ⟨t, ht, hy⟩⟩
theorem FoK.shape {m : Bool} {lv : Int} {f : Fo} (h : FoK m lv f) : Shp m f := Ft.shape h.head.2.1 h.head.1
/-- How strongly an operator binds; its sign; whether it is grouped from the right. -/
def str (o : Int) : Nat := if o = 7 then 1 else if o = 6 then 2 else if o = 14 then 3 else if o = 5 then 4 else if o = 4 then 5 else 6
def frR (o : Int) : Bool := o == 6 || o == 14
def sgW (o : Int) : ByteArray := if o = 3 then ⟨#[126]⟩ else if o = 4 then ⟨#[38]⟩ else if o = 5 then ⟨#[124]⟩ else if o = 6 then ⟨#[45, 62]⟩ else if o = 7 then ⟨#[60, 45, 62]⟩ else if o = 8 then ⟨#[97, 108, 108]⟩ else
  if o = 9 then ⟨#[115, 111, 109, 101]⟩ else if o = 10 then ⟨#[91, 93]⟩ else if o = 11 then ⟨#[60, 62]⟩ else if o = 12 then ⟨#[110, 101, 120, 116]⟩ else if o = 13 then ⟨#[97, 108, 119, 97, 121, 115]⟩ else ⟨#[117, 110, 116, 105, 108]⟩
def needB (F : Fo) (i : Nat) (g : Fo) : Bool := if str F.op ≠ str g.op then decide (str g.op < str F.op) else frR F.op == (i == 0)
/-- A way to write: what is behind commas, and which signs have a blank behind them. -/
structure Sty where
  c : Pc
  sp : Int → Bool
def basP (c : Pc) (o : Int) (n : ByteArray) (a : List Tm) : Pc :=
  if o = 2 then [some ⟨#[102, 97, 108, 115, 101]⟩] else if o = 16 then (match a with
    | x :: t :: _ => [some n, some ⟨#[91]⟩, some t.n, some ⟨#[47]⟩, some x.n, some ⟨#[93]⟩]
    | _ => []) else some n :: tmPA c a
def par (b : Bool) (p : Pc) : Pc := if b then some ⟨#[40]⟩ :: (p ++ [some ⟨#[41]⟩]) else p
def aheadP (s : Sty) (o : Int) (n : ByteArray) : Pc := some (sgW o) :: ((if s.sp o then [none] else []) ++ (if n.size = 0 then [] else [some n, none]))
def foP (s : Sty) (br : Fo → Nat → Bool) : Fo → Pc
  | .mk o n a [] => basP s.c o n a
  | .mk o n a [g] => aheadP s o n ++ par (br (.mk o n a [g]) 0) (foP s br g)
  | .mk o n a (g :: h :: r) => par (br (.mk o n a (g :: h :: r)) 0) (foP s br g) ++ (none :: some (sgW o) :: none :: par (br (.mk o n a (g :: h :: r)) 1) (foP s br h))
theorem ups {m : Bool} {j d : Nat} {f : Fo} {xs : List ByteArray} : ∀ {i : Nat}, TxF m i d f xs → j ≤ i → i ≤ 5 → TxF m j d f xs := by
  intro i
  induction i with
  | zero => intro h hj _; rw [Nat.le_zero.1 hj]; exact h
  | succ i ih =>
    intro h hj hi
    by_cases he : j = i + 1
    · rw [he]; exact h
    · exact ih (.up (by omega) h) (by omega) (by omega)
/-- A part, in brackets or not, stands where a level is asked for. -/
theorem part_txt {m : Bool} {i j d : Nat} {g : Fo} {p : Pc} {b : Bool} (h : TxF m i d g (wd p)) (hi : i ≤ 5) (hj : j ≤ 5) (hb : b = false → j ≤ i) : TxF m j (d + 1) g (wd (par b p)) := by
  cases b with
  | true =>
    show TxF m j (d + 1) g (wd (some ⟨#[40]⟩ :: (p ++ [some ⟨#[41]⟩])))
    rw [wd_some, wd_app, wd_some, wd_nil]
    exact ups (.bra (ups h (Nat.zero_le _) hi)) hj (Nat.le_refl _)
  | false => exact .deep (by omega) (ups h (hb rfl) hi)
theorem str_le (o : Int) : 1 ≤ str o ∧ str o ≤ 6 := by
  unfold str
  repeat' split
  all_goals omega
theorem un_sg {o : Int} (h : o = 3 ∨ o = 10 ∨ o = 11 ∨ o = 12 ∨ o = 13 ∨ o = 8 ∨ o = 9) : unOp (sgW o) = o ∧ str o = 6 := by
  rcases h with rfl | rfl | rfl | rfl | rfl | rfl | rfl <;> exact ⟨by kernel_rfl, by decide⟩
theorem lv_op {o : Int} (h : o = 4 ∨ o = 5 ∨ o = 6 ∨ o = 7 ∨ o = 14) : str o - 1 < 5 ∧ lvO (str o - 1) = o ∧ lvS (str o - 1) = sgW o ∧ lvR (str o - 1) = frR o := by
  rcases h with rfl | rfl | rfl | rfl | rfl <;> exact ⟨by decide, by decide, by decide, by decide⟩
theorem need_no {br : Fo → Nat → Bool} (hbr : ∀ F i g, F.sub[i]? = some g → (i = 0 ∨ str F.op < 6) → needB F i g = true → br F i = true) {F : Fo} {i : Nat} {g : Fo} (hg : F.sub[i]? = some g) (hi : i = 0 ∨ str F.op < 6) (h : br F i = false) : str F.op ≤ str g.op ∧ (str F.op = str g.op → frR F.op ≠ (i == 0)) := by
  have hn : needB F i g = false := by
    cases hb : needB F i g with
    | false => rfl
    | true => rw [hbr F i g hg hi hb] at h; cases h
  unfold needB at hn
  split at hn
  · next he => exact ⟨by have := of_decide_eq_false hn; omega, fun h => absurd h he⟩
  · next he =>
    have he : str F.op = str g.op := Classical.not_not.1 he
    refine ⟨by omega, fun _ h => ?_⟩
    rw [h] at hn
    simp at hn
theorem fo_txt (m : Bool) (s : Sty) (hc : wd s.c = []) (br : Fo → Nat → Bool) (hbr : ∀ F i g, F.sub[i]? = some g → (i = 0 ∨ str F.op < 6) → needB F i g = true → br F i = true) (N : Nat) : ∀ (f : Fo), SizeOf.sizeOf f < N → ∀ (lv : Int), FoK m lv f → 1 ≤ lv → TxF m (str f.op - 1) (2 * (41 - lv).toNat) f (wd (foP s br f)) := by
  induction N with
  | zero => exact fun f h => absurd h (Nat.not_lt_zero _)
  | succ N ih =>
    intro f hN lv hk h1
    obtain ⟨hs, hop, hl, hT⟩ := hk.head
    rw [show wrap64 (lv + 1) = lv + 1 from wrap_id (by omega) (by omega)] at hT
    have hsh := hk.shape
    have hpart : ∀ (g : Fo) (i : Nat), f.sub[i]? = some g → ∀ j, j ≤ 5 → (br f i = false → j ≤ str g.op - 1) → TxF m j (2 * (41 - lv).toNat - 1) g (wd (par (br f i) (foP s br g))) := by
      intro g i hg j hj hb
      have hgs : g ∈ f.sub := List.mem_of_getElem? hg
      have hgk := hk.sub h1 hgs
      have hgl := hgk.head.2.2.1
      have hlt : SizeOf.sizeOf g < SizeOf.sizeOf f := by
        obtain ⟨o, n, a, ss⟩ := f
        have : SizeOf.sizeOf g < SizeOf.sizeOf ss := List.sizeOf_lt_of_mem hgs
        simp only [Fo.mk.sizeOf_spec]; omega
      have h := ih g (by omega) (lv + 1) hgk (by omega)
      have hst := str_le g.op
      have h := part_txt (b := br f i) h (by omega) hj hb
      exact .deep (by omega) h
    have hd : 2 * (41 - lv).toNat = (2 * (41 - lv).toNat - 1) + 1 := by omega
    cases hsh with
    | @ato n a hp h4 ha =>
      show TxF m 5 _ _ (wd (some n :: tmPA s.c a))
      rw [wd_some]
      exact .ato hp hc ha hT h1 hl (by omega)
    | fal => exact .fal
    | met hm hn => exact .met hm (by rw [hm]; exact hn)
    | ins hm hn ht hx => exact .ins hm (by rw [hm]; exact hn) (by rw [hm]; exact ht) hx
    | @qua o n g ho hn =>
      obtain ⟨hu, h6⟩ := un_sg (o := o) (by omega)
      have hp := hpart g 0 rfl 5 (Nat.le_refl _) (fun hb => by have : str o ≤ str g.op := (need_no hbr (F := .mk o n [] [g]) (i := 0) rfl (.inl rfl) hb).1; omega)
      show TxF m (str o - 1) _ _ (wd (aheadP s o n ++ par (br (.mk o n [] [g]) 0) (foP s br g)))
      have hw : wd (aheadP s o n) = [sgW o, n] := by
        unfold aheadP
        have hne : ¬ n.size = 0 := fun h => varB_ne hn (by obtain ⟨d⟩ := n; have h : d.size = 0 := h; rw [Array.eq_empty_of_size_eq_zero h])
        rw [wd_some, wd_app, if_neg hne]
        split <;> rfl
      rw [wd_app, hw, h6, hd]
      have h8 : unOp (sgW o) = 8 ∨ unOp (sgW o) = 9 := by rw [hu]; exact ho
      have := TxF.qua h8 hn hp
      rw [hu] at this
      exact this
    | @una o g ho =>
      obtain ⟨hu, h6⟩ := un_sg (o := o) (by omega)
      have hp := hpart g 0 rfl 5 (Nat.le_refl _) (fun hb => by have : str o ≤ str g.op := (need_no hbr (F := .mk o ⟨#[]⟩ [] [g]) (i := 0) rfl (.inl rfl) hb).1; omega)
      show TxF m (str o - 1) _ _ (wd (aheadP s o ⟨#[]⟩ ++ par (br (.mk o ⟨#[]⟩ [] [g]) 0) (foP s br g)))
      have hw : wd (aheadP s o ⟨#[]⟩) = [sgW o] := by
        unfold aheadP
        have e0 : (if (⟨#[]⟩ : ByteArray).size = 0 then ([] : Pc) else [some ⟨#[]⟩, none]) = [] := if_pos rfl
        rw [wd_some, wd_app, e0]
        cases s.sp o <;> rfl
      rw [wd_app, hw, h6, hd]
      have := TxF.una (m := m) (s := sgW o) (by rw [hu]; omega) (by rw [hu]; omega) (by rw [hu]; omega) hp
      rw [hu] at this
      exact this
    | @bin o g h ho =>
      obtain ⟨h5, e1, e2, e3⟩ := lv_op ho
      have hst := str_le o
      show TxF m (str o - 1) _ _ (wd (par (br (.mk o ⟨#[]⟩ [] [g, h]) 0) (foP s br g) ++ (none :: some (sgW o) :: none :: par (br (.mk o ⟨#[]⟩ [] [g, h]) 1) (foP s br h))))
      rw [wd_app, wd_none, wd_some, wd_none]
      have hg : br (.mk o ⟨#[]⟩ [] [g, h]) 0 = false → str o ≤ str g.op ∧ (str o = str g.op → frR o ≠ true) := fun hb => need_no hbr (F := .mk o ⟨#[]⟩ [] [g, h]) (i := 0) (g := g) rfl (.inl rfl) hb
      have hh : br (.mk o ⟨#[]⟩ [] [g, h]) 1 = false → str o ≤ str h.op ∧ (str o = str h.op → frR o ≠ false) := fun hb => need_no hbr (F := .mk o ⟨#[]⟩ [] [g, h]) (i := 1) (g := h) rfl (.inr (by show str o < 6; omega)) hb
      have hsg := str_le g.op
      have hsh := str_le h.op
      cases hr : frR o with
      | false =>
        have pg := hpart g 0 rfl (str o - 1) (by omega) (fun hb => by have := (hg hb).1; omega)
        have ph := hpart h 1 rfl (str o - 1 + 1) (by omega) (fun hb => by
          have := (hh hb).1
          have h2 := (hh hb).2
          rw [hr] at h2
          by_cases he : str o = str h.op
          · exact absurd rfl (h2 he)
          · omega)
        have := TxF.lef (i := str o - 1) h5 (by rw [e3, hr]) pg ph
        rw [e1, e2] at this
        exact .deep (by omega) this
      | true =>
        have pg := hpart g 0 rfl (str o - 1 + 1) (by omega) (fun hb => by
          have := (hg hb).1
          have h2 := (hg hb).2
          rw [hr] at h2
          by_cases he : str o = str g.op
          · exact absurd rfl (h2 he)
          · omega)
        have ph := hpart h 1 rfl (str o - 1) (by omega) (fun hb => by have := (hh hb).1; omega)
        have := TxF.rig (i := str o - 1) h5 (by rw [e3, hr]) (.deep (by omega) pg) ph
        rw [e1, e2] at this
        rw [hd]
        exact this
end Go.Proofs.YtkeckecdhcknhaaDoor.Ft

/-
  The tokens of texts made of pieces: its words.
-/
namespace Go.Proofs.YtkeckecdhcknhaaDoor.Ft
open Go Go.RowKit Go.Proofs.YtkeckecdhcknhaaDoor.Fm Go.Proofs.YtkeckecdhcknhaaDoor.Lx Go.Proofs.YtkeckecdhcknhaaDoor.Ps
set_option linter.unusedVariables false
set_option linter.unusedSimpArgs false
def byP (p : Pc) : Bs := p.flatMap fun | none => [32] | some t => t.data.toList
@[simp] theorem byP_nil : byP [] = [] := rfl
@[simp] theorem byP_none (p : Pc) : byP (none :: p) = 32 :: byP p := rfl
@[simp] theorem byP_some (t : ByteArray) (p : Pc) : byP (some t :: p) = t.data.toList ++ byP p := rfl
@[simp] theorem byP_app (p q : Pc) : byP (p ++ q) = byP p ++ byP q := by unfold byP; rw [List.flatMap_append]
/-- A word is read as one token, whatever it is, ahead of what follows. -/
def TokAt (t : ByteArray) (r : Bs) : Prop := ∃ c l k, t.data.toList = c :: l ∧ blk c = false ∧ tok1 KK (c :: l ++ r) = (k, l.length + 1, 0)
def LxOk : Pc → Bs → Prop
  | [], _ => True
  | none :: p, r => LxOk p r
  | some t :: p, r => TokAt t (byP p ++ r) ∧ LxOk p r
theorem LxOk.app : ∀ {p q : Pc} {r : Bs}, LxOk p (byP q ++ r) → LxOk q r → LxOk (p ++ q) r
  | [], q, r, _, h => h
  | none :: p, q, r, h1, h2 => LxOk.app (p := p) h1 h2
  | some t :: p, q, r, h1, h2 => by
    refine ⟨?_, LxOk.app (p := p) h1.2 h2⟩
    have := h1.1
    rwa [← List.append_assoc, ← byP_app] at this
theorem lx_toks : ∀ (p : Pc), LxOk p [] → ∀ off, ∃ zs n, toks KK off (byP p) = zs ++ [(⟨5, [], n⟩, 0)] ∧ zs.map (fun z => bs z.1.t) = wd p ∧ errs zs = false
  | [], _, off => ⟨[], off, by rw [byP_nil, toks_nil]; rfl, rfl, rfl⟩
  | none :: p, h, off => by
    obtain ⟨zs, n, h1, h2, h3⟩ := lx_toks p h (off + 1)
    exact ⟨zs, n, by rw [byP_none, toks_blank KK (by decide), h1], h2, h3⟩
  | some t :: p, h, off => by
    obtain ⟨⟨c, l, k, e, hb, ht⟩, h⟩ := h
    obtain ⟨zs, n, h1, h2, h3⟩ := lx_toks p h (off + (l.length + 1))
    rw [List.append_nil] at ht
    refine ⟨(⟨k, c :: l, off⟩, 0) :: zs, n, ?_, ?_, ?_⟩
    · rw [byP_some, e, List.cons_append, toks_tok KK hb (by rw [← List.cons_append, ht]), ← List.cons_append, ht]
      show (_ :: toks KK (off + (l.length + 1)) _) = _
      rw [show (c :: l ++ byP p).drop (l.length + 1) = byP p by simp, show (c :: l ++ byP p).take (l.length + 1) = c :: l by simp, h1]
      rfl
    · rw [List.map_cons, h2, wd_some]
      show bs (c :: l) :: wd p = t :: wd p
      rw [← e, bs_list]
    · unfold errs at h3 ⊢
      rw [List.any_cons, h3]; rfl
/-- What may follow a name. -/
def Spc (r : Bs) : Prop := ∀ c l, r = c :: l → lod c = false
theorem spc_nil : Spc [] := fun c l h => by cases h
theorem spc_cons {c : UInt8} {l : Bs} (h : lod c = false) : Spc (c :: l) := fun c' l' e => by obtain ⟨rfl, _⟩ := List.cons.inj e; exact h
theorem tw_spc : ∀ (l r : Bs), l.all lod = true → Spc r → (l ++ r).takeWhile lod = l
  | [], [], _, _ => rfl
  | [], c :: r, _, h => by rw [List.nil_append, List.takeWhile_cons, h c r rfl]; rfl
  | c :: l, r, hl, h => by
    rw [List.all_cons, Bool.and_eq_true] at hl
    rw [List.cons_append, List.takeWhile_cons, hl.1, if_pos rfl, tw_spc l r hl.2 h]
theorem ltr_blk {c : UInt8} (h : ltr c = true) : blk c = false := by
  cases hb : blk c with
  | false => rfl
  | true => rw [(blk_lod hb).2.1] at h; cases h
theorem word_tok {t : ByteArray} {c : UInt8} {l r : Bs} (e : t.data.toList = c :: l) (hc : ltr c = true) (hl : l.all lod = true) (hk : runS t ≠ 0) (hr : Spc r) : TokAt t r := by
  refine ⟨c, l, KK.ru (c :: l), e, ltr_blk hc, ?_⟩
  have hru : KK.ru (c :: l) ≠ 0 := by
    show runS (bs (c :: l)) ≠ 0
    rw [← e, bs_list]; exact hk
  rw [List.cons_append, tok1_cons, if_pos hc, tw_spc l r hl hr, if_neg hru]
theorem mark_tok {t : ByteArray} {l r : Bs} (e : t.data.toList = 63 :: l) (hl : l.all lod = true) (hk : metB t = true) (hr : Spc r) : TokAt t r := by
  refine ⟨63, l, 2, e, by decide, ?_⟩
  have hru : KK.ma (63 :: l) = 2 := by
    show marS (bs (63 :: l)) = 2
    rw [← e, bs_list]; unfold marS; rw [if_pos hk]
  rw [List.cons_append, tok1_cons, if_neg (by decide), if_pos (by decide), tw_spc l r hl hr, hru]
  rfl
theorem lod_of {c : UInt8} (h : lodB (c.toNat : Int) = true) : lod c = true := by
  rw [lod_eq, ltr_int]
  unfold dgt
  rw [dgt_int]
  unfold lodB digB at h
  exact h
theorem lod_dig {c : UInt8} (h : digB (c.toNat : Int) = true) : lod c = true := by
  rw [lod_eq]
  unfold dgt
  rw [dgt_int]
  unfold digB at h
  rw [h, Bool.or_true]
theorem ltr_lo {c : UInt8} (h1 : (97 : Int) ≤ (c.toNat : Int)) (h2 : (c.toNat : Int) ≤ 122) : ltr c = true := by rw [ltr_int, decide_eq_true h1, decide_eq_true h2]; rfl
theorem ltr_up {c : UInt8} (h1 : (65 : Int) ≤ (c.toNat : Int)) (h2 : (c.toNat : Int) ≤ 90) : ltr c = true := by rw [ltr_int, decide_eq_true h1, decide_eq_true h2, Bool.and_true, Bool.or_true]
theorem all_lod {l : Bs} {p : Int → Bool} (h : (l.all fun c => p c.toNat) = true) (hp : ∀ c : UInt8, p c.toNat = true → lod c = true) : l.all lod = true := by
  rw [List.all_eq_true] at h ⊢
  exact fun c hc => hp c (h c hc)
theorem run_of {t : ByteArray} (h : namB t = true) : runS t ≠ 0 := by unfold runS; rw [if_pos h]; split <;> decide
theorem var_tok {t : ByteArray} {r : Bs} (h : varB t = true) (hr : Spc r) : TokAt t r := by
  obtain ⟨_, c, l, e, h1, h2, h3⟩ := names_head h
  exact word_tok e (ltr_lo (by omega) (by omega)) (all_lod h3 fun c => lod_dig) (run_of (by unfold namB; rw [h]; rfl)) hr
theorem fn_tok {t : ByteArray} {r : Bs} (h : fnB t = true) (hr : Spc r) : TokAt t r := by
  obtain ⟨_, c, l, e, h1, h2, h3⟩ := names_head (fn_names h)
  exact word_tok e (ltr_lo (by omega) (by omega)) (all_lod h3 fun c => lod_of) (run_of (by unfold namB; rw [h, Bool.or_true]; rfl)) hr
theorem pred_tok {t : ByteArray} {r : Bs} (h : predB t = true) (hr : Spc r) : TokAt t r := by
  obtain ⟨_, c, l, e, h1, h2, h3⟩ := names_head h
  exact word_tok e (ltr_up (by omega) (by omega)) (all_lod h3 fun c => lod_of) (run_of (by unfold namB; rw [h, Bool.or_true])) hr
theorem met_rest {s : ByteArray} {l : Bs} (h : metB s = true) (e : s.data.toList = 63 :: l) : l.all lod = true := by
  have hcut : ∀ t f (p : Int → Bool), (∀ c : UInt8, p c.toNat = true → lod c = true) → (97 ≤ f ∧ t ≤ 122 ∨ 65 ≤ f ∧ t ≤ 90) → namesB f t p (cutR s) = true → markB s = true → l.all lod = true := by
    intro t f p hp hft hn hm
    obtain ⟨_, c, r, e2, h1, h2, h3⟩ := names_head hn
    unfold cutR at e2
    rw [if_pos hm] at e2
    have e3 : (s.extract 1 s.size).data.toList = s.data.toList.drop 1 := by
      have h0 : s.size = s.data.toList.length := rfl
      rw [ByteArray.data_extract, Array.toList_extract, h0]
      simp
      exact List.take_of_length_le (by rw [List.length_tail]; exact Nat.le_refl _)
    rw [e3, e] at e2
    have e2 : l = c :: r := e2
    rw [e2, List.all_cons, lod_eq, all_lod h3 hp]
    rcases hft with h | h
    · rw [ltr_lo (by omega) (by omega)]; rfl
    · rw [ltr_up (by omega) (by omega)]; rfl
  unfold metB metaB at h
  rw [Bool.or_eq_true] at h
  rcases h with h | h
  · rw [Bool.and_eq_true, Bool.and_eq_true] at h
    exact hcut 90 65 lodB (fun c => lod_of) (.inr ⟨by omega, by omega⟩) h.2 h.1.1
  · rw [Bool.and_eq_true, Bool.and_eq_true] at h
    exact hcut 116 97 lodB (fun c => lod_of) (.inl ⟨by omega, by omega⟩) (fn_names h.2) h.1.1
theorem met_tok {t : ByteArray} {r : Bs} (h : metB t = true) (hr : Spc r) : TokAt t r := by
  obtain ⟨_, l, e⟩ := met_head h
  exact mark_tok e (met_rest h e) h hr
theorem mk_tok {t : ByteArray} {r : Bs} {c : UInt8} {l : Bs} {k : Nat} (e : t.data.toList = c :: l) (hb : blk c = false) (h : tok1 KK (c :: l ++ r) = (k, l.length + 1, 0)) : TokAt t r := ⟨c, l, k, e, hb, h⟩
theorem t_open (r : Bs) : TokAt ⟨#[40]⟩ r := mk_tok (k := 4) rfl rfl (by kernel_rfl)
theorem t_close (r : Bs) : TokAt ⟨#[41]⟩ r := mk_tok (k := 4) rfl rfl (by kernel_rfl)
theorem t_comma (r : Bs) : TokAt ⟨#[44]⟩ r := mk_tok (k := 4) rfl rfl (by kernel_rfl)
theorem t_slash (r : Bs) : TokAt ⟨#[47]⟩ r := mk_tok (k := 4) rfl rfl (by kernel_rfl)
theorem t_rb (r : Bs) : TokAt ⟨#[93]⟩ r := mk_tok (k := 4) rfl rfl (by kernel_rfl)
theorem t_lb {c : UInt8} {r : Bs} (hc : (c == 93) = false) : TokAt ⟨#[91]⟩ (c :: r) := by
  refine mk_tok (k := 4) (l := []) rfl rfl ?_
  have h2 : sgn (91 :: c :: r) = 1 := by
    rw [sgn_cons, if_neg (by decide), if_neg (by decide), if_pos (by decide), if_neg]
    show ¬ (([c] : Bs) == [93]) = true
    intro h
    rw [beq_iff_eq] at h
    obtain rfl := (List.cons.inj h).1
    exact absurd hc (by decide)
  show tok1 KK (91 :: c :: r) = _
  rw [tok1_cons, if_neg (by decide), if_neg (by decide), h2]
  rfl
theorem t_not (r : Bs) : TokAt ⟨#[126]⟩ r := mk_tok (k := 4) rfl rfl (by kernel_rfl)
theorem t_and (r : Bs) : TokAt ⟨#[38]⟩ r := mk_tok (k := 4) rfl rfl (by kernel_rfl)
theorem t_or (r : Bs) : TokAt ⟨#[124]⟩ r := mk_tok (k := 4) rfl rfl (by kernel_rfl)
theorem t_imp (r : Bs) : TokAt ⟨#[45, 62]⟩ r := mk_tok (k := 4) rfl rfl (by kernel_rfl)
theorem t_iff (r : Bs) : TokAt ⟨#[60, 45, 62]⟩ r := mk_tok (k := 4) rfl rfl (by kernel_rfl)
theorem t_box (r : Bs) : TokAt ⟨#[91, 93]⟩ r := mk_tok (k := 4) rfl rfl (by kernel_rfl)
theorem t_dia (r : Bs) : TokAt ⟨#[60, 62]⟩ r := mk_tok (k := 4) rfl rfl (by kernel_rfl)
theorem t_word (t : ByteArray) (c : UInt8) (l r : Bs) (e : t.data.toList = c :: l) (hc : ltr c = true) (hl : l.all lod = true) (hw : wordB t = true) (hr : Spc r) : TokAt t r :=
  word_tok e hc hl (by unfold runS; rw [if_pos hw]; decide) hr
/-- Signs that stand where something follows: those that are words have a blank behind them. -/
theorem sg_tok (o : Int) (r : Bs) (h : o = 3 ∨ o = 4 ∨ o = 5 ∨ o = 6 ∨ o = 7 ∨ o = 10 ∨ o = 11 ∨ Spc r) : TokAt (sgW o) r := by
  have hw : Spc r → TokAt (sgW o) r := by
    intro hs
    by_cases h3 : o = 3
    · subst h3; exact t_not r
    by_cases h4 : o = 4
    · subst h4; exact t_and r
    by_cases h5 : o = 5
    · subst h5; exact t_or r
    by_cases h6 : o = 6
    · subst h6; exact t_imp r
    by_cases h7 : o = 7
    · subst h7; exact t_iff r
    by_cases h8 : o = 8
    · subst h8; exact t_word _ 97 [108, 108] r rfl (by decide) (by decide) (by kernel_rfl) hs
    by_cases h9 : o = 9
    · subst h9; exact t_word _ 115 [111, 109, 101] r rfl (by decide) (by decide) (by kernel_rfl) hs
    by_cases h10 : o = 10
    · subst h10; exact t_box r
    by_cases h11 : o = 11
    · subst h11; exact t_dia r
    by_cases h12 : o = 12
    · subst h12; exact t_word _ 110 [101, 120, 116] r rfl (by decide) (by decide) (by kernel_rfl) hs
    by_cases h13 : o = 13
    · subst h13; exact t_word _ 97 [108, 119, 97, 121, 115] r rfl (by decide) (by decide) (by kernel_rfl) hs
    have e : sgW o = ⟨#[117, 110, 116, 105, 108]⟩ := by
      unfold sgW
      rw [if_neg h3, if_neg h4, if_neg h5, if_neg h6, if_neg h7, if_neg h8, if_neg h9, if_neg h10, if_neg h11, if_neg h12, if_neg h13]
    rw [e]
    exact t_word _ 117 [110, 116, 105, 108] r rfl (by decide) (by decide) (by kernel_rfl) hs
  rcases h with rfl | rfl | rfl | rfl | rfl | rfl | rfl | h
  · exact t_not r
  · exact t_and r
  · exact t_or r
  · exact t_imp r
  · exact t_iff r
  · exact t_box r
  · exact t_dia r
  · exact hw h
theorem sg_sp (o : Int) {r : Bs} (h : Spc r) : TokAt (sgW o) r := sg_tok o r (.inr (.inr (.inr (.inr (.inr (.inr (.inr h)))))))
theorem t_false {r : Bs} (hr : Spc r) : TokAt ⟨#[102, 97, 108, 115, 101]⟩ r := t_word _ 102 [97, 108, 115, 101] r rfl (by decide) (by decide) (by kernel_rfl) hr
/-- A comma has a blank behind it, or none. -/
def CmOk (c : Pc) : Prop := c = [] ∨ c = [none]
theorem CmOk.wd {c : Pc} (h : CmOk c) : Ft.wd c = [] := by rcases h with rfl | rfl <;> rfl
theorem CmOk.lx {c : Pc} (h : CmOk c) (r : Bs) : LxOk c r := by rcases h with rfl | rfl <;> exact trivial
theorem var_tm {m : Bool} {n : ByteArray} {r : Bs} (h : (varB n || mtB m n) = true) (hr : Spc r) : TokAt n r := by
  rw [Bool.or_eq_true] at h
  rcases h with h | h
  · exact var_tok h hr
  · exact met_tok (mt_met h) hr
theorem spc_pr (c : Pc) (l : List Tm) (r : Bs) : Spc (byP (tmPR c l) ++ (41 :: r)) := by
  cases l with
  | nil => exact spc_cons (by decide)
  | cons a l => rw [tmPR, byP_some]; exact spc_cons (by decide)
mutual
theorem tm_lex (m : Bool) (c : Pc) (hc : CmOk c) : ∀ (t : Tm) (r : Bs), t.right m = true → Spc r → LxOk (tmP c t) r
  | .mk true n l, r, h, hr => by
    obtain ⟨rfl, hv⟩ := right_var h
    rw [tmP, tmPA]
    exact ⟨var_tm hv hr, trivial⟩
  | .mk false n l, r, h, hr => by
    obtain ⟨hf, h4, hl⟩ := right_fn h
    rw [tmP]
    refine ⟨fn_tok hf ?_, tma_lex m c hc l r hl hr⟩
    cases l with
    | nil => rw [tmPA, byP_nil]; exact hr
    | cons a l => rw [tmPA, byP_some]; exact spc_cons (by decide)
theorem tma_lex (m : Bool) (c : Pc) (hc : CmOk c) : ∀ (l : List Tm) (r : Bs), (∀ a ∈ l, a.right m = true) → Spc r → LxOk (tmPA c l) r
  | [], r, h, hr => by rw [tmPA]; exact trivial
  | a :: l, r, h, hr => by
    rw [tmPA]
    refine ⟨t_open _, LxOk.app (tm_lex m c hc a _ (h a (List.mem_cons_self ..)) ?_) (LxOk.app (tmr_lex m c hc l _ (fun b hb => h b (List.mem_cons_of_mem _ hb)) ?_) ⟨t_close _, trivial⟩)⟩
    · rw [byP_app, List.append_assoc]; exact spc_pr c l r
    · exact spc_cons (by decide)
theorem tmr_lex (m : Bool) (c : Pc) (hc : CmOk c) : ∀ (l : List Tm) (r : Bs), (∀ a ∈ l, a.right m = true) → Spc r → LxOk (tmPR c l) r
  | [], r, h, hr => by rw [tmPR]; exact trivial
  | a :: l, r, h, hr => by
    rw [tmPR]
    refine ⟨t_comma _, LxOk.app (hc.lx _) (LxOk.app (tm_lex m c hc a _ (h a (List.mem_cons_self ..)) ?_) (tmr_lex m c hc l _ (fun b hb => h b (List.mem_cons_of_mem _ hb)) hr))⟩
    cases l with
    | nil => rw [tmPR, byP_nil]; exact hr
    | cons b l => rw [tmPR, byP_some]; exact spc_cons (by decide)
end
theorem par_lex {b : Bool} {p : Pc} {r : Bs} (hr : Spc r) (h : ∀ r, Spc r → LxOk p r) : LxOk (par b p) r := by
  cases b with
  | false => exact h r hr
  | true => exact ⟨t_open _, LxOk.app (h _ (spc_cons (by decide))) ⟨t_close _, trivial⟩⟩
theorem bas_lex {m : Bool} {c : Pc} (hc : CmOk c) {o : Int} {n : ByteArray} {a : List Tm} (h : Shp m (.mk o n a [])) {r : Bs} (hr : Spc r) : LxOk (basP c o n a) r := by
  cases h with
  | ato hp h4 ha =>
    refine ⟨pred_tok hp ?_, tma_lex m c hc a r ha hr⟩
    cases a with
    | nil => rw [tmPA, byP_nil]; exact hr
    | cons a l => rw [tmPA, byP_some]; exact spc_cons (by decide)
  | fal => exact ⟨t_false hr, trivial⟩
  | met hm hn =>
    show LxOk (some n :: tmPA c []) r
    rw [tmPA]
    exact ⟨met_tok (mf_met hn) hr, trivial⟩
  | @ins n t x hm hn ht hx =>
    refine ⟨met_tok (mf_met hn) (spc_cons (by decide)), ?_, met_tok (mt_met ht) (spc_cons (by decide)), t_slash _, var_tok hx (spc_cons (by decide)), t_rb _, trivial⟩
    obtain ⟨_, l, e⟩ := met_head (mt_met ht)
    simp only [Tm.n, byP_some]
    rw [e, List.cons_append, List.cons_append]
    exact t_lb (by decide)
/-- A way to write that the lexer reads. -/
structure StyOk (s : Sty) : Prop where
  c : CmOk s.c
  sp : ∀ o, o = 12 ∨ o = 13 ∨ o = 8 ∨ o = 9 → s.sp o = true
theorem fo_lex (m : Bool) (s : Sty) (hs : StyOk s) (br : Fo → Nat → Bool) (N : Nat) : ∀ (f : Fo), SizeOf.sizeOf f < N → ∀ (lv : Int), FoK m lv f → 1 ≤ lv → ∀ r, Spc r → LxOk (foP s br f) r := by
  induction N with
  | zero => exact fun f h => absurd h (Nat.not_lt_zero _)
  | succ N ih =>
    intro f hN lv hk h1 r hr
    have hsh := hk.shape
    have hsub : ∀ g, g ∈ f.sub → ∀ r, Spc r → LxOk (foP s br g) r := by
      intro g hg
      have hlt : SizeOf.sizeOf g < SizeOf.sizeOf f := by
        obtain ⟨o, n, a, ss⟩ := f
        have : SizeOf.sizeOf g < SizeOf.sizeOf ss := List.sizeOf_lt_of_mem hg
        simp only [Fo.mk.sizeOf_spec]; omega
      exact ih g (by omega) (lv + 1) (hk.sub h1 hg) (by omega)
    have hun : ∀ o n g, f = .mk o n [] [g] → (o = 3 ∨ o = 10 ∨ o = 11 ∨ o = 12 ∨ o = 13 ∨ o = 8 ∨ o = 9) → (n.size = 0 ∨ varB n = true) → LxOk (foP s br (.mk o n [] [g])) r := by
      rintro o n g rfl ho hn
      show LxOk (aheadP s o n ++ par (br (.mk o n [] [g]) 0) (foP s br g)) r
      refine LxOk.app ?_ (par_lex hr (hsub g (List.mem_cons_self ..)))
      unfold aheadP
      have hname : ∀ r', LxOk (if n.size = 0 then [] else [some n, none]) r' := by
        intro r'
        split
        · exact trivial
        · next h => exact ⟨var_tok (hn.resolve_left h) (spc_cons (by decide)), trivial⟩
      refine ⟨sg_tok o _ ?_, LxOk.app ?_ (hname _)⟩
      · by_cases h : o = 12 ∨ o = 13 ∨ o = 8 ∨ o = 9
        · rw [hs.sp o h]
          exact .inr (.inr (.inr (.inr (.inr (.inr (.inr (spc_cons (by decide))))))))
        · omega
      · split <;> exact trivial
    cases hsh with
    | ato hp h4 ha => exact bas_lex hs.c (.ato hp h4 ha) hr
    | fal => exact bas_lex (m := m) hs.c .fal hr
    | met hm hn => exact bas_lex hs.c (.met hm hn) hr
    | ins hm hn ht hx => exact bas_lex hs.c (.ins hm hn ht hx) hr
    | @qua o n g ho hn => exact hun o n g rfl (by omega) (.inr hn)
    | @una o g ho => exact hun o _ g rfl (by omega) (.inl rfl)
    | @bin o g h ho =>
      show LxOk (par (br (.mk o ⟨#[]⟩ [] [g, h]) 0) (foP s br g) ++ (none :: some (sgW o) :: none :: par (br (.mk o ⟨#[]⟩ [] [g, h]) 1) (foP s br h))) r
      refine LxOk.app (par_lex (spc_cons (by decide)) (hsub g (List.mem_cons_self ..))) ?_
      exact ⟨sg_sp o (spc_cons (by decide)), par_lex hr (hsub h (List.mem_cons_of_mem _ (List.mem_cons_self ..)))⟩
end Go.Proofs.YtkeckecdhcknhaaDoor.Ft

/-
  The text of a schema, read as a formula: the same, or an error at a metavariable.
-/
namespace Go.Proofs.YtkeckecdhcknhaaDoor.Ft
open Go Go.RowKit Go.Proofs.YtkeckecdhcknhaaDoor.Fm Go.Proofs.YtkeckecdhcknhaaDoor.Lx Go.Proofs.YtkeckecdhcknhaaDoor.Ps
set_option linter.unusedVariables false
set_option linter.unusedSimpArgs false
def EM {α : Type} (us : List Tg) (x : R α) : Prop := ∃ u ∈ us, markB u.t = true ∧ x = .er u.a 50
theorem EM.bind {α β : Type} {us : List Tg} {x : R α} {f : α → List Tg → R β} (h : EM us x) : EM us (x.bind f) := by
  obtain ⟨u, hu, hm, rfl⟩ := h
  exact ⟨u, hu, hm, rfl⟩
theorem EM.mono {α : Type} {us vs : List Tg} {x : R α} (h : EM us x) (hs : ∀ u ∈ us, u ∈ vs) : EM vs x := by
  obtain ⟨u, hu, hm, e⟩ := h
  exact ⟨u, hs u hu, hm, e⟩
theorem met_markB {s : ByteArray} (h : metB s = true) : markB s = true := by
  unfold metB metaB at h
  rw [Bool.or_eq_true] at h
  rcases h with h | h <;> (rw [Bool.and_eq_true, Bool.and_eq_true] at h; exact h.1.1)
theorem met_var {s : ByteArray} (h : metB s = true) : varB s = false := by
  cases hv : varB s with
  | false => rfl
  | true => rw [name_met hv (by decide)] at h; cases h
theorem met_fn {s : ByteArray} (h : metB s = true) : fnB s = false := by
  cases hv : fnB s with
  | false => rfl
  | true => rw [name_met (fn_names hv) (by decide)] at h; cases h
theorem met_pred {s : ByteArray} (h : metB s = true) : predB s = false := by
  cases hv : predB s with
  | false => rfl
  | true => rw [name_met hv (by decide)] at h; cases h
theorem mtf (s : ByteArray) : mtB false s = false := rfl
theorem mff (s : ByteArray) : mfB false s = false := rfl
mutual
theorem term_err (c : Pc) (hc : wd c = []) : ∀ (t : Tm) (lv : Int) (n : Nat) (us rest : List Tg), t.right true = true → Tm40 lv t → 1 ≤ lv → (n : Int) + (40 - lv) ≤ 120 → us.map (·.t) = wd (tmP c t) → tx rest ≠ ⟨#[40]⟩ →
    termC false n (us ++ rest) = .ok t rest ∨ EM us (termC false n (us ++ rest))
  | .mk true nm l, lv, n, us, rest, hr, h40, h1, hn, hu, hp => by
    obtain ⟨rfl, hv⟩ := right_var hr
    have hl := h40.head
    rw [tmP, tmPA, wd_some, wd_nil] at hu
    obtain ⟨u, v, rfl, rfl, hv2⟩ := map_cons hu
    obtain rfl := map_nil hv2
    rw [termC_eq, if_neg (by omega)]
    show (if (varB u.t || mtB false u.t) = true then R.ok (Tm.mk true u.t []) rest else if fnB u.t = true then _ else bad (u :: rest) 50) = _ ∨ EM _ (if (varB u.t || mtB false u.t) = true then R.ok (Tm.mk true u.t []) rest else if fnB u.t = true then _ else bad (u :: rest) 50)
    rw [Bool.or_eq_true] at hv
    rcases hv with hv | hv
    · rw [hv]; exact .inl rfl
    · have hm := mt_met hv
      rw [met_var hm, mtf, if_neg (by decide), met_fn hm, if_neg (by decide)]
      exact .inr ⟨u, List.mem_cons_self .., met_markB hm, rfl⟩
  | .mk false nm l, lv, n, us, rest, hr, h40, h1, hn, hu, hp => by
    obtain ⟨hf, h4, hl⟩ := right_fn hr
    have hlv := h40.head
    rw [tmP, wd_some] at hu
    obtain ⟨u, v, rfl, rfl, hv⟩ := map_cons hu
    rw [termC_eq, if_neg (by omega)]
    show (if (varB u.t || mtB false u.t) = true then _ else if fnB u.t = true then (argsC false n (v ++ rest)).bind fun l r => R.ok (Tm.mk false u.t l) r else _) = _ ∨ EM _ (if (varB u.t || mtB false u.t) = true then _ else if fnB u.t = true then (argsC false n (v ++ rest)).bind fun l r => R.ok (Tm.mk false u.t l) r else _)
    rw [fn_var hf, fn_mt hf, if_neg (by decide), if_pos hf]
    rcases args_err c hc l lv n v rest hl (fun a ha => h40.arg h1 ha) h1 hlv hn hv hp with h | h
    · rw [h]; exact .inl rfl
    · exact .inr (h.bind.mono fun x hx => List.mem_cons_of_mem _ hx)
theorem args_err (c : Pc) (hc : wd c = []) : ∀ (l : List Tm) (lv : Int) (n : Nat) (us rest : List Tg), (∀ a ∈ l, a.right true = true) → (∀ a ∈ l, Tm40 (lv + 1) a) → 1 ≤ lv → lv ≤ 40 → (n : Int) + (40 - lv) ≤ 120 → us.map (·.t) = wd (tmPA c l) → tx rest ≠ ⟨#[40]⟩ →
    argsC false n (us ++ rest) = .ok l rest ∨ EM us (argsC false n (us ++ rest))
  | [], lv, n, us, rest, hr, h40, h1, hlv, hn, hu, hp => by
    rw [tmPA, wd_nil] at hu
    obtain rfl := map_nil hu
    rw [List.nil_append, argsC_eq, is_ne hp]
    exact .inl rfl
  | a :: l, lv, n, us, rest, hr, h40, h1, hlv, hn, hu, hp => by
    rw [tmPA, wd_some, wd_app, wd_app, wd_some, wd_nil] at hu
    obtain ⟨u, v, rfl, hu1, hv⟩ := map_cons hu
    obtain ⟨va, vb, rfl, hva, hvb⟩ := map_app hv
    obtain ⟨vc, vd, rfl, hvc, hvd⟩ := map_app hvb
    obtain ⟨w, x, rfl, hw, hx⟩ := map_cons hvd
    obtain rfl := map_nil hx
    have ha := h40 a (List.mem_cons_self ..)
    have hal := ha.head
    have e1 : u :: (va ++ (vc ++ [w])) ++ rest = u :: (va ++ (vc ++ (w :: rest))) := by simp
    have hne : tx (vc ++ (w :: rest)) ≠ ⟨#[40]⟩ := by
      cases l with
      | nil => rw [tmPR, wd_nil] at hvc; obtain rfl := map_nil hvc; rw [List.nil_append, tx_cons, hw]; decide
      | cons b l => rw [tmPR, wd_some] at hvc; obtain ⟨y, z, rfl, hy, _⟩ := map_cons hvc; rw [List.cons_append, tx_cons, hy]; decide
    rw [e1, argsC_eq, is_eq (by rw [tx_cons]; exact hu1), if_pos rfl]
    show (listC false (n + 1) (va ++ (vc ++ w :: rest))).bind _ = _ ∨ EM _ ((listC false (n + 1) (va ++ (vc ++ w :: rest))).bind _)
    rw [listC_eq]
    rcases term_err c hc a (lv + 1) (n + 1) va (vc ++ w :: rest) (hr a (List.mem_cons_self ..)) ha (by omega) (by push_cast; omega) hva hne with h | h
    · rw [h]
      show (moreC false (n + 1) [a] (vc ++ w :: rest)).bind _ = _ ∨ EM _ ((moreC false (n + 1) [a] (vc ++ w :: rest)).bind _)
      rcases more_err c hc l [a] (lv + 1) (n + 1) vc (w :: rest) (fun b hb => hr b (List.mem_cons_of_mem _ hb)) (fun b hb => h40 b (List.mem_cons_of_mem _ hb)) (by omega) (by push_cast; omega) hvc (by rw [tx_cons, hw]; decide) (by rw [tx_cons, hw]; decide) with h | h
      · rw [h]
        left
        show (if is (w :: rest) ⟨#[41]⟩ = true then R.ok ([a] ++ l) rest else _) = _
        rw [if_pos (is_eq (by rw [tx_cons]; exact hw))]
        rfl
      · exact .inr (h.bind.mono fun y hy => by simp [hy])
    · exact .inr (h.bind.bind.mono fun y hy => by simp [hy])
theorem more_err (c : Pc) (hc : wd c = []) : ∀ (l acc : List Tm) (lv : Int) (n : Nat) (us rest : List Tg), (∀ a ∈ l, a.right true = true) → (∀ a ∈ l, Tm40 lv a) → 1 ≤ lv → (n : Int) + (40 - lv) ≤ 120 → us.map (·.t) = wd (tmPR c l) → tx rest ≠ ⟨#[40]⟩ → tx rest ≠ ⟨#[44]⟩ →
    moreC false n acc (us ++ rest) = .ok (acc ++ l) rest ∨ EM us (moreC false n acc (us ++ rest))
  | [], acc, lv, n, us, rest, hr, h40, h1, hn, hu, hp, hq => by
    rw [tmPR, wd_nil] at hu
    obtain rfl := map_nil hu
    rw [List.nil_append, moreC_eq, is_ne hq, List.append_nil]
    exact .inl rfl
  | a :: l, acc, lv, n, us, rest, hr, h40, h1, hn, hu, hp, hq => by
    rw [tmPR, wd_some, wd_app, wd_app, hc, List.nil_append] at hu
    obtain ⟨u, v, rfl, hu1, hv⟩ := map_cons hu
    obtain ⟨va, vb, rfl, hva, hvb⟩ := map_app hv
    have ha := h40 a (List.mem_cons_self ..)
    have hal := ha.head
    have hne : tx (vb ++ rest) ≠ ⟨#[40]⟩ := by
      cases l with
      | nil => rw [tmPR, wd_nil] at hvb; obtain rfl := map_nil hvb; exact hp
      | cons b l => rw [tmPR, wd_some] at hvb; obtain ⟨y, z, rfl, hy, _⟩ := map_cons hvb; rw [List.cons_append, tx_cons, hy]; decide
    rw [moreC_eq, is_eq (by rw [List.cons_append, tx_cons]; exact hu1), if_pos rfl]
    show (termC false n (va ++ vb ++ rest)).bind _ = _ ∨ EM _ ((termC false n (va ++ vb ++ rest)).bind _)
    rw [List.append_assoc]
    rcases term_err c hc a lv n va (vb ++ rest) (hr a (List.mem_cons_self ..)) ha h1 hn hva hne with h | h
    · rw [h]
      show moreC false n (acc ++ [a]) (vb ++ rest) = _ ∨ EM _ (moreC false n (acc ++ [a]) (vb ++ rest))
      rcases more_err c hc l (acc ++ [a]) lv n vb rest (fun b hb => hr b (List.mem_cons_of_mem _ hb)) (fun b hb => h40 b (List.mem_cons_of_mem _ hb)) h1 hn hvb hp hq with h | h
      · rw [h, List.append_assoc]; exact .inl rfl
      · exact .inr (h.mono fun y hy => by simp [hy])
    · exact .inr (h.bind.mono fun y hy => by simp [hy])
end
def TxE (i d : Nat) (f : Fo) (xs : List ByteArray) : Prop := ∀ (n : Nat) (us rest : List Tg), us.map (·.t) = xs → n + d ≤ 120 →
  (Stop i rest → binC false i n (us ++ rest) = .ok f rest ∨ EM us (binC false i n (us ++ rest))) ∧ (i < 5 → lvR i = false → Stop (i + 1) rest → binC false i n (us ++ rest) = chC false i n f rest ∨ EM us (binC false i n (us ++ rest)))
theorem fiveE {d : Nat} {f : Fo} {xs : List ByteArray} (h : ∀ (n : Nat) (us rest : List Tg), us.map (·.t) = xs → n + d ≤ 120 → Stop 5 rest → unC false n (us ++ rest) = .ok f rest ∨ EM us (unC false n (us ++ rest))) : TxE 5 d f xs := by
  intro n us rest hu hn
  refine ⟨fun hs => by rw [binC_un]; exact h n us rest hu hn hs, fun h => absurd h (by omega)⟩
theorem basE {n : Nat} {ts us : List Tg} {f : Fo} {rest : List Tg} (hn : n ≤ 120) (hu : unOp (tx ts) = 0) (h : basC false n ts = .ok f rest ∨ EM us (basC false n ts)) : unC false n ts = .ok f rest ∨ EM us (unC false n ts) := by
  rw [unC_eq, if_neg (by omega), if_pos hu]; exact h
theorem txt_err {i d : Nat} {f : Fo} {xs : List ByteArray} (h : TxF true i d f xs) : TxE i d f xs := by
  induction h with
  | @up i d f xs hi _ ih =>
    intro n us rest hu hn
    have h2 : lvR i = false → Stop (i + 1) rest → binC false i n (us ++ rest) = chC false i n f rest ∨ EM us (binC false i n (us ++ rest)) := by
      intro hr hs
      rw [binC_eq false i n _ hi]
      rcases (ih n us rest hu hn).1 hs with h | h
      · rw [h]
        left
        show (if lvR i = true then _ else _) = _
        rw [hr]
        rfl
      · exact .inr h.bind
    refine ⟨fun hs => ?_, fun _ => h2⟩
    cases hr : lvR i with
    | false =>
      rcases h2 hr (hs.up (by omega)) with h | h
      · exact .inl (by rw [h, ch_stop hi hs])
      · exact .inr h
    | true =>
      rw [binC_eq false i n _ hi]
      rcases (ih n us rest hu hn).1 (hs.up (by omega)) with h | h
      · rw [h]
        left
        show (if lvR i = true then (if is rest (lvS i) = true then _ else R.ok f rest) else _) = _
        rw [hr, if_pos rfl, is_ne (hs.s i (Nat.le_refl _) hi)]
        rfl
      · exact .inr h.bind
  | @lef i d f g xs ys hi hr _ _ ihf ihg =>
    intro n us rest hu hn
    obtain ⟨ua, ub, rfl, hua, hub⟩ := map_app hu
    obtain ⟨u, v, rfl, hu1, hv⟩ := map_cons hub
    have h2 : Stop (i + 1) rest → binC false i n (ua ++ u :: v ++ rest) = chC false i n (two (lvO i) f g) rest ∨ EM (ua ++ u :: v) (binC false i n (ua ++ u :: v ++ rest)) := by
      intro hs
      rw [List.append_assoc, List.cons_append]
      rcases (ihf n ua (u :: (v ++ rest)) hua hn).2 hi hr (stop_sign u _ hi hu1 (by omega)) with h | h
      · rw [h, chC_eq false i n f _ hi, is_eq (by rw [tx_cons]; exact hu1), if_pos rfl]
        show (binC false (i + 1) n (v ++ rest)).bind _ = _ ∨ EM _ ((binC false (i + 1) n (v ++ rest)).bind _)
        rcases (ihg n v rest hv hn).1 hs with h | h
        · rw [h]; exact .inl rfl
        · exact .inr (h.bind.mono fun y hy => by simp [hy])
      · exact .inr (h.mono fun y hy => by simp [hy])
    refine ⟨fun hs => ?_, fun _ _ => h2⟩
    rcases h2 (hs.up (by omega)) with h | h
    · exact .inl (by rw [h, ch_stop hi hs])
    · exact .inr h
  | @rig i d f g xs ys hi hr _ _ ihf ihg =>
    intro n us rest hu hn
    obtain ⟨ua, ub, rfl, hua, hub⟩ := map_app hu
    obtain ⟨u, v, rfl, hu1, hv⟩ := map_cons hub
    refine ⟨fun hs => ?_, fun _ h => by rw [hr] at h; cases h⟩
    rw [List.append_assoc, List.cons_append, binC_eq false i n _ hi]
    rcases (ihf n ua (u :: (v ++ rest)) hua hn).1 (stop_sign u _ hi hu1 (by omega)) with h | h
    · rw [h]
      show (if lvR i = true then (if is (u :: (v ++ rest)) (lvS i) = true then (binC false i (n + 1) (v ++ rest)).bind _ else _) else _) = _ ∨ EM _ (if lvR i = true then (if is (u :: (v ++ rest)) (lvS i) = true then (binC false i (n + 1) (v ++ rest)).bind _ else _) else _)
      rw [hr, if_pos rfl, is_eq (by rw [tx_cons]; exact hu1), if_pos rfl]
      rcases (ihg (n + 1) v rest hv (by omega)).1 hs with h | h
      · rw [h]; exact .inl rfl
      · exact .inr (h.bind.mono fun y hy => by simp [hy])
    · exact .inr (h.bind.mono fun y hy => by simp [hy])
  | @una d f xs s h0 h8 h9 _ ih =>
    refine fiveE fun n us rest hu hn hs => ?_
    obtain ⟨u, v, rfl, rfl, hv⟩ := map_cons hu
    rw [List.cons_append, unC_eq, if_neg (by omega), tx_cons, if_neg h0, if_neg (by rintro (h | h); exact h8 h; exact h9 h)]
    show (unC false (n + 1) (v ++ rest)).bind _ = _ ∨ EM _ ((unC false (n + 1) (v ++ rest)).bind _)
    rw [← binC_un]
    rcases (ih (n + 1) v rest hv (by omega)).1 hs with h | h
    · rw [h]; exact .inl rfl
    · exact .inr (h.bind.mono fun y hy => by simp [hy])
  | @qua d f xs s x h8 hx _ ih =>
    refine fiveE fun n us rest hu hn hs => ?_
    obtain ⟨u, v, rfl, rfl, hv⟩ := map_cons hu
    obtain ⟨y, v, rfl, rfl, hv2⟩ := map_cons hv
    rw [List.cons_append, List.cons_append, unC_eq, if_neg (by omega), tx_cons, if_neg (by rcases h8 with h | h <;> rw [h] <;> decide), if_pos h8]
    show (if varB y.t = true then (unC false (n + 1) (v ++ rest)).bind _ else _) = _ ∨ EM _ (if varB y.t = true then (unC false (n + 1) (v ++ rest)).bind _ else _)
    rw [if_pos hx, ← binC_un]
    rcases (ih (n + 1) v rest hv2 (by omega)).1 hs with h | h
    · rw [h]; exact .inl rfl
    · exact .inr (h.bind.mono fun y hy => by simp [hy])
  | @bra d f xs _ ih =>
    refine fiveE fun n us rest hu hn hs => ?_
    obtain ⟨u, v, rfl, hu1, hv⟩ := map_cons hu
    obtain ⟨va, vb, rfl, hva, hvb⟩ := map_app hv
    obtain ⟨w, x, rfl, hw, hx⟩ := map_cons hvb
    obtain rfl := map_nil hx
    have e1 : u :: (va ++ [w]) ++ rest = u :: (va ++ (w :: rest)) := by simp
    refine basE (by omega) (by rw [List.cons_append, tx_cons, hu1]; kernel_rfl) ?_
    rw [e1, basC_eq, is_eq (by rw [tx_cons]; exact hu1), if_pos rfl]
    show (binC false 0 (n + 1) (va ++ w :: rest)).bind _ = _ ∨ EM _ ((binC false 0 (n + 1) (va ++ w :: rest)).bind _)
    rcases (ih (n + 1) va (w :: rest) hva (by omega)).1 ⟨by rw [tx_cons, hw]; decide, by rw [tx_cons, hw]; decide, fun k _ hk => by
      rw [tx_cons, hw]
      rcases (by omega : k = 0 ∨ k = 1 ∨ k = 2 ∨ k = 3 ∨ k = 4) with rfl | rfl | rfl | rfl | rfl <;> decide⟩ with h | h
    · rw [h]
      left
      show (if is (w :: rest) ⟨#[41]⟩ = true then R.ok f rest else _) = _
      rw [if_pos (is_eq (by rw [tx_cons]; exact hw))]
    · exact .inr (h.bind.mono fun y hy => by simp [hy])
  | @fal d =>
    refine fiveE fun n us rest hu hn hs => ?_
    obtain ⟨u, v, rfl, hu1, hv⟩ := map_cons hu
    obtain rfl := map_nil hv
    refine basE (by omega) (by rw [List.cons_append, tx_cons, hu1]; kernel_rfl) ?_
    rw [List.cons_append, basC_eq, is_ne (by rw [tx_cons, hu1]; decide), if_neg (by decide), is_eq (by rw [tx_cons]; exact hu1), if_pos rfl]
    exact .inl rfl
  | @met d n' hm hf =>
    refine fiveE fun n us rest hu hn hs => ?_
    obtain ⟨u, v, rfl, rfl, hv⟩ := map_cons hu
    obtain rfl := map_nil hv
    refine basE (by omega) (mf_un hf) (.inr ⟨u, List.mem_cons_self .., met_markB (mf_met hf), ?_⟩)
    rw [List.cons_append, basC_eq, is_ne (by rw [tx_cons]; exact lit_no hf (by kernel_rfl)), if_neg (by decide), is_ne (by rw [tx_cons]; exact lit_no hf (by kernel_rfl)), if_neg (by decide), tx_cons, mff, if_neg (by decide), met_pred (mf_met hf), if_neg (by decide)]
    rfl
  | @ins d n' t x hm hf ht hx =>
    refine fiveE fun n us rest hu hn hs => ?_
    obtain ⟨u, v, rfl, rfl, hv⟩ := map_cons hu
    refine basE (by omega) (mf_un hf) (.inr ⟨u, List.mem_cons_self .., met_markB (mf_met hf), ?_⟩)
    rw [List.cons_append, basC_eq, is_ne (by rw [tx_cons]; exact lit_no hf (by kernel_rfl)), if_neg (by decide), is_ne (by rw [tx_cons]; exact lit_no hf (by kernel_rfl)), if_neg (by decide), tx_cons, mff, if_neg (by decide), met_pred (mf_met hf), if_neg (by decide)]
    rfl
  | @ato d n' l c lv hp hc hr h40 h1 hlv hd =>
    refine fiveE fun n us rest hu hn hs => ?_
    obtain ⟨u, v, rfl, rfl, hv⟩ := map_cons hu
    refine basE (by omega) (pred_un hp) ?_
    rw [List.cons_append, basC_eq, is_ne (by rw [tx_cons]; exact lit_no hp (by kernel_rfl)), if_neg (by decide), is_ne (by rw [tx_cons]; exact lit_no hp (by kernel_rfl)), if_neg (by decide), tx_cons, pred_mf hp, if_neg (by decide), if_pos hp]
    show (argsC false n (v ++ rest)).bind _ = _ ∨ EM _ ((argsC false n (v ++ rest)).bind _)
    rcases args_err c hc l lv n v rest hr h40 h1 hlv (by omega) hv hs.p with h | h
    · rw [h]; exact .inl rfl
    · exact .inr (h.bind.mono fun y hy => by simp [hy])
  | @deep i d e f xs hde _ ih => exact fun n us rest hu hn => ih n us rest hu (by omega)
end Go.Proofs.YtkeckecdhcknhaaDoor.Ft

/-
  The statements' own FullTerm.
-/
namespace Go.Proofs.YtkeckecdhcknhaaDoor.Ft
open Go Go.RowKit Go.Shelf Go.Proofs.YtkeckecdhcknhaaDoor.Fm Go.Proofs.YtkeckecdhcknhaaDoor.Lx Go.Proofs.YtkeckecdhcknhaaDoor.Ps
set_option linter.unusedVariables false
set_option linter.unusedSimpArgs false
def tmQ (c : Pc) : List Tm → Pc
  | [] => []
  | a :: r => tmP c a ++ tmPR c r
theorem tmPR_snoc (c : Pc) (x : Tm) : ∀ l, tmPR c (l ++ [x]) = tmPR c l ++ (some ⟨#[44]⟩ :: (c ++ tmP c x))
  | [] => by rw [List.nil_append, tmPR, tmPR, tmPR]; simp
  | a :: l => by rw [List.cons_append, tmPR, tmPR, tmPR_snoc c x l]; simp
theorem tmQ_snoc (c : Pc) (x : Tm) (l : List Tm) (h : l ≠ []) : tmQ c (l ++ [x]) = tmQ c l ++ (some ⟨#[44]⟩ :: (c ++ tmP c x)) := by
  cases l with
  | nil => exact absurd rfl h
  | cons a l => rw [List.cons_append, tmQ, tmQ, tmPR_snoc]; simp
theorem tmPA_eq (c : Pc) (l : List Tm) (h : l ≠ []) : tmPA c l = some ⟨#[40]⟩ :: (tmQ c l ++ [some ⟨#[41]⟩]) := by
  cases l with
  | nil => exact absurd rfl h
  | cons a l => rw [tmPA, tmQ]; simp
theorem bs_app (a b : Bs) : bs a ++ bs b = bs (a ++ b) := by
  apply ByteArray.ext
  rw [ByteArray.data_append]
  unfold bs
  simp
theorem bs_size (a : Bs) : (bs a).size = a.length := by unfold bs; simp [ByteArray.size]
/-- The text of a term; what of it is written ahead of an argument. -/
def FT (t : Tm) : ByteArray := bs (byP (tmP [] t))
def FQ (n : ByteArray) (l : List Tm) : ByteArray := bs (n.data.toList ++ 40 :: byP (tmQ [] l))
theorem FQ_nil (n : ByteArray) : FQ n [] = n ++ ⟨#[40]⟩ := by
  have : n = bs n.data.toList := (bs_list n).symm
  conv => rhs; rw [this]
  exact (bs_app n.data.toList [40]).symm
theorem FQ_one (n : ByteArray) (x : Tm) : FQ n [x] = FQ n [] ++ FT x := by
  unfold FQ FT
  rw [bs_app, tmQ, tmQ, tmPR, List.append_nil]
  simp
theorem FQ_snoc (n : ByteArray) (x : Tm) (l : List Tm) (h : l ≠ []) : FQ n (l ++ [x]) = FQ n l ++ ⟨#[44]⟩ ++ FT x := by
  unfold FQ FT
  rw [show (⟨#[44]⟩ : ByteArray) = bs [44] from rfl, bs_app, bs_app, tmQ_snoc _ _ _ h]
  simp
theorem FT_fin (t : Tm) (h : t.args ≠ []) : FT t = FQ t.n t.args ++ ⟨#[41]⟩ := by
  obtain ⟨v, n, l⟩ := t
  have h : l ≠ [] := h
  have e : FQ n l ++ ⟨#[41]⟩ = FQ n l ++ bs [41] := rfl
  show FT (.mk v n l) = FQ n l ++ ⟨#[41]⟩
  rw [e]
  unfold FT FQ
  rw [tmP, tmPA_eq _ _ h, bs_app]
  simp
theorem FT_leaf (t : Tm) (h : t.args = []) : FT t = t.n := by
  obtain ⟨v, n, l⟩ := t
  obtain rfl : l = [] := h
  unfold FT
  rw [tmP, tmPA, byP_some, byP_nil, List.append_nil, bs_list]
  rfl
theorem FQ_le (n : ByteArray) (l : List Tm) (q : Nat) : (FQ n (l.take q)).size ≤ (FQ n l).size := by
  unfold FQ
  rw [bs_size, bs_size, List.length_append, List.length_append, List.length_cons, List.length_cons]
  have h : (byP (tmQ [] (l.take q))).length ≤ (byP (tmQ [] l)).length := by
    have hr : ∀ (l : List Tm) (q : Nat), (byP (tmPR [] (l.take q))).length ≤ (byP (tmPR [] l)).length := by
      intro l
      induction l with
      | nil => intro q; rw [List.take_nil]; exact Nat.le_refl _
      | cons a l ih =>
        intro q
        cases q with
        | zero => rw [List.take_zero, tmPR]; exact Nat.zero_le _
        | succ q =>
          have := ih q
          rw [List.take_succ_cons, tmPR, tmPR]
          simp only [byP_some, byP_app, List.length_append]
          omega
    cases l with
    | nil => rw [List.take_nil]; exact Nat.le_refl _
    | cons a l =>
      cases q with
      | zero => rw [List.take_zero, tmQ]; exact Nat.zero_le _
      | succ q =>
        have := hr l q
        rw [List.take_succ_cons, tmQ, tmQ]
        simp only [byP_app, List.length_append]
        omega
  omega
theorem FT_arg (n : ByteArray) (l : List Tm) (q : Nat) (h : q < l.length) : (FQ n (l.take q)).size + 1 + (FT l[q]).size ≤ (FQ n l).size + 1 := by
  have h1 := FQ_le n l (q + 1)
  rw [List.take_succ_eq_append_getElem h] at h1
  by_cases h0 : l.take q = []
  · rw [h0, List.nil_append, FQ_one, ByteArray.size_append] at h1
    rw [h0]; omega
  · rw [FQ_snoc _ _ _ h0, ByteArray.size_append, ByteArray.size_append] at h1
    have e : (⟨#[44]⟩ : ByteArray).size = 1 := rfl
    omega
def FTR (t : Tm) (w : World) (s i : Value) (wr : World) : Prop := ∃ q : Nat, i = .int .i64 (q : Int) ∧ q ≤ t.args.length ∧ s = .string (FQ t.n (t.args.take q)) ∧ Below w.heap.size w wr
set_option maxHeartbeats 4000000 in
set_option maxRecDepth 20000 in
theorem fullT_c (N : Nat) : ∀ (t : Tm), SizeOf.sizeOf t < N → (FT t).size ≤ 20000 → ∀ (v0 v1 v2 : Value) (dn : Nat) (w : World), TmV dn w v0 v1 v2 t → dn ≤ w.heap.size →
    Calls Tryd.prog 20 #[.agg #[v0, v1, v2]] w fun e w' => e = .returned (.string (FT t)) ∧ Below w.heap.size w w' := by
  induction N with
  | zero => exact fun t h => absurd h (Nat.not_lt_zero _)
  | succ N ih =>
    intro t hN hsz v0 v1 v2 dn w ht hd
    have hb0 : Below w.heap.size w (w.alloc (.cells #[v0, v1, v2] 44)) := (Below.refl _ _).alloc (Nat.le_refl _) _
    obtain ⟨rfl, rfl, hok, hargs⟩ := ht
    obtain ⟨⟨sa, cap, rfl⟩, hlen⟩ := hargs.form
    have HSZ := Lib.hid hsz
    clear hsz
    by_cases h0 : t.args.length = 0
    · have HE := Lib.hid (FT_leaf t (List.eq_nil_of_length_eq_zero h0))
      have d1 : ((t.args.length : Int) == 0) = true := by rw [h0]; rfl
      clear h0
      go_enter Tryd.func20, Tryd.ntmps20
      go_wp2_with fail
      go_ret
      exact ⟨by rw [HE.out]; rfl, hb0⟩
    · have hne : t.args ≠ [] := fun h => h0 (by rw [h]; rfl)
      have HF := Lib.hid (FT_fin t hne)
      have d1 : ((t.args.length : Int) == 0) = false := beq_eq_false_iff_ne.2 (by omega)
      have hs1 : (FQ t.n t.args).size + 1 ≤ 20000 := by have := HSZ.out; rw [HF.out, ByteArray.size_append] at this; exact this
      have hs0 : t.n.size ≤ 20000 := by have h := FQ_le t.n t.args 0; rw [List.take_zero, FQ_nil, ByteArray.size_append] at h; omega
      have w0 : ¬ 9223372036854775807 < t.n.size + 1 := by omega
      have HS1 := Lib.hid hs1
      clear h0 hne hs1 hs0
      go_enter Tryd.func20, Tryd.ntmps20
      go_wp2_with fail
      go_loopw [3, 4] (fun s i wr => FTR t (w.alloc (.cells #[.bool t.v, .string t.n, .slice sa t.args.length cap] 44)) s i wr) (fun _ i _ => t.args.length - (intOf i).toNat)
      case atStart => exact ⟨0, rfl, Nat.zero_le _, by rw [List.take_zero, FQ_nil], Below.refl _ _⟩
      case round =>
        obtain ⟨q, rfl, hq, rfl, hbq⟩ := hrel
        have hzq := hbq.size
        rw [World.size_alloc] at hzq
        have c2 : wr.cell? ⟨w.heap.size, 2, none⟩ = some (.slice sa t.args.length cap) := by rw [hbq.cell (p := ⟨w.heap.size, 2, none⟩) (by simp)]; simp
        have hbw := hb0.trans (hbq.mono (by simp))
        by_cases hlt : q < t.args.length
        · obtain ⟨_, b, o, rfl, hbn, u0, u1, u2, k0, k1, k2, hu⟩ := (hargs.below (hbw.mono hd) (Nat.le_refl _)).get hlt
          have hdr : dn ≤ wr.heap.size := by omega
          have hsl := size_arg t q hlt
          have hle := FT_arg t.n t.args q hlt
          have hs1 := HS1.out
          have hcc := fun W (h : TmV dn W u0 u1 u2 t.args[q]) (h3 : dn ≤ W.heap.size) => ih t.args[q] (by omega) (by omega) u0 u1 u2 dn W h h3
          have HU := Lib.hid hu
          obtain ⟨⟨au, ku, hu2⟩, _⟩ := hu.args.form
          have z0 := hu.v
          have z1 := hu.nm
          subst hu2 z0 z1
          clear hu hsl
          have HTK := Lib.hid (List.take_succ_eq_append_getElem hlt)
          have HCC := Lib.hid (hcc wr HU.out hdr)
          clear hcc HU
          have n0 : (0 : Int) ≤ (q : Int) := by omega
          have n1 : (q : Int) < (t.args.length : Int) := by omega
          by_cases hq0 : q = 0
          · have e0 : t.args.take q = [] := by rw [hq0, List.take_zero]
            have HN := Lib.hid (show FQ t.n (t.args.take (q + 1)) = FQ t.n (t.args.take q) ++ FT t.args[q] by rw [HTK.out, e0, List.nil_append, FQ_one])
            clear e0
            have w1 : ¬ 9223372036854775807 < (FQ t.n (t.args.take q)).size + (FT t.args[q]).size := by omega
            have d3 : decide ((0 : Int) < (q : Int)) = false := decide_eq_false (by omega)
            have d4 : decide (0 < q) = false := decide_eq_false (by omega)
            clear hle hs1 hq0
            generalize FQ t.n (t.args.take q) = S0 at *
            generalize FT t.args[q] = S1 at *
            go_wp2_with fail
            refine HCC.out.mono ?_
            rintro e w4 ⟨rfl, hb2⟩
            have HB2 := Lib.hid (hbq.trans (hb2.mono hbq.size))
            clear hb2
            go_wp2_with fail
            exact ⟨⟨q + 1, by go_num, by omega, by rw [HN.out], HB2.out⟩, by simp [intOf]; omega⟩
          · have HN := Lib.hid (show FQ t.n (t.args.take (q + 1)) = FQ t.n (t.args.take q) ++ ⟨#[44]⟩ ++ FT t.args[q] by rw [HTK.out]; exact FQ_snoc _ _ _ (fun h => by have := congrArg List.length h; rw [List.length_take, List.length_nil] at this; omega))
            have w1 : ¬ 9223372036854775807 < (FQ t.n (t.args.take q)).size + 1 + (FT t.args[q]).size := by omega
            have w2 : ¬ 9223372036854775807 < (FQ t.n (t.args.take q)).size + 1 := by omega
            have d3 : decide ((0 : Int) < (q : Int)) = true := decide_eq_true (by omega)
            have d4 : decide (0 < q) = true := decide_eq_true (by omega)
            have d5 : 0 < q := by omega
            clear hle hs1 hq0
            generalize FQ t.n (t.args.take q) = S0 at *
            generalize FT t.args[q] = S1 at *
            have w3 : ¬ 9223372036854775807 < (S0 ++ ⟨#[44]⟩).size + S1.size := by rw [ByteArray.size_append]; exact w1
            go_wp2_with fail
            refine HCC.out.mono ?_
            rintro e w4 ⟨rfl, hb2⟩
            have HB2 := Lib.hid (hbq.trans (hb2.mono hbq.size))
            clear hb2
            go_wp2_with fail
            exact ⟨⟨q + 1, by go_num, by omega, by rw [HN.out], HB2.out⟩, by simp [intOf]; omega⟩
        · have e : q = t.args.length := by omega
          have hl := FQ_le t.n t.args q
          have w1 : ¬ 9223372036854775807 < (FQ t.n (t.args.take q)).size + 1 := by have := HS1.out; omega
          have HR := Lib.hid (show FQ t.n (t.args.take q) ++ ⟨#[41]⟩ = FT t by rw [e, List.take_length, HF.out])
          clear e hl
          go_wp2_with fail
          go_ret
          exact ⟨by rw [HR.out]; rfl, hbw⟩
end Go.Proofs.YtkeckecdhcknhaaDoor.Ft

/-
  How long the texts are.
-/
namespace Go.Proofs.YtkeckecdhcknhaaDoor.Ft
open Go Go.RowKit Go.Proofs.YtkeckecdhcknhaaDoor.Fm Go.Proofs.YtkeckecdhcknhaaDoor.Lx Go.Proofs.YtkeckecdhcknhaaDoor.Ps
set_option linter.unusedVariables false
set_option linter.unusedSimpArgs false
theorem ba_len (t : ByteArray) : t.data.toList.length = t.size := rfl
theorem var_le {s : ByteArray} (h : varB s = true) : s.size ≤ 16 := (names_head h).1
theorem fn_le {s : ByteArray} (h : fnB s = true) : s.size ≤ 16 := (names_head (fn_names h)).1
theorem pred_le {s : ByteArray} (h : predB s = true) : s.size ≤ 16 := (names_head h).1
theorem met_le {s : ByteArray} (h : metB s = true) : s.size ≤ 16 := (met_head h).1
theorem CmOk.le {c : Pc} (h : CmOk c) : (byP c).length ≤ 1 := by rcases h with rfl | rfl <;> decide
theorem all_len (t : Tm) (lv : Int) : (t.all lv).length = 1 + ((t.args.map fun a => (a.all (wrap64 (lv + 1))).length)).sum := by
  rw [Tm.all_eq, List.length_cons, List.length_flatMap]; omega
mutual
theorem tm_len (m : Bool) (c : Pc) (hc : CmOk c) : ∀ (t : Tm) (lv : Int), t.right m = true → (byP (tmP c t)).length + 2 ≤ 20 * (t.all lv).length
  | .mk true n l, lv, h => by
    obtain ⟨rfl, hv⟩ := right_var h
    have : n.size ≤ 16 := by
      rw [Bool.or_eq_true] at hv
      rcases hv with hv | hv
      · exact var_le hv
      · exact met_le (mt_met hv)
    rw [tmP, tmPA, byP_some, byP_nil, List.append_nil, ba_len, all_len]
    omega
  | .mk false n l, lv, h => by
    obtain ⟨hf, h4, hl⟩ := right_fn h
    have h1 := fn_le hf
    have h2 := tma_len m c hc l (wrap64 (lv + 1)) hl
    rw [tmP, byP_some, List.length_append, ba_len, all_len]
    simp only [Tm.args]
    omega
theorem tma_len (m : Bool) (c : Pc) (hc : CmOk c) : ∀ (l : List Tm) (lv : Int), (∀ a ∈ l, a.right m = true) → (byP (tmPA c l)).length ≤ 2 + 20 * (l.map fun a => (a.all lv).length).sum
  | [], lv, h => by rw [tmPA]; simp
  | a :: l, lv, h => by
    have h1 := tm_len m c hc a lv (h a (List.mem_cons_self ..))
    have h2 := tmr_len m c hc l lv fun b hb => h b (List.mem_cons_of_mem _ hb)
    rw [tmPA, byP_some, byP_app, byP_app, byP_some, byP_nil, List.map_cons, List.sum_cons]
    simp only [List.length_append, ba_len, List.length_nil, List.length_cons]
    have e1 : (⟨#[40]⟩ : ByteArray).size = 1 := rfl
    have e2 : (⟨#[41]⟩ : ByteArray).size = 1 := rfl
    omega
theorem tmr_len (m : Bool) (c : Pc) (hc : CmOk c) : ∀ (l : List Tm) (lv : Int), (∀ a ∈ l, a.right m = true) → (byP (tmPR c l)).length ≤ 20 * (l.map fun a => (a.all lv).length).sum
  | [], lv, h => by rw [tmPR]; simp
  | a :: l, lv, h => by
    have h1 := tm_len m c hc a lv (h a (List.mem_cons_self ..))
    have h2 := tmr_len m c hc l lv fun b hb => h b (List.mem_cons_of_mem _ hb)
    have h3 := hc.le
    rw [tmPR, byP_some, byP_app, byP_app, List.map_cons, List.sum_cons]
    simp only [List.length_append, ba_len, List.length_nil, List.length_cons]
    have e1 : (⟨#[44]⟩ : ByteArray).size = 1 := rfl
    omega
end
/-- The nodes of a formula, terms too. -/
def NF (lv : Int) (f : Fo) : Nat := (f.all lv).length + ((f.all lv).flatMap termsOf).length
theorem termsOf_len (lv : Int) (f : Fo) : (termsOf (lv, f)).length = (f.args.map fun a => (a.all (wrap64 (lv + 1))).length).sum := by
  unfold termsOf; rw [List.length_flatMap]
theorem NF_eq (lv : Int) (f : Fo) : NF lv f = 1 + (f.args.map fun a => (a.all (wrap64 (lv + 1))).length).sum + (f.sub.map fun g => NF (wrap64 (lv + 1)) g).sum := by
  unfold NF
  rw [Fo.all_eq, List.length_cons, List.flatMap_cons, List.length_append, termsOf_len, List.length_flatMap, List.flatMap_assoc, List.length_flatMap]
  have : ∀ l : List Fo, (l.map fun g => (g.all (wrap64 (lv + 1))).length).sum + (l.map fun g => ((g.all (wrap64 (lv + 1))).flatMap termsOf).length).sum = (l.map fun g => (g.all (wrap64 (lv + 1))).length + ((g.all (wrap64 (lv + 1))).flatMap termsOf).length).sum := by
    intro l
    induction l with
    | nil => rfl
    | cons a l ih => simp only [List.map_cons, List.sum_cons]; omega
  have := this f.sub
  omega
theorem NF_pos (lv : Int) (f : Fo) : 1 ≤ NF lv f := by rw [NF_eq]; omega
theorem par_len (b : Bool) (p : Pc) : (byP (par b p)).length ≤ (byP p).length + 2 := by
  cases b with
  | false => show (byP p).length ≤ _; omega
  | true =>
    show (byP (some ⟨#[40]⟩ :: (p ++ [some ⟨#[41]⟩]))).length ≤ _
    rw [byP_some, byP_app, byP_some, byP_nil]
    simp only [List.length_append, ba_len, List.length_nil, List.length_cons]
    have e1 : (⟨#[40]⟩ : ByteArray).size = 1 := rfl
    have e2 : (⟨#[41]⟩ : ByteArray).size = 1 := rfl
    omega
theorem ite_le {c : Prop} [Decidable c] {a b : ByteArray} {n : Nat} (ha : a.size ≤ n) (hb : b.size ≤ n) : (if c then a else b).size ≤ n := by split <;> assumption
theorem sg_le (o : Int) : (sgW o).size ≤ 6 := by
  unfold sgW
  repeat (refine ite_le (by decide) ?_)
  decide
theorem all_pos (t : Tm) (lv : Int) : 1 ≤ (t.all lv).length := by rw [all_len]; omega
theorem ahead_len (s : Sty) (o : Int) (n : ByteArray) (h : n.size ≤ 16) : (byP (aheadP s o n)).length ≤ 24 := by
  have := sg_le o
  unfold aheadP
  rw [byP_some, byP_app]
  simp only [List.length_append, ba_len]
  have h1 : (byP (if s.sp o = true then [none] else [])).length ≤ 1 := by split <;> decide
  have h2 : (byP (if n.size = 0 then [] else [some n, none])).length ≤ 17 := by
    split
    · decide
    · rw [byP_some, List.length_append, ba_len]
      show n.size + 1 ≤ 17
      omega
  omega
theorem fo_len (m : Bool) (s : Sty) (hc : CmOk s.c) (br : Fo → Nat → Bool) (N : Nat) : ∀ (f : Fo), SizeOf.sizeOf f < N → ∀ (lv : Int), FoK m lv f → 1 ≤ lv → (byP (foP s br f)).length + 2 ≤ 29 * NF lv f := by
  induction N with
  | zero => exact fun f h => absurd h (Nat.not_lt_zero _)
  | succ N ih =>
    intro f hN lv hk h1
    have hsh := hk.shape
    have hl := hk.head.2.2.1
    have hwr : wrap64 (lv + 1) = lv + 1 := wrap_id (by omega) (by omega)
    have hsub : ∀ g, g ∈ f.sub → (byP (foP s br g)).length + 2 ≤ 29 * NF (wrap64 (lv + 1)) g := by
      intro g hg
      have hlt : SizeOf.sizeOf g < SizeOf.sizeOf f := by
        obtain ⟨o, n, a, ss⟩ := f
        have : SizeOf.sizeOf g < SizeOf.sizeOf ss := List.sizeOf_lt_of_mem hg
        simp only [Fo.mk.sizeOf_spec]; omega
      rw [hwr]
      exact ih g (by omega) (lv + 1) (hk.sub h1 hg) (by omega)
    have hun : ∀ o n g, f = .mk o n [] [g] → n.size ≤ 16 → (byP (foP s br (.mk o n [] [g]))).length + 2 ≤ 29 * NF lv (.mk o n [] [g]) := by
      rintro o n g rfl hn
      have h2 := hsub g (List.mem_cons_self ..)
      have h3 := ahead_len s o n hn
      have h4 := par_len (br (.mk o n [] [g]) 0) (foP s br g)
      show (byP (aheadP s o n ++ par (br (.mk o n [] [g]) 0) (foP s br g))).length + 2 ≤ _
      rw [byP_app, List.length_append, NF_eq]
      simp only [Fo.args, Fo.sub, List.map_cons, List.map_nil, List.sum_cons, List.sum_nil]
      omega
    rw [show f = f from rfl]
    cases hsh with
    | @ato n a hp h4 ha =>
      have h2 := tma_len m s.c hc a (wrap64 (lv + 1)) ha
      have h3 := pred_le hp
      show (byP (some n :: tmPA s.c a)).length + 2 ≤ _
      rw [byP_some, List.length_append, ba_len, NF_eq]
      simp only [Fo.args, Fo.sub, List.map_nil, List.sum_nil]
      omega
    | fal =>
      have := NF_pos lv (.mk 2 ⟨#[]⟩ [] [])
      show (5 : Nat) + 2 ≤ _
      omega
    | @met n hm hn =>
      have := NF_pos lv (.mk 15 n [] [])
      have h3 := met_le (mf_met hn)
      show (byP (some n :: tmPA s.c [])).length + 2 ≤ _
      rw [tmPA, byP_some, byP_nil, List.append_nil, ba_len]
      omega
    | @ins n t x hm hn ht hx =>
      have h1 := met_le (mf_met hn)
      have h2 := met_le (mt_met ht)
      have h3 := var_le hx
      show (byP [some n, some ⟨#[91]⟩, some t, some ⟨#[47]⟩, some x, some ⟨#[93]⟩]).length + 2 ≤ _
      simp only [byP_some, byP_nil, List.length_append, ba_len, List.length_nil]
      have e1 : (⟨#[91]⟩ : ByteArray).size = 1 := rfl
      have e2 : (⟨#[47]⟩ : ByteArray).size = 1 := rfl
      have e3 : (⟨#[93]⟩ : ByteArray).size = 1 := rfl
      have p1 := all_pos (.mk true x []) (wrap64 (lv + 1))
      have p2 := all_pos (.mk true t []) (wrap64 (lv + 1))
      rw [NF_eq]
      simp only [Fo.args, Fo.sub, List.map_cons, List.map_nil, List.sum_cons, List.sum_nil, List.length_cons, List.length_nil]
      omega
    | @qua o n g ho hn => exact hun o n g rfl (var_le hn)
    | @una o g ho => exact hun o _ g rfl (by decide)
    | @bin o g h ho =>
      have h1 := hsub g (List.mem_cons_self ..)
      have h2 := hsub h (List.mem_cons_of_mem _ (List.mem_cons_self ..))
      have h3 := sg_le o
      have h4 := par_len (br (.mk o ⟨#[]⟩ [] [g, h]) 0) (foP s br g)
      have h5 := par_len (br (.mk o ⟨#[]⟩ [] [g, h]) 1) (foP s br h)
      show (byP (par (br (.mk o ⟨#[]⟩ [] [g, h]) 0) (foP s br g) ++ (none :: some (sgW o) :: none :: par (br (.mk o ⟨#[]⟩ [] [g, h]) 1) (foP s br h)))).length + 2 ≤ _
      rw [byP_app, byP_none, byP_some, byP_none, NF_eq]
      simp only [List.length_append, List.length_cons, ba_len, Fo.args, Fo.sub, List.map_cons, List.map_nil, List.sum_cons, List.sum_nil]
      omega
theorem right_len {m : Bool} {f : Fo} (h : rightB m f = true) (ho : OpsOk f) (s : Sty) (hc : CmOk s.c) (br : Fo → Nat → Bool) : (byP (foP s br f)).length + 2 ≤ 11600 := by
  have h1 := fo_len m s hc br _ f (Nat.lt_succ_self _) 1 (fok_right h ho) (Int.le_refl _)
  have h2 : NF 1 f ≤ 400 := by
    unfold rightB fitsB levelsL at h
    rw [Bool.and_eq_true, Bool.and_eq_true] at h
    have := of_decide_eq_true h.1.1
    rw [List.length_append, List.length_map, List.length_map] at this
    unfold NF
    unfold termsL at this
    omega
  omega
end Go.Proofs.YtkeckecdhcknhaaDoor.Ft

/-
  The statements' own sign and Full.
-/
namespace Go.Proofs.YtkeckecdhcknhaaDoor.Ft
open Go Go.RowKit Go.Shelf Go.Proofs.YtkeckecdhcknhaaDoor.Fm Go.Proofs.YtkeckecdhcknhaaDoor.Lx Go.Proofs.YtkeckecdhcknhaaDoor.Ps
set_option linter.unusedVariables false
set_option linter.unusedSimpArgs false
/-- Every binary sign in brackets; a blank behind every sign. -/
def sty5 : Sty := ⟨[], fun _ => true⟩
def br5 (F : Fo) (i : Nat) : Bool := match F.sub[i]? with
  | some g => decide (str g.op < 6)
  | none => false
def fullP (f : Fo) : Pc := par (decide (str f.op < 6)) (foP sty5 br5 f)
def FF (f : Fo) : ByteArray := bs (byP (fullP f))
theorem str_u {o : Int} (h : ¬ (o = 7 ∨ o = 6 ∨ o = 14 ∨ o = 5 ∨ o = 4)) : decide (str o < 6) = false := by
  unfold str
  rw [if_neg (by omega), if_neg (by omega), if_neg (by omega), if_neg (by omega), if_neg (by omega)]
  rfl
theorem str_b {o : Int} (h : o = 4 ∨ o = 5 ∨ o = 6 ∨ o = 7 ∨ o = 14) : decide (str o < 6) = true := by rcases h with rfl | rfl | rfl | rfl | rfl <;> rfl
theorem bsl (s : ByteArray) : bs s.data.toList = s := bs_list s
theorem FF_ato (n : ByteArray) (a : List Tm) : FF (.mk 1 n a []) = FT (.mk false n a) := by
  show bs (byP (some n :: tmPA [] a)) = bs (byP (tmP [] (.mk false n a)))
  rw [tmP]
theorem FF_fal : FF (.mk 2 ⟨#[]⟩ [] []) = ⟨#[102, 97, 108, 115, 101]⟩ := rfl
theorem FF_met (n : ByteArray) : FF (.mk 15 n [] []) = n := by
  show bs (byP (some n :: tmPA [] [])) = n
  rw [tmPA, byP_some, byP_nil, List.append_nil, bs_list]
theorem cat2 (a b : Bs) (x y : ByteArray) (hx : x = bs a) (hy : y = bs b) : x ++ y = bs (a ++ b) := by rw [hx, hy, bs_app]
theorem FF_ins (n t x : ByteArray) (v w : Bool) : FF (.mk 16 n [.mk v x [], .mk w t []] []) = n ++ ⟨#[91]⟩ ++ t ++ ⟨#[47]⟩ ++ x ++ ⟨#[93]⟩ := by
  show bs (byP [some n, some ⟨#[91]⟩, some t, some ⟨#[47]⟩, some x, some ⟨#[93]⟩]) = _
  have e : n ++ ⟨#[91]⟩ ++ t ++ ⟨#[47]⟩ ++ x ++ ⟨#[93]⟩ = bs n.data.toList ++ bs [91] ++ bs t.data.toList ++ bs [47] ++ bs x.data.toList ++ bs [93] := by rw [bsl, bsl, bsl]; rfl
  rw [e, bs_app, bs_app, bs_app, bs_app, bs_app]
  simp only [byP_some, byP_nil, List.append_nil, List.append_assoc]
theorem FF_qua (o : Int) (n : ByteArray) (g : Fo) (ho : o = 8 ∨ o = 9) (hn : n.size ≠ 0) : FF (.mk o n [] [g]) = sgW o ++ ⟨#[32]⟩ ++ n ++ ⟨#[32]⟩ ++ FF g := by
  unfold FF fullP
  rw [show decide (str (Fo.mk o n [] [g]).op < 6) = false from str_u (o := o) (by omega)]
  show bs (byP (aheadP sty5 o n ++ fullP g)) = _
  have e : sgW o ++ ⟨#[32]⟩ ++ n ++ ⟨#[32]⟩ ++ bs (byP (fullP g)) = bs (sgW o).data.toList ++ bs [32] ++ bs n.data.toList ++ bs [32] ++ bs (byP (fullP g)) := by rw [bsl, bsl]; rfl
  have e2 : aheadP sty5 o n = [some (sgW o), none, some n, none] := by unfold aheadP; rw [if_neg hn]; rfl
  show _ = sgW o ++ ⟨#[32]⟩ ++ n ++ ⟨#[32]⟩ ++ bs (byP (fullP g))
  rw [e, bs_app, bs_app, bs_app, bs_app, e2]
  simp only [byP_some, byP_none, byP_nil, byP_app, List.append_nil, List.append_assoc, List.cons_append, List.nil_append]
theorem FF_una (o : Int) (g : Fo) (ho : o = 3 ∨ o = 10 ∨ o = 11 ∨ o = 12 ∨ o = 13) : FF (.mk o ⟨#[]⟩ [] [g]) = sgW o ++ ⟨#[32]⟩ ++ FF g := by
  unfold FF fullP
  rw [show decide (str (Fo.mk o ⟨#[]⟩ [] [g]).op < 6) = false from str_u (o := o) (by omega)]
  show bs (byP (aheadP sty5 o ⟨#[]⟩ ++ fullP g)) = _
  have e : sgW o ++ ⟨#[32]⟩ ++ bs (byP (fullP g)) = bs (sgW o).data.toList ++ bs [32] ++ bs (byP (fullP g)) := by rw [bsl]; rfl
  have e2 : aheadP sty5 o ⟨#[]⟩ = [some (sgW o), none] := rfl
  show _ = sgW o ++ ⟨#[32]⟩ ++ bs (byP (fullP g))
  rw [e, bs_app, bs_app, e2]
  simp only [byP_some, byP_none, byP_nil, byP_app, List.append_nil, List.append_assoc, List.cons_append, List.nil_append]
theorem FF_bin (o : Int) (g h : Fo) (ho : o = 4 ∨ o = 5 ∨ o = 6 ∨ o = 7 ∨ o = 14) : FF (.mk o ⟨#[]⟩ [] [g, h]) = ⟨#[40]⟩ ++ FF g ++ ⟨#[32]⟩ ++ sgW o ++ ⟨#[32]⟩ ++ FF h ++ ⟨#[41]⟩ := by
  unfold FF fullP
  rw [show decide (str (Fo.mk o ⟨#[]⟩ [] [g, h]).op < 6) = true from str_b ho]
  show bs (byP (some ⟨#[40]⟩ :: ((fullP g ++ (none :: some (sgW o) :: none :: fullP h)) ++ [some ⟨#[41]⟩]))) = _
  have e : ⟨#[40]⟩ ++ bs (byP (fullP g)) ++ ⟨#[32]⟩ ++ sgW o ++ ⟨#[32]⟩ ++ bs (byP (fullP h)) ++ ⟨#[41]⟩ = bs [40] ++ bs (byP (fullP g)) ++ bs [32] ++ bs (sgW o).data.toList ++ bs [32] ++ bs (byP (fullP h)) ++ bs [41] := by rw [bsl]; rfl
  show _ = ⟨#[40]⟩ ++ bs (byP (fullP g)) ++ ⟨#[32]⟩ ++ sgW o ++ ⟨#[32]⟩ ++ bs (byP (fullP h)) ++ ⟨#[41]⟩
  rw [e, bs_app, bs_app, bs_app, bs_app, bs_app, bs_app]
  simp only [byP_some, byP_none, byP_nil, byP_app, List.append_nil, List.append_assoc, List.cons_append, List.nil_append]
set_option maxRecDepth 20000 in
theorem sign_c (o : Int) (h : o = 3 ∨ o = 4 ∨ o = 5 ∨ o = 6 ∨ o = 7 ∨ o = 8 ∨ o = 9 ∨ o = 10 ∨ o = 11 ∨ o = 12 ∨ o = 13 ∨ o = 14) (w : World) : Calls Tryd.prog 14 #[.int .u8 o] w fun e w' => e = .returned (.string (sgW o)) ∧ w = w' := by
  rcases h with rfl | rfl | rfl | rfl | rfl | rfl | rfl | rfl | rfl | rfl | rfl | rfl
  all_goals
    go_enter Tryd.func14, Tryd.ntmps14
    go_wp2_with fail
    go_ret
    exact ⟨rfl, rfl⟩
theorem op_mk (o : Int) (n : ByteArray) (a : List Tm) (s : List Fo) : (Fo.mk o n a s).op = o := rfl
theorem n_mk (o : Int) (n : ByteArray) (a : List Tm) (s : List Fo) : (Fo.mk o n a s).n = n := rfl
theorem args_mk (o : Int) (n : ByteArray) (a : List Tm) (s : List Fo) : (Fo.mk o n a s).args = a := rfl
theorem sub_mk (o : Int) (n : ByteArray) (a : List Tm) (s : List Fo) : (Fo.mk o n a s).sub = s := rfl
theorem box4 (w : World) (v0 v1 v2 v3 : Value) (t : TypeId) : (w.alloc (.cells #[v0, v1, v2, v3] t)).cell? ⟨w.heap.size, 0, none⟩ = some v0 ∧ (w.alloc (.cells #[v0, v1, v2, v3] t)).cell? ⟨w.heap.size, 1, none⟩ = some v1 ∧
    (w.alloc (.cells #[v0, v1, v2, v3] t)).cell? ⟨w.heap.size, 2, none⟩ = some v2 ∧ (w.alloc (.cells #[v0, v1, v2, v3] t)).cell? ⟨w.heap.size, 3, none⟩ = some v3 ∧ w.heap.size < (w.alloc (.cells #[v0, v1, v2, v3] t)).heap.size := by
  refine ⟨?_, ?_, ?_, ?_, ?_⟩ <;> simp
set_option maxHeartbeats 8000000 in
set_option maxRecDepth 20000 in
theorem full_c (N : Nat) : ∀ (f : Fo), SizeOf.sizeOf f < N → ∀ (lv : Int), FoK true lv f → 1 ≤ lv → (FF f).size ≤ 20000 → ∀ (v0 v1 v2 v3 : Value) (dn : Nat) (w : World), FoV dn w v0 v1 v2 v3 f → dn ≤ w.heap.size →
    Calls Tryd.prog 8 #[.agg #[v0, v1, v2, v3]] w fun e w' => e = .returned (.string (FF f)) ∧ Below w.heap.size w w' := by
  induction N with
  | zero => exact fun f h => absurd h (Nat.not_lt_zero _)
  | succ N ih =>
    intro f hN lv hk h1 hsz v0 v1 v2 v3 dn w hf hd
    have hb0 : Below w.heap.size w (w.alloc (.cells #[v0, v1, v2, v3] 25)) := (Below.refl _ _).alloc (Nat.le_refl _) _
    have hsh := hk.shape
    have hgf : ∀ g ∈ f.sub, ∀ (u0 u1 u2 u3 : Value) (W : World), (FF g).size ≤ 20000 → FoV dn W u0 u1 u2 u3 g → dn ≤ W.heap.size → Calls Tryd.prog 8 #[.agg #[u0, u1, u2, u3]] W fun e w' => e = .returned (.string (FF g)) ∧ Below W.heap.size W w' := by
      intro g hg u0 u1 u2 u3 W hz hv hdW
      have hlt : SizeOf.sizeOf g < SizeOf.sizeOf f := by
        obtain ⟨o, n, a, ss⟩ := f
        have : SizeOf.sizeOf g < SizeOf.sizeOf ss := List.sizeOf_lt_of_mem hg
        simp only [Fo.mk.sizeOf_spec]; omega
      exact ih g (by omega) (lv + 1) (hk.sub h1 hg) (by omega) hz u0 u1 u2 u3 dn W hv hdW
    have HGF := Lib.hid hgf
    have HSZ := Lib.hid hsz
    clear hgf hsz ih hk
    cases hsh with
    | @ato n a hp h4 ha =>
      have HE := Lib.hid (FF_ato n a)
      obtain ⟨rfl, _, rfl, hok, hA, hS⟩ := hf
      obtain ⟨⟨a1, k1, rfl⟩, _⟩ := hA.form
      obtain ⟨⟨a2, k2, rfl⟩, _⟩ := hS.form
      have hz := HSZ.out
      rw [HE.out] at hz
      have HC := Lib.hid (fun W (hb : Below w.heap.size w W) => fullT_c _ (.mk false n a) (Nat.lt_succ_self _) hz (.bool false) (.string n) (.slice a1 a.length k1) dn W ⟨rfl, rfl, hok, hA.below hb hd⟩ (Nat.le_trans hd hb.size))
      clear hA hS hz hok HGF
      simp only [op_mk, n_mk, args_mk, sub_mk, List.length_cons, List.length_nil, Nat.zero_add, Nat.zero_mul, Nat.add_zero] at *
      go_enter Tryd.func8, Tryd.ntmps8
      go_wp2_with fail
      refine (HC.out _ hb0).mono ?_
      rintro e w1 ⟨rfl, hb1⟩
      have hb2 := hb0.trans (hb1.mono hb0.size)
      clear hb1
      go_wp2_with fail
      go_ret
      exact ⟨by rw [HE.out]; rfl, hb2⟩
    | fal =>
      obtain ⟨rfl, _, rfl, hok, hA, hS⟩ := hf
      obtain ⟨⟨a1, k1, rfl⟩, _⟩ := hA.form
      obtain ⟨⟨a2, k2, rfl⟩, _⟩ := hS.form
      clear HGF hA hS
      simp only [op_mk, n_mk, args_mk, sub_mk, List.length_cons, List.length_nil, Nat.zero_add, Nat.zero_mul, Nat.add_zero] at *
      go_enter Tryd.func8, Tryd.ntmps8
      go_wp2_with fail
      go_ret
      exact ⟨rfl, hb0⟩
    | @met n hm hn =>
      have HE := Lib.hid (FF_met n)
      obtain ⟨rfl, _, rfl, hok, hA, hS⟩ := hf
      obtain ⟨⟨a1, k1, rfl⟩, _⟩ := hA.form
      obtain ⟨⟨a2, k2, rfl⟩, _⟩ := hS.form
      clear HGF hA hS
      simp only [op_mk, n_mk, args_mk, sub_mk, List.length_cons, List.length_nil, Nat.zero_add, Nat.zero_mul, Nat.add_zero] at *
      go_enter Tryd.func8, Tryd.ntmps8
      go_wp2_with fail
      go_ret
      exact ⟨by rw [HE.out]; rfl, hb0⟩
    | @ins n t x hm hn ht hx =>
      have HE := Lib.hid (FF_ins n t x true true)
      have l1 := met_le (mf_met hn)
      have l2 := met_le (mt_met ht)
      have l3 := var_le hx
      have w1 : ¬ 9223372036854775807 < n.size + 1 := by omega
      have w2 : ¬ 9223372036854775807 < n.size + 1 + t.size := by omega
      have w3 : ¬ 9223372036854775807 < n.size + 1 + t.size + 1 := by omega
      have w4 : ¬ 9223372036854775807 < n.size + 1 + t.size + 1 + x.size := by omega
      have w5 : ¬ 9223372036854775807 < n.size + 1 + t.size + 1 + x.size + 1 := by omega
      clear l1 l2 l3
      obtain ⟨rfl, _, rfl, hok, hA, hS⟩ := hf
      obtain ⟨⟨a1, k1, rfl⟩, _⟩ := hA.form
      obtain ⟨⟨a2, k2, rfl⟩, _⟩ := hS.form
      have hA2 := hA.below hb0 hd
      obtain ⟨_, b, o, rfl, hbn, u0, u1, u2, c0, c1, c2, hu⟩ := hA2.get (i := 0) (Nat.zero_lt_succ _)
      obtain ⟨_, b', o', he, hbn', y0, y1, y2, d0, d1, d2, hv⟩ := hA2.get (i := 1) (Nat.succ_lt_succ (Nat.zero_lt_succ _))
      injection he with he
      injection he with he1 he2
      subst he1; subst he2
      have z1 : u1 = .string x := hu.nm
      have z2 : y1 = .string t := hv.nm
      subst z1 z2
      have hblt : b < w.heap.size := by omega
      clear HGF hA hA2 hS hu hv hbn' HSZ
      simp only [op_mk, n_mk, args_mk, sub_mk, List.length_cons, List.length_nil, Nat.zero_add, Nat.zero_mul, Nat.add_zero] at *
      go_enter Tryd.func8, Tryd.ntmps8
      go_wp2_with fail
      obtain ⟨b0, b1, b2, b3, bz⟩ := box4 w (.int .u8 16) (.string n) (.slice (some ⟨b, o, none⟩) 2 k1) (.slice a2 0 k2) 25
      generalize w.alloc (.cells #[.int .u8 16, .string n, .slice (some ⟨b, o, none⟩) 2 k1, .slice a2 0 k2] 25) = X at *
      haveI hne : Nonempty (InS (Below X.heap.size X)) := ⟨⟨_, Below.refl _ _⟩⟩
      have hcl : ∀ (p : InS (Below X.heap.size X)) (b q : Nat), b < X.heap.size → p.w.cell? ⟨b, q, none⟩ = X.cell? ⟨b, q, none⟩ := fun p b q h => p.h.cell (p := ⟨b, q, none⟩) h
      have i0 := fun p => (hcl p w.heap.size 0 bz).trans b0
      have i1 := fun p => (hcl p w.heap.size 1 bz).trans b1
      have i2 := fun p => (hcl p w.heap.size 2 bz).trans b2
      have i3 := fun p => (hcl p w.heap.size 3 bz).trans b3
      have j0 := fun p => (hcl p b _ (by omega)).trans c1
      have j1 := fun p => (hcl p b _ (by omega)).trans d1
      clear hcl c1 d1 b0 b1 b2 b3
      refine wp_region_class (Below X.heap.size X) (by kernel_rfl) (by kernel_rfl) (Below.drew (Below.refl _ _)) ?_
      repeat (go_big_quiet_step (fail))
      refine wpQuiet_nil ?_
      intro w2 hw'
      obtain ⟨⟨w3, hS2⟩, hw''⟩ := hw'
      have hw3 : w2 = w3 := hw''
      subst hw3
      have hb2 : Below w.heap.size w w2 := hb0.trans (hS2.mono hb0.size)
      clear hw'' hS2 hne i0 i1 i2 i3 j0 j1
      go_wp2_with fail
      go_ret
      exact ⟨by rw [HE.out]; rfl, hb2⟩
    | @una o g ho =>
      have HE := Lib.hid (FF_una o g ho)
      obtain ⟨rfl, _, rfl, hok, hA, hS⟩ := hf
      obtain ⟨⟨a1, k1, rfl⟩, _⟩ := hA.form
      obtain ⟨⟨a2, k2, rfl⟩, _⟩ := hS.form
      have hS2 := hS.below hb0 hd
      obtain ⟨_, b, o2, rfl, hbn, u0, u1, u2, u3, c0, c1, c2, c3, hu⟩ := hS2.get (i := 0) (Nat.zero_lt_succ _)
      have hz := HSZ.out
      rw [HE.out] at hz
      simp only [ByteArray.size_append] at hz
      have hsg := sg_le o
      have e1 : (⟨#[32]⟩ : ByteArray).size = 1 := rfl
      have w1 : ¬ 9223372036854775807 < (sgW o).size + 1 := by omega
      have w2 : ¬ 9223372036854775807 < (sgW o).size + 1 + (FF g).size := by omega
      have hu : FoV dn _ u0 u1 u2 u3 g := hu
      have HU := Lib.hid hu
      obtain ⟨q0, _, q1, _, hA3, hS3⟩ := hu
      subst q0 q1
      obtain ⟨⟨au, ku, rfl⟩, _⟩ := hA3.form
      obtain ⟨⟨eu, lu, rfl⟩, _⟩ := hS3.form
      clear hA3 hS3
      have hblt : b < w.heap.size := by omega
      clear hA hS hS2
      have HO := Lib.hid ho
      simp only [op_mk, n_mk, args_mk, sub_mk, List.length_cons, List.length_nil, Nat.zero_add, Nat.zero_mul, Nat.add_zero] at *
      have d1 : (o == 1) = false := beq_eq_false_iff_ne.2 (by omega)
      have d2 : (o == 2) = false := beq_eq_false_iff_ne.2 (by omega)
      have d15 : (o == 15) = false := beq_eq_false_iff_ne.2 (by omega)
      have d16 : (o == 16) = false := beq_eq_false_iff_ne.2 (by omega)
      have d4 : (o == 4) = false := beq_eq_false_iff_ne.2 (by omega)
      have d5 : (o == 5) = false := beq_eq_false_iff_ne.2 (by omega)
      have d6 : (o == 6) = false := beq_eq_false_iff_ne.2 (by omega)
      have d7 : (o == 7) = false := beq_eq_false_iff_ne.2 (by omega)
      have d14 : (o == 14) = false := beq_eq_false_iff_ne.2 (by omega)
      have d8 : (o == 8) = false := beq_eq_false_iff_ne.2 (by omega)
      have d9 : (o == 9) = false := beq_eq_false_iff_ne.2 (by omega)
      clear ho
      go_enter Tryd.func8, Tryd.ntmps8
      go_wp2_with fail
      obtain ⟨b0, b1, b2, b3, bz⟩ := box4 w (.int .u8 o) (.string ⟨#[]⟩) (.slice a1 0 k1) (.slice (some ⟨b, o2, none⟩) 1 k2) 25
      generalize w.alloc (.cells #[.int .u8 o, .string ⟨#[]⟩, .slice a1 0 k1, .slice (some ⟨b, o2, none⟩) 1 k2] 25) = X at *
      haveI hne : Nonempty (InS (Below X.heap.size X)) := ⟨⟨_, Below.refl _ _⟩⟩
      have hcl : ∀ (p : InS (Below X.heap.size X)) (b q : Nat), b < X.heap.size → p.w.cell? ⟨b, q, none⟩ = X.cell? ⟨b, q, none⟩ := fun p b q h => p.h.cell (p := ⟨b, q, none⟩) h
      have i0 := fun p => (hcl p w.heap.size 0 bz).trans b0
      have i1 := fun p => (hcl p w.heap.size 1 bz).trans b1
      have i2 := fun p => (hcl p w.heap.size 2 bz).trans b2
      have i3 := fun p => (hcl p w.heap.size 3 bz).trans b3
      have j0 := fun p => (hcl p b _ (by omega)).trans c0
      have j1 := fun p => (hcl p b _ (by omega)).trans c1
      have j2 := fun p => (hcl p b _ (by omega)).trans c2
      have j3 := fun p => (hcl p b _ (by omega)).trans c3
      have HSG := Lib.hid (fun (p : InS (Below X.heap.size X)) => Calls.below_of ((sign_c o (by have := HO.out; omega) p.w).mono (fun e w' h => ⟨h.1, by rw [← h.2]; exact Below.refl _ _⟩)))
      have HGu := Lib.hid (fun (p : InS (Below X.heap.size X)) => Calls.below_of (HGF.out g (List.mem_cons_self ..) (.int .u8 g.op) (.string g.n) (.slice au g.args.length ku) (.slice eu g.sub.length lu) p.w (by omega) (HU.out.below p.h (Nat.le_trans hd hb0.size)) (Nat.le_trans (Nat.le_trans hd hb0.size) p.h.size)))
      clear hcl c0 c1 c2 c3 b0 b1 b2 b3
      refine wp_region_class (Below X.heap.size X) (by kernel_rfl) (by kernel_rfl) (Below.drew (Below.refl _ _)) ?_
      repeat (go_big_quiet_step (first | exact HSG.out _ | exact HGu.out _))
      refine wpQuiet_nil ?_
      intro w2 hw'
      obtain ⟨⟨w3, hS2⟩, hw''⟩ := hw'
      have hw3 : w2 = w3 := hw''
      subst hw3
      have hb2 : Below w.heap.size w w2 := hb0.trans (hS2.mono hb0.size)
      clear hw'' hS2 hne i0 i1 i2 i3 j0 j1 j2 j3
      go_wp2_with fail
      go_ret
      exact ⟨by rw [HE.out]; rfl, hb2⟩
    | @qua o n g ho hn =>
      have hn0 : n.size ≠ 0 := fun h => varB_ne hn (by obtain ⟨d⟩ := n; have h : d.size = 0 := h; rw [Array.eq_empty_of_size_eq_zero h])
      have HE := Lib.hid (FF_qua o n g ho hn0)
      obtain ⟨rfl, _, rfl, hok, hA, hS⟩ := hf
      obtain ⟨⟨a1, k1, rfl⟩, _⟩ := hA.form
      obtain ⟨⟨a2, k2, rfl⟩, _⟩ := hS.form
      have hS2 := hS.below hb0 hd
      obtain ⟨_, b, o2, rfl, hbn, u0, u1, u2, u3, c0, c1, c2, c3, hu⟩ := hS2.get (i := 0) (Nat.zero_lt_succ _)
      have hz := HSZ.out
      rw [HE.out] at hz
      simp only [ByteArray.size_append] at hz
      have hsg := sg_le o
      have e1 : (⟨#[32]⟩ : ByteArray).size = 1 := rfl
      have w1 : ¬ 9223372036854775807 < (sgW o).size + 1 := by omega
      have w2 : ¬ 9223372036854775807 < (sgW o).size + 1 + n.size := by omega
      have w3 : ¬ 9223372036854775807 < (sgW o).size + 1 + n.size + 1 := by omega
      have w4 : ¬ 9223372036854775807 < (sgW o).size + 1 + n.size + 1 + (FF g).size := by omega
      have hu : FoV dn _ u0 u1 u2 u3 g := hu
      have HU := Lib.hid hu
      obtain ⟨q0, _, q1, _, hA3, hS3⟩ := hu
      subst q0 q1
      obtain ⟨⟨au, ku, rfl⟩, _⟩ := hA3.form
      obtain ⟨⟨eu, lu, rfl⟩, _⟩ := hS3.form
      clear hA3 hS3
      have hblt : b < w.heap.size := by omega
      clear hA hS hS2
      have HO := Lib.hid ho
      simp only [op_mk, n_mk, args_mk, sub_mk, List.length_cons, List.length_nil, Nat.zero_add, Nat.zero_mul, Nat.add_zero] at *
      have d1 : (o == 1) = false := beq_eq_false_iff_ne.2 (by omega)
      have d2 : (o == 2) = false := beq_eq_false_iff_ne.2 (by omega)
      have d15 : (o == 15) = false := beq_eq_false_iff_ne.2 (by omega)
      have d16 : (o == 16) = false := beq_eq_false_iff_ne.2 (by omega)
      have d4 : (o == 4) = false := beq_eq_false_iff_ne.2 (by omega)
      have d5 : (o == 5) = false := beq_eq_false_iff_ne.2 (by omega)
      have d6 : (o == 6) = false := beq_eq_false_iff_ne.2 (by omega)
      have d7 : (o == 7) = false := beq_eq_false_iff_ne.2 (by omega)
      have d14 : (o == 14) = false := beq_eq_false_iff_ne.2 (by omega)
      clear hn0 hn HO d1 d2 d15 d16 d4 d5 d6 d7 d14
      rcases ho with rfl | rfl
      · go_enter Tryd.func8, Tryd.ntmps8
        go_wp2_with fail
        obtain ⟨b0, b1, b2, b3, bz⟩ := box4 w (.int .u8 8) (.string n) (.slice a1 0 k1) (.slice (some ⟨b, o2, none⟩) 1 k2) 25
        generalize w.alloc (.cells #[.int .u8 8, .string n, .slice a1 0 k1, .slice (some ⟨b, o2, none⟩) 1 k2] 25) = X at *
        haveI hne : Nonempty (InS (Below X.heap.size X)) := ⟨⟨_, Below.refl _ _⟩⟩
        have hcl : ∀ (p : InS (Below X.heap.size X)) (b q : Nat), b < X.heap.size → p.w.cell? ⟨b, q, none⟩ = X.cell? ⟨b, q, none⟩ := fun p b q h => p.h.cell (p := ⟨b, q, none⟩) h
        have i0 := fun p => (hcl p w.heap.size 0 bz).trans b0
        have i1 := fun p => (hcl p w.heap.size 1 bz).trans b1
        have i2 := fun p => (hcl p w.heap.size 2 bz).trans b2
        have i3 := fun p => (hcl p w.heap.size 3 bz).trans b3
        have j0 := fun p => (hcl p b _ (by omega)).trans c0
        have j1 := fun p => (hcl p b _ (by omega)).trans c1
        have j2 := fun p => (hcl p b _ (by omega)).trans c2
        have j3 := fun p => (hcl p b _ (by omega)).trans c3
        have HSG := Lib.hid (fun (p : InS (Below X.heap.size X)) => Calls.below_of ((sign_c 8 (by omega) p.w).mono (fun e w' h => ⟨h.1, by rw [← h.2]; exact Below.refl _ _⟩)))
        have HGu := Lib.hid (fun (p : InS (Below X.heap.size X)) => Calls.below_of (HGF.out g (List.mem_cons_self ..) (.int .u8 g.op) (.string g.n) (.slice au g.args.length ku) (.slice eu g.sub.length lu) p.w (by omega) (HU.out.below p.h (Nat.le_trans hd hb0.size)) (Nat.le_trans (Nat.le_trans hd hb0.size) p.h.size)))
        clear hcl c0 c1 c2 c3 b0 b1 b2 b3
        refine wp_region_class (Below X.heap.size X) (by kernel_rfl) (by kernel_rfl) (Below.drew (Below.refl _ _)) ?_
        repeat (go_big_quiet_step (first | exact HSG.out _ | exact HGu.out _))
        refine wpQuiet_nil ?_
        intro w2 hw'
        obtain ⟨⟨w3, hS2⟩, hw''⟩ := hw'
        have hw3 : w2 = w3 := hw''
        subst hw3
        have hb2 : Below w.heap.size w w2 := hb0.trans (hS2.mono hb0.size)
        clear hw'' hS2 hne i0 i1 i2 i3 j0 j1 j2 j3
        go_wp2_with fail
        go_ret
        exact ⟨by rw [HE.out]; rfl, hb2⟩
      · go_enter Tryd.func8, Tryd.ntmps8
        go_wp2_with fail
        obtain ⟨b0, b1, b2, b3, bz⟩ := box4 w (.int .u8 9) (.string n) (.slice a1 0 k1) (.slice (some ⟨b, o2, none⟩) 1 k2) 25
        generalize w.alloc (.cells #[.int .u8 9, .string n, .slice a1 0 k1, .slice (some ⟨b, o2, none⟩) 1 k2] 25) = X at *
        haveI hne : Nonempty (InS (Below X.heap.size X)) := ⟨⟨_, Below.refl _ _⟩⟩
        have hcl : ∀ (p : InS (Below X.heap.size X)) (b q : Nat), b < X.heap.size → p.w.cell? ⟨b, q, none⟩ = X.cell? ⟨b, q, none⟩ := fun p b q h => p.h.cell (p := ⟨b, q, none⟩) h
        have i0 := fun p => (hcl p w.heap.size 0 bz).trans b0
        have i1 := fun p => (hcl p w.heap.size 1 bz).trans b1
        have i2 := fun p => (hcl p w.heap.size 2 bz).trans b2
        have i3 := fun p => (hcl p w.heap.size 3 bz).trans b3
        have j0 := fun p => (hcl p b _ (by omega)).trans c0
        have j1 := fun p => (hcl p b _ (by omega)).trans c1
        have j2 := fun p => (hcl p b _ (by omega)).trans c2
        have j3 := fun p => (hcl p b _ (by omega)).trans c3
        have HSG := Lib.hid (fun (p : InS (Below X.heap.size X)) => Calls.below_of ((sign_c 9 (by omega) p.w).mono (fun e w' h => ⟨h.1, by rw [← h.2]; exact Below.refl _ _⟩)))
        have HGu := Lib.hid (fun (p : InS (Below X.heap.size X)) => Calls.below_of (HGF.out g (List.mem_cons_self ..) (.int .u8 g.op) (.string g.n) (.slice au g.args.length ku) (.slice eu g.sub.length lu) p.w (by omega) (HU.out.below p.h (Nat.le_trans hd hb0.size)) (Nat.le_trans (Nat.le_trans hd hb0.size) p.h.size)))
        clear hcl c0 c1 c2 c3 b0 b1 b2 b3
        refine wp_region_class (Below X.heap.size X) (by kernel_rfl) (by kernel_rfl) (Below.drew (Below.refl _ _)) ?_
        repeat (go_big_quiet_step (first | exact HSG.out _ | exact HGu.out _))
        refine wpQuiet_nil ?_
        intro w2 hw'
        obtain ⟨⟨w3, hS2⟩, hw''⟩ := hw'
        have hw3 : w2 = w3 := hw''
        subst hw3
        have hb2 : Below w.heap.size w w2 := hb0.trans (hS2.mono hb0.size)
        clear hw'' hS2 hne i0 i1 i2 i3 j0 j1 j2 j3
        go_wp2_with fail
        go_ret
        exact ⟨by rw [HE.out]; rfl, hb2⟩
    | @bin o g h ho =>
      have HE := Lib.hid (FF_bin o g h ho)
      obtain ⟨rfl, _, rfl, hok, hA, hS⟩ := hf
      obtain ⟨⟨a1, k1, rfl⟩, _⟩ := hA.form
      obtain ⟨⟨a2, k2, rfl⟩, _⟩ := hS.form
      have hS2 := hS.below hb0 hd
      obtain ⟨_, b, o2, rfl, hbn, u0, u1, u2, u3, c0, c1, c2, c3, hu⟩ := hS2.get (i := 0) (Nat.zero_lt_succ _)
      obtain ⟨_, b', o2', he, hbn', v0, v1, v2, v3, m0, m1, m2, m3, hv⟩ := hS2.get (i := 1) (Nat.succ_lt_succ (Nat.zero_lt_succ _))
      injection he with he
      injection he with he1 he2
      subst he1; subst he2
      have hu : FoV dn _ u0 u1 u2 u3 g := hu
      have hv : FoV dn _ v0 v1 v2 v3 h := hv
      have hz := HSZ.out
      rw [HE.out] at hz
      simp only [ByteArray.size_append] at hz
      have hsg := sg_le o
      have e1 : (⟨#[32]⟩ : ByteArray).size = 1 := rfl
      have e2 : (⟨#[40]⟩ : ByteArray).size = 1 := rfl
      have e3 : (⟨#[41]⟩ : ByteArray).size = 1 := rfl
      have w1 : ¬ 9223372036854775807 < 1 + (FF g).size := by omega
      have w2 : ¬ 9223372036854775807 < 1 + (FF g).size + 1 := by omega
      have w3 : ¬ 9223372036854775807 < 1 + (FF g).size + 1 + (sgW o).size := by omega
      have w4 : ¬ 9223372036854775807 < 1 + (FF g).size + 1 + (sgW o).size + 1 := by omega
      have w5 : ¬ 9223372036854775807 < 1 + (FF g).size + 1 + (sgW o).size + 1 + (FF h).size := by omega
      have w6 : ¬ 9223372036854775807 < 1 + (FF g).size + 1 + (sgW o).size + 1 + (FF h).size + 1 := by omega
      have HU := Lib.hid hu
      obtain ⟨q0, _, q1, _, hA3, hS3⟩ := hu
      subst q0 q1
      obtain ⟨⟨au, ku, rfl⟩, _⟩ := hA3.form
      obtain ⟨⟨eu, lu, rfl⟩, _⟩ := hS3.form
      clear hA3 hS3
      have HV := Lib.hid hv
      obtain ⟨q0, _, q1, _, hA3, hS3⟩ := hv
      subst q0 q1
      obtain ⟨⟨av, kv, rfl⟩, _⟩ := hA3.form
      obtain ⟨⟨ev, lv, rfl⟩, _⟩ := hS3.form
      clear hA3 hS3
      have hblt : b < w.heap.size := by omega
      clear hA hS hS2 hbn' hsg e1 e2 e3
      simp only [op_mk, n_mk, args_mk, sub_mk, List.length_cons, List.length_nil, Nat.zero_add, Nat.zero_mul, Nat.add_zero] at *
      rcases ho with rfl | rfl | rfl | rfl | rfl
      · go_enter Tryd.func8, Tryd.ntmps8
        go_wp2_with fail
        obtain ⟨b0, b1, b2, b3, bz⟩ := box4 w (.int .u8 4) (.string ⟨#[]⟩) (.slice a1 0 k1) (.slice (some ⟨b, o2, none⟩) 2 k2) 25
        generalize w.alloc (.cells #[.int .u8 4, .string ⟨#[]⟩, .slice a1 0 k1, .slice (some ⟨b, o2, none⟩) 2 k2] 25) = X at *
        haveI hne : Nonempty (InS (Below X.heap.size X)) := ⟨⟨_, Below.refl _ _⟩⟩
        have hcl : ∀ (p : InS (Below X.heap.size X)) (b q : Nat), b < X.heap.size → p.w.cell? ⟨b, q, none⟩ = X.cell? ⟨b, q, none⟩ := fun p b q h => p.h.cell (p := ⟨b, q, none⟩) h
        have i0 := fun p => (hcl p w.heap.size 0 bz).trans b0
        have i1 := fun p => (hcl p w.heap.size 1 bz).trans b1
        have i2 := fun p => (hcl p w.heap.size 2 bz).trans b2
        have i3 := fun p => (hcl p w.heap.size 3 bz).trans b3
        have j0 := fun p => (hcl p b _ (by omega)).trans c0
        have j1 := fun p => (hcl p b _ (by omega)).trans c1
        have j2 := fun p => (hcl p b _ (by omega)).trans c2
        have j3 := fun p => (hcl p b _ (by omega)).trans c3
        have j4 := fun p => (hcl p b _ (by omega)).trans m0
        have j5 := fun p => (hcl p b _ (by omega)).trans m1
        have j6 := fun p => (hcl p b _ (by omega)).trans m2
        have j7 := fun p => (hcl p b _ (by omega)).trans m3
        have HSG := Lib.hid (fun (p : InS (Below X.heap.size X)) => Calls.below_of ((sign_c 4 (by omega) p.w).mono (fun e w' h => ⟨h.1, by rw [← h.2]; exact Below.refl _ _⟩)))
        have HGu := Lib.hid (fun (p : InS (Below X.heap.size X)) => Calls.below_of (HGF.out g (List.mem_cons_self ..) (.int .u8 g.op) (.string g.n) (.slice au g.args.length ku) (.slice eu g.sub.length lu) p.w (by omega) (HU.out.below p.h (Nat.le_trans hd hb0.size)) (Nat.le_trans (Nat.le_trans hd hb0.size) p.h.size)))
        have HGv := Lib.hid (fun (p : InS (Below X.heap.size X)) => Calls.below_of (HGF.out h (List.mem_cons_of_mem _ (List.mem_cons_self ..)) (.int .u8 h.op) (.string h.n) (.slice av h.args.length kv) (.slice ev h.sub.length lv) p.w (by omega) (HV.out.below p.h (Nat.le_trans hd hb0.size)) (Nat.le_trans (Nat.le_trans hd hb0.size) p.h.size)))
        clear hcl c0 c1 c2 c3 m0 m1 m2 m3 b0 b1 b2 b3
        refine wp_region_class (Below X.heap.size X) (by kernel_rfl) (by kernel_rfl) (Below.drew (Below.refl _ _)) ?_
        repeat (go_big_quiet_step (first | with_reducible exact HSG.out _ | with_reducible exact HGu.out _ | with_reducible exact HGv.out _))
        refine wpQuiet_nil ?_
        intro w2 hw'
        obtain ⟨⟨w3, hS2⟩, hw''⟩ := hw'
        have hw3 : w2 = w3 := hw''
        subst hw3
        have hb2 : Below w.heap.size w w2 := hb0.trans (hS2.mono hb0.size)
        clear hw'' hS2 hne i0 i1 i2 i3 j0 j1 j2 j3 j4 j5 j6 j7
        go_wp2_with fail
        go_ret
        exact ⟨by rw [HE.out]; rfl, hb2⟩
      · go_enter Tryd.func8, Tryd.ntmps8
        go_wp2_with fail
        obtain ⟨b0, b1, b2, b3, bz⟩ := box4 w (.int .u8 5) (.string ⟨#[]⟩) (.slice a1 0 k1) (.slice (some ⟨b, o2, none⟩) 2 k2) 25
        generalize w.alloc (.cells #[.int .u8 5, .string ⟨#[]⟩, .slice a1 0 k1, .slice (some ⟨b, o2, none⟩) 2 k2] 25) = X at *
        haveI hne : Nonempty (InS (Below X.heap.size X)) := ⟨⟨_, Below.refl _ _⟩⟩
        have hcl : ∀ (p : InS (Below X.heap.size X)) (b q : Nat), b < X.heap.size → p.w.cell? ⟨b, q, none⟩ = X.cell? ⟨b, q, none⟩ := fun p b q h => p.h.cell (p := ⟨b, q, none⟩) h
        have i0 := fun p => (hcl p w.heap.size 0 bz).trans b0
        have i1 := fun p => (hcl p w.heap.size 1 bz).trans b1
        have i2 := fun p => (hcl p w.heap.size 2 bz).trans b2
        have i3 := fun p => (hcl p w.heap.size 3 bz).trans b3
        have j0 := fun p => (hcl p b _ (by omega)).trans c0
        have j1 := fun p => (hcl p b _ (by omega)).trans c1
        have j2 := fun p => (hcl p b _ (by omega)).trans c2
        have j3 := fun p => (hcl p b _ (by omega)).trans c3
        have j4 := fun p => (hcl p b _ (by omega)).trans m0
        have j5 := fun p => (hcl p b _ (by omega)).trans m1
        have j6 := fun p => (hcl p b _ (by omega)).trans m2
        have j7 := fun p => (hcl p b _ (by omega)).trans m3
        have HSG := Lib.hid (fun (p : InS (Below X.heap.size X)) => Calls.below_of ((sign_c 5 (by omega) p.w).mono (fun e w' h => ⟨h.1, by rw [← h.2]; exact Below.refl _ _⟩)))
        have HGu := Lib.hid (fun (p : InS (Below X.heap.size X)) => Calls.below_of (HGF.out g (List.mem_cons_self ..) (.int .u8 g.op) (.string g.n) (.slice au g.args.length ku) (.slice eu g.sub.length lu) p.w (by omega) (HU.out.below p.h (Nat.le_trans hd hb0.size)) (Nat.le_trans (Nat.le_trans hd hb0.size) p.h.size)))
        have HGv := Lib.hid (fun (p : InS (Below X.heap.size X)) => Calls.below_of (HGF.out h (List.mem_cons_of_mem _ (List.mem_cons_self ..)) (.int .u8 h.op) (.string h.n) (.slice av h.args.length kv) (.slice ev h.sub.length lv) p.w (by omega) (HV.out.below p.h (Nat.le_trans hd hb0.size)) (Nat.le_trans (Nat.le_trans hd hb0.size) p.h.size)))
        clear hcl c0 c1 c2 c3 m0 m1 m2 m3 b0 b1 b2 b3
        refine wp_region_class (Below X.heap.size X) (by kernel_rfl) (by kernel_rfl) (Below.drew (Below.refl _ _)) ?_
        repeat (go_big_quiet_step (first | with_reducible exact HSG.out _ | with_reducible exact HGu.out _ | with_reducible exact HGv.out _))
        refine wpQuiet_nil ?_
        intro w2 hw'
        obtain ⟨⟨w3, hS2⟩, hw''⟩ := hw'
        have hw3 : w2 = w3 := hw''
        subst hw3
        have hb2 : Below w.heap.size w w2 := hb0.trans (hS2.mono hb0.size)
        clear hw'' hS2 hne i0 i1 i2 i3 j0 j1 j2 j3 j4 j5 j6 j7
        go_wp2_with fail
        go_ret
        exact ⟨by rw [HE.out]; rfl, hb2⟩
      · go_enter Tryd.func8, Tryd.ntmps8
        go_wp2_with fail
        obtain ⟨b0, b1, b2, b3, bz⟩ := box4 w (.int .u8 6) (.string ⟨#[]⟩) (.slice a1 0 k1) (.slice (some ⟨b, o2, none⟩) 2 k2) 25
        generalize w.alloc (.cells #[.int .u8 6, .string ⟨#[]⟩, .slice a1 0 k1, .slice (some ⟨b, o2, none⟩) 2 k2] 25) = X at *
        haveI hne : Nonempty (InS (Below X.heap.size X)) := ⟨⟨_, Below.refl _ _⟩⟩
        have hcl : ∀ (p : InS (Below X.heap.size X)) (b q : Nat), b < X.heap.size → p.w.cell? ⟨b, q, none⟩ = X.cell? ⟨b, q, none⟩ := fun p b q h => p.h.cell (p := ⟨b, q, none⟩) h
        have i0 := fun p => (hcl p w.heap.size 0 bz).trans b0
        have i1 := fun p => (hcl p w.heap.size 1 bz).trans b1
        have i2 := fun p => (hcl p w.heap.size 2 bz).trans b2
        have i3 := fun p => (hcl p w.heap.size 3 bz).trans b3
        have j0 := fun p => (hcl p b _ (by omega)).trans c0
        have j1 := fun p => (hcl p b _ (by omega)).trans c1
        have j2 := fun p => (hcl p b _ (by omega)).trans c2
        have j3 := fun p => (hcl p b _ (by omega)).trans c3
        have j4 := fun p => (hcl p b _ (by omega)).trans m0
        have j5 := fun p => (hcl p b _ (by omega)).trans m1
        have j6 := fun p => (hcl p b _ (by omega)).trans m2
        have j7 := fun p => (hcl p b _ (by omega)).trans m3
        have HSG := Lib.hid (fun (p : InS (Below X.heap.size X)) => Calls.below_of ((sign_c 6 (by omega) p.w).mono (fun e w' h => ⟨h.1, by rw [← h.2]; exact Below.refl _ _⟩)))
        have HGu := Lib.hid (fun (p : InS (Below X.heap.size X)) => Calls.below_of (HGF.out g (List.mem_cons_self ..) (.int .u8 g.op) (.string g.n) (.slice au g.args.length ku) (.slice eu g.sub.length lu) p.w (by omega) (HU.out.below p.h (Nat.le_trans hd hb0.size)) (Nat.le_trans (Nat.le_trans hd hb0.size) p.h.size)))
        have HGv := Lib.hid (fun (p : InS (Below X.heap.size X)) => Calls.below_of (HGF.out h (List.mem_cons_of_mem _ (List.mem_cons_self ..)) (.int .u8 h.op) (.string h.n) (.slice av h.args.length kv) (.slice ev h.sub.length lv) p.w (by omega) (HV.out.below p.h (Nat.le_trans hd hb0.size)) (Nat.le_trans (Nat.le_trans hd hb0.size) p.h.size)))
        clear hcl c0 c1 c2 c3 m0 m1 m2 m3 b0 b1 b2 b3
        refine wp_region_class (Below X.heap.size X) (by kernel_rfl) (by kernel_rfl) (Below.drew (Below.refl _ _)) ?_
        repeat (go_big_quiet_step (first | with_reducible exact HSG.out _ | with_reducible exact HGu.out _ | with_reducible exact HGv.out _))
        refine wpQuiet_nil ?_
        intro w2 hw'
        obtain ⟨⟨w3, hS2⟩, hw''⟩ := hw'
        have hw3 : w2 = w3 := hw''
        subst hw3
        have hb2 : Below w.heap.size w w2 := hb0.trans (hS2.mono hb0.size)
        clear hw'' hS2 hne i0 i1 i2 i3 j0 j1 j2 j3 j4 j5 j6 j7
        go_wp2_with fail
        go_ret
        exact ⟨by rw [HE.out]; rfl, hb2⟩
      · go_enter Tryd.func8, Tryd.ntmps8
        go_wp2_with fail
        obtain ⟨b0, b1, b2, b3, bz⟩ := box4 w (.int .u8 7) (.string ⟨#[]⟩) (.slice a1 0 k1) (.slice (some ⟨b, o2, none⟩) 2 k2) 25
        generalize w.alloc (.cells #[.int .u8 7, .string ⟨#[]⟩, .slice a1 0 k1, .slice (some ⟨b, o2, none⟩) 2 k2] 25) = X at *
        haveI hne : Nonempty (InS (Below X.heap.size X)) := ⟨⟨_, Below.refl _ _⟩⟩
        have hcl : ∀ (p : InS (Below X.heap.size X)) (b q : Nat), b < X.heap.size → p.w.cell? ⟨b, q, none⟩ = X.cell? ⟨b, q, none⟩ := fun p b q h => p.h.cell (p := ⟨b, q, none⟩) h
        have i0 := fun p => (hcl p w.heap.size 0 bz).trans b0
        have i1 := fun p => (hcl p w.heap.size 1 bz).trans b1
        have i2 := fun p => (hcl p w.heap.size 2 bz).trans b2
        have i3 := fun p => (hcl p w.heap.size 3 bz).trans b3
        have j0 := fun p => (hcl p b _ (by omega)).trans c0
        have j1 := fun p => (hcl p b _ (by omega)).trans c1
        have j2 := fun p => (hcl p b _ (by omega)).trans c2
        have j3 := fun p => (hcl p b _ (by omega)).trans c3
        have j4 := fun p => (hcl p b _ (by omega)).trans m0
        have j5 := fun p => (hcl p b _ (by omega)).trans m1
        have j6 := fun p => (hcl p b _ (by omega)).trans m2
        have j7 := fun p => (hcl p b _ (by omega)).trans m3
        have HSG := Lib.hid (fun (p : InS (Below X.heap.size X)) => Calls.below_of ((sign_c 7 (by omega) p.w).mono (fun e w' h => ⟨h.1, by rw [← h.2]; exact Below.refl _ _⟩)))
        have HGu := Lib.hid (fun (p : InS (Below X.heap.size X)) => Calls.below_of (HGF.out g (List.mem_cons_self ..) (.int .u8 g.op) (.string g.n) (.slice au g.args.length ku) (.slice eu g.sub.length lu) p.w (by omega) (HU.out.below p.h (Nat.le_trans hd hb0.size)) (Nat.le_trans (Nat.le_trans hd hb0.size) p.h.size)))
        have HGv := Lib.hid (fun (p : InS (Below X.heap.size X)) => Calls.below_of (HGF.out h (List.mem_cons_of_mem _ (List.mem_cons_self ..)) (.int .u8 h.op) (.string h.n) (.slice av h.args.length kv) (.slice ev h.sub.length lv) p.w (by omega) (HV.out.below p.h (Nat.le_trans hd hb0.size)) (Nat.le_trans (Nat.le_trans hd hb0.size) p.h.size)))
        clear hcl c0 c1 c2 c3 m0 m1 m2 m3 b0 b1 b2 b3
        refine wp_region_class (Below X.heap.size X) (by kernel_rfl) (by kernel_rfl) (Below.drew (Below.refl _ _)) ?_
        repeat (go_big_quiet_step (first | with_reducible exact HSG.out _ | with_reducible exact HGu.out _ | with_reducible exact HGv.out _))
        refine wpQuiet_nil ?_
        intro w2 hw'
        obtain ⟨⟨w3, hS2⟩, hw''⟩ := hw'
        have hw3 : w2 = w3 := hw''
        subst hw3
        have hb2 : Below w.heap.size w w2 := hb0.trans (hS2.mono hb0.size)
        clear hw'' hS2 hne i0 i1 i2 i3 j0 j1 j2 j3 j4 j5 j6 j7
        go_wp2_with fail
        go_ret
        exact ⟨by rw [HE.out]; rfl, hb2⟩
      · go_enter Tryd.func8, Tryd.ntmps8
        go_wp2_with fail
        obtain ⟨b0, b1, b2, b3, bz⟩ := box4 w (.int .u8 14) (.string ⟨#[]⟩) (.slice a1 0 k1) (.slice (some ⟨b, o2, none⟩) 2 k2) 25
        generalize w.alloc (.cells #[.int .u8 14, .string ⟨#[]⟩, .slice a1 0 k1, .slice (some ⟨b, o2, none⟩) 2 k2] 25) = X at *
        haveI hne : Nonempty (InS (Below X.heap.size X)) := ⟨⟨_, Below.refl _ _⟩⟩
        have hcl : ∀ (p : InS (Below X.heap.size X)) (b q : Nat), b < X.heap.size → p.w.cell? ⟨b, q, none⟩ = X.cell? ⟨b, q, none⟩ := fun p b q h => p.h.cell (p := ⟨b, q, none⟩) h
        have i0 := fun p => (hcl p w.heap.size 0 bz).trans b0
        have i1 := fun p => (hcl p w.heap.size 1 bz).trans b1
        have i2 := fun p => (hcl p w.heap.size 2 bz).trans b2
        have i3 := fun p => (hcl p w.heap.size 3 bz).trans b3
        have j0 := fun p => (hcl p b _ (by omega)).trans c0
        have j1 := fun p => (hcl p b _ (by omega)).trans c1
        have j2 := fun p => (hcl p b _ (by omega)).trans c2
        have j3 := fun p => (hcl p b _ (by omega)).trans c3
        have j4 := fun p => (hcl p b _ (by omega)).trans m0
        have j5 := fun p => (hcl p b _ (by omega)).trans m1
        have j6 := fun p => (hcl p b _ (by omega)).trans m2
        have j7 := fun p => (hcl p b _ (by omega)).trans m3
        have HSG := Lib.hid (fun (p : InS (Below X.heap.size X)) => Calls.below_of ((sign_c 14 (by omega) p.w).mono (fun e w' h => ⟨h.1, by rw [← h.2]; exact Below.refl _ _⟩)))
        have HGu := Lib.hid (fun (p : InS (Below X.heap.size X)) => Calls.below_of (HGF.out g (List.mem_cons_self ..) (.int .u8 g.op) (.string g.n) (.slice au g.args.length ku) (.slice eu g.sub.length lu) p.w (by omega) (HU.out.below p.h (Nat.le_trans hd hb0.size)) (Nat.le_trans (Nat.le_trans hd hb0.size) p.h.size)))
        have HGv := Lib.hid (fun (p : InS (Below X.heap.size X)) => Calls.below_of (HGF.out h (List.mem_cons_of_mem _ (List.mem_cons_self ..)) (.int .u8 h.op) (.string h.n) (.slice av h.args.length kv) (.slice ev h.sub.length lv) p.w (by omega) (HV.out.below p.h (Nat.le_trans hd hb0.size)) (Nat.le_trans (Nat.le_trans hd hb0.size) p.h.size)))
        clear hcl c0 c1 c2 c3 m0 m1 m2 m3 b0 b1 b2 b3
        refine wp_region_class (Below X.heap.size X) (by kernel_rfl) (by kernel_rfl) (Below.drew (Below.refl _ _)) ?_
        repeat (go_big_quiet_step (first | with_reducible exact HSG.out _ | with_reducible exact HGu.out _ | with_reducible exact HGv.out _))
        refine wpQuiet_nil ?_
        intro w2 hw'
        obtain ⟨⟨w3, hS2⟩, hw''⟩ := hw'
        have hw3 : w2 = w3 := hw''
        subst hw3
        have hb2 : Below w.heap.size w w2 := hb0.trans (hS2.mono hb0.size)
        clear hw'' hS2 hne i0 i1 i2 i3 j0 j1 j2 j3 j4 j5 j6 j7
        go_wp2_with fail
        go_ret
        exact ⟨by rw [HE.out]; rfl, hb2⟩
end Go.Proofs.YtkeckecdhcknhaaDoor.Ft
