/-
  Several texts in one: FtText, FtLex, FtOut.
-/
import Derived.Test.YtdapnjnmhkdnpaaDoorMgPure
import Derived.Test.YtdapnjnmhkdnpaaDoorFmRight

/-
  The text of a right formula or schema, with brackets where they are asked for: the grammar reads it so.
-/
namespace Go.Proofs.YtdapnjnmhkdnpaaDoor.Ft
open Go Go.RowKit Go.Proofs.YtdapnjnmhkdnpaaDoor.Fm Go.Proofs.YtdapnjnmhkdnpaaDoor.Lx Go.Proofs.YtdapnjnmhkdnpaaDoor.Ps
set_option linter.unusedVariables false
set_option linter.unusedSimpArgs false
theorem emp {s : ByteArray} (h : s.toList.isEmpty = true) : s = ⟨#[]⟩ := by
  obtain ⟨⟨l⟩⟩ := s
  rw [ByteArray.toList_eq] at h
  cases l with
  | nil => rfl
  | cons a r => cases h
theorem len0 {α : Type} {l : List α} (h : (l.length : Int) = 0) : l = [] := List.eq_nil_of_length_eq_zero (by omega)
theorem len1 {α : Type} {l : List α} (h : (l.length : Int) = 1) : ∃ a, l = [a] := List.length_eq_one_iff.1 (by omega)
theorem len2 {α : Type} {l : List α} (h : (l.length : Int) = 2) : ∃ a b, l = [a, b] := by
  match l, h with
  | [a, b], _ => exact ⟨a, b, rfl⟩
/-- What right nodes look like. -/
inductive Shp (m : Bool) : Fo → Prop
  | ato {n a} : predB n = true → (a : List Tm).length ≤ 4 → (∀ t ∈ a, t.right m = true) → Shp m (.mk 1 n a [])
  | fal : Shp m (.mk 2 ⟨#[]⟩ [] [])
  | met {n} : m = true → mfB true n = true → Shp m (.mk 15 n [] [])
  | ins {n t x} : m = true → mfB true n = true → mtB true t = true → varB x = true → Shp m (.mk 16 n [.mk true x [], .mk true t []] [])
  | qua {o n g} : o = 8 ∨ o = 9 → varB n = true → Shp m (.mk o n [] [g])
  | una {o g} : o = 3 ∨ o = 10 ∨ o = 11 ∨ o = 12 ∨ o = 13 → Shp m (.mk o ⟨#[]⟩ [] [g])
  | bin {o g h} : o = 4 ∨ o = 5 ∨ o = 6 ∨ o = 7 ∨ o = 14 → Shp m (.mk o ⟨#[]⟩ [] [g, h])
theorem head_row {m : Bool} {f : Fo} (h : headB m f = true) : ((rowOf f.op).schema = true → m = true) ∧ nameB (rowOf f.op).name f.n = true ∧ (f.sub.length : Int) = (rowOf f.op).sub ∧ (rowOf f.op).least ≤ (f.args.length : Int) ∧ (f.args.length : Int) ≤ (rowOf f.op).most := by
  rw [headB_eq] at h
  simp only [Bool.and_eq_true, Bool.not_eq_true', bne_eq_false_iff_eq, decide_eq_false_iff_not] at h
  obtain ⟨⟨⟨⟨h1, h2⟩, h3⟩, h4⟩, h5⟩ := h
  refine ⟨fun hs => ?_, h2, h3, by omega, by omega⟩
  rw [hs] at h1
  cases m with
  | true => rfl
  | false => cases h1
theorem shape {m : Bool} {f : Fo} (hop : 0 ≤ f.op) (h : satB m f = true) : Shp m f := by
  unfold satB at h
  rw [Bool.and_eq_true] at h
  obtain ⟨hh, ht⟩ := h
  obtain ⟨h1, h2, h3, h4, h5⟩ := head_row hh
  obtain ⟨o, n, a, s⟩ := f
  simp only [Fo.op, Fo.n, Fo.args, Fo.sub] at *
  have hk : o = 0 ∨ o = 1 ∨ o = 2 ∨ o = 3 ∨ o = 4 ∨ o = 5 ∨ o = 6 ∨ o = 7 ∨ o = 8 ∨ o = 9 ∨ o = 10 ∨ o = 11 ∨ o = 12 ∨ o = 13 ∨ o = 14 ∨ o = 15 ∨ o = 16 ∨ 17 ≤ o := by omega
  rcases hk with rfl | rfl | rfl | rfl | rfl | rfl | rfl | rfl | rfl | rfl | rfl | rfl | rfl | rfl | rfl | rfl | rfl | hk
  · exact absurd h2 (by simp [rowOf, rowsL, nameB])
  · have h2 : predB n = true := h2
    have h5 : (a.length : Int) ≤ 4 := h5
    obtain rfl := len0 h3
    have ht : (a.all fun t => t.right m) = true := ht
    exact .ato h2 (by omega) (List.all_eq_true.1 ht)
  · have h5 : (a.length : Int) ≤ 0 := h5
    obtain rfl := len0 h3
    obtain rfl : a = [] := len0 (by omega)
    obtain rfl := emp h2
    exact .fal
  all_goals try (
    have h5 : (a.length : Int) ≤ 0 := h5
    obtain ⟨g, rfl⟩ := len1 h3
    obtain rfl : a = [] := len0 (by omega)
    obtain rfl := emp h2
    exact .una (by omega))
  all_goals try (
    have h5 : (a.length : Int) ≤ 0 := h5
    obtain ⟨g, g', rfl⟩ := len2 h3
    obtain rfl : a = [] := len0 (by omega)
    obtain rfl := emp h2
    exact .bin (by omega))
  all_goals try (
    have h5 : (a.length : Int) ≤ 0 := h5
    obtain ⟨g, rfl⟩ := len1 h3
    obtain rfl : a = [] := len0 (by omega)
    exact .qua (by omega) h2)
  · have h5 : (a.length : Int) ≤ 0 := h5
    obtain rfl := len0 h3
    obtain rfl : a = [] := len0 (by omega)
    exact .met (h1 rfl) (meta_pred h2)
  · obtain rfl := len0 h3
    have h4 : 2 ≤ (a.length : Int) := h4
    have h5 : (a.length : Int) ≤ 2 := h5
    obtain ⟨x, t, rfl⟩ : ∃ x t, a = [x, t] := len2 (by omega)
    have ht : (varT x && metaT t) = true := ht
    obtain ⟨xv, xn, xa⟩ := x
    obtain ⟨tv, tn, ta⟩ := t
    simp only [varT, metaT, Tm.v, Tm.n, Tm.args, Bool.and_eq_true, decide_eq_true_eq] at ht
    obtain ⟨⟨⟨rfl, hx⟩, hx2⟩, ⟨rfl, ht1⟩, ht2⟩ := ht
    obtain rfl := List.eq_nil_of_length_eq_zero (of_decide_eq_true hx)
    obtain rfl := List.eq_nil_of_length_eq_zero (of_decide_eq_true ht1)
    exact .ins (h1 rfl) (meta_pred h2) (meta_fn ht2) hx2
  · have : rowOf o = ⟨0, 0, 0, 0, false⟩ := by unfold rowOf; rw [List.getElem?_eq_none (by show 17 ≤ o.toNat; omega)]; rfl
    rw [this] at h2
    exact absurd h2 (by simp [nameB])
/-- Everything in a formula is right, and no level is beyond 40. -/
def FoK (m : Bool) (lv : Int) (f : Fo) : Prop := ∀ x ∈ f.all lv, satB m x.2 = true ∧ 0 ≤ x.2.op ∧ x.1 ≤ 40 ∧ ∀ t ∈ x.2.args, Tm40 (wrap64 (x.1 + 1)) t
theorem FoK.head {m : Bool} {lv : Int} {f : Fo} (h : FoK m lv f) : satB m f = true ∧ 0 ≤ f.op ∧ lv ≤ 40 ∧ ∀ t ∈ f.args, Tm40 (wrap64 (lv + 1)) t := h (lv, f) (by rw [Fo.all_eq]; exact List.mem_cons_self ..)
theorem FoK.sub {m : Bool} {lv : Int} {f g : Fo} (h : FoK m lv f) (h1 : 1 ≤ lv) (hg : g ∈ f.sub) : FoK m (lv + 1) g := by
  intro x hx
  have hl := h.head.2.2.1
  refine h x ?_
  rw [Fo.all_eq]
  refine List.mem_cons_of_mem _ (List.mem_flatMap.2 ⟨g, hg, ?_⟩)
  rw [show wrap64 (lv + 1) = lv + 1 from wrap_id (by omega) (by omega)]
  exact hx
/-- All operators are numbers from 0 on (bytes). -/
def OpsOk (f : Fo) : Prop := ∀ x ∈ f.all 1, 0 ≤ x.2.op
theorem fok_right {m : Bool} {f : Fo} (h : rightB m f = true) (ho : OpsOk f) : FoK m 1 f := by
  unfold rightB fitsB levelsL at h
  rw [Bool.and_eq_true, Bool.and_eq_true] at h
  obtain ⟨⟨_, h2⟩, h3⟩ := h
  unfold allB at h3
  rw [List.all_eq_true] at h2 h3
  intro x hx
  refine ⟨h3 x hx, ho x hx, ?_, fun t ht y hy => ?_⟩
  · exact of_decide_eq_true (h2 x.1 (List.mem_append_left _ (List.mem_map.2 ⟨x, hx, rfl⟩)))
  · refine of_decide_eq_true (h2 y.1 (List.mem_append_right _ (List.mem_map.2 ⟨y, ?_, rfl⟩)))
    exact List.mem_flatMap.2 ⟨x, hx, List.mem_flatMap.2 ⟨t, ht, hy⟩⟩
theorem FoK.shape {m : Bool} {lv : Int} {f : Fo} (h : FoK m lv f) : Shp m f := Ft.shape h.head.2.1 h.head.1
/-- How strongly an operator binds; its sign; whether it is grouped from the right. -/
def str (o : Int) : Nat := if o = 7 then 1 else if o = 6 then 2 else if o = 14 then 3 else if o = 5 then 4 else if o = 4 then 5 else 6
def frR (o : Int) : Bool := o == 6 || o == 14
def sgW (o : Int) : ByteArray := if o = 3 then ⟨#[126]⟩ else if o = 4 then ⟨#[38]⟩ else if o = 5 then ⟨#[124]⟩ else if o = 6 then ⟨#[45, 62]⟩ else if o = 7 then ⟨#[60, 45, 62]⟩ else if o = 8 then ⟨#[97, 108, 108]⟩ else
  if o = 9 then ⟨#[115, 111, 109, 101]⟩ else if o = 10 then ⟨#[91, 93]⟩ else if o = 11 then ⟨#[60, 62]⟩ else if o = 12 then ⟨#[110, 101, 120, 116]⟩ else if o = 13 then ⟨#[97, 108, 119, 97, 121, 115]⟩ else ⟨#[117, 110, 116, 105, 108]⟩
def needB (F : Fo) (i : Nat) (g : Fo) : Bool := if str F.op ≠ str g.op then decide (str g.op < str F.op) else frR F.op == (i == 0)
/-- A way to write: what is behind commas, and which signs have a blank behind them. -/
structure Sty where
  c : Pc
  sp : Int → Bool
def basP (c : Pc) (o : Int) (n : ByteArray) (a : List Tm) : Pc :=
  if o = 2 then [some ⟨#[102, 97, 108, 115, 101]⟩] else if o = 16 then (match a with
    | x :: t :: _ => [some n, some ⟨#[91]⟩, some t.n, some ⟨#[47]⟩, some x.n, some ⟨#[93]⟩]
    | _ => []) else some n :: tmPA c a
def par (b : Bool) (p : Pc) : Pc := if b then some ⟨#[40]⟩ :: (p ++ [some ⟨#[41]⟩]) else p
def aheadP (s : Sty) (o : Int) (n : ByteArray) : Pc := some (sgW o) :: ((if s.sp o then [none] else []) ++ (if n.size = 0 then [] else [some n, none]))
def foP (s : Sty) (br : Fo → Nat → Bool) : Fo → Pc
  | .mk o n a [] => basP s.c o n a
  | .mk o n a [g] => aheadP s o n ++ par (br (.mk o n a [g]) 0) (foP s br g)
  | .mk o n a (g :: h :: r) => par (br (.mk o n a (g :: h :: r)) 0) (foP s br g) ++ (none :: some (sgW o) :: none :: par (br (.mk o n a (g :: h :: r)) 1) (foP s br h))
theorem ups {m : Bool} {j d : Nat} {f : Fo} {xs : List ByteArray} : ∀ {i : Nat}, TxF m i d f xs → j ≤ i → i ≤ 5 → TxF m j d f xs := by
  intro i
  induction i with
  | zero => intro h hj _; rw [Nat.le_zero.1 hj]; exact h
  | succ i ih =>
    intro h hj hi
    by_cases he : j = i + 1
    · rw [he]; exact h
    · exact ih (.up (by omega) h) (by omega) (by omega)
/-- A part, in brackets or not, stands where a level is asked for. -/
theorem part_txt {m : Bool} {i j d : Nat} {g : Fo} {p : Pc} {b : Bool} (h : TxF m i d g (wd p)) (hi : i ≤ 5) (hj : j ≤ 5) (hb : b = false → j ≤ i) : TxF m j (d + 1) g (wd (par b p)) := by
  cases b with
  | true =>
    show TxF m j (d + 1) g (wd (some ⟨#[40]⟩ :: (p ++ [some ⟨#[41]⟩])))
    rw [wd_some, wd_app, wd_some, wd_nil]
    exact ups (.bra (ups h (Nat.zero_le _) hi)) hj (Nat.le_refl _)
  | false => exact .deep (by omega) (ups h (hb rfl) hi)
theorem str_le (o : Int) : 1 ≤ str o ∧ str o ≤ 6 := by
  unfold str
  repeat' split
  all_goals omega
theorem un_sg {o : Int} (h : o = 3 ∨ o = 10 ∨ o = 11 ∨ o = 12 ∨ o = 13 ∨ o = 8 ∨ o = 9) : unOp (sgW o) = o ∧ str o = 6 := by
  rcases h with rfl | rfl | rfl | rfl | rfl | rfl | rfl <;> exact ⟨by kernel_rfl, by decide⟩
theorem lv_op {o : Int} (h : o = 4 ∨ o = 5 ∨ o = 6 ∨ o = 7 ∨ o = 14) : str o - 1 < 5 ∧ lvO (str o - 1) = o ∧ lvS (str o - 1) = sgW o ∧ lvR (str o - 1) = frR o := by
  rcases h with rfl | rfl | rfl | rfl | rfl <;> exact ⟨by decide, by decide, by decide, by decide⟩
theorem need_no {br : Fo → Nat → Bool} (hbr : ∀ F i g, F.sub[i]? = some g → (i = 0 ∨ str F.op < 6) → needB F i g = true → br F i = true) {F : Fo} {i : Nat} {g : Fo} (hg : F.sub[i]? = some g) (hi : i = 0 ∨ str F.op < 6) (h : br F i = false) : str F.op ≤ str g.op ∧ (str F.op = str g.op → frR F.op ≠ (i == 0)) := by
  have hn : needB F i g = false := by
    cases hb : needB F i g with
    | false => rfl
    | true => rw [hbr F i g hg hi hb] at h; cases h
  unfold needB at hn
  split at hn
  · next he => exact ⟨by have := of_decide_eq_false hn; omega, fun h => absurd h he⟩
  · next he =>
    have he : str F.op = str g.op := Classical.not_not.1 he
    refine ⟨by omega, fun _ h => ?_⟩
    rw [h] at hn
    simp at hn
theorem fo_txt (m : Bool) (s : Sty) (hc : wd s.c = []) (br : Fo → Nat → Bool) (hbr : ∀ F i g, F.sub[i]? = some g → (i = 0 ∨ str F.op < 6) → needB F i g = true → br F i = true) (N : Nat) : ∀ (f : Fo), SizeOf.sizeOf f < N → ∀ (lv : Int), FoK m lv f → 1 ≤ lv → TxF m (str f.op - 1) (2 * (41 - lv).toNat) f (wd (foP s br f)) := by
  induction N with
  | zero => exact fun f h => absurd h (Nat.not_lt_zero _)
  | succ N ih =>
    intro f hN lv hk h1
    obtain ⟨hs, hop, hl, hT⟩ := hk.head
    rw [show wrap64 (lv + 1) = lv + 1 from wrap_id (by omega) (by omega)] at hT
    have hsh := hk.shape
    have hpart : ∀ (g : Fo) (i : Nat), f.sub[i]? = some g → ∀ j, j ≤ 5 → (br f i = false → j ≤ str g.op - 1) → TxF m j (2 * (41 - lv).toNat - 1) g (wd (par (br f i) (foP s br g))) := by
      intro g i hg j hj hb
      have hgs : g ∈ f.sub := List.mem_of_getElem? hg
      have hgk := hk.sub h1 hgs
      have hgl := hgk.head.2.2.1
      have hlt : SizeOf.sizeOf g < SizeOf.sizeOf f := by
        obtain ⟨o, n, a, ss⟩ := f
        have : SizeOf.sizeOf g < SizeOf.sizeOf ss := List.sizeOf_lt_of_mem hgs
        simp only [Fo.mk.sizeOf_spec]; omega
      have h := ih g (by omega) (lv + 1) hgk (by omega)
      have hst := str_le g.op
      have h := part_txt (b := br f i) h (by omega) hj hb
      exact .deep (by omega) h
    have hd : 2 * (41 - lv).toNat = (2 * (41 - lv).toNat - 1) + 1 := by omega
    cases hsh with
    | @ato n a hp h4 ha =>
      show TxF m 5 _ _ (wd (some n :: tmPA s.c a))
      rw [wd_some]
      exact .ato hp hc ha hT h1 hl (by omega)
    | fal => exact .fal
    | met hm hn => exact .met hm (by rw [hm]; exact hn)
    | ins hm hn ht hx => exact .ins hm (by rw [hm]; exact hn) (by rw [hm]; exact ht) hx
    | @qua o n g ho hn =>
      obtain ⟨hu, h6⟩ := un_sg (o := o) (by omega)
      have hp := hpart g 0 rfl 5 (Nat.le_refl _) (fun hb => by have : str o ≤ str g.op := (need_no hbr (F := .mk o n [] [g]) (i := 0) rfl (.inl rfl) hb).1; omega)
      show TxF m (str o - 1) _ _ (wd (aheadP s o n ++ par (br (.mk o n [] [g]) 0) (foP s br g)))
      have hw : wd (aheadP s o n) = [sgW o, n] := by
        unfold aheadP
        have hne : ¬ n.size = 0 := fun h => varB_ne hn (by obtain ⟨d⟩ := n; have h : d.size = 0 := h; rw [Array.eq_empty_of_size_eq_zero h])
        rw [wd_some, wd_app, if_neg hne]
        split <;> rfl
      rw [wd_app, hw, h6, hd]
      have h8 : unOp (sgW o) = 8 ∨ unOp (sgW o) = 9 := by rw [hu]; exact ho
      have := TxF.qua h8 hn hp
      rw [hu] at this
      exact this
    | @una o g ho =>
      obtain ⟨hu, h6⟩ := un_sg (o := o) (by omega)
      have hp := hpart g 0 rfl 5 (Nat.le_refl _) (fun hb => by have : str o ≤ str g.op := (need_no hbr (F := .mk o ⟨#[]⟩ [] [g]) (i := 0) rfl (.inl rfl) hb).1; omega)
      show TxF m (str o - 1) _ _ (wd (aheadP s o ⟨#[]⟩ ++ par (br (.mk o ⟨#[]⟩ [] [g]) 0) (foP s br g)))
      have hw : wd (aheadP s o ⟨#[]⟩) = [sgW o] := by
        unfold aheadP
        have e0 : (if (⟨#[]⟩ : ByteArray).size = 0 then ([] : Pc) else [some ⟨#[]⟩, none]) = [] := if_pos rfl
        rw [wd_some, wd_app, e0]
        cases s.sp o <;> rfl
      rw [wd_app, hw, h6, hd]
      have := TxF.una (m := m) (s := sgW o) (by rw [hu]; omega) (by rw [hu]; omega) (by rw [hu]; omega) hp
      rw [hu] at this
      exact this
    | @bin o g h ho =>
      obtain ⟨h5, e1, e2, e3⟩ := lv_op ho
      have hst := str_le o
      show TxF m (str o - 1) _ _ (wd (par (br (.mk o ⟨#[]⟩ [] [g, h]) 0) (foP s br g) ++ (none :: some (sgW o) :: none :: par (br (.mk o ⟨#[]⟩ [] [g, h]) 1) (foP s br h))))
      rw [wd_app, wd_none, wd_some, wd_none]
      have hg : br (.mk o ⟨#[]⟩ [] [g, h]) 0 = false → str o ≤ str g.op ∧ (str o = str g.op → frR o ≠ true) := fun hb => need_no hbr (F := .mk o ⟨#[]⟩ [] [g, h]) (i := 0) (g := g) rfl (.inl rfl) hb
      have hh : br (.mk o ⟨#[]⟩ [] [g, h]) 1 = false → str o ≤ str h.op ∧ (str o = str h.op → frR o ≠ false) := fun hb => need_no hbr (F := .mk o ⟨#[]⟩ [] [g, h]) (i := 1) (g := h) rfl (.inr (by show str o < 6; omega)) hb
      have hsg := str_le g.op
      have hsh := str_le h.op
      cases hr : frR o with
      | false =>
        have pg := hpart g 0 rfl (str o - 1) (by omega) (fun hb => by have := (hg hb).1; omega)
        have ph := hpart h 1 rfl (str o - 1 + 1) (by omega) (fun hb => by
          have := (hh hb).1
          have h2 := (hh hb).2
          rw [hr] at h2
          by_cases he : str o = str h.op
          · exact absurd rfl (h2 he)
          · omega)
        have := TxF.lef (i := str o - 1) h5 (by rw [e3, hr]) pg ph
        rw [e1, e2] at this
        exact .deep (by omega) this
      | true =>
        have pg := hpart g 0 rfl (str o - 1 + 1) (by omega) (fun hb => by
          have := (hg hb).1
          have h2 := (hg hb).2
          rw [hr] at h2
          by_cases he : str o = str g.op
          · exact absurd rfl (h2 he)
          · omega)
        have ph := hpart h 1 rfl (str o - 1) (by omega) (fun hb => by have := (hh hb).1; omega)
        have := TxF.rig (i := str o - 1) h5 (by rw [e3, hr]) (.deep (by omega) pg) ph
        rw [e1, e2] at this
        rw [hd]
        exact this
end Go.Proofs.YtdapnjnmhkdnpaaDoor.Ft

/-
  The tokens of texts made of pieces: its words.
-/
namespace Go.Proofs.YtdapnjnmhkdnpaaDoor.Ft
open Go Go.RowKit Go.Proofs.YtdapnjnmhkdnpaaDoor.Fm Go.Proofs.YtdapnjnmhkdnpaaDoor.Lx Go.Proofs.YtdapnjnmhkdnpaaDoor.Ps
set_option linter.unusedVariables false
set_option linter.unusedSimpArgs false
def byP (p : Pc) : Bs := p.flatMap fun | none => [32] | some t => t.data.toList
@[simp] theorem byP_nil : byP [] = [] := rfl
@[simp] theorem byP_none (p : Pc) : byP (none :: p) = 32 :: byP p := rfl
@[simp] theorem byP_some (t : ByteArray) (p : Pc) : byP (some t :: p) = t.data.toList ++ byP p := rfl
@[simp] theorem byP_app (p q : Pc) : byP (p ++ q) = byP p ++ byP q := by unfold byP; rw [List.flatMap_append]
/-- A word is read as one token, whatever it is, ahead of what follows. -/
def TokAt (t : ByteArray) (r : Bs) : Prop := ∃ c l k, t.data.toList = c :: l ∧ blk c = false ∧ tok1 KK (c :: l ++ r) = (k, l.length + 1, 0)
def LxOk : Pc → Bs → Prop
  | [], _ => True
  | none :: p, r => LxOk p r
  | some t :: p, r => TokAt t (byP p ++ r) ∧ LxOk p r
theorem LxOk.app : ∀ {p q : Pc} {r : Bs}, LxOk p (byP q ++ r) → LxOk q r → LxOk (p ++ q) r
  | [], q, r, _, h => h
  | none :: p, q, r, h1, h2 => LxOk.app (p := p) h1 h2
  | some t :: p, q, r, h1, h2 => by
    refine ⟨?_, LxOk.app (p := p) h1.2 h2⟩
    have := h1.1
    rwa [← List.append_assoc, ← byP_app] at this
theorem lx_toks : ∀ (p : Pc), LxOk p [] → ∀ off, ∃ zs n, toks KK off (byP p) = zs ++ [(⟨5, [], n⟩, 0)] ∧ zs.map (fun z => bs z.1.t) = wd p ∧ errs zs = false
  | [], _, off => ⟨[], off, by rw [byP_nil, toks_nil]; rfl, rfl, rfl⟩
  | none :: p, h, off => by
    obtain ⟨zs, n, h1, h2, h3⟩ := lx_toks p h (off + 1)
    exact ⟨zs, n, by rw [byP_none, toks_blank KK (by decide), h1], h2, h3⟩
  | some t :: p, h, off => by
    obtain ⟨⟨c, l, k, e, hb, ht⟩, h⟩ := h
    obtain ⟨zs, n, h1, h2, h3⟩ := lx_toks p h (off + (l.length + 1))
    rw [List.append_nil] at ht
    refine ⟨(⟨k, c :: l, off⟩, 0) :: zs, n, ?_, ?_, ?_⟩
    · rw [byP_some, e, List.cons_append, toks_tok KK hb (by rw [← List.cons_append, ht]), ← List.cons_append, ht]
      show (_ :: toks KK (off + (l.length + 1)) _) = _
      rw [show (c :: l ++ byP p).drop (l.length + 1) = byP p by simp, show (c :: l ++ byP p).take (l.length + 1) = c :: l by simp, h1]
      rfl
    · rw [List.map_cons, h2, wd_some]
      show bs (c :: l) :: wd p = t :: wd p
      rw [← e, bs_list]
    · unfold errs at h3 ⊢
      rw [List.any_cons, h3]; rfl
/-- What may follow a name. -/
def Spc (r : Bs) : Prop := ∀ c l, r = c :: l → lod c = false
theorem spc_nil : Spc [] := fun c l h => by cases h
theorem spc_cons {c : UInt8} {l : Bs} (h : lod c = false) : Spc (c :: l) := fun c' l' e => by obtain ⟨rfl, _⟩ := List.cons.inj e; exact h
theorem tw_spc : ∀ (l r : Bs), l.all lod = true → Spc r → (l ++ r).takeWhile lod = l
  | [], [], _, _ => rfl
  | [], c :: r, _, h => by rw [List.nil_append, List.takeWhile_cons, h c r rfl]; rfl
  | c :: l, r, hl, h => by
    rw [List.all_cons, Bool.and_eq_true] at hl
    rw [List.cons_append, List.takeWhile_cons, hl.1, if_pos rfl, tw_spc l r hl.2 h]
theorem ltr_blk {c : UInt8} (h : ltr c = true) : blk c = false := by
  cases hb : blk c with
  | false => rfl
  | true => rw [(blk_lod hb).2.1] at h; cases h
theorem word_tok {t : ByteArray} {c : UInt8} {l r : Bs} (e : t.data.toList = c :: l) (hc : ltr c = true) (hl : l.all lod = true) (hk : runS t ≠ 0) (hr : Spc r) : TokAt t r := by
  refine ⟨c, l, KK.ru (c :: l), e, ltr_blk hc, ?_⟩
  have hru : KK.ru (c :: l) ≠ 0 := by
    show runS (bs (c :: l)) ≠ 0
    rw [← e, bs_list]; exact hk
  rw [List.cons_append, tok1_cons, if_pos hc, tw_spc l r hl hr, if_neg hru]
theorem mark_tok {t : ByteArray} {l r : Bs} (e : t.data.toList = 63 :: l) (hl : l.all lod = true) (hk : metB t = true) (hr : Spc r) : TokAt t r := by
  refine ⟨63, l, 2, e, by decide, ?_⟩
  have hru : KK.ma (63 :: l) = 2 := by
    show marS (bs (63 :: l)) = 2
    rw [← e, bs_list]; unfold marS; rw [if_pos hk]
  rw [List.cons_append, tok1_cons, if_neg (by decide), if_pos (by decide), tw_spc l r hl hr, hru]
  rfl
theorem lod_of {c : UInt8} (h : lodB (c.toNat : Int) = true) : lod c = true := by
  rw [lod_eq, ltr_int]
  unfold dgt
  rw [dgt_int]
  unfold lodB digB at h
  exact h
theorem lod_dig {c : UInt8} (h : digB (c.toNat : Int) = true) : lod c = true := by
  rw [lod_eq]
  unfold dgt
  rw [dgt_int]
  unfold digB at h
  rw [h, Bool.or_true]
theorem ltr_lo {c : UInt8} (h1 : (97 : Int) ≤ (c.toNat : Int)) (h2 : (c.toNat : Int) ≤ 122) : ltr c = true := by rw [ltr_int, decide_eq_true h1, decide_eq_true h2]; rfl
theorem ltr_up {c : UInt8} (h1 : (65 : Int) ≤ (c.toNat : Int)) (h2 : (c.toNat : Int) ≤ 90) : ltr c = true := by rw [ltr_int, decide_eq_true h1, decide_eq_true h2, Bool.and_true, Bool.or_true]
theorem all_lod {l : Bs} {p : Int → Bool} (h : (l.all fun c => p c.toNat) = true) (hp : ∀ c : UInt8, p c.toNat = true → lod c = true) : l.all lod = true := by
  rw [List.all_eq_true] at h ⊢
  exact fun c hc => hp c (h c hc)
theorem run_of {t : ByteArray} (h : namB t = true) : runS t ≠ 0 := by unfold runS; rw [if_pos h]; split <;> decide
theorem var_tok {t : ByteArray} {r : Bs} (h : varB t = true) (hr : Spc r) : TokAt t r := by
  obtain ⟨_, c, l, e, h1, h2, h3⟩ := names_head h
  exact word_tok e (ltr_lo (by omega) (by omega)) (all_lod h3 fun c => lod_dig) (run_of (by unfold namB; rw [h]; rfl)) hr
theorem fn_tok {t : ByteArray} {r : Bs} (h : fnB t = true) (hr : Spc r) : TokAt t r := by
  obtain ⟨_, c, l, e, h1, h2, h3⟩ := names_head (fn_names h)
  exact word_tok e (ltr_lo (by omega) (by omega)) (all_lod h3 fun c => lod_of) (run_of (by unfold namB; rw [h, Bool.or_true]; rfl)) hr
theorem pred_tok {t : ByteArray} {r : Bs} (h : predB t = true) (hr : Spc r) : TokAt t r := by
  obtain ⟨_, c, l, e, h1, h2, h3⟩ := names_head h
  exact word_tok e (ltr_up (by omega) (by omega)) (all_lod h3 fun c => lod_of) (run_of (by unfold namB; rw [h, Bool.or_true])) hr
theorem met_rest {s : ByteArray} {l : Bs} (h : metB s = true) (e : s.data.toList = 63 :: l) : l.all lod = true := by
  have hcut : ∀ t f (p : Int → Bool), (∀ c : UInt8, p c.toNat = true → lod c = true) → (97 ≤ f ∧ t ≤ 122 ∨ 65 ≤ f ∧ t ≤ 90) → namesB f t p (cutR s) = true → markB s = true → l.all lod = true := by
    intro t f p hp hft hn hm
    obtain ⟨_, c, r, e2, h1, h2, h3⟩ := names_head hn
    unfold cutR at e2
    rw [if_pos hm] at e2
    have e3 : (s.extract 1 s.size).data.toList = s.data.toList.drop 1 := by
      have h0 : s.size = s.data.toList.length := rfl
      rw [ByteArray.data_extract, Array.toList_extract, h0]
      simp
      exact List.take_of_length_le (by rw [List.length_tail]; exact Nat.le_refl _)
    rw [e3, e] at e2
    have e2 : l = c :: r := e2
    rw [e2, List.all_cons, lod_eq, all_lod h3 hp]
    rcases hft with h | h
    · rw [ltr_lo (by omega) (by omega)]; rfl
    · rw [ltr_up (by omega) (by omega)]; rfl
  unfold metB metaB at h
  rw [Bool.or_eq_true] at h
  rcases h with h | h
  · rw [Bool.and_eq_true, Bool.and_eq_true] at h
    exact hcut 90 65 lodB (fun c => lod_of) (.inr ⟨by omega, by omega⟩) h.2 h.1.1
  · rw [Bool.and_eq_true, Bool.and_eq_true] at h
    exact hcut 116 97 lodB (fun c => lod_of) (.inl ⟨by omega, by omega⟩) (fn_names h.2) h.1.1
theorem met_tok {t : ByteArray} {r : Bs} (h : metB t = true) (hr : Spc r) : TokAt t r := by
  obtain ⟨_, l, e⟩ := met_head h
  exact mark_tok e (met_rest h e) h hr
theorem mk_tok {t : ByteArray} {r : Bs} {c : UInt8} {l : Bs} {k : Nat} (e : t.data.toList = c :: l) (hb : blk c = false) (h : tok1 KK (c :: l ++ r) = (k, l.length + 1, 0)) : TokAt t r := ⟨c, l, k, e, hb, h⟩
theorem t_open (r : Bs) : TokAt ⟨#[40]⟩ r := mk_tok (k := 4) rfl rfl (by kernel_rfl)
theorem t_close (r : Bs) : TokAt ⟨#[41]⟩ r := mk_tok (k := 4) rfl rfl (by kernel_rfl)
theorem t_comma (r : Bs) : TokAt ⟨#[44]⟩ r := mk_tok (k := 4) rfl rfl (by kernel_rfl)
theorem t_slash (r : Bs) : TokAt ⟨#[47]⟩ r := mk_tok (k := 4) rfl rfl (by kernel_rfl)
theorem t_rb (r : Bs) : TokAt ⟨#[93]⟩ r := mk_tok (k := 4) rfl rfl (by kernel_rfl)
theorem t_lb {c : UInt8} {r : Bs} (hc : (c == 93) = false) : TokAt ⟨#[91]⟩ (c :: r) := by
  refine mk_tok (k := 4) (l := []) rfl rfl ?_
  have h2 : sgn (91 :: c :: r) = 1 := by
    rw [sgn_cons, if_neg (by decide), if_neg (by decide), if_pos (by decide), if_neg]
    show ¬ (([c] : Bs) == [93]) = true
    intro h
    rw [beq_iff_eq] at h
    obtain rfl := (List.cons.inj h).1
    exact absurd hc (by decide)
  show tok1 KK (91 :: c :: r) = _
  rw [tok1_cons, if_neg (by decide), if_neg (by decide), h2]
  rfl
theorem t_not (r : Bs) : TokAt ⟨#[126]⟩ r := mk_tok (k := 4) rfl rfl (by kernel_rfl)
theorem t_and (r : Bs) : TokAt ⟨#[38]⟩ r := mk_tok (k := 4) rfl rfl (by kernel_rfl)
theorem t_or (r : Bs) : TokAt ⟨#[124]⟩ r := mk_tok (k := 4) rfl rfl (by kernel_rfl)
theorem t_imp (r : Bs) : TokAt ⟨#[45, 62]⟩ r := mk_tok (k := 4) rfl rfl (by kernel_rfl)
theorem t_iff (r : Bs) : TokAt ⟨#[60, 45, 62]⟩ r := mk_tok (k := 4) rfl rfl (by kernel_rfl)
theorem t_box (r : Bs) : TokAt ⟨#[91, 93]⟩ r := mk_tok (k := 4) rfl rfl (by kernel_rfl)
theorem t_dia (r : Bs) : TokAt ⟨#[60, 62]⟩ r := mk_tok (k := 4) rfl rfl (by kernel_rfl)
theorem t_word (t : ByteArray) (c : UInt8) (l r : Bs) (e : t.data.toList = c :: l) (hc : ltr c = true) (hl : l.all lod = true) (hw : wordB t = true) (hr : Spc r) : TokAt t r :=
  word_tok e hc hl (by unfold runS; rw [if_pos hw]; decide) hr
/-- Signs that stand where something follows: those that are words have a blank behind them. -/
theorem sg_tok (o : Int) (r : Bs) (h : o = 3 ∨ o = 4 ∨ o = 5 ∨ o = 6 ∨ o = 7 ∨ o = 10 ∨ o = 11 ∨ Spc r) : TokAt (sgW o) r := by
  have hw : Spc r → TokAt (sgW o) r := by
    intro hs
    by_cases h3 : o = 3
    · subst h3; exact t_not r
    by_cases h4 : o = 4
    · subst h4; exact t_and r
    by_cases h5 : o = 5
    · subst h5; exact t_or r
    by_cases h6 : o = 6
    · subst h6; exact t_imp r
    by_cases h7 : o = 7
    · subst h7; exact t_iff r
    by_cases h8 : o = 8
    · subst h8; exact t_word _ 97 [108, 108] r rfl (by decide) (by decide) (by kernel_rfl) hs
    by_cases h9 : o = 9
    · subst h9; exact t_word _ 115 [111, 109, 101] r rfl (by decide) (by decide) (by kernel_rfl) hs
    by_cases h10 : o = 10
    · subst h10; exact t_box r
    by_cases h11 : o = 11
    · subst h11; exact t_dia r
    by_cases h12 : o = 12
    · subst h12; exact t_word _ 110 [101, 120, 116] r rfl (by decide) (by decide) (by kernel_rfl) hs
    by_cases h13 : o = 13
    · subst h13; exact t_word _ 97 [108, 119, 97, 121, 115] r rfl (by decide) (by decide) (by kernel_rfl) hs
    have e : sgW o = ⟨#[117, 110, 116, 105, 108]⟩ := by
      unfold sgW
      rw [if_neg h3, if_neg h4, if_neg h5, if_neg h6, if_neg h7, if_neg h8, if_neg h9, if_neg h10, if_neg h11, if_neg h12, if_neg h13]
    rw [e]
    exact t_word _ 117 [110, 116, 105, 108] r rfl (by decide) (by decide) (by kernel_rfl) hs
  rcases h with rfl | rfl | rfl | rfl | rfl | rfl | rfl | h
  · exact t_not r
  · exact t_and r
  · exact t_or r
  · exact t_imp r
  · exact t_iff r
  · exact t_box r
  · exact t_dia r
  · exact hw h
theorem sg_sp (o : Int) {r : Bs} (h : Spc r) : TokAt (sgW o) r := sg_tok o r (.inr (.inr (.inr (.inr (.inr (.inr (.inr h)))))))
theorem t_false {r : Bs} (hr : Spc r) : TokAt ⟨#[102, 97, 108, 115, 101]⟩ r := t_word _ 102 [97, 108, 115, 101] r rfl (by decide) (by decide) (by kernel_rfl) hr
/-- A comma has a blank behind it, or none. -/
def CmOk (c : Pc) : Prop := c = [] ∨ c = [none]
theorem CmOk.wd {c : Pc} (h : CmOk c) : Ft.wd c = [] := by rcases h with rfl | rfl <;> rfl
theorem CmOk.lx {c : Pc} (h : CmOk c) (r : Bs) : LxOk c r := by rcases h with rfl | rfl <;> exact trivial
theorem var_tm {m : Bool} {n : ByteArray} {r : Bs} (h : (varB n || mtB m n) = true) (hr : Spc r) : TokAt n r := by
  rw [Bool.or_eq_true] at h
  rcases h with h | h
  · exact var_tok h hr
  · exact met_tok (mt_met h) hr
theorem spc_pr (c : Pc) (l : List Tm) (r : Bs) : Spc (byP (tmPR c l) ++ (41 :: r)) := by
  cases l with
  | nil => exact spc_cons (by decide)
  | cons a l => rw [tmPR, byP_some]; exact spc_cons (by decide)
mutual
theorem tm_lex (m : Bool) (c : Pc) (hc : CmOk c) : ∀ (t : Tm) (r : Bs), t.right m = true → Spc r → LxOk (tmP c t) r
  | .mk true n l, r, h, hr => by
    obtain ⟨rfl, hv⟩ := right_var h
    rw [tmP, tmPA]
    exact ⟨var_tm hv hr, trivial⟩
  | .mk false n l, r, h, hr => by
    obtain ⟨hf, h4, hl⟩ := right_fn h
    rw [tmP]
    refine ⟨fn_tok hf ?_, tma_lex m c hc l r hl hr⟩
    cases l with
    | nil => rw [tmPA, byP_nil]; exact hr
    | cons a l => rw [tmPA, byP_some]; exact spc_cons (by decide)
theorem tma_lex (m : Bool) (c : Pc) (hc : CmOk c) : ∀ (l : List Tm) (r : Bs), (∀ a ∈ l, a.right m = true) → Spc r → LxOk (tmPA c l) r
  | [], r, h, hr => by rw [tmPA]; exact trivial
  | a :: l, r, h, hr => by
    rw [tmPA]
    refine ⟨t_open _, LxOk.app (tm_lex m c hc a _ (h a (List.mem_cons_self ..)) ?_) (LxOk.app (tmr_lex m c hc l _ (fun b hb => h b (List.mem_cons_of_mem _ hb)) ?_) ⟨t_close _, trivial⟩)⟩
    · rw [byP_app, List.append_assoc]; exact spc_pr c l r
    · exact spc_cons (by decide)
theorem tmr_lex (m : Bool) (c : Pc) (hc : CmOk c) : ∀ (l : List Tm) (r : Bs), (∀ a ∈ l, a.right m = true) → Spc r → LxOk (tmPR c l) r
  | [], r, h, hr => by rw [tmPR]; exact trivial
  | a :: l, r, h, hr => by
    rw [tmPR]
    refine ⟨t_comma _, LxOk.app (hc.lx _) (LxOk.app (tm_lex m c hc a _ (h a (List.mem_cons_self ..)) ?_) (tmr_lex m c hc l _ (fun b hb => h b (List.mem_cons_of_mem _ hb)) hr))⟩
    cases l with
    | nil => rw [tmPR, byP_nil]; exact hr
    | cons b l => rw [tmPR, byP_some]; exact spc_cons (by decide)
end
theorem par_lex {b : Bool} {p : Pc} {r : Bs} (hr : Spc r) (h : ∀ r, Spc r → LxOk p r) : LxOk (par b p) r := by
  cases b with
  | false => exact h r hr
  | true => exact ⟨t_open _, LxOk.app (h _ (spc_cons (by decide))) ⟨t_close _, trivial⟩⟩
theorem bas_lex {m : Bool} {c : Pc} (hc : CmOk c) {o : Int} {n : ByteArray} {a : List Tm} (h : Shp m (.mk o n a [])) {r : Bs} (hr : Spc r) : LxOk (basP c o n a) r := by
  cases h with
  | ato hp h4 ha =>
    refine ⟨pred_tok hp ?_, tma_lex m c hc a r ha hr⟩
    cases a with
    | nil => rw [tmPA, byP_nil]; exact hr
    | cons a l => rw [tmPA, byP_some]; exact spc_cons (by decide)
  | fal => exact ⟨t_false hr, trivial⟩
  | met hm hn =>
    show LxOk (some n :: tmPA c []) r
    rw [tmPA]
    exact ⟨met_tok (mf_met hn) hr, trivial⟩
  | @ins n t x hm hn ht hx =>
    refine ⟨met_tok (mf_met hn) (spc_cons (by decide)), ?_, met_tok (mt_met ht) (spc_cons (by decide)), t_slash _, var_tok hx (spc_cons (by decide)), t_rb _, trivial⟩
    obtain ⟨_, l, e⟩ := met_head (mt_met ht)
    simp only [Tm.n, byP_some]
    rw [e, List.cons_append, List.cons_append]
    exact t_lb (by decide)
/-- A way to write that the lexer reads. -/
structure StyOk (s : Sty) : Prop where
  c : CmOk s.c
  sp : ∀ o, o = 12 ∨ o = 13 ∨ o = 8 ∨ o = 9 → s.sp o = true
theorem fo_lex (m : Bool) (s : Sty) (hs : StyOk s) (br : Fo → Nat → Bool) (N : Nat) : ∀ (f : Fo), SizeOf.sizeOf f < N → ∀ (lv : Int), FoK m lv f → 1 ≤ lv → ∀ r, Spc r → LxOk (foP s br f) r := by
  induction N with
  | zero => exact fun f h => absurd h (Nat.not_lt_zero _)
  | succ N ih =>
    intro f hN lv hk h1 r hr
    have hsh := hk.shape
    have hsub : ∀ g, g ∈ f.sub → ∀ r, Spc r → LxOk (foP s br g) r := by
      intro g hg
      have hlt : SizeOf.sizeOf g < SizeOf.sizeOf f := by
        obtain ⟨o, n, a, ss⟩ := f
        have : SizeOf.sizeOf g < SizeOf.sizeOf ss := List.sizeOf_lt_of_mem hg
        simp only [Fo.mk.sizeOf_spec]; omega
      exact ih g (by omega) (lv + 1) (hk.sub h1 hg) (by omega)
    have hun : ∀ o n g, f = .mk o n [] [g] → (o = 3 ∨ o = 10 ∨ o = 11 ∨ o = 12 ∨ o = 13 ∨ o = 8 ∨ o = 9) → (n.size = 0 ∨ varB n = true) → LxOk (foP s br (.mk o n [] [g])) r := by
      rintro o n g rfl ho hn
      show LxOk (aheadP s o n ++ par (br (.mk o n [] [g]) 0) (foP s br g)) r
      refine LxOk.app ?_ (par_lex hr (hsub g (List.mem_cons_self ..)))
      unfold aheadP
      have hname : ∀ r', LxOk (if n.size = 0 then [] else [some n, none]) r' := by
        intro r'
        split
        · exact trivial
        · next h => exact ⟨var_tok (hn.resolve_left h) (spc_cons (by decide)), trivial⟩
      refine ⟨sg_tok o _ ?_, LxOk.app ?_ (hname _)⟩
      · by_cases h : o = 12 ∨ o = 13 ∨ o = 8 ∨ o = 9
        · rw [hs.sp o h]
          exact .inr (.inr (.inr (.inr (.inr (.inr (.inr (spc_cons (by decide))))))))
        · omega
      · split <;> exact trivial
    cases hsh with
    | ato hp h4 ha => exact bas_lex hs.c (.ato hp h4 ha) hr
    | fal => exact bas_lex (m := m) hs.c .fal hr
    | met hm hn => exact bas_lex hs.c (.met hm hn) hr
    | ins hm hn ht hx => exact bas_lex hs.c (.ins hm hn ht hx) hr
    | @qua o n g ho hn => exact hun o n g rfl (by omega) (.inr hn)
    | @una o g ho => exact hun o _ g rfl (by omega) (.inl rfl)
    | @bin o g h ho =>
      show LxOk (par (br (.mk o ⟨#[]⟩ [] [g, h]) 0) (foP s br g) ++ (none :: some (sgW o) :: none :: par (br (.mk o ⟨#[]⟩ [] [g, h]) 1) (foP s br h))) r
      refine LxOk.app (par_lex (spc_cons (by decide)) (hsub g (List.mem_cons_self ..))) ?_
      exact ⟨sg_sp o (spc_cons (by decide)), par_lex hr (hsub h (List.mem_cons_of_mem _ (List.mem_cons_self ..)))⟩
end Go.Proofs.YtdapnjnmhkdnpaaDoor.Ft

/-
  The texts that package format writes, as bytes: a term, a formula, a formula with its signs in front; what is written piece by piece.
-/
namespace Go.Proofs.YtdapnjnmhkdnpaaDoor.Fb
open Go Go.RowKit Go.Proofs.YtdapnjnmhkdnpaaDoor.Fm Go.Proofs.YtdapnjnmhkdnpaaDoor.Lx Go.Proofs.YtdapnjnmhkdnpaaDoor.Ps Go.Proofs.YtdapnjnmhkdnpaaDoor.Ft
set_option linter.unusedVariables false
set_option linter.unusedSimpArgs false
/-- Texts with one between each two. -/
def jn (sep : Bs) : List Bs → Bs
  | [] => []
  | x :: r => x ++ r.flatMap (fun y => sep ++ y)
theorem jn_nil (sep : Bs) : jn sep [] = [] := rfl
theorem jn_one (sep x : Bs) : jn sep [x] = x := by simp [jn]
theorem jn_snoc (sep x : Bs) (l : List Bs) (h : l ≠ []) : jn sep (l ++ [x]) = jn sep l ++ (sep ++ x) := by
  cases l with
  | nil => exact absurd rfl h
  | cons a r => simp [jn]
theorem jn_le (sep : Bs) (l r : List Bs) : (jn sep l).length ≤ (jn sep (l ++ r)).length := by
  cases l with
  | nil => simp [jn]
  | cons a l => simp [jn]
/-- A sign with a blank behind it. -/
def spW (o : Int) : Bool := o == 8 || o == 9 || o == 12 || o == 13
/-- What apply writes: a name, and its terms in brackets. -/
def apB (c : Pc) (n : ByteArray) (a : List Tm) : Bs := n.data.toList ++ byP (tmPA c a)
def tmB (c : Pc) (t : Tm) : Bs := apB c t.n t.args
theorem tmB_eq (c : Pc) (t : Tm) : byP (tmP c t) = tmB c t := by
  obtain ⟨v, n, l⟩ := t
  unfold tmB apB
  rw [tmP, byP_some]
  rfl
def cmB (c : Pc) : Bs := 44 :: byP c
theorem tmPR_eq (c : Pc) : ∀ (l : List Tm), byP (tmPR c l) = (l.map (tmB c)).flatMap (fun y => cmB c ++ y)
  | [] => by simp [tmPR]
  | a :: r => by
    rw [tmPR, byP_some, byP_app, byP_app, tmB_eq, tmPR_eq c r]
    simp [cmB]
theorem apB_nil (c : Pc) (n : ByteArray) : apB c n [] = n.data.toList := by unfold apB; rw [tmPA]; simp
theorem apB_cons (c : Pc) (n : ByteArray) (a : List Tm) (h : a ≠ []) : apB c n a = n.data.toList ++ (40 :: (jn (cmB c) (a.map (tmB c)) ++ [41])) := by
  cases a with
  | nil => exact absurd rfl h
  | cons t r =>
    unfold apB
    rw [tmPA, byP_some, byP_app, byP_app, tmB_eq, tmPR_eq]
    simp [jn]
/-- How package format writes. -/
def styN : Sty := ⟨[none], spW⟩
def styP : Sty := ⟨[], spW⟩
theorem styN_ok : StyOk styN := ⟨.inr rfl, by rintro o (rfl | rfl | rfl | rfl) <;> rfl⟩
theorem styP_ok : StyOk styP := ⟨.inl rfl, by rintro o (rfl | rfl | rfl | rfl) <;> rfl⟩
/-- Brackets where they are needed; wherever a sign stands between two formulas. -/
def brN (F : Fo) (i : Nat) : Bool := match F.sub[i]? with
  | some g => needB F i g
  | none => false
def brB (F : Fo) (i : Nat) : Bool := match F.sub[i]? with
  | some g => decide (str g.op < 6)
  | none => false
theorem brN_ok : ∀ (F : Fo) (i : Nat) (g : Fo), F.sub[i]? = some g → (i = 0 ∨ str F.op < 6) → needB F i g = true → brN F i = true := by
  intro F i g hg _ hn
  unfold brN
  rw [hg]
  exact hn
theorem brB_ok : ∀ (F : Fo) (i : Nat) (g : Fo), F.sub[i]? = some g → (i = 0 ∨ str F.op < 6) → needB F i g = true → brB F i = true := by
  intro F i g hg hi hn
  have e : brB F i = decide (str g.op < 6) := by unfold brB; rw [hg]
  rw [e]
  have hF := str_le F.op
  unfold needB at hn
  split at hn
  · next he => exact decide_eq_true (by have := of_decide_eq_true hn; omega)
  · next he =>
    have he : str F.op = str g.op := Classical.not_not.1 he
    rcases hi with rfl | hi
    · have h5 : frR F.op = true := by simpa using hn
      have : F.op = 6 ∨ F.op = 14 := by
        unfold frR at h5
        rw [Bool.or_eq_true, beq_iff_eq, beq_iff_eq] at h5; exact h5
      rw [← he]
      rcases this with h | h <;> rw [h] <;> decide
    · exact decide_eq_true (by omega)
/-- The text of a formula; the full text. -/
def foB (br : Fo → Nat → Bool) (f : Fo) : Bs := byP (foP styN br f)
def baB (c : Pc) (f : Fo) : Bs := byP (basP c f.op f.n f.args)
def parB (b : Bool) (x : Bs) : Bs := if b then 40 :: (x ++ [41]) else x
theorem par_B (b : Bool) (p : Pc) : byP (par b p) = parB b (byP p) := by
  unfold par parB
  cases b <;> simp
def ahB (f : Fo) : Bs := (sgW f.op).data.toList ++ ((if spW f.op then [32] else []) ++ (if f.n.size = 0 then [] else f.n.data.toList ++ [32]))
theorem foB_bas {br : Fo → Nat → Bool} {f : Fo} (h : f.sub = []) : foB br f = baB [none] f := by
  obtain ⟨o, n, a, s⟩ := f
  have h : s = [] := h
  subst h
  unfold foB
  rw [foP]
  rfl
theorem foB_una {br : Fo → Nat → Bool} {f g : Fo} (ha : f.args = []) (h : f.sub = [g]) : foB br f = ahB f ++ parB (br f 0) (foB br g) := by
  obtain ⟨o, n, a, s⟩ := f
  have h : s = [g] := h
  subst h
  unfold foB
  rw [foP, byP_app, par_B]
  congr 1
  show byP (aheadP styN o n) = (sgW o).data.toList ++ ((if spW o = true then [32] else []) ++ (if n.size = 0 then [] else n.data.toList ++ [32]))
  have e : aheadP styN o n = some (sgW o) :: ((if spW o = true then [none] else []) ++ (if n.size = 0 then [] else [some n, none])) := rfl
  rw [e, byP_some, byP_app]
  by_cases hn : n.size = 0
  · rw [if_pos hn, if_pos hn]
    by_cases hs : spW o = true
    · rw [if_pos hs, if_pos hs]; rfl
    · rw [if_neg hs, if_neg hs]; rfl
  · rw [if_neg hn, if_neg hn]
    by_cases hs : spW o = true
    · rw [if_pos hs, if_pos hs]; simp
    · rw [if_neg hs, if_neg hs]; simp
theorem foB_bin {br : Fo → Nat → Bool} {f g h : Fo} (hs : f.sub = [g, h]) : foB br f = parB (br f 0) (foB br g) ++ (32 :: ((sgW f.op).data.toList ++ (32 :: parB (br f 1) (foB br h)))) := by
  obtain ⟨o, n, a, s⟩ := f
  have hs : s = [g, h] := hs
  subst hs
  unfold foB
  rw [foP, byP_app, byP_none, byP_some, byP_none, par_B, par_B]
  rfl
/-- The words of the text with signs in front. -/
def pwB : Fo → List Bs
  | .mk o n a [] => [byP (basP [] o n a)]
  | .mk o n a (g :: r) => (sgW o).data.toList :: ((if n.size = 0 then [] else [n.data.toList]) ++ ((g :: r).attach.flatMap fun ⟨p, _⟩ => pwB p))
theorem pwB_leaf {f : Fo} (h : f.sub = []) : pwB f = [baB [] f] := by
  obtain ⟨o, n, a, s⟩ := f
  have h : s = [] := h
  subst h
  rw [pwB]
  rfl
theorem pwB_node {f : Fo} (h : f.sub ≠ []) : pwB f = (sgW f.op).data.toList :: ((if f.n.size = 0 then [] else [f.n.data.toList]) ++ f.sub.flatMap pwB) := by
  obtain ⟨o, n, a, s⟩ := f
  cases s with
  | nil => exact absurd rfl h
  | cons g r =>
    rw [pwB]
    simp only [Fo.op, Fo.n, Fo.sub]
    congr 2
    generalize g :: r = l
    simp [List.flatMap_subtype]
def pfB (f : Fo) : Bs := jn [32] (pwB f)
end Go.Proofs.YtdapnjnmhkdnpaaDoor.Fb
