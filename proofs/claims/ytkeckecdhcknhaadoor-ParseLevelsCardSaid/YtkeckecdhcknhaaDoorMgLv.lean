/-
  Several texts in one: FtCount, FtLevels, PsLevels.
-/
import Derived.Test.YtkeckecdhcknhaaDoorMgGram
import Derived.Test.YtkeckecdhcknhaaDoorMgWr

/-
  The statements' own Size of a right formula: its nodes, or more than what is left.
-/
namespace Go.Proofs.YtkeckecdhcknhaaDoor.Ft
open Go Go.RowKit Go.Proofs.YtkeckecdhcknhaaDoor.Fm Go.Proofs.YtkeckecdhcknhaaDoor.Lx Go.Proofs.YtkeckecdhcknhaaDoor.Ps
set_option linter.unusedVariables false
set_option linter.unusedSimpArgs false
mutual
def cT : Tm → Nat
  | .mk _ _ l => 1 + cL l
def cL : List Tm → Nat
  | [] => 0
  | a :: r => cT a + cL r
end
mutual
theorem cT_all : ∀ (t : Tm) (lv : Int), (t.all lv).length = cT t
  | .mk v n l, lv => by
    rw [all_len, cT]
    have := cL_all l (wrap64 (lv + 1))
    simp only [Tm.args]
    omega
theorem cL_all : ∀ (l : List Tm) (lv : Int), (l.map fun a => (a.all lv).length).sum = cL l
  | [], lv => by rw [cL]; rfl
  | a :: r, lv => by
    have h1 := cT_all a lv
    have h2 := cL_all r lv
    rw [List.map_cons, List.sum_cons, cL]
    omega
end
mutual
def cF : Fo → Nat
  | .mk _ _ l s => 1 + cL l + cS s
def cS : List Fo → Nat
  | [] => 0
  | a :: r => cF a + cS r
end
mutual
theorem cF_all : ∀ (t : Fo) (lv : Int), NF lv t = cF t
  | .mk v n l s, lv => by
    rw [NF_eq, cF]
    have := cL_all l (wrap64 (lv + 1))
    have := cS_all s (wrap64 (lv + 1))
    simp only [Fo.args, Fo.sub]
    omega
theorem cS_all : ∀ (l : List Fo) (lv : Int), (l.map fun a => NF lv a).sum = cS l
  | [], lv => by rw [cS]; rfl
  | a :: r, lv => by
    have h1 := cF_all a lv
    have h2 := cS_all r lv
    rw [List.map_cons, List.sum_cons, cS]
    omega
end
theorem div40 {s : ByteArray} (h : s.size ≤ 16) : ((s.size : Int) / 40) = 0 := by omega
theorem tm_name {m : Bool} {t : Tm} (h : t.right m = true) : t.n.size ≤ 16 ∧ ∀ a ∈ t.args, a.right m = true := by
  obtain ⟨v, n, l⟩ := t
  cases v with
  | true =>
    obtain ⟨rfl, hv⟩ := right_var h
    refine ⟨?_, fun a ha => by cases ha⟩
    rw [Bool.or_eq_true] at hv
    rcases hv with hv | hv
    · exact var_le hv
    · exact met_le (mt_met hv)
  | false =>
    obtain ⟨hf, _, hl⟩ := right_fn h
    exact ⟨fn_le hf, hl⟩
theorem met_markF {s : ByteArray} (h : metB s = true) : markB s = true := by
  unfold metB metaB at h
  rw [Bool.or_eq_true] at h
  rcases h with h | h <;> (rw [Bool.and_eq_true, Bool.and_eq_true] at h; exact h.1.1)
mutual
theorem right_up : ∀ {t : Tm}, t.right false = true → t.right true = true
  | .mk true n l, h => by
    rw [Tm.right_eq] at h ⊢
    simp only [Tm.v, if_true, Bool.false_and, Bool.or_false] at h ⊢
    rw [h]; rfl
  | .mk false n l, h => by
    obtain ⟨h1, h2, h3⟩ := right_fn h
    rw [Tm.right_eq]
    have e : ((fnB n && decide (l.length ≤ 4)) && l.all fun t => t.right true) = true := by
      rw [h1, decide_eq_true h2, List.all_eq_true.2 (right_upL h3)]
      rfl
    exact e
theorem right_upL : ∀ {l : List Tm}, (∀ a ∈ l, a.right false = true) → ∀ a ∈ l, a.right true = true
  | [], _, a, ha => by cases ha
  | b :: l, h, a, ha => by
    rcases List.mem_cons.1 ha with e | ha
    · rw [e]; exact right_up (h b (List.mem_cons_self ..))
    · exact right_upL (fun c hc => h c (List.mem_cons_of_mem _ hc)) a ha
end
theorem szL_cnt (m : Bool) (N : Nat) : ∀ (l : List Tm), SizeOf.sizeOf l < N → ∀ (left n : Int), (∀ a ∈ l, a.right m = true) → 0 ≤ n → n + cL l ≤ 100000 → 0 ≤ left → left ≤ 100000 →
    n ≤ szL left n l ∧ szL left n l ≤ n + cL l ∧ (szL left n l ≤ left → szL left n l = n + cL l) := by
  induction N with
  | zero => exact fun t h => absurd h (Nat.not_lt_zero _)
  | succ N ih =>
    intro l hN left n hr h0 hn hl0 hl1
    match l with
    | [] => rw [szL, cL]; exact ⟨Int.le_refl _, by omega, fun _ => by omega⟩
    | .mk v nm args :: r =>
      obtain ⟨hnm, hargs⟩ := tm_name (hr _ (List.mem_cons_self ..))
      simp only [Tm.n, Tm.args] at hnm hargs
      rw [szL, div40 hnm]
      rw [cL, cT] at hn ⊢
      by_cases h : n ≤ left
      · rw [if_pos h]
        simp only [List.cons.sizeOf_spec, Tm.mk.sizeOf_spec] at hN
        have w0 : wrap64 0 = 0 := wrap_id (by omega) (by omega)
        have w1 : wrap64 (left - n) = left - n := wrap_id (by omega) (by omega)
        rw [w1, w0]
        obtain ⟨i1, i2, i3⟩ := ih args (by omega) (left - n) 0 hargs (Int.le_refl _) (by omega) (by omega) (by omega)
        have w2 : wrap64 (wrap64 (1 + 0) + szL (left - n) 0 args) = 1 + szL (left - n) 0 args := by
          have e : wrap64 (1 + 0) = 1 := wrap_id (x := 1) (by omega) (by omega)
          rw [e]
          exact wrap_id (by omega) (by omega)
        rw [w2]
        have w3 : wrap64 (n + (1 + szL (left - n) 0 args)) = n + (1 + szL (left - n) 0 args) := wrap_id (by omega) (by omega)
        rw [w3]
        obtain ⟨j1, j2, j3⟩ := ih r (by omega) left (n + (1 + szL (left - n) 0 args)) (fun a ha => hr a (List.mem_cons_of_mem _ ha)) (by omega) (by push_cast at hn; omega) hl0 hl1
        refine ⟨by omega, by push_cast; omega, fun h2 => ?_⟩
        have := j3 h2
        have := i3 (by omega)
        push_cast
        omega
      · rw [if_neg h]
        exact ⟨Int.le_refl _, by omega, fun h2 => absurd h2 h⟩
theorem fo_name {m : Bool} {lv : Int} {f : Fo} (h : FoK m lv f) : f.n.size ≤ 16 ∧ ∀ a ∈ f.args, a.right true = true := by
  have hs := h.shape
  cases hs with
  | @ato n a hp h4 ha =>
    refine ⟨pred_le hp, fun t ht => ?_⟩
    have := ha t ht
    cases m with
    | true => exact this
    | false => exact right_up this
  | fal => exact ⟨by decide, fun a ha => by cases ha⟩
  | met hm hn => exact ⟨met_le (mf_met hn), fun a ha => by cases ha⟩
  | @ins n t x hm hn ht hx =>
    refine ⟨met_le (mf_met hn), fun a ha => ?_⟩
    have hv : ∀ s : ByteArray, (varB s || mtB true s) = true → (Tm.mk true s []).right true = true := by
      intro s hs
      rw [Tm.right_eq]
      simp only [Tm.v, if_true, varT, metaT, Tm.n, Tm.args, Bool.true_and, List.length_nil]
      rw [Bool.or_eq_true] at hs
      rcases hs with hs | hs
      · rw [hs]; rfl
      · have := mt_met hs
        unfold mtB at hs
        rw [Bool.and_eq_true, Bool.and_eq_true] at hs
        have hm := met_markF hs.1.2
        have : metaB fnB s = true := by
          unfold metaB cutR
          rw [hm, if_pos rfl, hs.2, decide_eq_true (met_le hs.1.2)]
          rfl
        rw [this]
        simp
    rcases List.mem_cons.1 ha with rfl | ha
    · exact hv x (by rw [hx]; rfl)
    · rw [List.mem_singleton.1 ha]; exact hv t (by rw [ht, Bool.or_true])
  | qua ho hn => exact ⟨var_le hn, fun a ha => by cases ha⟩
  | una ho => exact ⟨Nat.zero_le _, fun a ha => by cases ha⟩
  | bin ho => exact ⟨Nat.zero_le _, fun a ha => by cases ha⟩
theorem szF_cnt (m : Bool) (N : Nat) : ∀ (f : Fo), SizeOf.sizeOf f < N → ∀ (lv left : Int), FoK m lv f → 1 ≤ lv → cF f ≤ 50000 → 0 ≤ left → left ≤ 1000 →
    1 ≤ szF left f ∧ szF left f ≤ cF f ∧ (szF left f ≤ left → szF left f = cF f) := by
  induction N with
  | zero => exact fun f h => absurd h (Nat.not_lt_zero _)
  | succ N ih =>
    intro f hN lv left hk h1 hc hl0 hl1
    obtain ⟨hnm, hargs⟩ := fo_name hk
    have hsub : ∀ (l : List Fo), (∀ g ∈ l, g ∈ f.sub) → ∀ (n : Int), 0 ≤ n → n + cS l ≤ 100000 → n ≤ szFL left n l ∧ szFL left n l ≤ n + cS l ∧ (szFL left n l ≤ left → szFL left n l = n + cS l) := by
      intro l
      induction l with
      | nil => intro _ n h0 _; rw [szFL, cS]; exact ⟨Int.le_refl _, by omega, fun _ => by omega⟩
      | cons x r ihr =>
        intro hm n h0 hn
        rw [szFL]
        rw [cS] at hn ⊢
        by_cases h : n ≤ left
        · rw [if_pos h]
          have w1 : wrap64 (left - n) = left - n := wrap_id (by omega) (by omega)
          rw [w1]
          have hx := hm x (List.mem_cons_self ..)
          have hlt : SizeOf.sizeOf x < SizeOf.sizeOf f := by
            obtain ⟨o, nn, a, ss⟩ := f
            have : SizeOf.sizeOf x < SizeOf.sizeOf ss := List.sizeOf_lt_of_mem hx
            simp only [Fo.mk.sizeOf_spec]; omega
          have hcx : cF x ≤ 50000 := by
            have hle : ∀ l : List Fo, x ∈ l → cF x ≤ cS l := by
              intro l
              induction l with
              | nil => intro h; cases h
              | cons y l ihl =>
                intro h
                rw [cS]
                rcases List.mem_cons.1 h with rfl | h
                · omega
                · have := ihl h; omega
            have := hle f.sub hx
            obtain ⟨o, nn, a, ss⟩ := f
            rw [cF] at hc
            simp only [Fo.sub] at this
            omega
          obtain ⟨i1, i2, i3⟩ := ih x (by omega) (lv + 1) (left - n) (hk.sub h1 hx) (by omega) hcx (by omega) (by omega)
          have w3 : wrap64 (n + szF (left - n) x) = n + szF (left - n) x := wrap_id (by omega) (by push_cast at hn; omega)
          rw [w3]
          obtain ⟨j1, j2, j3⟩ := ihr (fun g hg => hm g (List.mem_cons_of_mem _ hg)) (n + szF (left - n) x) (by omega) (by push_cast at hn; omega)
          refine ⟨by omega, by push_cast; omega, fun h2 => ?_⟩
          have := j3 h2
          have := i3 (by omega)
          push_cast
          omega
        · rw [if_neg h]
          exact ⟨Int.le_refl _, by omega, fun h2 => absurd h2 h⟩
    have hce : cF f = 1 + cL f.args + cS f.sub := by obtain ⟨o, nn, a, ss⟩ := f; rw [cF]; rfl
    obtain ⟨i1, i2, i3⟩ := szL_cnt true _ f.args (Nat.lt_succ_self _) left 0 hargs (Int.le_refl _) (by omega) hl0 (by omega)
    rw [szF_eq, div40 hnm]
    have w2 : wrap64 (wrap64 (1 + wrap64 0) + szL left 0 f.args) = 1 + szL left 0 f.args := by
      have e : wrap64 (1 + wrap64 0) = 1 := by rw [show wrap64 0 = 0 from wrap_id (by omega) (by omega)]; exact wrap_id (x := 1) (by omega) (by omega)
      rw [e]
      exact wrap_id (by omega) (by omega)
    rw [w2]
    obtain ⟨j1, j2, j3⟩ := hsub f.sub (fun g hg => hg) (1 + szL left 0 f.args) (by omega) (by omega)
    refine ⟨by omega, by omega, fun h2 => ?_⟩
    have := j3 h2
    have := i3 (by omega)
    omega
/-- A right formula of a small Size is small. -/
theorem right_cnt {m : Bool} {f : Fo} (h : rightB m f = true) (ho : OpsOk f) : cF f ≤ 400 := by
  rw [← cF_all f 1]
  unfold rightB fitsB levelsL at h
  rw [Bool.and_eq_true, Bool.and_eq_true] at h
  have := of_decide_eq_true h.1.1
  rw [List.length_append, List.length_map, List.length_map] at this
  unfold NF
  unfold termsL at this
  omega
theorem size_cnt {m : Bool} {f : Fo} (h : rightB m f = true) (ho : OpsOk f) {left : Int} (hl0 : 0 ≤ left) (hl1 : left ≤ 1000) (hs : szF left f ≤ left) : (cF f : Int) ≤ left := by
  obtain ⟨_, _, h3⟩ := szF_cnt m _ f (Nat.lt_succ_self _) 1 left (fok_right h ho) (Int.le_refl _) (by have := right_cnt h ho; omega) hl0 hl1
  have := h3 hs
  omega
theorem len_cnt {m : Bool} {f : Fo} (h : rightB m f = true) (ho : OpsOk f) (s : Sty) (hc : CmOk s.c) (br : Fo → Nat → Bool) : (byP (foP s br f)).length + 2 ≤ 29 * cF f := by
  have := fo_len m s hc br _ f (Nat.lt_succ_self _) 1 (fok_right h ho) (Int.le_refl _)
  rwa [cF_all] at this
end Go.Proofs.YtkeckecdhcknhaaDoor.Ft

/-
  Two binary signs and a unary one: what their text is read to.
-/
namespace Go.Proofs.YtkeckecdhcknhaaDoor.Ft
open Go Go.RowKit Go.Proofs.YtkeckecdhcknhaaDoor.Fm Go.Proofs.YtkeckecdhcknhaaDoor.Lx Go.Proofs.YtkeckecdhcknhaaDoor.Ps
set_option linter.unusedVariables false
set_option linter.unusedSimpArgs false
/-- A formula in brackets. -/
def inB (f : Fo) : Pc := some ⟨#[40]⟩ :: (fullP f ++ [some ⟨#[41]⟩])
theorem inB_txt {f : Fo} (h : rightB false f = true) (ho : OpsOk f) (i : Nat) (hi : i ≤ 5) : TxF false i 82 f (wd (inB f)) := by
  unfold inB
  rw [wd_some, wd_app, wd_some, wd_nil]
  exact ups (.bra (full_txt h ho)) hi (Nat.le_refl _)
theorem inB_lex {f : Fo} (h : rightB false f = true) (ho : OpsOk f) (r : Bs) : LxOk (inB f) r :=
  ⟨t_open _, LxOk.app (full_lex h ho (spc_cons (by decide))) ⟨t_close _, trivial⟩⟩
def levP (z x y : Int) (a b c : Fo) : Pc := some (sgW z) :: none :: (inB a ++ (none :: some (sgW x) :: none :: (inB b ++ (none :: some (sgW y) :: none :: inB c))))
def bin (o : Int) (f g : Fo) : Fo := .mk o ⟨#[]⟩ [] [f, g]
def una (o : Int) (f : Fo) : Fo := .mk o ⟨#[]⟩ [] [f]
def wantF (z x y : Int) (a b c : Fo) : Fo := if str x < str y ∨ str y = str x ∧ frR x = true then bin x (una z a) (bin y b c) else bin y (bin x (una z a) b) c
theorem bin_txt {m : Bool} {o : Int} (ho : o = 4 ∨ o = 5 ∨ o = 6 ∨ o = 7 ∨ o = 14) {f g : Fo} {xs ys : List ByteArray} {d : Nat} (hf : TxF m (str o - 1 + (if frR o then 1 else 0)) d f xs) (hg : TxF m (str o - 1 + (if frR o then 0 else 1)) d g ys) :
    TxF m (str o - 1) (d + 1) (bin o f g) (xs ++ sgW o :: ys) := by
  obtain ⟨h5, e1, e2, e3⟩ := lv_op ho
  cases hr : frR o with
  | false =>
    rw [hr] at hf hg e3
    have := TxF.lef (i := str o - 1) h5 e3 hf hg
    rw [e1, e2] at this
    exact .deep (by omega) this
  | true =>
    rw [hr] at hf hg e3
    have := TxF.rig (i := str o - 1) h5 e3 (.deep (by omega) hf) hg
    rw [e1, e2] at this
    exact this
theorem lev_txt {z x y : Int} (hz : z = 3 ∨ z = 10 ∨ z = 11 ∨ z = 12 ∨ z = 13) (hx : x = 4 ∨ x = 5 ∨ x = 6 ∨ x = 7 ∨ x = 14) (hy : y = 4 ∨ y = 5 ∨ y = 6 ∨ y = 7 ∨ y = 14) {a b c : Fo}
    (ha : rightB false a = true) (hao : OpsOk a) (hb : rightB false b = true) (hbo : OpsOk b) (hc : rightB false c = true) (hco : OpsOk c) : TxF false 0 90 (wantF z x y a b c) (wd (levP z x y a b c)) := by
  obtain ⟨hu, _⟩ := un_sg (o := z) (by omega)
  have tz : TxF false 5 83 (una z a) (sgW z :: wd (inB a)) := by
    have := TxF.una (m := false) (s := sgW z) (by rw [hu]; omega) (by rw [hu]; omega) (by rw [hu]; omega) (inB_txt ha hao 5 (Nat.le_refl _))
    rw [hu] at this
    exact this
  have hw : wd (levP z x y a b c) = sgW z :: (wd (inB a) ++ sgW x :: (wd (inB b) ++ sgW y :: wd (inB c))) := by
    unfold levP
    simp
  obtain ⟨x5, _, _, _⟩ := lv_op hx
  obtain ⟨y5, _, _, _⟩ := lv_op hy
  have sx := str_le x
  have sy := str_le y
  rw [hw]
  unfold wantF
  split
  · next h =>
    have hyc := bin_txt (m := false) hy (d := 83) (.deep (by omega) (inB_txt hb hbo _ (by split <;> omega))) (.deep (by omega) (inB_txt hc hco _ (by split <;> omega)))
    have := bin_txt (m := false) hx (d := 84) (ups (.deep (by omega) tz) (by split <;> omega) (Nat.le_refl _)) (ups hyc (by
      rcases h with h | ⟨h, hr⟩
      · split <;> omega
      · rw [hr, if_pos rfl]; omega) (by omega))
    exact .deep (by omega) (ups this (Nat.zero_le _) (by omega))
  · next h =>
    have hxb := bin_txt (m := false) hx (d := 83) (ups (.deep (by omega) tz) (by split <;> omega) (Nat.le_refl _)) (.deep (by omega) (inB_txt hb hbo _ (by split <;> omega)))
    have hlt : str y - 1 + (if frR y = true then 1 else 0) ≤ str x - 1 := by
      by_cases he : str y = str x
      · have hxr : ¬ frR x = true := fun hr => h (.inr ⟨he, hr⟩)
        have hyr : frR y = frR x := by
          rcases hx with rfl | rfl | rfl | rfl | rfl <;> rcases hy with rfl | rfl | rfl | rfl | rfl <;> first | rfl | exact absurd he (by decide)
        rw [hyr, if_neg hxr]; omega
      · split <;> omega
    have := bin_txt (m := false) hy (d := 84) (ups hxb hlt (by omega)) (.deep (by omega) (inB_txt hc hco _ (by split <;> omega)))
    have e : sgW z :: (wd (inB a) ++ sgW x :: (wd (inB b) ++ sgW y :: wd (inB c))) = (sgW z :: wd (inB a) ++ sgW x :: wd (inB b)) ++ sgW y :: wd (inB c) := by simp
    rw [e]
    exact .deep (by omega) (ups this (Nat.zero_le _) (by omega))
theorem lev_lex {z x y : Int} {a b c : Fo} (ha : rightB false a = true) (hao : OpsOk a) (hb : rightB false b = true) (hbo : OpsOk b) (hc : rightB false c = true) (hco : OpsOk c) : LxOk (levP z x y a b c) [] :=
  ⟨sg_sp z (spc_cons (by decide)), LxOk.app (inB_lex ha hao _) ⟨sg_sp x (spc_cons (by decide)), LxOk.app (inB_lex hb hbo _) ⟨sg_sp y (spc_cons (by decide)), inB_lex hc hco _⟩⟩⟩
def levS (z x y : Int) (a b c : Fo) : ByteArray := sgW z ++ ⟨#[32, 40]⟩ ++ FF a ++ ⟨#[41, 32]⟩ ++ sgW x ++ ⟨#[32, 40]⟩ ++ FF b ++ ⟨#[41, 32]⟩ ++ sgW y ++ ⟨#[32, 40]⟩ ++ FF c ++ ⟨#[41]⟩
theorem lev_eq (z x y : Int) (a b c : Fo) : bs (byP (levP z x y a b c)) = levS z x y a b c := by
  unfold levS
  have e : sgW z ++ ⟨#[32, 40]⟩ ++ FF a ++ ⟨#[41, 32]⟩ ++ sgW x ++ ⟨#[32, 40]⟩ ++ FF b ++ ⟨#[41, 32]⟩ ++ sgW y ++ ⟨#[32, 40]⟩ ++ FF c ++ ⟨#[41]⟩ =
    bs (sgW z).data.toList ++ bs [32, 40] ++ bs (byP (fullP a)) ++ bs [41, 32] ++ bs (sgW x).data.toList ++ bs [32, 40] ++ bs (byP (fullP b)) ++ bs [41, 32] ++ bs (sgW y).data.toList ++ bs [32, 40] ++ bs (byP (fullP c)) ++ bs [41] := by rw [bsl, bsl, bsl]; rfl
  rw [e]
  simp only [bs_app]
  unfold levP inB
  simp only [byP_some, byP_none, byP_nil, byP_app, List.append_nil, List.append_assoc, List.cons_append, List.nil_append]
theorem full_small {f : Fo} (h : rightB false f = true) (ho : OpsOk f) (hs : szF 100 f ≤ 100) : (FF f).size ≤ 2900 := by
  have h1 := len_cnt h ho sty5 (.inl rfl) br5
  have h2 := size_cnt h ho (left := 100) (by omega) (by omega) hs
  have h3 := par_len (decide (str f.op < 6)) (foP sty5 br5 f)
  unfold FF fullP
  rw [bs_size]
  omega
theorem lev_res {z x y : Int} (hz : z = 3 ∨ z = 10 ∨ z = 11 ∨ z = 12 ∨ z = 13) (hx : x = 4 ∨ x = 5 ∨ x = 6 ∨ x = 7 ∨ x = 14) (hy : y = 4 ∨ y = 5 ∨ y = 6 ∨ y = 7 ∨ y = 14) {a b c : Fo}
    (ha : rightB false a = true) (hao : OpsOk a) (hb : rightB false b = true) (hbo : OpsOk b) (hc : rightB false c = true) (hco : OpsOk c) :
    formRes false (rightB false) (levS z x y a b c) = if rightB false (wantF z x y a b c) = true then (some (wantF z x y a b c), 0, 0) else (none, 0, 3) := by
  rw [← lev_eq]
  exact res_pc (lev_txt hz hx hy ha hao hb hbo hc hco) (by omega) (lev_lex ha hao hb hbo hc hco)
end Go.Proofs.YtkeckecdhcknhaaDoor.Ft

/-
  ParseLevels' walk.
-/
namespace Go.Proofs.YtkeckecdhcknhaaDoor.Ft
open Go Go.RowKit Go.Shelf Go.Proofs.YtkeckecdhcknhaaDoor.Fm Go.Proofs.YtkeckecdhcknhaaDoor.Lx Go.Proofs.YtkeckecdhcknhaaDoor.Ps
set_option linter.unusedVariables false
set_option linter.unusedSimpArgs false
/-- A formula in a box. -/
structure BF (X : World) (A : Nat) (f : Fo) (a1 a2 : Option Addr) (k1 k2 : Nat) : Prop where
  b : Bx4 X A (.int .u8 f.op) (.string f.n) (.slice a1 f.args.length k1) (.slice a2 f.sub.length k2)
  v : FoV X.heap.size X (.int .u8 f.op) (.string f.n) (.slice a1 f.args.length k1) (.slice a2 f.sub.length k2) f
theorem BF.below {X Y : World} {A : Nat} {f : Fo} {a1 a2 : Option Addr} {k1 k2 : Nat} (h : BF X A f a1 a2 k1 k2) (hb : Below X.heap.size X Y) : BF Y A f a1 a2 k1 k2 :=
  ⟨h.b.heap (hb.block A h.b.lt) (Nat.lt_of_lt_of_le h.b.lt hb.size), (h.v.below hb (Nat.le_refl _)).mono hb.size⟩
theorem BF.new {X : World} {f : Fo} {a1 a2 : Option Addr} {k1 k2 : Nat} (h : FoV X.heap.size X (.int .u8 f.op) (.string f.n) (.slice a1 f.args.length k1) (.slice a2 f.sub.length k2) f) (t : TypeId) :
    BF (X.alloc (.cells #[.int .u8 f.op, .string f.n, .slice a1 f.args.length k1, .slice a2 f.sub.length k2] t)) X.heap.size f a1 a2 k1 k2 :=
  ⟨Bx4.new X _ _ _ _ t, (h.below ((Below.refl _ _).alloc (Nat.le_refl _) _) (Nat.le_refl _)).mono (by simp)⟩
theorem rank_c (o : Int) (h : o = 4 ∨ o = 5 ∨ o = 6 ∨ o = 7 ∨ o = 14) (w : World) : Calls Tryd.prog 15 #[.int .u8 o] w fun e w' => e = .returned (.tuple #[.int .i64 (str o : Nat), .bool (frR o)]) ∧ w = w' := by
  rcases h with rfl | rfl | rfl | rfl | rfl
  all_goals
    go_enter Tryd.func15, Tryd.ntmps15
    go_wp2_with fail
    go_ret2
    exact ⟨rfl, rfl⟩
theorem sat_up {f : Fo} (h : satB false f = true) : satB true f = true := by
  unfold satB at h ⊢
  rw [Bool.and_eq_true] at h ⊢
  obtain ⟨h1, h2⟩ := h
  refine ⟨?_, ?_⟩
  · rw [headB_eq] at h1 ⊢
    simp only [Bool.and_eq_true] at h1 ⊢
    obtain ⟨⟨⟨⟨_, a2⟩, a3⟩, a4⟩, a5⟩ := h1
    exact ⟨⟨⟨⟨by simp, a2⟩, a3⟩, a4⟩, a5⟩
  · unfold tailB at h2 ⊢
    split
    · next ho => rw [if_pos ho] at h2; exact h2
    · next ho =>
      rw [if_neg ho] at h2
      rw [List.all_eq_true] at h2 ⊢
      exact fun t ht => right_up (h2 t ht)
theorem fok_up {lv : Int} {f : Fo} (h : FoK false lv f) : FoK true lv f := fun x hx => ⟨sat_up (h x hx).1, (h x hx).2⟩
theorem slF_two {n b : Nat} {w : World} {f g : Fo} {u2 u3 v2 v3 : Value} (c0 : w.cell? ⟨b, 0, none⟩ = some (.int .u8 f.op)) (c1 : w.cell? ⟨b, 1, none⟩ = some (.string f.n)) (c2 : w.cell? ⟨b, 2, none⟩ = some u2) (c3 : w.cell? ⟨b, 3, none⟩ = some u3)
    (c4 : w.cell? ⟨b, 4, none⟩ = some (.int .u8 g.op)) (c5 : w.cell? ⟨b, 5, none⟩ = some (.string g.n)) (c6 : w.cell? ⟨b, 6, none⟩ = some v2) (c7 : w.cell? ⟨b, 7, none⟩ = some v3)
    (hf : FoV n w (.int .u8 f.op) (.string f.n) u2 u3 f) (hg : FoV n w (.int .u8 g.op) (.string g.n) v2 v3 g) (hb : b < n) : SlF n w (.slice (some ⟨b, 0, none⟩) 2 2) [f, g] := by
  obtain ⟨op, nm, args, sub⟩ := f
  obtain ⟨op2, nm2, args2, sub2⟩ := g
  obtain ⟨_, hop, _, hok, ⟨a, cap, b', o', he, hl, hx, ht⟩, ⟨a', cap', b2, o2, he', hl', hx', ht'⟩⟩ := hf
  obtain ⟨_, gop, _, gok, ⟨ga, gcap, gb', go', ge, gl, gx, gt⟩, ⟨ga', gcap', gb2, go2, ge', gl', gx', gt'⟩⟩ := hg
  subst he he' ge ge'
  refine ⟨some ⟨b, 0, none⟩, 2, b, 0, rfl, by simp, .inr ⟨rfl, hb⟩, ?_⟩
  rw [FsAt]
  refine ⟨⟨c0, hop, c1, hok, ⟨a, cap, b', o', c2, hl, hx, ht⟩, ⟨a', cap', b2, o2, c3, hl', hx', ht'⟩⟩, ?_⟩
  rw [FsAt]
  exact ⟨⟨c4, gop, c5, gok, ⟨ga, gcap, gb', go', c6, gl, gx, gt⟩, ⟨ga', gcap', gb2, go2, c7, gl', gx', gt'⟩⟩, by simp [FsAt]⟩
theorem slT_none (n : Nat) (w : World) : SlT n w (.slice none 0 0) [] := ⟨none, 0, 0, 0, rfl, by simp, .inl rfl, by simp [TsAt]⟩
theorem ok_empty : okStr ⟨#[]⟩ := by unfold okStr; decide
theorem fov_una {n : Nat} {w : World} {f : Fo} {o : Int} {v : Value} (h : SlF n w v [f]) (ho : o = 3 ∨ o = 10 ∨ o = 11 ∨ o = 12 ∨ o = 13) : FoV n w (.int .u8 o) (.string ⟨#[]⟩) (.slice none 0 0) v (una o f) := ⟨rfl, by show 0 ≤ o ∧ o ≤ 255; omega, rfl, ok_empty, slT_none n w, h⟩
theorem fov_bin {n : Nat} {w : World} {f g : Fo} {o : Int} {v : Value} (h : SlF n w v [f, g]) (ho : o = 4 ∨ o = 5 ∨ o = 6 ∨ o = 7 ∨ o = 14) : FoV n w (.int .u8 o) (.string ⟨#[]⟩) (.slice none 0 0) v (bin o f g) := ⟨rfl, by show 0 ≤ o ∧ o ≤ 255; omega, rfl, ok_empty, slT_none n w, h⟩
/-- What the region that makes the first wanted formula leaves. -/
structure LvF (Z Y : World) (z x y : Int) (b c : Fo) (L L1 L2 G : Nat) (b1 b2 c1 c2 : Option Addr) (k1 k2 m1 m2 : Nat) : Prop where
  hb : Below Z.heap.size Z Y
  l1 : ∀ j u, [Value.int .u8 z, .string ⟨#[]⟩, .slice none 0 0, .slice (some ⟨L, 0, none⟩) 1 1, .int .u8 b.op, .string b.n, .slice b1 b.args.length k1, .slice b2 b.sub.length k2][j]? = some u → Y.cell? ⟨L1, j, none⟩ = some u
  l2 : ∀ j u, [Value.int .u8 x, .string ⟨#[]⟩, .slice none 0 0, .slice (some ⟨L1, 0, none⟩) 2 2, .int .u8 c.op, .string c.n, .slice c1 c.args.length m1, .slice c2 c.sub.length m2][j]? = some u → Y.cell? ⟨L2, j, none⟩ = some u
  g : Bx4 Y G (.int .u8 y) (.string ⟨#[]⟩) (.slice none 0 0) (.slice (some ⟨L2, 0, none⟩) 2 2)
  z1 : L1 < Y.heap.size
  z2 : L2 < Y.heap.size
  gz : Z.heap.size ≤ G
theorem cells_new {w : World} (vs : List Value) (t : TypeId) : ∀ j u, vs[j]? = some u → (w.alloc (.cells vs.toArray t)).cell? ⟨w.heap.size, j, none⟩ = some u := fun j u hj => by rw [World.cell?_alloc_at _ _ _ _ rfl]; simpa using hj
theorem cells_bl {w w' : World} {b : Nat} {vs : List Value} (h : ∀ j u, vs[j]? = some u → w.cell? ⟨b, j, none⟩ = some u) (hb : w'.heap[b]? = w.heap[b]?) : ∀ j u, vs[j]? = some u → w'.cell? ⟨b, j, none⟩ = some u := fun j u hj => (World.cell?_of_block (a := ⟨b, j, none⟩) hb).trans (h j u hj)
def opL (k : Nat) : Int := match k with | 0 => 7 | 1 => 6 | 2 => 14 | 3 => 5 | _ => 4
def unL (k : Nat) : Int := match k with | 0 => 3 | 1 => 10 | 2 => 11 | 3 => 12 | _ => 13
theorem opL_at {k : Nat} (h : k < 5) : (#[.int .u8 7, .int .u8 6, .int .u8 14, .int .u8 5, .int .u8 4] : Array Value)[k]? = some (.int .u8 (opL k)) ∧ (opL k = 4 ∨ opL k = 5 ∨ opL k = 6 ∨ opL k = 7 ∨ opL k = 14) := by
  rcases (by omega : k = 0 ∨ k = 1 ∨ k = 2 ∨ k = 3 ∨ k = 4) with rfl | rfl | rfl | rfl | rfl <;> exact ⟨rfl, by decide⟩
theorem unL_at {k : Nat} (h : k < 5) : (#[.int .u8 3, .int .u8 10, .int .u8 11, .int .u8 12, .int .u8 13] : Array Value)[k]? = some (.int .u8 (unL k)) ∧ (unL k = 3 ∨ unL k = 10 ∨ unL k = 11 ∨ unL k = 12 ∨ unL k = 13) := by
  rcases (by omega : k = 0 ∨ k = 1 ∨ k = 2 ∨ k = 3 ∨ k = 4) with rfl | rfl | rfl | rfl | rfl <;> exact ⟨rfl, by decide⟩
set_option maxHeartbeats 16000000 in
set_option maxRecDepth 20000 in
theorem levels_c (a b c : Fo) (x0 x1 x2 x3 y0 y1 y2 y3 z0 z1 z2 z3 : Value) (one two ahead : Int) (hone : 0 ≤ one ∧ one ≤ 255) (htwo : 0 ≤ two ∧ two ≤ 255) (hahead : 0 ≤ ahead ∧ ahead ≤ 255) (W : World) (hT : RTab W) (hL : LTab W W.heap.size)
    (hawk : ∀ w, RTab w → LTab w w.heap.size → Calls Tryd.prog 5 #[] w fun e w' => e = .returned (.bool true) ∧ Below w.heap.size w w')
    (hfa : FoV W.heap.size W x0 x1 x2 x3 a) (hfb : FoV W.heap.size W y0 y1 y2 y3 b) (hfc : FoV W.heap.size W z0 z1 z2 z3 c) :
    Calls Tryd.prog 4 #[.agg #[x0, x1, x2, x3], .agg #[y0, y1, y2, y3], .agg #[z0, z1, z2, z3], .int .u8 one, .int .u8 two, .int .u8 ahead] W fun e w' => e = .returned (.bool true) ∧ Below W.heap.size W w' := by
  have HOA := Lib.hid (fov_opsOk hfa)
  have HOB := Lib.hid (fov_opsOk hfb)
  have HOC := Lib.hid (fov_opsOk hfc)
  have hrt := fun (w : World) (hb : Below W.heap.size W w) => (⟨hT.below hb hT.1, ⟨Nat.lt_of_lt_of_le hL.1 hb.size, (hL.keep (hb.block _ hL.1)).2⟩⟩ : RTab w ∧ LTab w w.heap.size)
  have HRT := Lib.hid hrt
  have HAW := Lib.hid (fun w (hb : Below W.heap.size W w) => hawk w (hrt w hb).1 (hrt w hb).2)
  have HFA := Lib.hid hfa
  have HFB := Lib.hid hfb
  have HFC := Lib.hid hfc
  obtain ⟨rfl, t1, rfl, t2, hA, hS⟩ := hfa
  obtain ⟨⟨aa1, ka1, rfl⟩, t3⟩ := hA.form
  obtain ⟨⟨aa2, ka2, rfl⟩, t4⟩ := hS.form
  clear hA hS t1 t2 t3 t4
  obtain ⟨rfl, t1, rfl, t2, hA, hS⟩ := hfb
  obtain ⟨⟨ab1, kb1, rfl⟩, t3⟩ := hA.form
  obtain ⟨⟨ab2, kb2, rfl⟩, t4⟩ := hS.form
  clear hA hS t1 t2 t3 t4
  obtain ⟨rfl, t1, rfl, t2, hA, hS⟩ := hfc
  obtain ⟨⟨ac1, kc1, rfl⟩, t3⟩ := hA.form
  obtain ⟨⟨ac2, kc2, rfl⟩, t4⟩ := hS.form
  clear hA hS t1 t2 t3 t4
  clear hT hL hawk hrt
  go_enter Tryd.func4, Tryd.ntmps4
  go_wp2_with fail
  have hba : Below W.heap.size W (W.alloc (.cells #[.int .u8 a.op, .string a.n, .slice aa1 a.args.length ka1, .slice aa2 a.sub.length ka2] 25)) := (Below.refl _ _).alloc (Nat.le_refl _) _
  have hna := BF.new HFA.out 25
  have hfb1 := (HFB.out.below hba (Nat.le_refl _)).mono hba.size
  have hfc1 := (HFC.out.below hba (Nat.le_refl _)).mono hba.size
  generalize hX : W.alloc (.cells #[.int .u8 a.op, .string a.n, .slice aa1 a.args.length ka1, .slice aa2 a.sub.length ka2] 25) = XA at *
  have hzA : XA.heap.size = W.heap.size + 1 := by rw [← hX]; simp
  have hbb : Below XA.heap.size XA (XA.alloc (.cells #[.int .u8 b.op, .string b.n, .slice ab1 b.args.length kb1, .slice ab2 b.sub.length kb2] 25)) := (Below.refl _ _).alloc (Nat.le_refl _) _
  have hnb := BF.new hfb1 25
  have hna1 := hna.below hbb
  have hfc2 := (hfc1.below hbb (Nat.le_refl _)).mono hbb.size
  generalize hY : XA.alloc (.cells #[.int .u8 b.op, .string b.n, .slice ab1 b.args.length kb1, .slice ab2 b.sub.length kb2] 25) = XB at *
  have hzB : XB.heap.size = W.heap.size + 1 + 1 := by rw [← hY]; simp [hzA]
  have hbc : Below XB.heap.size XB (XB.alloc (.cells #[.int .u8 c.op, .string c.n, .slice ac1 c.args.length kc1, .slice ac2 c.sub.length kc2] 25)) := (Below.refl _ _).alloc (Nat.le_refl _) _
  have hnc := BF.new hfc2 25
  have hna2 := hna1.below hbc
  have hnb2 := hnb.below hbc
  generalize hZ : XB.alloc (.cells #[.int .u8 c.op, .string c.n, .slice ac1 c.args.length kc1, .slice ac2 c.sub.length kc2] 25) = X0 at *
  have hB0 := (hba.trans (hbb.mono hba.size)).trans (hbc.mono (Nat.le_trans hba.size hbb.size))
  rw [hzA] at hnb2
  rw [hzB] at hnc
  have HA := Lib.hid hna2
  have HB := Lib.hid hnb2
  have HC := Lib.hid hnc
  have HW := Lib.hid hB0
  clear hba hbb hbc hna hnb hna1 hna2 hnb2 hnc hB0 hfb1 hfc1 hfc2 hX hY hZ hzA hzB HFA HFB HFC
  obtain ⟨A, hA⟩ : ∃ A, W.heap.size = A := ⟨_, rfl⟩
  have hAl : W.heap.size ≤ A ∧ A ≤ W.heap.size := by omega
  rw [hA] at HA HB HC ⊢
  clear hA
  refine (HAW.out _ HW.out).mono ?_
  rintro e X1 ⟨rfl, hb⟩
  have HW2 := Lib.hid (HW.out.trans (hb.mono HW.out.size))
  have HA2 := Lib.hid (HA.out.below hb)
  have HB2 := Lib.hid (HB.out.below hb)
  have HC2 := Lib.hid (HC.out.below hb)
  clear HW HA HB HC hb
  have HW := HW2
  have HA := HA2
  have HB := HB2
  have HC := HC2
  clear HW2 HA2 HB2 HC2
  obtain ⟨c0, c1, c2, c3, q0, q1, q2, q3, cl⟩ := HA.out.b
  clear q0 q1 q2 q3
  have hsz := Lib.hid (sizeF_c _ a (Nat.lt_succ_self _) _ _ _ _ 100 X1.heap.size X1 HA.out.v (Nat.le_refl _))
  go_wp2_with fail
  refine hsz.out.mono ?_
  rintro e X2 ⟨rfl, hb⟩
  clear hsz
  clear c0 c1 c2 c3 cl
  have HW2 := Lib.hid (HW.out.trans (hb.mono HW.out.size))
  have HA2 := Lib.hid (HA.out.below hb)
  have HB2 := Lib.hid (HB.out.below hb)
  have HC2 := Lib.hid (HC.out.below hb)
  clear HW HA HB HC hb
  have HW := HW2
  have HA := HA2
  have HB := HB2
  have HC := HC2
  clear HW2 HA2 HB2 HC2
  by_cases hsa : szF 100 a ≤ 100
  rotate_left
  · have d1 : decide (100 < szF 100 a) = true := decide_eq_true (by omega)
    go_wp2_with fail
    go_ret
    exact ⟨rfl, HW.out⟩
  have HSA := Lib.hid hsa
  have da : decide (100 < szF 100 a) = false := decide_eq_false (by omega)
  clear hsa
  obtain ⟨c0, c1, c2, c3, q0, q1, q2, q3, cl⟩ := HB.out.b
  clear q0 q1 q2 q3
  have hsz := Lib.hid (sizeF_c _ b (Nat.lt_succ_self _) _ _ _ _ 100 X2.heap.size X2 HB.out.v (Nat.le_refl _))
  go_wp2_with fail
  refine hsz.out.mono ?_
  rintro e X3 ⟨rfl, hb⟩
  clear hsz
  clear c0 c1 c2 c3 cl
  have HW2 := Lib.hid (HW.out.trans (hb.mono HW.out.size))
  have HA2 := Lib.hid (HA.out.below hb)
  have HB2 := Lib.hid (HB.out.below hb)
  have HC2 := Lib.hid (HC.out.below hb)
  clear HW HA HB HC hb
  have HW := HW2
  have HA := HA2
  have HB := HB2
  have HC := HC2
  clear HW2 HA2 HB2 HC2
  by_cases hsb : szF 100 b ≤ 100
  rotate_left
  · have d1 : decide (100 < szF 100 b) = true := decide_eq_true (by omega)
    go_wp2_with fail
    go_ret
    exact ⟨rfl, HW.out⟩
  have HSB := Lib.hid hsb
  have db : decide (100 < szF 100 b) = false := decide_eq_false (by omega)
  clear hsb
  obtain ⟨c0, c1, c2, c3, q0, q1, q2, q3, cl⟩ := HC.out.b
  clear q0 q1 q2 q3
  have hsz := Lib.hid (sizeF_c _ c (Nat.lt_succ_self _) _ _ _ _ 100 X3.heap.size X3 HC.out.v (Nat.le_refl _))
  go_wp2_with fail
  refine hsz.out.mono ?_
  rintro e X4 ⟨rfl, hb⟩
  clear hsz
  clear c0 c1 c2 c3 cl
  have HW2 := Lib.hid (HW.out.trans (hb.mono HW.out.size))
  have HA2 := Lib.hid (HA.out.below hb)
  have HB2 := Lib.hid (HB.out.below hb)
  have HC2 := Lib.hid (HC.out.below hb)
  clear HW HA HB HC hb
  have HW := HW2
  have HA := HA2
  have HB := HB2
  have HC := HC2
  clear HW2 HA2 HB2 HC2
  by_cases hsc : szF 100 c ≤ 100
  rotate_left
  · have d1 : decide (100 < szF 100 c) = true := decide_eq_true (by omega)
    go_wp2_with fail
    go_ret
    exact ⟨rfl, HW.out⟩
  have HSC := Lib.hid hsc
  have dc : decide (100 < szF 100 c) = false := decide_eq_false (by omega)
  clear hsc
  obtain ⟨c0, c1, c2, c3, q0, q1, q2, q3, cl⟩ := HA.out.b
  clear q0 q1 q2 q3
  have hsz := Lib.hid (right_c _ _ _ _ a X4.heap.size X4 HA.out.v (Nat.le_refl _) (HRT.out _ HW.out).1)
  go_wp2_with fail
  refine hsz.out.mono ?_
  rintro e X5 ⟨rfl, hb⟩
  clear hsz
  clear c0 c1 c2 c3 cl
  have HW2 := Lib.hid (HW.out.trans (hb.mono HW.out.size))
  have HA2 := Lib.hid (HA.out.below hb)
  have HB2 := Lib.hid (HB.out.below hb)
  have HC2 := Lib.hid (HC.out.below hb)
  clear HW HA HB HC hb
  have HW := HW2
  have HA := HA2
  have HB := HB2
  have HC := HC2
  clear HW2 HA2 HB2 HC2
  cases hr : rightB false a with
  | false =>
    go_wp2_with fail
    go_ret
    exact ⟨rfl, HW.out⟩
  | true =>
  have HRA := Lib.hid hr
  clear hr
  obtain ⟨c0, c1, c2, c3, q0, q1, q2, q3, cl⟩ := HB.out.b
  clear q0 q1 q2 q3
  have hsz := Lib.hid (right_c _ _ _ _ b X5.heap.size X5 HB.out.v (Nat.le_refl _) (HRT.out _ HW.out).1)
  go_wp2_with fail
  refine hsz.out.mono ?_
  rintro e X6 ⟨rfl, hb⟩
  clear hsz
  clear c0 c1 c2 c3 cl
  have HW2 := Lib.hid (HW.out.trans (hb.mono HW.out.size))
  have HA2 := Lib.hid (HA.out.below hb)
  have HB2 := Lib.hid (HB.out.below hb)
  have HC2 := Lib.hid (HC.out.below hb)
  clear HW HA HB HC hb
  have HW := HW2
  have HA := HA2
  have HB := HB2
  have HC := HC2
  clear HW2 HA2 HB2 HC2
  cases hr : rightB false b with
  | false =>
    go_wp2_with fail
    go_ret
    exact ⟨rfl, HW.out⟩
  | true =>
  have HRB := Lib.hid hr
  clear hr
  obtain ⟨c0, c1, c2, c3, q0, q1, q2, q3, cl⟩ := HC.out.b
  clear q0 q1 q2 q3
  have hsz := Lib.hid (right_c _ _ _ _ c X6.heap.size X6 HC.out.v (Nat.le_refl _) (HRT.out _ HW.out).1)
  go_wp2_with fail
  refine hsz.out.mono ?_
  rintro e X7 ⟨rfl, hb⟩
  clear hsz
  clear c0 c1 c2 c3 cl
  have HW2 := Lib.hid (HW.out.trans (hb.mono HW.out.size))
  have HA2 := Lib.hid (HA.out.below hb)
  have HB2 := Lib.hid (HB.out.below hb)
  have HC2 := Lib.hid (HC.out.below hb)
  clear HW HA HB HC hb
  have HW := HW2
  have HA := HA2
  have HB := HB2
  have HC := HC2
  clear HW2 HA2 HB2 HC2
  cases hr : rightB false c with
  | false =>
    go_wp2_with fail
    go_ret
    exact ⟨rfl, HW.out⟩
  | true =>
  have HRC := Lib.hid hr
  clear hr
  obtain ⟨c0, c1, c2, c3, q0, q1, q2, q3, cl⟩ := HA.out.b
  clear q0 q1 q2 q3
  obtain ⟨d0, d1, d2, d3, q0, q1, q2, q3, dl⟩ := HB.out.b
  clear q0 q1 q2 q3
  obtain ⟨e0, e1, e2, e3, q0, q1, q2, q3, el⟩ := HC.out.b
  clear q0 q1 q2 q3
  go_wp2_with fail
  have hops : ∀ k, (X7.alloc (.cells #[.int .u8 7, .int .u8 6, .int .u8 14, .int .u8 5, .int .u8 4] 5)).cell? ⟨X7.heap.size, k, none⟩ = (#[.int .u8 7, .int .u8 6, .int .u8 14, .int .u8 5, .int .u8 4] : Array Value)[k]? := fun k => World.cell?_alloc_at _ _ _ _ rfl
  have hb : Below X7.heap.size X7 (X7.alloc (.cells #[.int .u8 7, .int .u8 6, .int .u8 14, .int .u8 5, .int .u8 4] 5)) := (Below.refl _ _).alloc (Nat.le_refl _) _
  have hlo : X7.heap.size < (X7.alloc (.cells #[.int .u8 7, .int .u8 6, .int .u8 14, .int .u8 5, .int .u8 4] 5)).heap.size := by simp
  generalize (X7.alloc (.cells #[.int .u8 7, .int .u8 6, .int .u8 14, .int .u8 5, .int .u8 4] 5)) = X8 at *
  obtain ⟨O, hO⟩ : ∃ O, X7.heap.size = O := ⟨_, rfl⟩
  clear c0 c1 c2 c3 cl d0 d1 d2 d3 dl e0 e1 e2 e3 el
  have HW2 := Lib.hid (HW.out.trans (hb.mono HW.out.size))
  have HA2 := Lib.hid (HA.out.below hb)
  have HB2 := Lib.hid (HB.out.below hb)
  have HC2 := Lib.hid (HC.out.below hb)
  clear HW HA HB HC hb
  have HW := HW2
  have HA := HA2
  have HB := HB2
  have HC := HC2
  clear HW2 HA2 HB2 HC2
  rw [hO] at hops hlo ⊢
  have r1 : (one % 5).toNat < 5 := by omega
  have r2 : (two % 5).toNat < 5 := by omega
  have r3 : (ahead % 5).toNat < 5 := by omega
  have q1 : (one % 5) < 5 := by omega
  have q2 : (two % 5) < 5 := by omega
  have q3 : (ahead % 5) < 5 := by omega
  have p1 : 0 ≤ (one % 5) := by omega
  have p2 : 0 ≤ (two % 5) := by omega
  have p3 : 0 ≤ (ahead % 5) := by omega
  obtain ⟨f1, hx⟩ := opL_at r1
  obtain ⟨f2, hy⟩ := opL_at r2
  obtain ⟨f3, hz⟩ := unL_at r3
  obtain ⟨x, hxx⟩ : ∃ x, opL (one % 5).toNat = x := ⟨_, rfl⟩
  obtain ⟨y, hyy⟩ : ∃ y, opL (two % 5).toNat = y := ⟨_, rfl⟩
  obtain ⟨z, hzz⟩ : ∃ z, unL (ahead % 5).toNat = z := ⟨_, rfl⟩
  rw [hxx] at f1 hx
  rw [hyy] at f2 hy
  rw [hzz] at f3 hz
  have HXo := Lib.hid hx
  have HYo := Lib.hid hy
  have HZo := Lib.hid hz
  have F3 := Lib.hid f3
  have g1 := (hops (one % 5).toNat).trans f1
  have g2 := (hops (two % 5).toNat).trans f2
  clear hxx hyy hzz r1 r2 hx hy hz f1 f2 f3 hops
  haveI hne : Nonempty (InS (Below X8.heap.size X8)) := ⟨⟨_, Below.refl _ _⟩⟩
  have i1 := fun (p : InS (Below X8.heap.size X8)) => (p.h.cell (p := ⟨O, (one % 5).toNat, none⟩) hlo).trans g1
  have i2 := fun (p : InS (Below X8.heap.size X8)) => (p.h.cell (p := ⟨O, (two % 5).toNat, none⟩) hlo).trans g2
  refine wp_region_class (Below X8.heap.size X8) (by kernel_rfl) (by kernel_rfl) (Below.drew (Below.refl _ _)) ?_
  repeat (go_big_quiet_step (fail))
  refine wpQuiet_nil ?_
  intro w2 hw'
  obtain ⟨⟨w3, hS2⟩, hw''⟩ := hw'
  have hw3 : w2 = w3 := hw''
  subst hw3
  have hb : Below X8.heap.size X8 w2 := hS2
  clear hw'' hS2 hne i1 i2 g1 g2 hlo q1 q2 p1 p2
  have HW2 := Lib.hid (HW.out.trans (hb.mono HW.out.size))
  have HA2 := Lib.hid (HA.out.below hb)
  have HB2 := Lib.hid (HB.out.below hb)
  have HC2 := Lib.hid (HC.out.below hb)
  clear HW HA HB HC hb
  have HW := HW2
  have HA := HA2
  have HB := HB2
  have HC := HC2
  clear HW2 HA2 HB2 HC2
  have hzl : ∀ h, ([.int .u8 3, .int .u8 10, .int .u8 11, .int .u8 12, .int .u8 13] : List Value)[(ahead % 5).toNat]'h = .int .u8 z := fun h => (Array.getElem?_eq_some_iff.1 F3.out).2
  go_wp2_with fail
  have hb : Below w2.heap.size w2 (w2.alloc (.cells #[.int .u8 3, .int .u8 10, .int .u8 11, .int .u8 12, .int .u8 13] 5)) := (Below.refl _ _).alloc (Nat.le_refl _) _
  generalize (w2.alloc (.cells #[.int .u8 3, .int .u8 10, .int .u8 11, .int .u8 12, .int .u8 13] 5)) = X9 at *
  clear hzl q3 p3 r3 F3
  have HW2 := Lib.hid (HW.out.trans (hb.mono HW.out.size))
  have HA2 := Lib.hid (HA.out.below hb)
  have HB2 := Lib.hid (HB.out.below hb)
  have HC2 := Lib.hid (HC.out.below hb)
  clear HW HA HB HC hb
  have HW := HW2
  have HA := HA2
  have HB := HB2
  have HC := HC2
  clear HW2 HA2 HB2 HC2
  have la := full_small HRA.out HOA.out HSA.out
  have lb := full_small HRB.out HOB.out HSB.out
  have lc := full_small HRC.out HOC.out HSC.out
  have s1 := sg_le z
  have s2 := sg_le x
  have s3 := sg_le y
  have sz1 : ¬ 9223372036854775807 < (sgW z).size + 2 := by omega
  have sz2 : ¬ 9223372036854775807 < (sgW z).size + 2 + (FF a).size := by omega
  have sz3 : ¬ 9223372036854775807 < (sgW z).size + 2 + (FF a).size + 2 := by omega
  have sz4 : ¬ 9223372036854775807 < (sgW z).size + 2 + (FF a).size + 2 + (sgW x).size := by omega
  have sz5 : ¬ 9223372036854775807 < (sgW z).size + 2 + (FF a).size + 2 + (sgW x).size + 2 := by omega
  have sz6 : ¬ 9223372036854775807 < (sgW z).size + 2 + (FF a).size + 2 + (sgW x).size + 2 + (FF b).size := by omega
  have sz7 : ¬ 9223372036854775807 < (sgW z).size + 2 + (FF a).size + 2 + (sgW x).size + 2 + (FF b).size + 2 := by omega
  have sz8 : ¬ 9223372036854775807 < (sgW z).size + 2 + (FF a).size + 2 + (sgW x).size + 2 + (FF b).size + 2 + (sgW y).size := by omega
  have sz9 : ¬ 9223372036854775807 < (sgW z).size + 2 + (FF a).size + 2 + (sgW x).size + 2 + (FF b).size + 2 + (sgW y).size + 2 := by omega
  have sz10 : ¬ 9223372036854775807 < (sgW z).size + 2 + (FF a).size + 2 + (sgW x).size + 2 + (FF b).size + 2 + (sgW y).size + 2 + (FF c).size := by omega
  have sz11 : ¬ 9223372036854775807 < (sgW z).size + 2 + (FF a).size + 2 + (sgW x).size + 2 + (FF b).size + 2 + (sgW y).size + 2 + (FF c).size + 1 := by omega
  have LS := Lib.hid (show (levS z x y a b c).size ≤ 16384 by unfold levS; simp only [ByteArray.size_append]; show (sgW z).size + 2 + (FF a).size + 2 + (sgW x).size + 2 + (FF b).size + 2 + (sgW y).size + 2 + (FF c).size + 1 ≤ 16384; omega)
  clear la lb lc s1 s2 s3
  have HSz := Lib.hid (fun (p : InS (Below X9.heap.size X9)) => Calls.below_of ((sign_c z (by have := HZo.out; omega) p.w).mono (fun e w' h => ⟨h.1, by rw [← h.2]; exact Below.refl _ _⟩)))
  have HSx := Lib.hid (fun (p : InS (Below X9.heap.size X9)) => Calls.below_of ((sign_c x (by have := HXo.out; omega) p.w).mono (fun e w' h => ⟨h.1, by rw [← h.2]; exact Below.refl _ _⟩)))
  have HSy := Lib.hid (fun (p : InS (Below X9.heap.size X9)) => Calls.below_of ((sign_c y (by have := HYo.out; omega) p.w).mono (fun e w' h => ⟨h.1, by rw [← h.2]; exact Below.refl _ _⟩)))
  have HGa := Lib.hid (fun (p : InS (Below X9.heap.size X9)) => Calls.below_of (full_c _ a (Nat.lt_succ_self _) 1 (fok_up (fok_right HRA.out HOA.out)) (Int.le_refl _) (Nat.le_trans (full_small HRA.out HOA.out HSA.out) (by omega)) _ _ _ _ X9.heap.size p.w (HA.out.v.below p.h (Nat.le_refl _)) p.h.size))
  have HGb := Lib.hid (fun (p : InS (Below X9.heap.size X9)) => Calls.below_of (full_c _ b (Nat.lt_succ_self _) 1 (fok_up (fok_right HRB.out HOB.out)) (Int.le_refl _) (Nat.le_trans (full_small HRB.out HOB.out HSB.out) (by omega)) _ _ _ _ X9.heap.size p.w (HB.out.v.below p.h (Nat.le_refl _)) p.h.size))
  have HGc := Lib.hid (fun (p : InS (Below X9.heap.size X9)) => Calls.below_of (full_c _ c (Nat.lt_succ_self _) 1 (fok_up (fok_right HRC.out HOC.out)) (Int.le_refl _) (Nat.le_trans (full_small HRC.out HOC.out HSC.out) (by omega)) _ _ _ _ X9.heap.size p.w (HC.out.v.below p.h (Nat.le_refl _)) p.h.size))
  obtain ⟨c0, c1, c2, c3, q0, q1, q2, q3, cl⟩ := HA.out.b
  clear q0 q1 q2 q3
  obtain ⟨d0, d1, d2, d3, q0, q1, q2, q3, dl⟩ := HB.out.b
  clear q0 q1 q2 q3
  obtain ⟨e0, e1, e2, e3, q0, q1, q2, q3, el⟩ := HC.out.b
  clear q0 q1 q2 q3
  haveI hne : Nonempty (InS (Below X9.heap.size X9)) := ⟨⟨_, Below.refl _ _⟩⟩
  have hcl : ∀ (p : InS (Below X9.heap.size X9)) (b q : Nat), b < X9.heap.size → p.w.cell? ⟨b, q, none⟩ = X9.cell? ⟨b, q, none⟩ := fun p b q h => p.h.cell (p := ⟨b, q, none⟩) h
  have ic0 := fun p => (hcl p A 0 cl).trans c0
  have ic1 := fun p => (hcl p A 1 cl).trans c1
  have ic2 := fun p => (hcl p A 2 cl).trans c2
  have ic3 := fun p => (hcl p A 3 cl).trans c3
  have id0 := fun p => (hcl p (A + 1) 0 dl).trans d0
  have id1 := fun p => (hcl p (A + 1) 1 dl).trans d1
  have id2 := fun p => (hcl p (A + 1) 2 dl).trans d2
  have id3 := fun p => (hcl p (A + 1) 3 dl).trans d3
  have ie0 := fun p => (hcl p (A + 1 + 1) 0 el).trans e0
  have ie1 := fun p => (hcl p (A + 1 + 1) 1 el).trans e1
  have ie2 := fun p => (hcl p (A + 1 + 1) 2 el).trans e2
  have ie3 := fun p => (hcl p (A + 1 + 1) 3 el).trans e3
  clear hcl
  clear c0 c1 c2 c3 cl d0 d1 d2 d3 dl e0 e1 e2 e3 el
  refine wp_region_class (Below X9.heap.size X9) (by kernel_rfl) (by kernel_rfl) (Below.drew (Below.refl _ _)) ?_
  repeat (go_big_quiet_step (first | with_reducible exact HSz.out _ | with_reducible exact HSx.out _ | with_reducible exact HSy.out _ | with_reducible exact HGa.out _ | with_reducible exact HGb.out _ | with_reducible exact HGc.out _))
  refine wpQuiet_nil ?_
  intro w2 hw'
  obtain ⟨⟨w3, hS2⟩, hw''⟩ := hw'
  have hw3 : w2 = w3 := hw''
  subst hw3
  have hb : Below X9.heap.size X9 w2 := hS2
  clear hw'' hS2 hne HSz HSx HSy HGa HGb HGc
  clear ic0 ic1 ic2 ic3 id0 id1 id2 id3 ie0 ie1 ie2 ie3 sz1 sz2 sz3 sz4 sz5 sz6 sz7 sz8 sz9 sz10 sz11
  have HW2 := Lib.hid (HW.out.trans (hb.mono HW.out.size))
  have HA2 := Lib.hid (HA.out.below hb)
  have HB2 := Lib.hid (HB.out.below hb)
  have HC2 := Lib.hid (HC.out.below hb)
  clear HW HA HB HC hb
  have HW := HW2
  have HA := HA2
  have HB := HB2
  have HC := HC2
  clear HW2 HA2 HB2 HC2
  have hSe : levS z x y a b c = sgW z ++ ⟨#[32, 40]⟩ ++ FF a ++ ⟨#[41, 32]⟩ ++ sgW x ++ ⟨#[32, 40]⟩ ++ FF b ++ ⟨#[41, 32]⟩ ++ sgW y ++ ⟨#[32, 40]⟩ ++ FF c ++ ⟨#[41]⟩ := rfl
  rw [← hSe]
  clear hSe
  obtain ⟨S, hS⟩ : ∃ S, levS z x y a b c = S := ⟨_, rfl⟩
  have HRES := Lib.hid (lev_res HZo.out HXo.out HYo.out HRA.out HOA.out HRB.out HOB.out HRC.out HOC.out)
  have LS2 := Lib.hid (show S.size ≤ 16384 by rw [← hS]; exact LS.out)
  rw [hS] at HRES ⊢
  clear hS LS HAW HSA HSB HSC HRA HRB HRC HOA HOB HOC hone htwo hahead hO da db dc hAl
  have rx := Lib.hid (fun w => rank_c x HXo.out w)
  have ry := Lib.hid (fun w => rank_c y HYo.out w)
  go_wp2_with fail
  refine (rx.out _).mono ?_
  rintro e w4 ⟨rfl, rfl⟩
  go_wp2_with fail
  refine (ry.out _).mono ?_
  rintro e w4 ⟨rfl, rfl⟩
  clear rx ry
  obtain ⟨c0, c1, c2, c3, q0, q1, q2, q3, cl⟩ := HA.out.b
  clear q0 q1 q2 q3
  obtain ⟨d0, d1, d2, d3, q0, q1, q2, q3, dl⟩ := HB.out.b
  clear q0 q1 q2 q3
  obtain ⟨e0, e1, e2, e3, q0, q1, q2, q3, el⟩ := HC.out.b
  clear q0 q1 q2 q3
  go_wp2_with fail
  have hn := BF.new HA.out.v 25
  have hb : Below w2.heap.size w2 (w2.alloc (.cells #[.int .u8 a.op, .string a.n, .slice aa1 a.args.length ka1, .slice aa2 a.sub.length ka2] 25)) := (Below.refl _ _).alloc (Nat.le_refl _) _
  obtain ⟨L, hL⟩ : ∃ L, w2.heap.size = L := ⟨_, rfl⟩
  generalize (w2.alloc (.cells #[.int .u8 a.op, .string a.n, .slice aa1 a.args.length ka1, .slice aa2 a.sub.length ka2] 25)) = Y1 at *
  clear c0 c1 c2 c3 cl d0 d1 d2 d3 dl e0 e1 e2 e3 el
  have HW2 := Lib.hid (HW.out.trans (hb.mono HW.out.size))
  have HA2 := Lib.hid (HA.out.below hb)
  have HB2 := Lib.hid (HB.out.below hb)
  have HC2 := Lib.hid (HC.out.below hb)
  clear HW HA HB HC hb
  have HW := HW2
  have HA := HA2
  have HB := HB2
  have HC := HC2
  clear HW2 HA2 HB2 HC2
  rw [hL] at hn ⊢
  clear hL
  have hun := fov_una (slF_one hn.b.c0 hn.b.c1 hn.b.c2 hn.b.c3 hn.v hn.b.lt) HZo.out
  have HUN := Lib.hid hun
  clear hn hun
  refine (of_c _ _ _ _ _ _).mono ?_
  rintro e Y2 ⟨rfl, hb⟩
  have HUN2 := Lib.hid ((HUN.out.below hb (Nat.le_refl _)).mono hb.size)
  clear HUN
  have HUN := HUN2
  clear HUN2
  have HW2 := Lib.hid (HW.out.trans (hb.mono HW.out.size))
  have HA2 := Lib.hid (HA.out.below hb)
  have HB2 := Lib.hid (HB.out.below hb)
  have HC2 := Lib.hid (HC.out.below hb)
  clear HW HA HB HC hb
  have HW := HW2
  have HA := HA2
  have HB := HB2
  have HC := HC2
  clear HW2 HA2 HB2 HC2
  obtain ⟨c0, c1, c2, c3, q0, q1, q2, q3, cl⟩ := HA.out.b
  clear q0 q1 q2 q3
  obtain ⟨d0, d1, d2, d3, q0, q1, q2, q3, dl⟩ := HB.out.b
  clear q0 q1 q2 q3
  obtain ⟨e0, e1, e2, e3, q0, q1, q2, q3, el⟩ := HC.out.b
  clear q0 q1 q2 q3
  go_wp2_with fail
  have hfi := Bx4.new Y2 (.int .u8 z) (.string ⟨#[]⟩) (.slice none 0 0) (.slice (some ⟨L, 0, none⟩) 1 1) 25
  have hb : Below Y2.heap.size Y2 (Y2.alloc (.cells #[.int .u8 z, .string ⟨#[]⟩, .slice none 0 0, .slice (some ⟨L, 0, none⟩) 1 1] 25)) := (Below.refl _ _).alloc (Nat.le_refl _) _
  obtain ⟨FB, hFB⟩ : ∃ FB, Y2.heap.size = FB := ⟨_, rfl⟩
  have HUN2 := Lib.hid ((HUN.out.below hb (Nat.le_refl _)).mono hb.size)
  generalize (Y2.alloc (.cells #[.int .u8 z, .string ⟨#[]⟩, .slice none 0 0, .slice (some ⟨L, 0, none⟩) 1 1] 25)) = Y3 at *
  clear c0 c1 c2 c3 cl d0 d1 d2 d3 dl e0 e1 e2 e3 el
  have HW2 := Lib.hid (HW.out.trans (hb.mono HW.out.size))
  have HA2 := Lib.hid (HA.out.below hb)
  have HB2 := Lib.hid (HB.out.below hb)
  have HC2 := Lib.hid (HC.out.below hb)
  clear HW HA HB HC hb
  have HW := HW2
  have HA := HA2
  have HB := HB2
  have HC := HC2
  clear HW2 HA2 HB2 HC2
  clear HUN
  have HUN := HUN2
  clear HUN2
  rw [hFB] at hfi ⊢
  clear hFB
  have hb := Below.drew (Below.refl Y3.heap.size Y3)
  have hfi2 := hfi.heap (hb.block FB hfi.lt) (Nat.lt_of_lt_of_le hfi.lt hb.size)
  have HUN2 := Lib.hid ((HUN.out.below hb (Nat.le_refl _)).mono hb.size)
  generalize hwd : Y3.drew = Z at *
  have HFI := Lib.hid hfi2
  clear hfi hfi2 HUN
  have HUN := HUN2
  clear HUN2
  have HW2 := Lib.hid (HW.out.trans (hb.mono HW.out.size))
  have HA2 := Lib.hid (HA.out.below hb)
  have HB2 := Lib.hid (HB.out.below hb)
  have HC2 := Lib.hid (HC.out.below hb)
  clear HW HA HB HC hb
  have HW := HW2
  have HA := HA2
  have HB := HB2
  have HC := HC2
  clear HW2 HA2 HB2 HC2
  obtain ⟨d0, d1, d2, d3, q0, q1, q2, q3, dl⟩ := HB.out.b
  clear q0 q1 q2 q3
  obtain ⟨e0, e1, e2, e3, q0, q1, q2, q3, el⟩ := HC.out.b
  clear q0 q1 q2 q3
  obtain ⟨f0, f1, f2, f3, q0, q1, q2, q3, fl⟩ := HFI.out
  clear q0 q1 q2 q3
  have HZ := Lib.hid (Below.refl Z.heap.size Z)
  refine wp_region_S (fun w' => Below Z.heap.size Z w') [] 11 #[false, false, false, false, false, false, false, false, false, false, false] (by kernel_rfl) (by kernel_rfl) (by kernel_rfl) (by rw [hwd]; exact Below.refl _ _) (fun hHeld => ?_)
  rw [hwd] at hHeld ⊢
  clear hwd
  refine wpAnyS_take (i := 0) (oi := ⟨some 110, _, _, _, _, _⟩) (v := .int .u8 y) rfl (by kernel_rfl) (by kernel_rfl) (by kernel_rfl) (by kernel_rfl) (fun _ _ _ h => Norm.panic h) (Or.inl ⟨by rfl, ?_⟩) (by assumption) ?_
  · intro w' hSw
    have hb' : Below Z.heap.size Z w' := hSw
    go_simp
  simp only [Act.put, List.setIfInBounds_toArray, List.set_cons_zero, List.set_cons_succ]
  refine wpAnyS_take (i := 1) (oi := ⟨some 111, _, _, _, _, _⟩) (v := .int .u8 x) rfl (by kernel_rfl) (by kernel_rfl) (by kernel_rfl) (by kernel_rfl) (fun _ _ _ h => Norm.panic h) (Or.inl ⟨by rfl, ?_⟩) (by assumption) ?_
  · intro w' hSw
    have hb' : Below Z.heap.size Z w' := hSw
    go_simp
  simp only [Act.put, List.setIfInBounds_toArray, List.set_cons_zero, List.set_cons_succ]
  refine wpAnyS_take (i := 2) (oi := ⟨some 112, _, _, _, _, _⟩) (v := .agg #[.int .u8 z, .string ⟨#[]⟩, .slice none 0 0, .slice (some ⟨L, 0, none⟩) 1 1]) rfl (by kernel_rfl) (by kernel_rfl) (by kernel_rfl) (by kernel_rfl) (fun _ _ _ h => Norm.panic h) (Or.inl ⟨by rfl, ?_⟩) (by assumption) ?_
  · intro w' hSw
    have hb' : Below Z.heap.size Z w' := hSw
    have e0 := (hb'.cell (p := ⟨FB, 0, none⟩) fl).trans f0
    have e1 := (hb'.cell (p := ⟨FB, 1, none⟩) fl).trans f1
    have e2 := (hb'.cell (p := ⟨FB, 2, none⟩) fl).trans f2
    have e3 := (hb'.cell (p := ⟨FB, 3, none⟩) fl).trans f3
    go_simp
  simp only [Act.put, List.setIfInBounds_toArray, List.set_cons_zero, List.set_cons_succ]
  refine wpAnyS_take (i := 3) (oi := ⟨some 113, _, _, _, _, _⟩) (v := .agg #[.int .u8 b.op, .string b.n, .slice ab1 b.args.length kb1, .slice ab2 b.sub.length kb2]) rfl (by kernel_rfl) (by kernel_rfl) (by kernel_rfl) (by kernel_rfl) (fun _ _ _ h => Norm.panic h) (Or.inl ⟨by rfl, ?_⟩) (by assumption) ?_
  · intro w' hSw
    have hb' : Below Z.heap.size Z w' := hSw
    have e0 := (hb'.cell (p := ⟨(A + 1), 0, none⟩) dl).trans d0
    have e1 := (hb'.cell (p := ⟨(A + 1), 1, none⟩) dl).trans d1
    have e2 := (hb'.cell (p := ⟨(A + 1), 2, none⟩) dl).trans d2
    have e3 := (hb'.cell (p := ⟨(A + 1), 3, none⟩) dl).trans d3
    go_simp
  simp only [Act.put, List.setIfInBounds_toArray, List.set_cons_zero, List.set_cons_succ]
  refine wpAnyS_take (i := 6) (oi := ⟨some 116, _, _, _, _, _⟩) (v := .agg #[.int .u8 c.op, .string c.n, .slice ac1 c.args.length kc1, .slice ac2 c.sub.length kc2]) rfl (by kernel_rfl) (by kernel_rfl) (by kernel_rfl) (by kernel_rfl) (fun _ _ _ h => Norm.panic h) (Or.inl ⟨by rfl, ?_⟩) (by assumption) ?_
  · intro w' hSw
    have hb' : Below Z.heap.size Z w' := hSw
    have e0 := (hb'.cell (p := ⟨(A + 1 + 1), 0, none⟩) el).trans e0
    have e1 := (hb'.cell (p := ⟨(A + 1 + 1), 1, none⟩) el).trans e1
    have e2 := (hb'.cell (p := ⟨(A + 1 + 1), 2, none⟩) el).trans e2
    have e3 := (hb'.cell (p := ⟨(A + 1 + 1), 3, none⟩) el).trans e3
    go_simp
  simp only [Act.put, List.setIfInBounds_toArray, List.set_cons_zero, List.set_cons_succ]
  clear hHeld f0 f1 f2 f3 fl
  clear d0 d1 d2 d3 dl e0 e1 e2 e3 el
  refine wpAnyS_two (i := 4) (j := 9) (oi := ⟨some 114, _, _, _, _, _⟩) (oj := ⟨some 23, _, _, _, _, _⟩) rfl rfl (by kernel_rfl) (by rfl) (by rfl) (fun K hK => ?hA0) (fun K hK => ?hB0)
  case' hA0 =>
    go_simp
    have hcn := cells_new (w := Z) [Value.int .u8 z, .string ⟨#[]⟩, .slice none 0 0, .slice (some ⟨L, 0, none⟩) 1 1, .int .u8 b.op, .string b.n, .slice ab1 b.args.length kb1, .slice ab2 b.sub.length kb2] 25
    have hb : Below Z.heap.size Z (Z.alloc (.cells #[.int .u8 z, .string ⟨#[]⟩, .slice none 0 0, .slice (some ⟨L, 0, none⟩) 1 1, .int .u8 b.op, .string b.n, .slice ab1 b.args.length kb1, .slice ab2 b.sub.length kb2] 25)) := (Below.refl _ _).alloc (Nat.le_refl _) _
    have hln : Z.heap.size < (Z.alloc (.cells #[.int .u8 z, .string ⟨#[]⟩, .slice none 0 0, .slice (some ⟨L, 0, none⟩) 1 1, .int .u8 b.op, .string b.n, .slice ab1 b.args.length kb1, .slice ab2 b.sub.length kb2] 25)).heap.size := by simp
    have hcn : ∀ j u, [Value.int .u8 z, .string ⟨#[]⟩, .slice none 0 0, .slice (some ⟨L, 0, none⟩) 1 1, .int .u8 b.op, .string b.n, .slice ab1 b.args.length kb1, .slice ab2 b.sub.length kb2][j]? = some u → (Z.alloc (.cells #[.int .u8 z, .string ⟨#[]⟩, .slice none 0 0, .slice (some ⟨L, 0, none⟩) 1 1, .int .u8 b.op, .string b.n, .slice ab1 b.args.length kb1, .slice ab2 b.sub.length kb2] 25)).cell? ⟨Z.heap.size, j, none⟩ = some u := hcn
    generalize (Z.alloc (.cells #[.int .u8 z, .string ⟨#[]⟩, .slice none 0 0, .slice (some ⟨L, 0, none⟩) 1 1, .int .u8 b.op, .string b.n, .slice ab1 b.args.length kb1, .slice ab2 b.sub.length kb2] 25)) = V1 at *
    have HZ2 := Lib.hid (HZ.out.trans (hb.mono HZ.out.size))
    clear HZ 
    have HZ := HZ2
    clear HZ2 
    obtain ⟨LC1_1, hLn⟩ : ∃ l, Z.heap.size = l := ⟨_, rfl⟩
    rw [hLn] at hcn hln ⊢
    have C1 := Lib.hid hcn
    have C1l := Lib.hid hln
    have HLn1 := Lib.hid hLn
    clear hb hcn hln hLn
    clear HLn1
    have hHeld := HZ.out
    refine hK _ _ (fun _ => hHeld) ?_
    clear hK K hHeld
    simp only [Act.put, List.setIfInBounds_toArray, List.set_cons_zero, List.set_cons_succ]
    refine wpAnyS_two (i := 5) (j := 9) (oi := ⟨some 115, _, _, _, _, _⟩) (oj := ⟨some 23, _, _, _, _, _⟩) rfl rfl (by kernel_rfl) (by rfl) (by rfl) (fun K hK => ?hA1) (fun K hK => ?hB1)
    case' hA1 =>
      go_simp
      refine (of_c x ⟨#[]⟩ (some ⟨LC1_1, 0, none⟩) 2 2 _).mono ?_
      rintro e V2 ⟨rfl, hb⟩
      have HZ2 := Lib.hid (HZ.out.trans (hb.mono HZ.out.size))
      have C12 := Lib.hid (cells_bl C1.out (hb.block _ C1l.out))
      have C1l2 := Lib.hid (Nat.lt_of_lt_of_le C1l.out hb.size)
      clear HZ C1 C1l
      have HZ := HZ2
      have C1 := C12
      have C1l := C1l2
      clear HZ2 C12 C1l2
      clear hb
      have hHeld := HZ.out
      refine hK _ _ (fun _ => hHeld) ?_
      clear hK K hHeld
      simp only [Act.put, List.setIfInBounds_toArray, List.set_cons_zero, List.set_cons_succ]
      refine wpAnyS_two (i := 7) (j := 9) (oi := ⟨some 117, _, _, _, _, _⟩) (oj := ⟨some 23, _, _, _, _, _⟩) rfl rfl (by kernel_rfl) (by rfl) (by rfl) (fun K hK => ?hA2) (fun K hK => ?hB2)
      case' hA2 =>
        go_simp
        have hcn := cells_new (w := V2) [Value.int .u8 x, .string ⟨#[]⟩, .slice none 0 0, .slice (some ⟨LC1_1, 0, none⟩) 2 2, .int .u8 c.op, .string c.n, .slice ac1 c.args.length kc1, .slice ac2 c.sub.length kc2] 25
        have hb : Below V2.heap.size V2 (V2.alloc (.cells #[.int .u8 x, .string ⟨#[]⟩, .slice none 0 0, .slice (some ⟨LC1_1, 0, none⟩) 2 2, .int .u8 c.op, .string c.n, .slice ac1 c.args.length kc1, .slice ac2 c.sub.length kc2] 25)) := (Below.refl _ _).alloc (Nat.le_refl _) _
        have hln : V2.heap.size < (V2.alloc (.cells #[.int .u8 x, .string ⟨#[]⟩, .slice none 0 0, .slice (some ⟨LC1_1, 0, none⟩) 2 2, .int .u8 c.op, .string c.n, .slice ac1 c.args.length kc1, .slice ac2 c.sub.length kc2] 25)).heap.size := by simp
        have hcn : ∀ j u, [Value.int .u8 x, .string ⟨#[]⟩, .slice none 0 0, .slice (some ⟨LC1_1, 0, none⟩) 2 2, .int .u8 c.op, .string c.n, .slice ac1 c.args.length kc1, .slice ac2 c.sub.length kc2][j]? = some u → (V2.alloc (.cells #[.int .u8 x, .string ⟨#[]⟩, .slice none 0 0, .slice (some ⟨LC1_1, 0, none⟩) 2 2, .int .u8 c.op, .string c.n, .slice ac1 c.args.length kc1, .slice ac2 c.sub.length kc2] 25)).cell? ⟨V2.heap.size, j, none⟩ = some u := hcn
        generalize (V2.alloc (.cells #[.int .u8 x, .string ⟨#[]⟩, .slice none 0 0, .slice (some ⟨LC1_1, 0, none⟩) 2 2, .int .u8 c.op, .string c.n, .slice ac1 c.args.length kc1, .slice ac2 c.sub.length kc2] 25)) = V3 at *
        have HZ2 := Lib.hid (HZ.out.trans (hb.mono HZ.out.size))
        have C12 := Lib.hid (cells_bl C1.out (hb.block _ C1l.out))
        have C1l2 := Lib.hid (Nat.lt_of_lt_of_le C1l.out hb.size)
        clear HZ C1 C1l
        have HZ := HZ2
        have C1 := C12
        have C1l := C1l2
        clear HZ2 C12 C1l2
        obtain ⟨LC2_3, hLn⟩ : ∃ l, V2.heap.size = l := ⟨_, rfl⟩
        rw [hLn] at hcn hln ⊢
        have C2 := Lib.hid hcn
        have C2l := Lib.hid hln
        have HLn3 := Lib.hid hLn
        clear hb hcn hln hLn
        clear HLn3
        have hHeld := HZ.out
        refine hK _ _ (fun _ => hHeld) ?_
        clear hK K hHeld
        simp only [Act.put, List.setIfInBounds_toArray, List.set_cons_zero, List.set_cons_succ]
        refine wpAnyS_two (i := 8) (j := 9) (oi := ⟨some 118, _, _, _, _, _⟩) (oj := ⟨some 23, _, _, _, _, _⟩) rfl rfl (by kernel_rfl) (by rfl) (by rfl) (fun K hK => ?hA3) (fun K hK => ?hB3)
        case' hA3 =>
          go_simp
          refine (of_c y ⟨#[]⟩ (some ⟨LC2_3, 0, none⟩) 2 2 _).mono ?_
          rintro e V4 ⟨rfl, hb⟩
          have HZ2 := Lib.hid (HZ.out.trans (hb.mono HZ.out.size))
          have C12 := Lib.hid (cells_bl C1.out (hb.block _ C1l.out))
          have C1l2 := Lib.hid (Nat.lt_of_lt_of_le C1l.out hb.size)
          have C22 := Lib.hid (cells_bl C2.out (hb.block _ C2l.out))
          have C2l2 := Lib.hid (Nat.lt_of_lt_of_le C2l.out hb.size)
          clear HZ C1 C1l C2 C2l
          have HZ := HZ2
          have C1 := C12
          have C1l := C1l2
          have C2 := C22
          have C2l := C2l2
          clear HZ2 C12 C1l2 C22 C2l2
          clear hb
          have hHeld := HZ.out
          refine hK _ _ (fun _ => hHeld) ?_
          clear hK K hHeld
          simp only [Act.put, List.setIfInBounds_toArray, List.set_cons_zero, List.set_cons_succ]
          refine wpAnyS_one (i := 9) (oi := ⟨some 23, _, _, _, _, _⟩) rfl (by kernel_rfl) (by rfl) (fun K hK => ?_)
          have HZ0 := HZ
          go_simp
          have C1l0 := C1l
          have C2l0 := C2l
          have hgn := Bx4.new V4 (.int .u8 0) (.string ⟨#[]⟩) (.slice none 0 0) (.slice none 0 0) 25
          have hb : Below V4.heap.size V4 (V4.alloc (.cells #[.int .u8 0, .string ⟨#[]⟩, .slice none 0 0, .slice none 0 0] 25)) := (Below.refl _ _).alloc (Nat.le_refl _) _
          generalize (V4.alloc (.cells #[.int .u8 0, .string ⟨#[]⟩, .slice none 0 0, .slice none 0 0] 25)) = V5 at *
          have HZ2 := Lib.hid (HZ.out.trans (hb.mono HZ.out.size))
          have C12 := Lib.hid (cells_bl C1.out (hb.block _ C1l.out))
          have C1l2 := Lib.hid (Nat.lt_of_lt_of_le C1l.out hb.size)
          have C22 := Lib.hid (cells_bl C2.out (hb.block _ C2l.out))
          have C2l2 := Lib.hid (Nat.lt_of_lt_of_le C2l.out hb.size)
          clear HZ C1 C1l C2 C2l
          have HZ := HZ2
          have C1 := C12
          have C1l := C1l2
          have C2 := C22
          have C2l := C2l2
          clear HZ2 C12 C1l2 C22 C2l2
          obtain ⟨G5, hLn⟩ : ∃ l, V4.heap.size = l := ⟨_, rfl⟩
          have HGz := Lib.hid (show Z.heap.size ≤ G5 by rw [← hLn]; exact HZ0.out.size)
          rw [hLn] at hgn ⊢
          have HG := Lib.hid hgn
          clear hb hgn
          have HNC1 := Lib.hid (show LC1_1 ≠ G5 by have := C1l0.out; omega)
          clear C1l0
          have HNC2 := Lib.hid (show LC2_3 ≠ G5 by have := C2l0.out; omega)
          clear C2l0
          clear hLn
          have hHeld := HZ.out
          refine hK _ _ (fun _ => hHeld) ?_
          clear hK K hHeld
          simp only [Act.put, List.setIfInBounds_toArray, List.set_cons_zero, List.set_cons_succ]
          clear HZ0
          refine wpAnyS_one (i := 10) (oi := ⟨none, _, _, _, _, _⟩) rfl (by kernel_rfl) (by rfl) (fun K hK => ?_)
          obtain ⟨k0, k1, k2, k3, q0, q1, q2, q3, kl⟩ := HG.out
          go_simp
          have hfin : LvF Z (put4 V5 G5 (.int .u8 y) (.string ⟨#[]⟩) (.slice none 0 0) (.slice (some ⟨LC2_3, 0, none⟩) 2 2)) z x y b c L LC1_1 LC2_3 G5 ab1 ab2 ac1 ac2 kb1 kb2 kc1 kc2 := ⟨put4_below HZ.out HGz.out _ _ _ _, cells_bl C1.out (put4_heap _ _ _ _ _ _ _ HNC1.out), cells_bl C2.out (put4_heap _ _ _ _ _ _ _ HNC2.out), HG.out.put _ _ _ _, by rw [put4_size]; exact C1l.out, by rw [put4_size]; exact C2l.out, HGz.out⟩
          refine hK _ (put4 V5 G5 (.int .u8 y) (.string ⟨#[]⟩) (.slice none 0 0) (.slice (some ⟨LC2_3, 0, none⟩) 2 2)) (fun _ => hfin.hb) ?_
          clear hK K k0 k1 k2 k3 q0 q1 q2 q3 kl
          simp only [Act.put, List.setIfInBounds_toArray, List.set_cons_zero, List.set_cons_succ]
          have FIN := Lib.hid hfin
          generalize put4 V5 G5 (.int .u8 y) (.string ⟨#[]⟩) (.slice none 0 0) (.slice (some ⟨LC2_3, 0, none⟩) 2 2) = Y at *
          clear hfin HG HGz C1 C1l C2 C2l HNC1 HNC2 HZ
          refine wpAnyS_done (by kernel_rfl) ?_
          refine Norm.normal ?_
          generalize LC1_1 = L1 at *
          generalize LC2_3 = L2 at *
          generalize G5 = G at *
        case' hB3 =>
          have HZ0 := HZ
          go_simp
          have C1l0 := C1l
          have C2l0 := C2l
          have hgn := Bx4.new V3 (.int .u8 0) (.string ⟨#[]⟩) (.slice none 0 0) (.slice none 0 0) 25
          have hb : Below V3.heap.size V3 (V3.alloc (.cells #[.int .u8 0, .string ⟨#[]⟩, .slice none 0 0, .slice none 0 0] 25)) := (Below.refl _ _).alloc (Nat.le_refl _) _
          generalize (V3.alloc (.cells #[.int .u8 0, .string ⟨#[]⟩, .slice none 0 0, .slice none 0 0] 25)) = V4 at *
          have HZ2 := Lib.hid (HZ.out.trans (hb.mono HZ.out.size))
          have C12 := Lib.hid (cells_bl C1.out (hb.block _ C1l.out))
          have C1l2 := Lib.hid (Nat.lt_of_lt_of_le C1l.out hb.size)
          have C22 := Lib.hid (cells_bl C2.out (hb.block _ C2l.out))
          have C2l2 := Lib.hid (Nat.lt_of_lt_of_le C2l.out hb.size)
          clear HZ C1 C1l C2 C2l
          have HZ := HZ2
          have C1 := C12
          have C1l := C1l2
          have C2 := C22
          have C2l := C2l2
          clear HZ2 C12 C1l2 C22 C2l2
          obtain ⟨G4, hLn⟩ : ∃ l, V3.heap.size = l := ⟨_, rfl⟩
          have HGz := Lib.hid (show Z.heap.size ≤ G4 by rw [← hLn]; exact HZ0.out.size)
          rw [hLn] at hgn ⊢
          have HG := Lib.hid hgn
          clear hb hgn
          have HNC1 := Lib.hid (show LC1_1 ≠ G4 by have := C1l0.out; omega)
          clear C1l0
          have HNC2 := Lib.hid (show LC2_3 ≠ G4 by have := C2l0.out; omega)
          clear C2l0
          clear hLn
          have hHeld := HZ.out
          refine hK _ _ (fun _ => hHeld) ?_
          clear hK K hHeld
          simp only [Act.put, List.setIfInBounds_toArray, List.set_cons_zero, List.set_cons_succ]
          clear HZ0
          refine wpAnyS_one (i := 8) (oi := ⟨some 118, _, _, _, _, _⟩) rfl (by kernel_rfl) (by rfl) (fun K hK => ?_)
          go_simp
          refine (of_c y ⟨#[]⟩ (some ⟨LC2_3, 0, none⟩) 2 2 _).mono ?_
          rintro e V5 ⟨rfl, hb⟩
          have HZ2 := Lib.hid (HZ.out.trans (hb.mono HZ.out.size))
          have C12 := Lib.hid (cells_bl C1.out (hb.block _ C1l.out))
          have C1l2 := Lib.hid (Nat.lt_of_lt_of_le C1l.out hb.size)
          have C22 := Lib.hid (cells_bl C2.out (hb.block _ C2l.out))
          have C2l2 := Lib.hid (Nat.lt_of_lt_of_le C2l.out hb.size)
          have HG2 := Lib.hid (HG.out.heap (hb.block _ HG.out.lt) (Nat.lt_of_lt_of_le HG.out.lt hb.size))
          clear HZ C1 C1l C2 C2l HG
          have HZ := HZ2
          have C1 := C12
          have C1l := C1l2
          have C2 := C22
          have C2l := C2l2
          have HG := HG2
          clear HZ2 C12 C1l2 C22 C2l2 HG2
          clear hb
          have hHeld := HZ.out
          refine hK _ _ (fun _ => hHeld) ?_
          clear hK K hHeld
          simp only [Act.put, List.setIfInBounds_toArray, List.set_cons_zero, List.set_cons_succ]
          refine wpAnyS_one (i := 10) (oi := ⟨none, _, _, _, _, _⟩) rfl (by kernel_rfl) (by rfl) (fun K hK => ?_)
          obtain ⟨k0, k1, k2, k3, q0, q1, q2, q3, kl⟩ := HG.out
          go_simp
          have hfin : LvF Z (put4 V5 G4 (.int .u8 y) (.string ⟨#[]⟩) (.slice none 0 0) (.slice (some ⟨LC2_3, 0, none⟩) 2 2)) z x y b c L LC1_1 LC2_3 G4 ab1 ab2 ac1 ac2 kb1 kb2 kc1 kc2 := ⟨put4_below HZ.out HGz.out _ _ _ _, cells_bl C1.out (put4_heap _ _ _ _ _ _ _ HNC1.out), cells_bl C2.out (put4_heap _ _ _ _ _ _ _ HNC2.out), HG.out.put _ _ _ _, by rw [put4_size]; exact C1l.out, by rw [put4_size]; exact C2l.out, HGz.out⟩
          refine hK _ (put4 V5 G4 (.int .u8 y) (.string ⟨#[]⟩) (.slice none 0 0) (.slice (some ⟨LC2_3, 0, none⟩) 2 2)) (fun _ => hfin.hb) ?_
          clear hK K k0 k1 k2 k3 q0 q1 q2 q3 kl
          simp only [Act.put, List.setIfInBounds_toArray, List.set_cons_zero, List.set_cons_succ]
          have FIN := Lib.hid hfin
          generalize put4 V5 G4 (.int .u8 y) (.string ⟨#[]⟩) (.slice none 0 0) (.slice (some ⟨LC2_3, 0, none⟩) 2 2) = Y at *
          clear hfin HG HGz C1 C1l C2 C2l HNC1 HNC2 HZ
          refine wpAnyS_done (by kernel_rfl) ?_
          refine Norm.normal ?_
          generalize LC1_1 = L1 at *
          generalize LC2_3 = L2 at *
          generalize G4 = G at *
      case' hB2 =>
        have HZ0 := HZ
        go_simp
        have C1l0 := C1l
        have hgn := Bx4.new V2 (.int .u8 0) (.string ⟨#[]⟩) (.slice none 0 0) (.slice none 0 0) 25
        have hb : Below V2.heap.size V2 (V2.alloc (.cells #[.int .u8 0, .string ⟨#[]⟩, .slice none 0 0, .slice none 0 0] 25)) := (Below.refl _ _).alloc (Nat.le_refl _) _
        generalize (V2.alloc (.cells #[.int .u8 0, .string ⟨#[]⟩, .slice none 0 0, .slice none 0 0] 25)) = V3 at *
        have HZ2 := Lib.hid (HZ.out.trans (hb.mono HZ.out.size))
        have C12 := Lib.hid (cells_bl C1.out (hb.block _ C1l.out))
        have C1l2 := Lib.hid (Nat.lt_of_lt_of_le C1l.out hb.size)
        clear HZ C1 C1l
        have HZ := HZ2
        have C1 := C12
        have C1l := C1l2
        clear HZ2 C12 C1l2
        obtain ⟨G3, hLn⟩ : ∃ l, V2.heap.size = l := ⟨_, rfl⟩
        have HGz := Lib.hid (show Z.heap.size ≤ G3 by rw [← hLn]; exact HZ0.out.size)
        rw [hLn] at hgn ⊢
        have HG := Lib.hid hgn
        clear hb hgn
        have HNC1 := Lib.hid (show LC1_1 ≠ G3 by have := C1l0.out; omega)
        clear C1l0
        clear hLn
        have hHeld := HZ.out
        refine hK _ _ (fun _ => hHeld) ?_
        clear hK K hHeld
        simp only [Act.put, List.setIfInBounds_toArray, List.set_cons_zero, List.set_cons_succ]
        clear HZ0
        refine wpAnyS_one (i := 7) (oi := ⟨some 117, _, _, _, _, _⟩) rfl (by kernel_rfl) (by rfl) (fun K hK => ?_)
        go_simp
        have hcn := cells_new (w := V3) [Value.int .u8 x, .string ⟨#[]⟩, .slice none 0 0, .slice (some ⟨LC1_1, 0, none⟩) 2 2, .int .u8 c.op, .string c.n, .slice ac1 c.args.length kc1, .slice ac2 c.sub.length kc2] 25
        have hb : Below V3.heap.size V3 (V3.alloc (.cells #[.int .u8 x, .string ⟨#[]⟩, .slice none 0 0, .slice (some ⟨LC1_1, 0, none⟩) 2 2, .int .u8 c.op, .string c.n, .slice ac1 c.args.length kc1, .slice ac2 c.sub.length kc2] 25)) := (Below.refl _ _).alloc (Nat.le_refl _) _
        have hln : V3.heap.size < (V3.alloc (.cells #[.int .u8 x, .string ⟨#[]⟩, .slice none 0 0, .slice (some ⟨LC1_1, 0, none⟩) 2 2, .int .u8 c.op, .string c.n, .slice ac1 c.args.length kc1, .slice ac2 c.sub.length kc2] 25)).heap.size := by simp
        have hcn : ∀ j u, [Value.int .u8 x, .string ⟨#[]⟩, .slice none 0 0, .slice (some ⟨LC1_1, 0, none⟩) 2 2, .int .u8 c.op, .string c.n, .slice ac1 c.args.length kc1, .slice ac2 c.sub.length kc2][j]? = some u → (V3.alloc (.cells #[.int .u8 x, .string ⟨#[]⟩, .slice none 0 0, .slice (some ⟨LC1_1, 0, none⟩) 2 2, .int .u8 c.op, .string c.n, .slice ac1 c.args.length kc1, .slice ac2 c.sub.length kc2] 25)).cell? ⟨V3.heap.size, j, none⟩ = some u := hcn
        generalize (V3.alloc (.cells #[.int .u8 x, .string ⟨#[]⟩, .slice none 0 0, .slice (some ⟨LC1_1, 0, none⟩) 2 2, .int .u8 c.op, .string c.n, .slice ac1 c.args.length kc1, .slice ac2 c.sub.length kc2] 25)) = V4 at *
        have HGl0 := Lib.hid HG.out.lt
        have HZ2 := Lib.hid (HZ.out.trans (hb.mono HZ.out.size))
        have C12 := Lib.hid (cells_bl C1.out (hb.block _ C1l.out))
        have C1l2 := Lib.hid (Nat.lt_of_lt_of_le C1l.out hb.size)
        have HG2 := Lib.hid (HG.out.heap (hb.block _ HG.out.lt) (Nat.lt_of_lt_of_le HG.out.lt hb.size))
        clear HZ C1 C1l HG
        have HZ := HZ2
        have C1 := C12
        have C1l := C1l2
        have HG := HG2
        clear HZ2 C12 C1l2 HG2
        obtain ⟨LC2_4, hLn⟩ : ∃ l, V3.heap.size = l := ⟨_, rfl⟩
        rw [hLn] at hcn hln ⊢
        have C2 := Lib.hid hcn
        have C2l := Lib.hid hln
        have HLn4 := Lib.hid hLn
        clear hb hcn hln hLn
        have HNC2 := Lib.hid (show LC2_4 ≠ G3 by have := HGl0.out; have := HLn4.out; omega)
        clear HGl0
        clear HLn4
        have hHeld := HZ.out
        refine hK _ _ (fun _ => hHeld) ?_
        clear hK K hHeld
        simp only [Act.put, List.setIfInBounds_toArray, List.set_cons_zero, List.set_cons_succ]
        refine wpAnyS_one (i := 8) (oi := ⟨some 118, _, _, _, _, _⟩) rfl (by kernel_rfl) (by rfl) (fun K hK => ?_)
        go_simp
        refine (of_c y ⟨#[]⟩ (some ⟨LC2_4, 0, none⟩) 2 2 _).mono ?_
        rintro e V5 ⟨rfl, hb⟩
        have HZ2 := Lib.hid (HZ.out.trans (hb.mono HZ.out.size))
        have C12 := Lib.hid (cells_bl C1.out (hb.block _ C1l.out))
        have C1l2 := Lib.hid (Nat.lt_of_lt_of_le C1l.out hb.size)
        have HG2 := Lib.hid (HG.out.heap (hb.block _ HG.out.lt) (Nat.lt_of_lt_of_le HG.out.lt hb.size))
        have C22 := Lib.hid (cells_bl C2.out (hb.block _ C2l.out))
        have C2l2 := Lib.hid (Nat.lt_of_lt_of_le C2l.out hb.size)
        clear HZ C1 C1l HG C2 C2l
        have HZ := HZ2
        have C1 := C12
        have C1l := C1l2
        have HG := HG2
        have C2 := C22
        have C2l := C2l2
        clear HZ2 C12 C1l2 HG2 C22 C2l2
        clear hb
        have hHeld := HZ.out
        refine hK _ _ (fun _ => hHeld) ?_
        clear hK K hHeld
        simp only [Act.put, List.setIfInBounds_toArray, List.set_cons_zero, List.set_cons_succ]
        refine wpAnyS_one (i := 10) (oi := ⟨none, _, _, _, _, _⟩) rfl (by kernel_rfl) (by rfl) (fun K hK => ?_)
        obtain ⟨k0, k1, k2, k3, q0, q1, q2, q3, kl⟩ := HG.out
        go_simp
        have hfin : LvF Z (put4 V5 G3 (.int .u8 y) (.string ⟨#[]⟩) (.slice none 0 0) (.slice (some ⟨LC2_4, 0, none⟩) 2 2)) z x y b c L LC1_1 LC2_4 G3 ab1 ab2 ac1 ac2 kb1 kb2 kc1 kc2 := ⟨put4_below HZ.out HGz.out _ _ _ _, cells_bl C1.out (put4_heap _ _ _ _ _ _ _ HNC1.out), cells_bl C2.out (put4_heap _ _ _ _ _ _ _ HNC2.out), HG.out.put _ _ _ _, by rw [put4_size]; exact C1l.out, by rw [put4_size]; exact C2l.out, HGz.out⟩
        refine hK _ (put4 V5 G3 (.int .u8 y) (.string ⟨#[]⟩) (.slice none 0 0) (.slice (some ⟨LC2_4, 0, none⟩) 2 2)) (fun _ => hfin.hb) ?_
        clear hK K k0 k1 k2 k3 q0 q1 q2 q3 kl
        simp only [Act.put, List.setIfInBounds_toArray, List.set_cons_zero, List.set_cons_succ]
        have FIN := Lib.hid hfin
        generalize put4 V5 G3 (.int .u8 y) (.string ⟨#[]⟩) (.slice none 0 0) (.slice (some ⟨LC2_4, 0, none⟩) 2 2) = Y at *
        clear hfin HG HGz C1 C1l C2 C2l HNC1 HNC2 HZ
        refine wpAnyS_done (by kernel_rfl) ?_
        refine Norm.normal ?_
        generalize LC1_1 = L1 at *
        generalize LC2_4 = L2 at *
        generalize G3 = G at *
    case' hB1 =>
      have HZ0 := HZ
      go_simp
      have C1l0 := C1l
      have hgn := Bx4.new V1 (.int .u8 0) (.string ⟨#[]⟩) (.slice none 0 0) (.slice none 0 0) 25
      have hb : Below V1.heap.size V1 (V1.alloc (.cells #[.int .u8 0, .string ⟨#[]⟩, .slice none 0 0, .slice none 0 0] 25)) := (Below.refl _ _).alloc (Nat.le_refl _) _
      generalize (V1.alloc (.cells #[.int .u8 0, .string ⟨#[]⟩, .slice none 0 0, .slice none 0 0] 25)) = V2 at *
      have HZ2 := Lib.hid (HZ.out.trans (hb.mono HZ.out.size))
      have C12 := Lib.hid (cells_bl C1.out (hb.block _ C1l.out))
      have C1l2 := Lib.hid (Nat.lt_of_lt_of_le C1l.out hb.size)
      clear HZ C1 C1l
      have HZ := HZ2
      have C1 := C12
      have C1l := C1l2
      clear HZ2 C12 C1l2
      obtain ⟨G2, hLn⟩ : ∃ l, V1.heap.size = l := ⟨_, rfl⟩
      have HGz := Lib.hid (show Z.heap.size ≤ G2 by rw [← hLn]; exact HZ0.out.size)
      rw [hLn] at hgn ⊢
      have HG := Lib.hid hgn
      clear hb hgn
      have HNC1 := Lib.hid (show LC1_1 ≠ G2 by have := C1l0.out; omega)
      clear C1l0
      clear hLn
      have hHeld := HZ.out
      refine hK _ _ (fun _ => hHeld) ?_
      clear hK K hHeld
      simp only [Act.put, List.setIfInBounds_toArray, List.set_cons_zero, List.set_cons_succ]
      clear HZ0
      refine wpAnyS_one (i := 5) (oi := ⟨some 115, _, _, _, _, _⟩) rfl (by kernel_rfl) (by rfl) (fun K hK => ?_)
      go_simp
      refine (of_c x ⟨#[]⟩ (some ⟨LC1_1, 0, none⟩) 2 2 _).mono ?_
      rintro e V3 ⟨rfl, hb⟩
      have HZ2 := Lib.hid (HZ.out.trans (hb.mono HZ.out.size))
      have C12 := Lib.hid (cells_bl C1.out (hb.block _ C1l.out))
      have C1l2 := Lib.hid (Nat.lt_of_lt_of_le C1l.out hb.size)
      have HG2 := Lib.hid (HG.out.heap (hb.block _ HG.out.lt) (Nat.lt_of_lt_of_le HG.out.lt hb.size))
      clear HZ C1 C1l HG
      have HZ := HZ2
      have C1 := C12
      have C1l := C1l2
      have HG := HG2
      clear HZ2 C12 C1l2 HG2
      clear hb
      have hHeld := HZ.out
      refine hK _ _ (fun _ => hHeld) ?_
      clear hK K hHeld
      simp only [Act.put, List.setIfInBounds_toArray, List.set_cons_zero, List.set_cons_succ]
      refine wpAnyS_one (i := 7) (oi := ⟨some 117, _, _, _, _, _⟩) rfl (by kernel_rfl) (by rfl) (fun K hK => ?_)
      go_simp
      have hcn := cells_new (w := V3) [Value.int .u8 x, .string ⟨#[]⟩, .slice none 0 0, .slice (some ⟨LC1_1, 0, none⟩) 2 2, .int .u8 c.op, .string c.n, .slice ac1 c.args.length kc1, .slice ac2 c.sub.length kc2] 25
      have hb : Below V3.heap.size V3 (V3.alloc (.cells #[.int .u8 x, .string ⟨#[]⟩, .slice none 0 0, .slice (some ⟨LC1_1, 0, none⟩) 2 2, .int .u8 c.op, .string c.n, .slice ac1 c.args.length kc1, .slice ac2 c.sub.length kc2] 25)) := (Below.refl _ _).alloc (Nat.le_refl _) _
      have hln : V3.heap.size < (V3.alloc (.cells #[.int .u8 x, .string ⟨#[]⟩, .slice none 0 0, .slice (some ⟨LC1_1, 0, none⟩) 2 2, .int .u8 c.op, .string c.n, .slice ac1 c.args.length kc1, .slice ac2 c.sub.length kc2] 25)).heap.size := by simp
      have hcn : ∀ j u, [Value.int .u8 x, .string ⟨#[]⟩, .slice none 0 0, .slice (some ⟨LC1_1, 0, none⟩) 2 2, .int .u8 c.op, .string c.n, .slice ac1 c.args.length kc1, .slice ac2 c.sub.length kc2][j]? = some u → (V3.alloc (.cells #[.int .u8 x, .string ⟨#[]⟩, .slice none 0 0, .slice (some ⟨LC1_1, 0, none⟩) 2 2, .int .u8 c.op, .string c.n, .slice ac1 c.args.length kc1, .slice ac2 c.sub.length kc2] 25)).cell? ⟨V3.heap.size, j, none⟩ = some u := hcn
      generalize (V3.alloc (.cells #[.int .u8 x, .string ⟨#[]⟩, .slice none 0 0, .slice (some ⟨LC1_1, 0, none⟩) 2 2, .int .u8 c.op, .string c.n, .slice ac1 c.args.length kc1, .slice ac2 c.sub.length kc2] 25)) = V4 at *
      have HGl0 := Lib.hid HG.out.lt
      have HZ2 := Lib.hid (HZ.out.trans (hb.mono HZ.out.size))
      have C12 := Lib.hid (cells_bl C1.out (hb.block _ C1l.out))
      have C1l2 := Lib.hid (Nat.lt_of_lt_of_le C1l.out hb.size)
      have HG2 := Lib.hid (HG.out.heap (hb.block _ HG.out.lt) (Nat.lt_of_lt_of_le HG.out.lt hb.size))
      clear HZ C1 C1l HG
      have HZ := HZ2
      have C1 := C12
      have C1l := C1l2
      have HG := HG2
      clear HZ2 C12 C1l2 HG2
      obtain ⟨LC2_4, hLn⟩ : ∃ l, V3.heap.size = l := ⟨_, rfl⟩
      rw [hLn] at hcn hln ⊢
      have C2 := Lib.hid hcn
      have C2l := Lib.hid hln
      have HLn4 := Lib.hid hLn
      clear hb hcn hln hLn
      have HNC2 := Lib.hid (show LC2_4 ≠ G2 by have := HGl0.out; have := HLn4.out; omega)
      clear HGl0
      clear HLn4
      have hHeld := HZ.out
      refine hK _ _ (fun _ => hHeld) ?_
      clear hK K hHeld
      simp only [Act.put, List.setIfInBounds_toArray, List.set_cons_zero, List.set_cons_succ]
      refine wpAnyS_one (i := 8) (oi := ⟨some 118, _, _, _, _, _⟩) rfl (by kernel_rfl) (by rfl) (fun K hK => ?_)
      go_simp
      refine (of_c y ⟨#[]⟩ (some ⟨LC2_4, 0, none⟩) 2 2 _).mono ?_
      rintro e V5 ⟨rfl, hb⟩
      have HZ2 := Lib.hid (HZ.out.trans (hb.mono HZ.out.size))
      have C12 := Lib.hid (cells_bl C1.out (hb.block _ C1l.out))
      have C1l2 := Lib.hid (Nat.lt_of_lt_of_le C1l.out hb.size)
      have HG2 := Lib.hid (HG.out.heap (hb.block _ HG.out.lt) (Nat.lt_of_lt_of_le HG.out.lt hb.size))
      have C22 := Lib.hid (cells_bl C2.out (hb.block _ C2l.out))
      have C2l2 := Lib.hid (Nat.lt_of_lt_of_le C2l.out hb.size)
      clear HZ C1 C1l HG C2 C2l
      have HZ := HZ2
      have C1 := C12
      have C1l := C1l2
      have HG := HG2
      have C2 := C22
      have C2l := C2l2
      clear HZ2 C12 C1l2 HG2 C22 C2l2
      clear hb
      have hHeld := HZ.out
      refine hK _ _ (fun _ => hHeld) ?_
      clear hK K hHeld
      simp only [Act.put, List.setIfInBounds_toArray, List.set_cons_zero, List.set_cons_succ]
      refine wpAnyS_one (i := 10) (oi := ⟨none, _, _, _, _, _⟩) rfl (by kernel_rfl) (by rfl) (fun K hK => ?_)
      obtain ⟨k0, k1, k2, k3, q0, q1, q2, q3, kl⟩ := HG.out
      go_simp
      have hfin : LvF Z (put4 V5 G2 (.int .u8 y) (.string ⟨#[]⟩) (.slice none 0 0) (.slice (some ⟨LC2_4, 0, none⟩) 2 2)) z x y b c L LC1_1 LC2_4 G2 ab1 ab2 ac1 ac2 kb1 kb2 kc1 kc2 := ⟨put4_below HZ.out HGz.out _ _ _ _, cells_bl C1.out (put4_heap _ _ _ _ _ _ _ HNC1.out), cells_bl C2.out (put4_heap _ _ _ _ _ _ _ HNC2.out), HG.out.put _ _ _ _, by rw [put4_size]; exact C1l.out, by rw [put4_size]; exact C2l.out, HGz.out⟩
      refine hK _ (put4 V5 G2 (.int .u8 y) (.string ⟨#[]⟩) (.slice none 0 0) (.slice (some ⟨LC2_4, 0, none⟩) 2 2)) (fun _ => hfin.hb) ?_
      clear hK K k0 k1 k2 k3 q0 q1 q2 q3 kl
      simp only [Act.put, List.setIfInBounds_toArray, List.set_cons_zero, List.set_cons_succ]
      have FIN := Lib.hid hfin
      generalize put4 V5 G2 (.int .u8 y) (.string ⟨#[]⟩) (.slice none 0 0) (.slice (some ⟨LC2_4, 0, none⟩) 2 2) = Y at *
      clear hfin HG HGz C1 C1l C2 C2l HNC1 HNC2 HZ
      refine wpAnyS_done (by kernel_rfl) ?_
      refine Norm.normal ?_
      generalize LC1_1 = L1 at *
      generalize LC2_4 = L2 at *
      generalize G2 = G at *
  case' hB0 =>
    have HZ0 := HZ
    go_simp
    have hgn := Bx4.new Z (.int .u8 0) (.string ⟨#[]⟩) (.slice none 0 0) (.slice none 0 0) 25
    have hb : Below Z.heap.size Z (Z.alloc (.cells #[.int .u8 0, .string ⟨#[]⟩, .slice none 0 0, .slice none 0 0] 25)) := (Below.refl _ _).alloc (Nat.le_refl _) _
    generalize (Z.alloc (.cells #[.int .u8 0, .string ⟨#[]⟩, .slice none 0 0, .slice none 0 0] 25)) = V1 at *
    have HZ2 := Lib.hid (HZ.out.trans (hb.mono HZ.out.size))
    clear HZ 
    have HZ := HZ2
    clear HZ2 
    obtain ⟨G1, hLn⟩ : ∃ l, Z.heap.size = l := ⟨_, rfl⟩
    have HGz := Lib.hid (show Z.heap.size ≤ G1 by rw [← hLn]; exact HZ0.out.size)
    rw [hLn] at hgn ⊢
    have HG := Lib.hid hgn
    clear hb hgn
    clear hLn
    have hHeld := HZ.out
    refine hK _ _ (fun _ => hHeld) ?_
    clear hK K hHeld
    simp only [Act.put, List.setIfInBounds_toArray, List.set_cons_zero, List.set_cons_succ]
    clear HZ0
    refine wpAnyS_one (i := 4) (oi := ⟨some 114, _, _, _, _, _⟩) rfl (by kernel_rfl) (by rfl) (fun K hK => ?_)
    go_simp
    have hcn := cells_new (w := V1) [Value.int .u8 z, .string ⟨#[]⟩, .slice none 0 0, .slice (some ⟨L, 0, none⟩) 1 1, .int .u8 b.op, .string b.n, .slice ab1 b.args.length kb1, .slice ab2 b.sub.length kb2] 25
    have hb : Below V1.heap.size V1 (V1.alloc (.cells #[.int .u8 z, .string ⟨#[]⟩, .slice none 0 0, .slice (some ⟨L, 0, none⟩) 1 1, .int .u8 b.op, .string b.n, .slice ab1 b.args.length kb1, .slice ab2 b.sub.length kb2] 25)) := (Below.refl _ _).alloc (Nat.le_refl _) _
    have hln : V1.heap.size < (V1.alloc (.cells #[.int .u8 z, .string ⟨#[]⟩, .slice none 0 0, .slice (some ⟨L, 0, none⟩) 1 1, .int .u8 b.op, .string b.n, .slice ab1 b.args.length kb1, .slice ab2 b.sub.length kb2] 25)).heap.size := by simp
    have hcn : ∀ j u, [Value.int .u8 z, .string ⟨#[]⟩, .slice none 0 0, .slice (some ⟨L, 0, none⟩) 1 1, .int .u8 b.op, .string b.n, .slice ab1 b.args.length kb1, .slice ab2 b.sub.length kb2][j]? = some u → (V1.alloc (.cells #[.int .u8 z, .string ⟨#[]⟩, .slice none 0 0, .slice (some ⟨L, 0, none⟩) 1 1, .int .u8 b.op, .string b.n, .slice ab1 b.args.length kb1, .slice ab2 b.sub.length kb2] 25)).cell? ⟨V1.heap.size, j, none⟩ = some u := hcn
    generalize (V1.alloc (.cells #[.int .u8 z, .string ⟨#[]⟩, .slice none 0 0, .slice (some ⟨L, 0, none⟩) 1 1, .int .u8 b.op, .string b.n, .slice ab1 b.args.length kb1, .slice ab2 b.sub.length kb2] 25)) = V2 at *
    have HGl0 := Lib.hid HG.out.lt
    have HZ2 := Lib.hid (HZ.out.trans (hb.mono HZ.out.size))
    have HG2 := Lib.hid (HG.out.heap (hb.block _ HG.out.lt) (Nat.lt_of_lt_of_le HG.out.lt hb.size))
    clear HZ HG
    have HZ := HZ2
    have HG := HG2
    clear HZ2 HG2
    obtain ⟨LC1_2, hLn⟩ : ∃ l, V1.heap.size = l := ⟨_, rfl⟩
    rw [hLn] at hcn hln ⊢
    have C1 := Lib.hid hcn
    have C1l := Lib.hid hln
    have HLn2 := Lib.hid hLn
    clear hb hcn hln hLn
    have HNC1 := Lib.hid (show LC1_2 ≠ G1 by have := HGl0.out; have := HLn2.out; omega)
    clear HGl0
    clear HLn2
    have hHeld := HZ.out
    refine hK _ _ (fun _ => hHeld) ?_
    clear hK K hHeld
    simp only [Act.put, List.setIfInBounds_toArray, List.set_cons_zero, List.set_cons_succ]
    refine wpAnyS_one (i := 5) (oi := ⟨some 115, _, _, _, _, _⟩) rfl (by kernel_rfl) (by rfl) (fun K hK => ?_)
    go_simp
    refine (of_c x ⟨#[]⟩ (some ⟨LC1_2, 0, none⟩) 2 2 _).mono ?_
    rintro e V3 ⟨rfl, hb⟩
    have HZ2 := Lib.hid (HZ.out.trans (hb.mono HZ.out.size))
    have HG2 := Lib.hid (HG.out.heap (hb.block _ HG.out.lt) (Nat.lt_of_lt_of_le HG.out.lt hb.size))
    have C12 := Lib.hid (cells_bl C1.out (hb.block _ C1l.out))
    have C1l2 := Lib.hid (Nat.lt_of_lt_of_le C1l.out hb.size)
    clear HZ HG C1 C1l
    have HZ := HZ2
    have HG := HG2
    have C1 := C12
    have C1l := C1l2
    clear HZ2 HG2 C12 C1l2
    clear hb
    have hHeld := HZ.out
    refine hK _ _ (fun _ => hHeld) ?_
    clear hK K hHeld
    simp only [Act.put, List.setIfInBounds_toArray, List.set_cons_zero, List.set_cons_succ]
    refine wpAnyS_one (i := 7) (oi := ⟨some 117, _, _, _, _, _⟩) rfl (by kernel_rfl) (by rfl) (fun K hK => ?_)
    go_simp
    have hcn := cells_new (w := V3) [Value.int .u8 x, .string ⟨#[]⟩, .slice none 0 0, .slice (some ⟨LC1_2, 0, none⟩) 2 2, .int .u8 c.op, .string c.n, .slice ac1 c.args.length kc1, .slice ac2 c.sub.length kc2] 25
    have hb : Below V3.heap.size V3 (V3.alloc (.cells #[.int .u8 x, .string ⟨#[]⟩, .slice none 0 0, .slice (some ⟨LC1_2, 0, none⟩) 2 2, .int .u8 c.op, .string c.n, .slice ac1 c.args.length kc1, .slice ac2 c.sub.length kc2] 25)) := (Below.refl _ _).alloc (Nat.le_refl _) _
    have hln : V3.heap.size < (V3.alloc (.cells #[.int .u8 x, .string ⟨#[]⟩, .slice none 0 0, .slice (some ⟨LC1_2, 0, none⟩) 2 2, .int .u8 c.op, .string c.n, .slice ac1 c.args.length kc1, .slice ac2 c.sub.length kc2] 25)).heap.size := by simp
    have hcn : ∀ j u, [Value.int .u8 x, .string ⟨#[]⟩, .slice none 0 0, .slice (some ⟨LC1_2, 0, none⟩) 2 2, .int .u8 c.op, .string c.n, .slice ac1 c.args.length kc1, .slice ac2 c.sub.length kc2][j]? = some u → (V3.alloc (.cells #[.int .u8 x, .string ⟨#[]⟩, .slice none 0 0, .slice (some ⟨LC1_2, 0, none⟩) 2 2, .int .u8 c.op, .string c.n, .slice ac1 c.args.length kc1, .slice ac2 c.sub.length kc2] 25)).cell? ⟨V3.heap.size, j, none⟩ = some u := hcn
    generalize (V3.alloc (.cells #[.int .u8 x, .string ⟨#[]⟩, .slice none 0 0, .slice (some ⟨LC1_2, 0, none⟩) 2 2, .int .u8 c.op, .string c.n, .slice ac1 c.args.length kc1, .slice ac2 c.sub.length kc2] 25)) = V4 at *
    have HGl0 := Lib.hid HG.out.lt
    have HZ2 := Lib.hid (HZ.out.trans (hb.mono HZ.out.size))
    have HG2 := Lib.hid (HG.out.heap (hb.block _ HG.out.lt) (Nat.lt_of_lt_of_le HG.out.lt hb.size))
    have C12 := Lib.hid (cells_bl C1.out (hb.block _ C1l.out))
    have C1l2 := Lib.hid (Nat.lt_of_lt_of_le C1l.out hb.size)
    clear HZ HG C1 C1l
    have HZ := HZ2
    have HG := HG2
    have C1 := C12
    have C1l := C1l2
    clear HZ2 HG2 C12 C1l2
    obtain ⟨LC2_4, hLn⟩ : ∃ l, V3.heap.size = l := ⟨_, rfl⟩
    rw [hLn] at hcn hln ⊢
    have C2 := Lib.hid hcn
    have C2l := Lib.hid hln
    have HLn4 := Lib.hid hLn
    clear hb hcn hln hLn
    have HNC2 := Lib.hid (show LC2_4 ≠ G1 by have := HGl0.out; have := HLn4.out; omega)
    clear HGl0
    clear HLn4
    have hHeld := HZ.out
    refine hK _ _ (fun _ => hHeld) ?_
    clear hK K hHeld
    simp only [Act.put, List.setIfInBounds_toArray, List.set_cons_zero, List.set_cons_succ]
    refine wpAnyS_one (i := 8) (oi := ⟨some 118, _, _, _, _, _⟩) rfl (by kernel_rfl) (by rfl) (fun K hK => ?_)
    go_simp
    refine (of_c y ⟨#[]⟩ (some ⟨LC2_4, 0, none⟩) 2 2 _).mono ?_
    rintro e V5 ⟨rfl, hb⟩
    have HZ2 := Lib.hid (HZ.out.trans (hb.mono HZ.out.size))
    have HG2 := Lib.hid (HG.out.heap (hb.block _ HG.out.lt) (Nat.lt_of_lt_of_le HG.out.lt hb.size))
    have C12 := Lib.hid (cells_bl C1.out (hb.block _ C1l.out))
    have C1l2 := Lib.hid (Nat.lt_of_lt_of_le C1l.out hb.size)
    have C22 := Lib.hid (cells_bl C2.out (hb.block _ C2l.out))
    have C2l2 := Lib.hid (Nat.lt_of_lt_of_le C2l.out hb.size)
    clear HZ HG C1 C1l C2 C2l
    have HZ := HZ2
    have HG := HG2
    have C1 := C12
    have C1l := C1l2
    have C2 := C22
    have C2l := C2l2
    clear HZ2 HG2 C12 C1l2 C22 C2l2
    clear hb
    have hHeld := HZ.out
    refine hK _ _ (fun _ => hHeld) ?_
    clear hK K hHeld
    simp only [Act.put, List.setIfInBounds_toArray, List.set_cons_zero, List.set_cons_succ]
    refine wpAnyS_one (i := 10) (oi := ⟨none, _, _, _, _, _⟩) rfl (by kernel_rfl) (by rfl) (fun K hK => ?_)
    obtain ⟨k0, k1, k2, k3, q0, q1, q2, q3, kl⟩ := HG.out
    go_simp
    have hfin : LvF Z (put4 V5 G1 (.int .u8 y) (.string ⟨#[]⟩) (.slice none 0 0) (.slice (some ⟨LC2_4, 0, none⟩) 2 2)) z x y b c L LC1_2 LC2_4 G1 ab1 ab2 ac1 ac2 kb1 kb2 kc1 kc2 := ⟨put4_below HZ.out HGz.out _ _ _ _, cells_bl C1.out (put4_heap _ _ _ _ _ _ _ HNC1.out), cells_bl C2.out (put4_heap _ _ _ _ _ _ _ HNC2.out), HG.out.put _ _ _ _, by rw [put4_size]; exact C1l.out, by rw [put4_size]; exact C2l.out, HGz.out⟩
    refine hK _ (put4 V5 G1 (.int .u8 y) (.string ⟨#[]⟩) (.slice none 0 0) (.slice (some ⟨LC2_4, 0, none⟩) 2 2)) (fun _ => hfin.hb) ?_
    clear hK K k0 k1 k2 k3 q0 q1 q2 q3 kl
    simp only [Act.put, List.setIfInBounds_toArray, List.set_cons_zero, List.set_cons_succ]
    have FIN := Lib.hid hfin
    generalize put4 V5 G1 (.int .u8 y) (.string ⟨#[]⟩) (.slice none 0 0) (.slice (some ⟨LC2_4, 0, none⟩) 2 2) = Y at *
    clear hfin HG HGz C1 C1l C2 C2l HNC1 HNC2 HZ
    refine wpAnyS_done (by kernel_rfl) ?_
    refine Norm.normal ?_
    generalize LC1_2 = L1 at *
    generalize LC2_4 = L2 at *
    generalize G1 = G at *
  all_goals
    have HWY := Lib.hid (HW.out.trans (FIN.out.hb.mono HW.out.size))
    have HBY := Lib.hid (HB.out.below FIN.out.hb)
    have HCY := Lib.hid (HC.out.below FIN.out.hb)
    have HUY := Lib.hid ((HUN.out.below FIN.out.hb (Nat.le_refl _)).mono FIN.out.hb.size)
    have HFY := Lib.hid (HFI.out.heap (FIN.out.hb.block FB HFI.out.lt) (Nat.lt_of_lt_of_le HFI.out.lt FIN.out.hb.size))
    clear HA
    have FINb := Lib.hid FIN.out.hb
    have GZ := Lib.hid FIN.out.gz
    have c1 := FIN.out.l1
    have c2 := FIN.out.l2
    have hxb := fov_bin (slF_two (f := una z a) (g := b) (c1 0 _ rfl) (c1 1 _ rfl) (c1 2 _ rfl) (c1 3 _ rfl) (c1 4 _ rfl) (c1 5 _ rfl) (c1 6 _ rfl) (c1 7 _ rfl) HUY.out HBY.out.v FIN.out.z1) HXo.out
    have hw1 := fov_bin (slF_two (f := bin x (una z a) b) (g := c) (c2 0 _ rfl) (c2 1 _ rfl) (c2 2 _ rfl) (c2 3 _ rfl) (c2 4 _ rfl) (c2 5 _ rfl) (c2 6 _ rfl) (c2 7 _ rfl) hxb HCY.out.v FIN.out.z2) HYo.out
    have HWT := Lib.hid hw1
    have HBXG := Lib.hid FIN.out.g
    clear c1 c2 hxb hw1 FIN
    obtain ⟨g0, g1, g2, g3, q0, q1, q2, q3, gl⟩ := HBXG.out
    clear q0 q1 q2 q3
    by_cases hlt : str x < str y
    · have HWA := Lib.hid (show wantF z x y a b c = bin x (una z a) (bin y b c) from if_pos (.inl hlt))
      have n1 : decide ((str x : Int) < (str y : Int)) = true := decide_eq_true (by omega)
      have n2 : decide (str x < str y) = true := decide_eq_true hlt
      have n3 : (str x : Int) < (str y : Int) := by omega
      clear hlt
      generalize str x = sx at *
      generalize str y = sy at *
      go_wp2_with fail
      clear n1 n2 n3
      clear g0 g1 g2 g3 gl
      have hb := Below.drew (Below.refl Y.heap.size Y)
      have HGD := Lib.hid (HBXG.out.heap (hb.block G HBXG.out.lt) (Nat.lt_of_lt_of_le HBXG.out.lt hb.size))
      have HBD := Lib.hid (HBY.out.below hb)
      have HCD := Lib.hid (HCY.out.below hb)
      have HFD := Lib.hid (HFY.out.heap (hb.block FB HFY.out.lt) (Nat.lt_of_lt_of_le HFY.out.lt hb.size))
      have HZD := Lib.hid (FINb.out.trans (hb.mono FINb.out.size))
      generalize hwd : Y.drew = D at *
      clear hb HWY HWT HBXG HBY HCY HUY HFY FINb
      obtain ⟨d0, d1, d2, d3, q0, q1, q2, q3, dl⟩ := HBD.out.b
      clear q0 q1 q2 q3
      obtain ⟨e0, e1, e2, e3, q0, q1, q2, q3, el⟩ := HCD.out.b
      clear q0 q1 q2 q3
      obtain ⟨f0, f1, f2, f3, q0, q1, q2, q3, fl⟩ := HFD.out
      clear q0 q1 q2 q3
      refine wp_region_S (fun w' => Below D.heap.size D w') [9] 10 #[false, false, false, false, false, false, false, false, false, false] (by kernel_rfl) (by kernel_rfl) (by kernel_rfl) (by rw [hwd]; exact Below.refl _ _) (fun hHeld => ?_)
      rw [hwd] at hHeld ⊢
      clear hwd
      refine wpAnyS_take (i := 0) (oi := ⟨some 130, _, _, _, _, _⟩) (v := .int .u8 x) rfl (by kernel_rfl) (by kernel_rfl) (by kernel_rfl) (by kernel_rfl) (fun _ _ _ h => Norm.panic h) (Or.inl ⟨by rfl, ?_⟩) (by assumption) ?_
      · intro w' hSw
        have hb' : Below D.heap.size D w' := hSw
        go_simp
      simp only [Act.put, List.setIfInBounds_toArray, List.set_cons_zero, List.set_cons_succ]
      refine wpAnyS_take (i := 1) (oi := ⟨some 131, _, _, _, _, _⟩) (v := .agg #[.int .u8 z, .string ⟨#[]⟩, .slice none 0 0, .slice (some ⟨L, 0, none⟩) 1 1]) rfl (by kernel_rfl) (by kernel_rfl) (by kernel_rfl) (by kernel_rfl) (fun _ _ _ h => Norm.panic h) (Or.inl ⟨by rfl, ?_⟩) (by assumption) ?_
      · intro w' hSw
        have hb' : Below D.heap.size D w' := hSw
        have e0 := (hb'.cell (p := ⟨FB, 0, none⟩) fl).trans f0
        have e1 := (hb'.cell (p := ⟨FB, 1, none⟩) fl).trans f1
        have e2 := (hb'.cell (p := ⟨FB, 2, none⟩) fl).trans f2
        have e3 := (hb'.cell (p := ⟨FB, 3, none⟩) fl).trans f3
        go_simp
      simp only [Act.put, List.setIfInBounds_toArray, List.set_cons_zero, List.set_cons_succ]
      refine wpAnyS_take (i := 2) (oi := ⟨some 132, _, _, _, _, _⟩) (v := .int .u8 y) rfl (by kernel_rfl) (by kernel_rfl) (by kernel_rfl) (by kernel_rfl) (fun _ _ _ h => Norm.panic h) (Or.inl ⟨by rfl, ?_⟩) (by assumption) ?_
      · intro w' hSw
        have hb' : Below D.heap.size D w' := hSw
        go_simp
      simp only [Act.put, List.setIfInBounds_toArray, List.set_cons_zero, List.set_cons_succ]
      refine wpAnyS_take (i := 3) (oi := ⟨some 133, _, _, _, _, _⟩) (v := .agg #[.int .u8 b.op, .string b.n, .slice ab1 b.args.length kb1, .slice ab2 b.sub.length kb2]) rfl (by kernel_rfl) (by kernel_rfl) (by kernel_rfl) (by kernel_rfl) (fun _ _ _ h => Norm.panic h) (Or.inl ⟨by rfl, ?_⟩) (by assumption) ?_
      · intro w' hSw
        have hb' : Below D.heap.size D w' := hSw
        have e0 := (hb'.cell (p := ⟨(A + 1), 0, none⟩) dl).trans d0
        have e1 := (hb'.cell (p := ⟨(A + 1), 1, none⟩) dl).trans d1
        have e2 := (hb'.cell (p := ⟨(A + 1), 2, none⟩) dl).trans d2
        have e3 := (hb'.cell (p := ⟨(A + 1), 3, none⟩) dl).trans d3
        go_simp
      simp only [Act.put, List.setIfInBounds_toArray, List.set_cons_zero, List.set_cons_succ]
      refine wpAnyS_take (i := 4) (oi := ⟨some 134, _, _, _, _, _⟩) (v := .agg #[.int .u8 c.op, .string c.n, .slice ac1 c.args.length kc1, .slice ac2 c.sub.length kc2]) rfl (by kernel_rfl) (by kernel_rfl) (by kernel_rfl) (by kernel_rfl) (fun _ _ _ h => Norm.panic h) (Or.inl ⟨by rfl, ?_⟩) (by assumption) ?_
      · intro w' hSw
        have hb' : Below D.heap.size D w' := hSw
        have e0 := (hb'.cell (p := ⟨(A + 1 + 1), 0, none⟩) el).trans e0
        have e1 := (hb'.cell (p := ⟨(A + 1 + 1), 1, none⟩) el).trans e1
        have e2 := (hb'.cell (p := ⟨(A + 1 + 1), 2, none⟩) el).trans e2
        have e3 := (hb'.cell (p := ⟨(A + 1 + 1), 3, none⟩) el).trans e3
        go_simp
      simp only [Act.put, List.setIfInBounds_toArray, List.set_cons_zero, List.set_cons_succ]
      clear hHeld f0 f1 f2 f3 fl d0 d1 d2 d3 dl e0 e1 e2 e3 el HBD HCD HFD
      have HD := Lib.hid (Below.refl D.heap.size D)
      refine wpAnyS_one (i := 5) (oi := ⟨some 135, _, _, _, _, _⟩) rfl (by kernel_rfl) (by rfl) (fun K hK => ?_)
      go_simp
      have hcn : ∀ j u, [Value.int .u8 b.op, .string b.n, .slice ab1 b.args.length kb1, .slice ab2 b.sub.length kb2, .int .u8 c.op, .string c.n, .slice ac1 c.args.length kc1, .slice ac2 c.sub.length kc2][j]? = some u → (D.alloc (.cells #[.int .u8 b.op, .string b.n, .slice ab1 b.args.length kb1, .slice ab2 b.sub.length kb2, .int .u8 c.op, .string c.n, .slice ac1 c.args.length kc1, .slice ac2 c.sub.length kc2] 25)).cell? ⟨D.heap.size, j, none⟩ = some u := cells_new [Value.int .u8 b.op, .string b.n, .slice ab1 b.args.length kb1, .slice ab2 b.sub.length kb2, .int .u8 c.op, .string c.n, .slice ac1 c.args.length kc1, .slice ac2 c.sub.length kc2] 25
      have hb : Below D.heap.size D (D.alloc (.cells #[.int .u8 b.op, .string b.n, .slice ab1 b.args.length kb1, .slice ab2 b.sub.length kb2, .int .u8 c.op, .string c.n, .slice ac1 c.args.length kc1, .slice ac2 c.sub.length kc2] 25)) := (Below.refl _ _).alloc (Nat.le_refl _) _
      have hln : D.heap.size < (D.alloc (.cells #[.int .u8 b.op, .string b.n, .slice ab1 b.args.length kb1, .slice ab2 b.sub.length kb2, .int .u8 c.op, .string c.n, .slice ac1 c.args.length kc1, .slice ac2 c.sub.length kc2] 25)).heap.size := by simp
      generalize (D.alloc (.cells #[.int .u8 b.op, .string b.n, .slice ab1 b.args.length kb1, .slice ab2 b.sub.length kb2, .int .u8 c.op, .string c.n, .slice ac1 c.args.length kc1, .slice ac2 c.sub.length kc2] 25)) = E1 at *
      have HNP1 := Lib.hid (show D.heap.size ≠ G by have := HGD.out.lt; have := HD.out.size; omega)
      have HD2 := Lib.hid (HD.out.trans (hb.mono HD.out.size))
      clear HD
      have HD := HD2
      clear HD2
      obtain ⟨M1, hLn⟩ : ∃ l, D.heap.size = l := ⟨_, rfl⟩
      rw [hLn] at hcn hln HNP1 ⊢
      have P1 := Lib.hid hcn
      have P1l := Lib.hid hln
      clear hb hcn hln hLn
      have hHeld := HD.out
      refine hK _ _ (fun _ => hHeld) ?_
      clear hK K hHeld
      simp only [Act.put, List.setIfInBounds_toArray, List.set_cons_zero, List.set_cons_succ]
      refine wpAnyS_one (i := 6) (oi := ⟨some 136, _, _, _, _, _⟩) rfl (by kernel_rfl) (by rfl) (fun K hK => ?_)
      go_simp
      refine (of_c y ⟨#[]⟩ (some ⟨M1, 0, none⟩) 2 2 _).mono ?_
      rintro e E2 ⟨rfl, hb⟩
      have HD2 := Lib.hid (HD.out.trans (hb.mono HD.out.size))
      clear HD
      have HD := HD2
      clear HD2
      have P12 := Lib.hid (cells_bl P1.out (hb.block _ P1l.out))
      have P1l2 := Lib.hid (Nat.lt_of_lt_of_le P1l.out hb.size)
      clear P1 P1l
      have P1 := P12
      have P1l := P1l2
      clear P12 P1l2
      clear hb
      have hHeld := HD.out
      refine hK _ _ (fun _ => hHeld) ?_
      clear hK K hHeld
      simp only [Act.put, List.setIfInBounds_toArray, List.set_cons_zero, List.set_cons_succ]
      refine wpAnyS_one (i := 7) (oi := ⟨some 137, _, _, _, _, _⟩) rfl (by kernel_rfl) (by rfl) (fun K hK => ?_)
      go_simp
      have hcn : ∀ j u, [Value.int .u8 z, .string ⟨#[]⟩, .slice none 0 0, .slice (some ⟨L, 0, none⟩) 1 1, .int .u8 y, .string ⟨#[]⟩, .slice none 0 0, .slice (some ⟨M1, 0, none⟩) 2 2][j]? = some u → (E2.alloc (.cells #[.int .u8 z, .string ⟨#[]⟩, .slice none 0 0, .slice (some ⟨L, 0, none⟩) 1 1, .int .u8 y, .string ⟨#[]⟩, .slice none 0 0, .slice (some ⟨M1, 0, none⟩) 2 2] 25)).cell? ⟨E2.heap.size, j, none⟩ = some u := cells_new [Value.int .u8 z, .string ⟨#[]⟩, .slice none 0 0, .slice (some ⟨L, 0, none⟩) 1 1, .int .u8 y, .string ⟨#[]⟩, .slice none 0 0, .slice (some ⟨M1, 0, none⟩) 2 2] 25
      have hb : Below E2.heap.size E2 (E2.alloc (.cells #[.int .u8 z, .string ⟨#[]⟩, .slice none 0 0, .slice (some ⟨L, 0, none⟩) 1 1, .int .u8 y, .string ⟨#[]⟩, .slice none 0 0, .slice (some ⟨M1, 0, none⟩) 2 2] 25)) := (Below.refl _ _).alloc (Nat.le_refl _) _
      have hln : E2.heap.size < (E2.alloc (.cells #[.int .u8 z, .string ⟨#[]⟩, .slice none 0 0, .slice (some ⟨L, 0, none⟩) 1 1, .int .u8 y, .string ⟨#[]⟩, .slice none 0 0, .slice (some ⟨M1, 0, none⟩) 2 2] 25)).heap.size := by simp
      generalize (E2.alloc (.cells #[.int .u8 z, .string ⟨#[]⟩, .slice none 0 0, .slice (some ⟨L, 0, none⟩) 1 1, .int .u8 y, .string ⟨#[]⟩, .slice none 0 0, .slice (some ⟨M1, 0, none⟩) 2 2] 25)) = E3 at *
      have HNP2 := Lib.hid (show E2.heap.size ≠ G by have := HGD.out.lt; have := HD.out.size; omega)
      have HD2 := Lib.hid (HD.out.trans (hb.mono HD.out.size))
      clear HD
      have HD := HD2
      clear HD2
      have P12 := Lib.hid (cells_bl P1.out (hb.block _ P1l.out))
      have P1l2 := Lib.hid (Nat.lt_of_lt_of_le P1l.out hb.size)
      clear P1 P1l
      have P1 := P12
      have P1l := P1l2
      clear P12 P1l2
      obtain ⟨M2, hLn⟩ : ∃ l, E2.heap.size = l := ⟨_, rfl⟩
      rw [hLn] at hcn hln HNP2 ⊢
      have P2 := Lib.hid hcn
      have P2l := Lib.hid hln
      clear hb hcn hln hLn
      have hHeld := HD.out
      refine hK _ _ (fun _ => hHeld) ?_
      clear hK K hHeld
      simp only [Act.put, List.setIfInBounds_toArray, List.set_cons_zero, List.set_cons_succ]
      refine wpAnyS_one (i := 8) (oi := ⟨some 138, _, _, _, _, _⟩) rfl (by kernel_rfl) (by rfl) (fun K hK => ?_)
      go_simp
      refine (of_c x ⟨#[]⟩ (some ⟨M2, 0, none⟩) 2 2 _).mono ?_
      rintro e E4 ⟨rfl, hb⟩
      have HD2 := Lib.hid (HD.out.trans (hb.mono HD.out.size))
      clear HD
      have HD := HD2
      clear HD2
      have P12 := Lib.hid (cells_bl P1.out (hb.block _ P1l.out))
      have P1l2 := Lib.hid (Nat.lt_of_lt_of_le P1l.out hb.size)
      clear P1 P1l
      have P1 := P12
      have P1l := P1l2
      clear P12 P1l2
      have P22 := Lib.hid (cells_bl P2.out (hb.block _ P2l.out))
      have P2l2 := Lib.hid (Nat.lt_of_lt_of_le P2l.out hb.size)
      clear P2 P2l
      have P2 := P22
      have P2l := P2l2
      clear P22 P2l2
      clear hb
      have hHeld := HD.out
      refine hK _ _ (fun _ => hHeld) ?_
      clear hK K hHeld
      simp only [Act.put, List.setIfInBounds_toArray, List.set_cons_zero, List.set_cons_succ]
      have HGE := Lib.hid (HGD.out.heap (HD.out.block G HGD.out.lt) (Nat.lt_of_lt_of_le HGD.out.lt HD.out.size))
      refine wpAnyS_one (i := 9) (oi := ⟨none, _, _, _, _, _⟩) rfl (by kernel_rfl) (by rfl) (fun K hK => ?_)
      obtain ⟨k0, k1, k2, k3, q0, q1, q2, q3, kl⟩ := HGE.out
      go_simp
      refine hK _ (put4 E4 G (.int .u8 x) (.string ⟨#[]⟩) (.slice none 0 0) (.slice (some ⟨M2, 0, none⟩) 2 2)) (fun h => absurd (List.mem_singleton.2 rfl) h) ?_
      clear hK K k0 k1 k2 k3 q0 q1 q2 q3 kl
      simp only [Act.put, List.setIfInBounds_toArray, List.set_cons_zero, List.set_cons_succ]
      have HZF := Lib.hid (put4_below (HZD.out.trans (HD.out.mono HZD.out.size)) GZ.out (.int .u8 x) (.string ⟨#[]⟩) (.slice none 0 0) (.slice (some ⟨M2, 0, none⟩) 2 2))
      have HP1 := Lib.hid (cells_bl P1.out (put4_heap E4 G (.int .u8 x) (.string ⟨#[]⟩) (.slice none 0 0) (.slice (some ⟨M2, 0, none⟩) 2 2) M1 HNP1.out))
      have HP2 := Lib.hid (cells_bl P2.out (put4_heap E4 G (.int .u8 x) (.string ⟨#[]⟩) (.slice none 0 0) (.slice (some ⟨M2, 0, none⟩) 2 2) M2 HNP2.out))
      have HBXG := Lib.hid (HGE.out.put (.int .u8 x) (.string ⟨#[]⟩) (.slice none 0 0) (.slice (some ⟨M2, 0, none⟩) 2 2))
      have hp1 : M1 < (put4 E4 G (.int .u8 x) (.string ⟨#[]⟩) (.slice none 0 0) (.slice (some ⟨M2, 0, none⟩) 2 2)).heap.size := by rw [put4_size]; exact P1l.out
      have hp2 : M2 < (put4 E4 G (.int .u8 x) (.string ⟨#[]⟩) (.slice none 0 0) (.slice (some ⟨M2, 0, none⟩) 2 2)).heap.size := by rw [put4_size]; exact P2l.out
      generalize put4 E4 G (.int .u8 x) (.string ⟨#[]⟩) (.slice none 0 0) (.slice (some ⟨M2, 0, none⟩) 2 2) = Y9 at *
      refine wpAnyS_done (by kernel_rfl) ?_
      refine Norm.normal ?_
      have HWY := Lib.hid (HW.out.trans (HZF.out.mono HW.out.size))
      have hB9 := HB.out.below HZF.out
      have hC9 := HC.out.below HZF.out
      have hU9 := (HUN.out.below HZF.out (Nat.le_refl _)).mono HZF.out.size
      have c1 := HP1.out
      have c2 := HP2.out
      have hyc := fov_bin (slF_two (f := b) (g := c) (c1 0 _ rfl) (c1 1 _ rfl) (c1 2 _ rfl) (c1 3 _ rfl) (c1 4 _ rfl) (c1 5 _ rfl) (c1 6 _ rfl) (c1 7 _ rfl) hB9.v hC9.v hp1) HYo.out
      have hw2 := fov_bin (slF_two (f := una z a) (g := bin y b c) (c2 0 _ rfl) (c2 1 _ rfl) (c2 2 _ rfl) (c2 3 _ rfl) (c2 4 _ rfl) (c2 5 _ rfl) (c2 6 _ rfl) (c2 7 _ rfl) hU9 hyc hp2) HXo.out
      have HWT := Lib.hid hw2
      clear c1 c2 hyc hw2 hB9 hC9 hU9 hp1 hp2 HP1 HP2 P1 P2 P1l P2l HNP1 HNP2 HGE HGD HZF HZD HD GZ
      have HBY := HB
      have HCY := HC
      have HUY := HUN
      have HFY := HFI
      clear HB HC HUN HFI HW
      obtain ⟨g0, g1, g2, g3, q0, q1, q2, q3, gl⟩ := HBXG.out
      clear q0 q1 q2 q3
      go_wp2_with fail
      clear g0 g1 g2 g3 gl
      have hfo := Lib.hid (form_c S Y9 LS2.out (HRT.out _ HWY.out).1 (HRT.out _ HWY.out).2)
      refine hfo.out.mono ?_
      rintro e V ⟨v, rfl, hv, hb⟩
      clear hfo
      obtain ⟨⟨fo, at0, er⟩, hres⟩ : ∃ r, formRes false (rightB false) S = r := ⟨_, rfl⟩
      rw [hres] at hv ⊢
      have HRS := Lib.hid (hres.symm.trans HRES.out)
      clear hres
      have HW3 := Lib.hid (HWY.out.trans (hb.mono HWY.out.size))
      have HT3 := Lib.hid ((HWT.out.below hb (Nat.le_refl _)).mono hb.size)
      have HG3 := Lib.hid (HBXG.out.heap (hb.block G HBXG.out.lt) (Nat.lt_of_lt_of_le HBXG.out.lt hb.size))
      clear HWY HWT HBXG HBY HCY HUY HFY
      obtain ⟨gz, hgz⟩ : ∃ gz, fo.getD Ps.zeroF = gz := ⟨_, rfl⟩
      have hv : FVal Y9.heap.size V v (fo.getD Ps.zeroF) := hv
      rw [hgz] at hv
      have HGZ := Lib.hid hgz
      have HV := Lib.hid hv
      obtain ⟨a3, k3, a4, k4, rfl, HREST⟩ := hv
      clear hgz HREST hb
      obtain ⟨g0, g1, g2, g3, q0, q1, q2, q3, gl⟩ := HG3.out
      clear q0 q1 q2 q3
      go_wp2_with fail
      have hG := Bx4.new V (.int .u8 gz.op) (.string gz.n) (.slice a3 gz.args.length k3) (.slice a4 gz.sub.length k4) 25
      have hv6 := HV.out
      have hb : Below V.heap.size V (V.alloc (.cells #[.int .u8 gz.op, .string gz.n, .slice a3 gz.args.length k3, .slice a4 gz.sub.length k4] 25)) := (Below.refl _ _).alloc (Nat.le_refl _) _
      have HFG := Lib.hid ((fval_fov hv6).below hb (Nat.le_refl _) |>.mono hb.size)
      obtain ⟨GG, hGA⟩ : ∃ GG, V.heap.size = GG := ⟨_, rfl⟩
      generalize (V.alloc (.cells #[.int .u8 gz.op, .string gz.n, .slice a3 gz.args.length k3, .slice a4 gz.sub.length k4] 25)) = V7 at *
      clear g0 g1 g2 g3 gl
      have HW32 := Lib.hid (HW3.out.trans (hb.mono HW3.out.size))
      have HT32 := Lib.hid ((HT3.out.below hb (Nat.le_refl _)).mono hb.size)
      have HG32 := Lib.hid (HG3.out.heap (hb.block G HG3.out.lt) (Nat.lt_of_lt_of_le HG3.out.lt hb.size))
      clear HW3 HT3 HG3
      have HW3 := HW32
      have HT3 := HT32
      have HG3 := HG32
      clear HW32 HT32 HG32
      rw [hGA] at hG ⊢
      have HBG := Lib.hid hG
      clear hv6 hG hGA HV hb
      have hri := Lib.hid (right_c _ _ _ _ (bin x (una z a) (bin y b c)) V7.heap.size V7 HT3.out (Nat.le_refl _) (HRT.out _ HW3.out).1)
      refine hri.out.mono ?_
      rintro e U ⟨rfl, hb⟩
      clear hri
      have HW32 := Lib.hid (HW3.out.trans (hb.mono HW3.out.size))
      have HT32 := Lib.hid ((HT3.out.below hb (Nat.le_refl _)).mono hb.size)
      have HG32 := Lib.hid (HG3.out.heap (hb.block G HG3.out.lt) (Nat.lt_of_lt_of_le HG3.out.lt hb.size))
      have HBG2 := Lib.hid (HBG.out.heap (hb.block GG HBG.out.lt) (Nat.lt_of_lt_of_le HBG.out.lt hb.size))
      have HFG2 := Lib.hid ((HFG.out.below hb (Nat.le_refl _)).mono hb.size)
      clear HW3 HT3 HG3 HBG HFG
      have HW3 := HW32
      have HT3 := HT32
      have HG3 := HG32
      have HBG := HBG2
      have HFG := HFG2
      clear HW32 HT32 HG32 HBG2 HFG2
      clear hb
      cases hrw : rightB false (bin x (una z a) (bin y b c)) with
      | false =>
        have h2 := HRS.out
        rw [HWA.out, hrw, if_neg (by decide)] at h2
        have h5 := (Prod.mk.inj h2).1
        obtain ⟨h6, h7⟩ := Prod.mk.inj (Prod.mk.inj h2).2
        subst h5 h6 h7
        clear h2 HRS HRES HWA
        go_wp2_with fail
        go_ret
        exact ⟨rfl, HW3.out⟩
      | true =>
        have h2 := HRS.out
        rw [HWA.out, hrw, if_pos rfl] at h2
        have h5 := (Prod.mk.inj h2).1
        obtain ⟨h6, h7⟩ := Prod.mk.inj (Prod.mk.inj h2).2
        subst h5 h6 h7
        have hg : gz = bin x (una z a) (bin y b c) := HGZ.out.symm
        have heq := Lib.hid (eqF_c (SizeOf.sizeOf gz + 1) gz (Nat.lt_succ_self _) (bin x (una z a) (bin y b c)) _ _ _ _ _ _ _ _ U.heap.size U HFG.out HT3.out (Nat.le_refl _))
        rw [← hg, eqF_me gz] at heq
        obtain ⟨g0, g1, g2, g3, q0, q1, q2, q3, gl⟩ := HG3.out
        clear q0 q1 q2 q3
        obtain ⟨d0, d1, d2, d3, q0, q1, q2, q3, dl⟩ := HBG.out
        clear q0 q1 q2 q3 h2 HRS HRES HWA hg hrw
        go_wp2_with fail
        refine heq.out.mono ?_
        rintro e U2 ⟨rfl, hb⟩
        have HW4 := Lib.hid (HW3.out.trans (hb.mono HW3.out.size))
        clear hb
        go_wp2_with fail
        go_ret
        exact ⟨rfl, HW4.out⟩
    have n1 : decide ((str x : Int) < (str y : Int)) = false := decide_eq_false (by omega)
    have n2 : decide (str x < str y) = false := decide_eq_false hlt
    by_cases heq : str y = str x
    · cases hr : frR x with
      | true =>
        have HWA := Lib.hid (show wantF z x y a b c = bin x (una z a) (bin y b c) from if_pos (.inr ⟨heq, hr⟩))
        have n4 : ((str y : Int) == (str x : Int)) = true := beq_iff_eq.2 (by omega)
        clear hlt heq
        generalize str x = sx at *
        generalize str y = sy at *
        generalize frR x = fx at *
        subst hr
        go_wp2_with fail
        clear n1 n2 n4
        clear g0 g1 g2 g3 gl
        have hb := Below.drew (Below.refl Y.heap.size Y)
        have HGD := Lib.hid (HBXG.out.heap (hb.block G HBXG.out.lt) (Nat.lt_of_lt_of_le HBXG.out.lt hb.size))
        have HBD := Lib.hid (HBY.out.below hb)
        have HCD := Lib.hid (HCY.out.below hb)
        have HFD := Lib.hid (HFY.out.heap (hb.block FB HFY.out.lt) (Nat.lt_of_lt_of_le HFY.out.lt hb.size))
        have HZD := Lib.hid (FINb.out.trans (hb.mono FINb.out.size))
        generalize hwd : Y.drew = D at *
        clear hb HWY HWT HBXG HBY HCY HUY HFY FINb
        obtain ⟨d0, d1, d2, d3, q0, q1, q2, q3, dl⟩ := HBD.out.b
        clear q0 q1 q2 q3
        obtain ⟨e0, e1, e2, e3, q0, q1, q2, q3, el⟩ := HCD.out.b
        clear q0 q1 q2 q3
        obtain ⟨f0, f1, f2, f3, q0, q1, q2, q3, fl⟩ := HFD.out
        clear q0 q1 q2 q3
        refine wp_region_S (fun w' => Below D.heap.size D w') [9] 10 #[false, false, false, false, false, false, false, false, false, false] (by kernel_rfl) (by kernel_rfl) (by kernel_rfl) (by rw [hwd]; exact Below.refl _ _) (fun hHeld => ?_)
        rw [hwd] at hHeld ⊢
        clear hwd
        refine wpAnyS_take (i := 0) (oi := ⟨some 130, _, _, _, _, _⟩) (v := .int .u8 x) rfl (by kernel_rfl) (by kernel_rfl) (by kernel_rfl) (by kernel_rfl) (fun _ _ _ h => Norm.panic h) (Or.inl ⟨by rfl, ?_⟩) (by assumption) ?_
        · intro w' hSw
          have hb' : Below D.heap.size D w' := hSw
          go_simp
        simp only [Act.put, List.setIfInBounds_toArray, List.set_cons_zero, List.set_cons_succ]
        refine wpAnyS_take (i := 1) (oi := ⟨some 131, _, _, _, _, _⟩) (v := .agg #[.int .u8 z, .string ⟨#[]⟩, .slice none 0 0, .slice (some ⟨L, 0, none⟩) 1 1]) rfl (by kernel_rfl) (by kernel_rfl) (by kernel_rfl) (by kernel_rfl) (fun _ _ _ h => Norm.panic h) (Or.inl ⟨by rfl, ?_⟩) (by assumption) ?_
        · intro w' hSw
          have hb' : Below D.heap.size D w' := hSw
          have e0 := (hb'.cell (p := ⟨FB, 0, none⟩) fl).trans f0
          have e1 := (hb'.cell (p := ⟨FB, 1, none⟩) fl).trans f1
          have e2 := (hb'.cell (p := ⟨FB, 2, none⟩) fl).trans f2
          have e3 := (hb'.cell (p := ⟨FB, 3, none⟩) fl).trans f3
          go_simp
        simp only [Act.put, List.setIfInBounds_toArray, List.set_cons_zero, List.set_cons_succ]
        refine wpAnyS_take (i := 2) (oi := ⟨some 132, _, _, _, _, _⟩) (v := .int .u8 y) rfl (by kernel_rfl) (by kernel_rfl) (by kernel_rfl) (by kernel_rfl) (fun _ _ _ h => Norm.panic h) (Or.inl ⟨by rfl, ?_⟩) (by assumption) ?_
        · intro w' hSw
          have hb' : Below D.heap.size D w' := hSw
          go_simp
        simp only [Act.put, List.setIfInBounds_toArray, List.set_cons_zero, List.set_cons_succ]
        refine wpAnyS_take (i := 3) (oi := ⟨some 133, _, _, _, _, _⟩) (v := .agg #[.int .u8 b.op, .string b.n, .slice ab1 b.args.length kb1, .slice ab2 b.sub.length kb2]) rfl (by kernel_rfl) (by kernel_rfl) (by kernel_rfl) (by kernel_rfl) (fun _ _ _ h => Norm.panic h) (Or.inl ⟨by rfl, ?_⟩) (by assumption) ?_
        · intro w' hSw
          have hb' : Below D.heap.size D w' := hSw
          have e0 := (hb'.cell (p := ⟨(A + 1), 0, none⟩) dl).trans d0
          have e1 := (hb'.cell (p := ⟨(A + 1), 1, none⟩) dl).trans d1
          have e2 := (hb'.cell (p := ⟨(A + 1), 2, none⟩) dl).trans d2
          have e3 := (hb'.cell (p := ⟨(A + 1), 3, none⟩) dl).trans d3
          go_simp
        simp only [Act.put, List.setIfInBounds_toArray, List.set_cons_zero, List.set_cons_succ]
        refine wpAnyS_take (i := 4) (oi := ⟨some 134, _, _, _, _, _⟩) (v := .agg #[.int .u8 c.op, .string c.n, .slice ac1 c.args.length kc1, .slice ac2 c.sub.length kc2]) rfl (by kernel_rfl) (by kernel_rfl) (by kernel_rfl) (by kernel_rfl) (fun _ _ _ h => Norm.panic h) (Or.inl ⟨by rfl, ?_⟩) (by assumption) ?_
        · intro w' hSw
          have hb' : Below D.heap.size D w' := hSw
          have e0 := (hb'.cell (p := ⟨(A + 1 + 1), 0, none⟩) el).trans e0
          have e1 := (hb'.cell (p := ⟨(A + 1 + 1), 1, none⟩) el).trans e1
          have e2 := (hb'.cell (p := ⟨(A + 1 + 1), 2, none⟩) el).trans e2
          have e3 := (hb'.cell (p := ⟨(A + 1 + 1), 3, none⟩) el).trans e3
          go_simp
        simp only [Act.put, List.setIfInBounds_toArray, List.set_cons_zero, List.set_cons_succ]
        clear hHeld f0 f1 f2 f3 fl d0 d1 d2 d3 dl e0 e1 e2 e3 el HBD HCD HFD
        have HD := Lib.hid (Below.refl D.heap.size D)
        refine wpAnyS_one (i := 5) (oi := ⟨some 135, _, _, _, _, _⟩) rfl (by kernel_rfl) (by rfl) (fun K hK => ?_)
        go_simp
        have hcn : ∀ j u, [Value.int .u8 b.op, .string b.n, .slice ab1 b.args.length kb1, .slice ab2 b.sub.length kb2, .int .u8 c.op, .string c.n, .slice ac1 c.args.length kc1, .slice ac2 c.sub.length kc2][j]? = some u → (D.alloc (.cells #[.int .u8 b.op, .string b.n, .slice ab1 b.args.length kb1, .slice ab2 b.sub.length kb2, .int .u8 c.op, .string c.n, .slice ac1 c.args.length kc1, .slice ac2 c.sub.length kc2] 25)).cell? ⟨D.heap.size, j, none⟩ = some u := cells_new [Value.int .u8 b.op, .string b.n, .slice ab1 b.args.length kb1, .slice ab2 b.sub.length kb2, .int .u8 c.op, .string c.n, .slice ac1 c.args.length kc1, .slice ac2 c.sub.length kc2] 25
        have hb : Below D.heap.size D (D.alloc (.cells #[.int .u8 b.op, .string b.n, .slice ab1 b.args.length kb1, .slice ab2 b.sub.length kb2, .int .u8 c.op, .string c.n, .slice ac1 c.args.length kc1, .slice ac2 c.sub.length kc2] 25)) := (Below.refl _ _).alloc (Nat.le_refl _) _
        have hln : D.heap.size < (D.alloc (.cells #[.int .u8 b.op, .string b.n, .slice ab1 b.args.length kb1, .slice ab2 b.sub.length kb2, .int .u8 c.op, .string c.n, .slice ac1 c.args.length kc1, .slice ac2 c.sub.length kc2] 25)).heap.size := by simp
        generalize (D.alloc (.cells #[.int .u8 b.op, .string b.n, .slice ab1 b.args.length kb1, .slice ab2 b.sub.length kb2, .int .u8 c.op, .string c.n, .slice ac1 c.args.length kc1, .slice ac2 c.sub.length kc2] 25)) = E1 at *
        have HNP1 := Lib.hid (show D.heap.size ≠ G by have := HGD.out.lt; have := HD.out.size; omega)
        have HD2 := Lib.hid (HD.out.trans (hb.mono HD.out.size))
        clear HD
        have HD := HD2
        clear HD2
        obtain ⟨M1, hLn⟩ : ∃ l, D.heap.size = l := ⟨_, rfl⟩
        rw [hLn] at hcn hln HNP1 ⊢
        have P1 := Lib.hid hcn
        have P1l := Lib.hid hln
        clear hb hcn hln hLn
        have hHeld := HD.out
        refine hK _ _ (fun _ => hHeld) ?_
        clear hK K hHeld
        simp only [Act.put, List.setIfInBounds_toArray, List.set_cons_zero, List.set_cons_succ]
        refine wpAnyS_one (i := 6) (oi := ⟨some 136, _, _, _, _, _⟩) rfl (by kernel_rfl) (by rfl) (fun K hK => ?_)
        go_simp
        refine (of_c y ⟨#[]⟩ (some ⟨M1, 0, none⟩) 2 2 _).mono ?_
        rintro e E2 ⟨rfl, hb⟩
        have HD2 := Lib.hid (HD.out.trans (hb.mono HD.out.size))
        clear HD
        have HD := HD2
        clear HD2
        have P12 := Lib.hid (cells_bl P1.out (hb.block _ P1l.out))
        have P1l2 := Lib.hid (Nat.lt_of_lt_of_le P1l.out hb.size)
        clear P1 P1l
        have P1 := P12
        have P1l := P1l2
        clear P12 P1l2
        clear hb
        have hHeld := HD.out
        refine hK _ _ (fun _ => hHeld) ?_
        clear hK K hHeld
        simp only [Act.put, List.setIfInBounds_toArray, List.set_cons_zero, List.set_cons_succ]
        refine wpAnyS_one (i := 7) (oi := ⟨some 137, _, _, _, _, _⟩) rfl (by kernel_rfl) (by rfl) (fun K hK => ?_)
        go_simp
        have hcn : ∀ j u, [Value.int .u8 z, .string ⟨#[]⟩, .slice none 0 0, .slice (some ⟨L, 0, none⟩) 1 1, .int .u8 y, .string ⟨#[]⟩, .slice none 0 0, .slice (some ⟨M1, 0, none⟩) 2 2][j]? = some u → (E2.alloc (.cells #[.int .u8 z, .string ⟨#[]⟩, .slice none 0 0, .slice (some ⟨L, 0, none⟩) 1 1, .int .u8 y, .string ⟨#[]⟩, .slice none 0 0, .slice (some ⟨M1, 0, none⟩) 2 2] 25)).cell? ⟨E2.heap.size, j, none⟩ = some u := cells_new [Value.int .u8 z, .string ⟨#[]⟩, .slice none 0 0, .slice (some ⟨L, 0, none⟩) 1 1, .int .u8 y, .string ⟨#[]⟩, .slice none 0 0, .slice (some ⟨M1, 0, none⟩) 2 2] 25
        have hb : Below E2.heap.size E2 (E2.alloc (.cells #[.int .u8 z, .string ⟨#[]⟩, .slice none 0 0, .slice (some ⟨L, 0, none⟩) 1 1, .int .u8 y, .string ⟨#[]⟩, .slice none 0 0, .slice (some ⟨M1, 0, none⟩) 2 2] 25)) := (Below.refl _ _).alloc (Nat.le_refl _) _
        have hln : E2.heap.size < (E2.alloc (.cells #[.int .u8 z, .string ⟨#[]⟩, .slice none 0 0, .slice (some ⟨L, 0, none⟩) 1 1, .int .u8 y, .string ⟨#[]⟩, .slice none 0 0, .slice (some ⟨M1, 0, none⟩) 2 2] 25)).heap.size := by simp
        generalize (E2.alloc (.cells #[.int .u8 z, .string ⟨#[]⟩, .slice none 0 0, .slice (some ⟨L, 0, none⟩) 1 1, .int .u8 y, .string ⟨#[]⟩, .slice none 0 0, .slice (some ⟨M1, 0, none⟩) 2 2] 25)) = E3 at *
        have HNP2 := Lib.hid (show E2.heap.size ≠ G by have := HGD.out.lt; have := HD.out.size; omega)
        have HD2 := Lib.hid (HD.out.trans (hb.mono HD.out.size))
        clear HD
        have HD := HD2
        clear HD2
        have P12 := Lib.hid (cells_bl P1.out (hb.block _ P1l.out))
        have P1l2 := Lib.hid (Nat.lt_of_lt_of_le P1l.out hb.size)
        clear P1 P1l
        have P1 := P12
        have P1l := P1l2
        clear P12 P1l2
        obtain ⟨M2, hLn⟩ : ∃ l, E2.heap.size = l := ⟨_, rfl⟩
        rw [hLn] at hcn hln HNP2 ⊢
        have P2 := Lib.hid hcn
        have P2l := Lib.hid hln
        clear hb hcn hln hLn
        have hHeld := HD.out
        refine hK _ _ (fun _ => hHeld) ?_
        clear hK K hHeld
        simp only [Act.put, List.setIfInBounds_toArray, List.set_cons_zero, List.set_cons_succ]
        refine wpAnyS_one (i := 8) (oi := ⟨some 138, _, _, _, _, _⟩) rfl (by kernel_rfl) (by rfl) (fun K hK => ?_)
        go_simp
        refine (of_c x ⟨#[]⟩ (some ⟨M2, 0, none⟩) 2 2 _).mono ?_
        rintro e E4 ⟨rfl, hb⟩
        have HD2 := Lib.hid (HD.out.trans (hb.mono HD.out.size))
        clear HD
        have HD := HD2
        clear HD2
        have P12 := Lib.hid (cells_bl P1.out (hb.block _ P1l.out))
        have P1l2 := Lib.hid (Nat.lt_of_lt_of_le P1l.out hb.size)
        clear P1 P1l
        have P1 := P12
        have P1l := P1l2
        clear P12 P1l2
        have P22 := Lib.hid (cells_bl P2.out (hb.block _ P2l.out))
        have P2l2 := Lib.hid (Nat.lt_of_lt_of_le P2l.out hb.size)
        clear P2 P2l
        have P2 := P22
        have P2l := P2l2
        clear P22 P2l2
        clear hb
        have hHeld := HD.out
        refine hK _ _ (fun _ => hHeld) ?_
        clear hK K hHeld
        simp only [Act.put, List.setIfInBounds_toArray, List.set_cons_zero, List.set_cons_succ]
        have HGE := Lib.hid (HGD.out.heap (HD.out.block G HGD.out.lt) (Nat.lt_of_lt_of_le HGD.out.lt HD.out.size))
        refine wpAnyS_one (i := 9) (oi := ⟨none, _, _, _, _, _⟩) rfl (by kernel_rfl) (by rfl) (fun K hK => ?_)
        obtain ⟨k0, k1, k2, k3, q0, q1, q2, q3, kl⟩ := HGE.out
        go_simp
        refine hK _ (put4 E4 G (.int .u8 x) (.string ⟨#[]⟩) (.slice none 0 0) (.slice (some ⟨M2, 0, none⟩) 2 2)) (fun h => absurd (List.mem_singleton.2 rfl) h) ?_
        clear hK K k0 k1 k2 k3 q0 q1 q2 q3 kl
        simp only [Act.put, List.setIfInBounds_toArray, List.set_cons_zero, List.set_cons_succ]
        have HZF := Lib.hid (put4_below (HZD.out.trans (HD.out.mono HZD.out.size)) GZ.out (.int .u8 x) (.string ⟨#[]⟩) (.slice none 0 0) (.slice (some ⟨M2, 0, none⟩) 2 2))
        have HP1 := Lib.hid (cells_bl P1.out (put4_heap E4 G (.int .u8 x) (.string ⟨#[]⟩) (.slice none 0 0) (.slice (some ⟨M2, 0, none⟩) 2 2) M1 HNP1.out))
        have HP2 := Lib.hid (cells_bl P2.out (put4_heap E4 G (.int .u8 x) (.string ⟨#[]⟩) (.slice none 0 0) (.slice (some ⟨M2, 0, none⟩) 2 2) M2 HNP2.out))
        have HBXG := Lib.hid (HGE.out.put (.int .u8 x) (.string ⟨#[]⟩) (.slice none 0 0) (.slice (some ⟨M2, 0, none⟩) 2 2))
        have hp1 : M1 < (put4 E4 G (.int .u8 x) (.string ⟨#[]⟩) (.slice none 0 0) (.slice (some ⟨M2, 0, none⟩) 2 2)).heap.size := by rw [put4_size]; exact P1l.out
        have hp2 : M2 < (put4 E4 G (.int .u8 x) (.string ⟨#[]⟩) (.slice none 0 0) (.slice (some ⟨M2, 0, none⟩) 2 2)).heap.size := by rw [put4_size]; exact P2l.out
        generalize put4 E4 G (.int .u8 x) (.string ⟨#[]⟩) (.slice none 0 0) (.slice (some ⟨M2, 0, none⟩) 2 2) = Y9 at *
        refine wpAnyS_done (by kernel_rfl) ?_
        refine Norm.normal ?_
        have HWY := Lib.hid (HW.out.trans (HZF.out.mono HW.out.size))
        have hB9 := HB.out.below HZF.out
        have hC9 := HC.out.below HZF.out
        have hU9 := (HUN.out.below HZF.out (Nat.le_refl _)).mono HZF.out.size
        have c1 := HP1.out
        have c2 := HP2.out
        have hyc := fov_bin (slF_two (f := b) (g := c) (c1 0 _ rfl) (c1 1 _ rfl) (c1 2 _ rfl) (c1 3 _ rfl) (c1 4 _ rfl) (c1 5 _ rfl) (c1 6 _ rfl) (c1 7 _ rfl) hB9.v hC9.v hp1) HYo.out
        have hw2 := fov_bin (slF_two (f := una z a) (g := bin y b c) (c2 0 _ rfl) (c2 1 _ rfl) (c2 2 _ rfl) (c2 3 _ rfl) (c2 4 _ rfl) (c2 5 _ rfl) (c2 6 _ rfl) (c2 7 _ rfl) hU9 hyc hp2) HXo.out
        have HWT := Lib.hid hw2
        clear c1 c2 hyc hw2 hB9 hC9 hU9 hp1 hp2 HP1 HP2 P1 P2 P1l P2l HNP1 HNP2 HGE HGD HZF HZD HD GZ
        have HBY := HB
        have HCY := HC
        have HUY := HUN
        have HFY := HFI
        clear HB HC HUN HFI HW
        obtain ⟨g0, g1, g2, g3, q0, q1, q2, q3, gl⟩ := HBXG.out
        clear q0 q1 q2 q3
        go_wp2_with fail
        clear g0 g1 g2 g3 gl
        have hfo := Lib.hid (form_c S Y9 LS2.out (HRT.out _ HWY.out).1 (HRT.out _ HWY.out).2)
        refine hfo.out.mono ?_
        rintro e V ⟨v, rfl, hv, hb⟩
        clear hfo
        obtain ⟨⟨fo, at0, er⟩, hres⟩ : ∃ r, formRes false (rightB false) S = r := ⟨_, rfl⟩
        rw [hres] at hv ⊢
        have HRS := Lib.hid (hres.symm.trans HRES.out)
        clear hres
        have HW3 := Lib.hid (HWY.out.trans (hb.mono HWY.out.size))
        have HT3 := Lib.hid ((HWT.out.below hb (Nat.le_refl _)).mono hb.size)
        have HG3 := Lib.hid (HBXG.out.heap (hb.block G HBXG.out.lt) (Nat.lt_of_lt_of_le HBXG.out.lt hb.size))
        clear HWY HWT HBXG HBY HCY HUY HFY
        obtain ⟨gz, hgz⟩ : ∃ gz, fo.getD Ps.zeroF = gz := ⟨_, rfl⟩
        have hv : FVal Y9.heap.size V v (fo.getD Ps.zeroF) := hv
        rw [hgz] at hv
        have HGZ := Lib.hid hgz
        have HV := Lib.hid hv
        obtain ⟨a3, k3, a4, k4, rfl, HREST⟩ := hv
        clear hgz HREST hb
        obtain ⟨g0, g1, g2, g3, q0, q1, q2, q3, gl⟩ := HG3.out
        clear q0 q1 q2 q3
        go_wp2_with fail
        have hG := Bx4.new V (.int .u8 gz.op) (.string gz.n) (.slice a3 gz.args.length k3) (.slice a4 gz.sub.length k4) 25
        have hv6 := HV.out
        have hb : Below V.heap.size V (V.alloc (.cells #[.int .u8 gz.op, .string gz.n, .slice a3 gz.args.length k3, .slice a4 gz.sub.length k4] 25)) := (Below.refl _ _).alloc (Nat.le_refl _) _
        have HFG := Lib.hid ((fval_fov hv6).below hb (Nat.le_refl _) |>.mono hb.size)
        obtain ⟨GG, hGA⟩ : ∃ GG, V.heap.size = GG := ⟨_, rfl⟩
        generalize (V.alloc (.cells #[.int .u8 gz.op, .string gz.n, .slice a3 gz.args.length k3, .slice a4 gz.sub.length k4] 25)) = V7 at *
        clear g0 g1 g2 g3 gl
        have HW32 := Lib.hid (HW3.out.trans (hb.mono HW3.out.size))
        have HT32 := Lib.hid ((HT3.out.below hb (Nat.le_refl _)).mono hb.size)
        have HG32 := Lib.hid (HG3.out.heap (hb.block G HG3.out.lt) (Nat.lt_of_lt_of_le HG3.out.lt hb.size))
        clear HW3 HT3 HG3
        have HW3 := HW32
        have HT3 := HT32
        have HG3 := HG32
        clear HW32 HT32 HG32
        rw [hGA] at hG ⊢
        have HBG := Lib.hid hG
        clear hv6 hG hGA HV hb
        have hri := Lib.hid (right_c _ _ _ _ (bin x (una z a) (bin y b c)) V7.heap.size V7 HT3.out (Nat.le_refl _) (HRT.out _ HW3.out).1)
        refine hri.out.mono ?_
        rintro e U ⟨rfl, hb⟩
        clear hri
        have HW32 := Lib.hid (HW3.out.trans (hb.mono HW3.out.size))
        have HT32 := Lib.hid ((HT3.out.below hb (Nat.le_refl _)).mono hb.size)
        have HG32 := Lib.hid (HG3.out.heap (hb.block G HG3.out.lt) (Nat.lt_of_lt_of_le HG3.out.lt hb.size))
        have HBG2 := Lib.hid (HBG.out.heap (hb.block GG HBG.out.lt) (Nat.lt_of_lt_of_le HBG.out.lt hb.size))
        have HFG2 := Lib.hid ((HFG.out.below hb (Nat.le_refl _)).mono hb.size)
        clear HW3 HT3 HG3 HBG HFG
        have HW3 := HW32
        have HT3 := HT32
        have HG3 := HG32
        have HBG := HBG2
        have HFG := HFG2
        clear HW32 HT32 HG32 HBG2 HFG2
        clear hb
        cases hrw : rightB false (bin x (una z a) (bin y b c)) with
        | false =>
          have h2 := HRS.out
          rw [HWA.out, hrw, if_neg (by decide)] at h2
          have h5 := (Prod.mk.inj h2).1
          obtain ⟨h6, h7⟩ := Prod.mk.inj (Prod.mk.inj h2).2
          subst h5 h6 h7
          clear h2 HRS HRES HWA
          go_wp2_with fail
          go_ret
          exact ⟨rfl, HW3.out⟩
        | true =>
          have h2 := HRS.out
          rw [HWA.out, hrw, if_pos rfl] at h2
          have h5 := (Prod.mk.inj h2).1
          obtain ⟨h6, h7⟩ := Prod.mk.inj (Prod.mk.inj h2).2
          subst h5 h6 h7
          have hg : gz = bin x (una z a) (bin y b c) := HGZ.out.symm
          have heq := Lib.hid (eqF_c (SizeOf.sizeOf gz + 1) gz (Nat.lt_succ_self _) (bin x (una z a) (bin y b c)) _ _ _ _ _ _ _ _ U.heap.size U HFG.out HT3.out (Nat.le_refl _))
          rw [← hg, eqF_me gz] at heq
          obtain ⟨g0, g1, g2, g3, q0, q1, q2, q3, gl⟩ := HG3.out
          clear q0 q1 q2 q3
          obtain ⟨d0, d1, d2, d3, q0, q1, q2, q3, dl⟩ := HBG.out
          clear q0 q1 q2 q3 h2 HRS HRES HWA hg hrw
          go_wp2_with fail
          refine heq.out.mono ?_
          rintro e U2 ⟨rfl, hb⟩
          have HW4 := Lib.hid (HW3.out.trans (hb.mono HW3.out.size))
          clear hb
          go_wp2_with fail
          go_ret
          exact ⟨rfl, HW4.out⟩
      | false =>
        have HWA := Lib.hid (show wantF z x y a b c = bin y (bin x (una z a) b) c from if_neg (fun h => h.elim hlt (fun h => by rw [hr] at h; exact absurd h.2 (by decide))))
        have n4 : ((str y : Int) == (str x : Int)) = true := beq_iff_eq.2 (by omega)
        clear hlt heq hr
        generalize str x = sx at *
        generalize str y = sy at *
        go_wp2_with fail
        clear g0 g1 g2 g3 gl n1 n2 n4
        have hfo := Lib.hid (form_c S Y LS2.out (HRT.out _ HWY.out).1 (HRT.out _ HWY.out).2)
        refine hfo.out.mono ?_
        rintro e V ⟨v, rfl, hv, hb⟩
        clear hfo
        obtain ⟨⟨fo, at0, er⟩, hres⟩ : ∃ r, formRes false (rightB false) S = r := ⟨_, rfl⟩
        rw [hres] at hv ⊢
        have HRS := Lib.hid (hres.symm.trans HRES.out)
        clear hres
        have HW3 := Lib.hid (HWY.out.trans (hb.mono HWY.out.size))
        have HT3 := Lib.hid ((HWT.out.below hb (Nat.le_refl _)).mono hb.size)
        have HG3 := Lib.hid (HBXG.out.heap (hb.block G HBXG.out.lt) (Nat.lt_of_lt_of_le HBXG.out.lt hb.size))
        clear HWY HWT HBXG HBY HCY HUY HFY
        obtain ⟨gz, hgz⟩ : ∃ gz, fo.getD Ps.zeroF = gz := ⟨_, rfl⟩
        have hv : FVal Y.heap.size V v (fo.getD Ps.zeroF) := hv
        rw [hgz] at hv
        have HGZ := Lib.hid hgz
        have HV := Lib.hid hv
        obtain ⟨a3, k3, a4, k4, rfl, HREST⟩ := hv
        clear hgz HREST hb
        obtain ⟨g0, g1, g2, g3, q0, q1, q2, q3, gl⟩ := HG3.out
        clear q0 q1 q2 q3
        go_wp2_with fail
        have hG := Bx4.new V (.int .u8 gz.op) (.string gz.n) (.slice a3 gz.args.length k3) (.slice a4 gz.sub.length k4) 25
        have hv6 := HV.out
        have hb : Below V.heap.size V (V.alloc (.cells #[.int .u8 gz.op, .string gz.n, .slice a3 gz.args.length k3, .slice a4 gz.sub.length k4] 25)) := (Below.refl _ _).alloc (Nat.le_refl _) _
        have HFG := Lib.hid ((fval_fov hv6).below hb (Nat.le_refl _) |>.mono hb.size)
        obtain ⟨GG, hGA⟩ : ∃ GG, V.heap.size = GG := ⟨_, rfl⟩
        generalize (V.alloc (.cells #[.int .u8 gz.op, .string gz.n, .slice a3 gz.args.length k3, .slice a4 gz.sub.length k4] 25)) = V7 at *
        clear g0 g1 g2 g3 gl
        have HW32 := Lib.hid (HW3.out.trans (hb.mono HW3.out.size))
        have HT32 := Lib.hid ((HT3.out.below hb (Nat.le_refl _)).mono hb.size)
        have HG32 := Lib.hid (HG3.out.heap (hb.block G HG3.out.lt) (Nat.lt_of_lt_of_le HG3.out.lt hb.size))
        clear HW3 HT3 HG3
        have HW3 := HW32
        have HT3 := HT32
        have HG3 := HG32
        clear HW32 HT32 HG32
        rw [hGA] at hG ⊢
        have HBG := Lib.hid hG
        clear hv6 hG hGA HV hb
        have hri := Lib.hid (right_c _ _ _ _ (bin y (bin x (una z a) b) c) V7.heap.size V7 HT3.out (Nat.le_refl _) (HRT.out _ HW3.out).1)
        refine hri.out.mono ?_
        rintro e U ⟨rfl, hb⟩
        clear hri
        have HW32 := Lib.hid (HW3.out.trans (hb.mono HW3.out.size))
        have HT32 := Lib.hid ((HT3.out.below hb (Nat.le_refl _)).mono hb.size)
        have HG32 := Lib.hid (HG3.out.heap (hb.block G HG3.out.lt) (Nat.lt_of_lt_of_le HG3.out.lt hb.size))
        have HBG2 := Lib.hid (HBG.out.heap (hb.block GG HBG.out.lt) (Nat.lt_of_lt_of_le HBG.out.lt hb.size))
        have HFG2 := Lib.hid ((HFG.out.below hb (Nat.le_refl _)).mono hb.size)
        clear HW3 HT3 HG3 HBG HFG
        have HW3 := HW32
        have HT3 := HT32
        have HG3 := HG32
        have HBG := HBG2
        have HFG := HFG2
        clear HW32 HT32 HG32 HBG2 HFG2
        clear hb
        cases hrw : rightB false (bin y (bin x (una z a) b) c) with
        | false =>
          have h2 := HRS.out
          rw [HWA.out, hrw, if_neg (by decide)] at h2
          have h5 := (Prod.mk.inj h2).1
          obtain ⟨h6, h7⟩ := Prod.mk.inj (Prod.mk.inj h2).2
          subst h5 h6 h7
          clear h2 HRS HRES HWA
          go_wp2_with fail
          go_ret
          exact ⟨rfl, HW3.out⟩
        | true =>
          have h2 := HRS.out
          rw [HWA.out, hrw, if_pos rfl] at h2
          have h5 := (Prod.mk.inj h2).1
          obtain ⟨h6, h7⟩ := Prod.mk.inj (Prod.mk.inj h2).2
          subst h5 h6 h7
          have hg : gz = bin y (bin x (una z a) b) c := HGZ.out.symm
          have heq := Lib.hid (eqF_c (SizeOf.sizeOf gz + 1) gz (Nat.lt_succ_self _) (bin y (bin x (una z a) b) c) _ _ _ _ _ _ _ _ U.heap.size U HFG.out HT3.out (Nat.le_refl _))
          rw [← hg, eqF_me gz] at heq
          obtain ⟨g0, g1, g2, g3, q0, q1, q2, q3, gl⟩ := HG3.out
          clear q0 q1 q2 q3
          obtain ⟨d0, d1, d2, d3, q0, q1, q2, q3, dl⟩ := HBG.out
          clear q0 q1 q2 q3 h2 HRS HRES HWA hg hrw
          go_wp2_with fail
          refine heq.out.mono ?_
          rintro e U2 ⟨rfl, hb⟩
          have HW4 := Lib.hid (HW3.out.trans (hb.mono HW3.out.size))
          clear hb
          go_wp2_with fail
          go_ret
          exact ⟨rfl, HW4.out⟩
    · have HWA := Lib.hid (show wantF z x y a b c = bin y (bin x (una z a) b) c from if_neg (fun h => h.elim hlt (fun h => heq h.1)))
      have n4 : ((str y : Int) == (str x : Int)) = false := beq_eq_false_iff_ne.2 (by omega)
      clear hlt heq
      generalize str x = sx at *
      generalize str y = sy at *
      go_wp2_with fail
      clear g0 g1 g2 g3 gl n1 n2 n4
      have hfo := Lib.hid (form_c S Y LS2.out (HRT.out _ HWY.out).1 (HRT.out _ HWY.out).2)
      refine hfo.out.mono ?_
      rintro e V ⟨v, rfl, hv, hb⟩
      clear hfo
      obtain ⟨⟨fo, at0, er⟩, hres⟩ : ∃ r, formRes false (rightB false) S = r := ⟨_, rfl⟩
      rw [hres] at hv ⊢
      have HRS := Lib.hid (hres.symm.trans HRES.out)
      clear hres
      have HW3 := Lib.hid (HWY.out.trans (hb.mono HWY.out.size))
      have HT3 := Lib.hid ((HWT.out.below hb (Nat.le_refl _)).mono hb.size)
      have HG3 := Lib.hid (HBXG.out.heap (hb.block G HBXG.out.lt) (Nat.lt_of_lt_of_le HBXG.out.lt hb.size))
      clear HWY HWT HBXG HBY HCY HUY HFY
      obtain ⟨gz, hgz⟩ : ∃ gz, fo.getD Ps.zeroF = gz := ⟨_, rfl⟩
      have hv : FVal Y.heap.size V v (fo.getD Ps.zeroF) := hv
      rw [hgz] at hv
      have HGZ := Lib.hid hgz
      have HV := Lib.hid hv
      obtain ⟨a3, k3, a4, k4, rfl, HREST⟩ := hv
      clear hgz HREST hb
      obtain ⟨g0, g1, g2, g3, q0, q1, q2, q3, gl⟩ := HG3.out
      clear q0 q1 q2 q3
      go_wp2_with fail
      have hG := Bx4.new V (.int .u8 gz.op) (.string gz.n) (.slice a3 gz.args.length k3) (.slice a4 gz.sub.length k4) 25
      have hv6 := HV.out
      have hb : Below V.heap.size V (V.alloc (.cells #[.int .u8 gz.op, .string gz.n, .slice a3 gz.args.length k3, .slice a4 gz.sub.length k4] 25)) := (Below.refl _ _).alloc (Nat.le_refl _) _
      have HFG := Lib.hid ((fval_fov hv6).below hb (Nat.le_refl _) |>.mono hb.size)
      obtain ⟨GG, hGA⟩ : ∃ GG, V.heap.size = GG := ⟨_, rfl⟩
      generalize (V.alloc (.cells #[.int .u8 gz.op, .string gz.n, .slice a3 gz.args.length k3, .slice a4 gz.sub.length k4] 25)) = V7 at *
      clear g0 g1 g2 g3 gl
      have HW32 := Lib.hid (HW3.out.trans (hb.mono HW3.out.size))
      have HT32 := Lib.hid ((HT3.out.below hb (Nat.le_refl _)).mono hb.size)
      have HG32 := Lib.hid (HG3.out.heap (hb.block G HG3.out.lt) (Nat.lt_of_lt_of_le HG3.out.lt hb.size))
      clear HW3 HT3 HG3
      have HW3 := HW32
      have HT3 := HT32
      have HG3 := HG32
      clear HW32 HT32 HG32
      rw [hGA] at hG ⊢
      have HBG := Lib.hid hG
      clear hv6 hG hGA HV hb
      have hri := Lib.hid (right_c _ _ _ _ (bin y (bin x (una z a) b) c) V7.heap.size V7 HT3.out (Nat.le_refl _) (HRT.out _ HW3.out).1)
      refine hri.out.mono ?_
      rintro e U ⟨rfl, hb⟩
      clear hri
      have HW32 := Lib.hid (HW3.out.trans (hb.mono HW3.out.size))
      have HT32 := Lib.hid ((HT3.out.below hb (Nat.le_refl _)).mono hb.size)
      have HG32 := Lib.hid (HG3.out.heap (hb.block G HG3.out.lt) (Nat.lt_of_lt_of_le HG3.out.lt hb.size))
      have HBG2 := Lib.hid (HBG.out.heap (hb.block GG HBG.out.lt) (Nat.lt_of_lt_of_le HBG.out.lt hb.size))
      have HFG2 := Lib.hid ((HFG.out.below hb (Nat.le_refl _)).mono hb.size)
      clear HW3 HT3 HG3 HBG HFG
      have HW3 := HW32
      have HT3 := HT32
      have HG3 := HG32
      have HBG := HBG2
      have HFG := HFG2
      clear HW32 HT32 HG32 HBG2 HFG2
      clear hb
      cases hrw : rightB false (bin y (bin x (una z a) b) c) with
      | false =>
        have h2 := HRS.out
        rw [HWA.out, hrw, if_neg (by decide)] at h2
        have h5 := (Prod.mk.inj h2).1
        obtain ⟨h6, h7⟩ := Prod.mk.inj (Prod.mk.inj h2).2
        subst h5 h6 h7
        clear h2 HRS HRES HWA
        go_wp2_with fail
        go_ret
        exact ⟨rfl, HW3.out⟩
      | true =>
        have h2 := HRS.out
        rw [HWA.out, hrw, if_pos rfl] at h2
        have h5 := (Prod.mk.inj h2).1
        obtain ⟨h6, h7⟩ := Prod.mk.inj (Prod.mk.inj h2).2
        subst h5 h6 h7
        have hg : gz = bin y (bin x (una z a) b) c := HGZ.out.symm
        have heq := Lib.hid (eqF_c (SizeOf.sizeOf gz + 1) gz (Nat.lt_succ_self _) (bin y (bin x (una z a) b) c) _ _ _ _ _ _ _ _ U.heap.size U HFG.out HT3.out (Nat.le_refl _))
        rw [← hg, eqF_me gz] at heq
        obtain ⟨g0, g1, g2, g3, q0, q1, q2, q3, gl⟩ := HG3.out
        clear q0 q1 q2 q3
        obtain ⟨d0, d1, d2, d3, q0, q1, q2, q3, dl⟩ := HBG.out
        clear q0 q1 q2 q3 h2 HRS HRES HWA hg hrw
        go_wp2_with fail
        refine heq.out.mono ?_
        rintro e U2 ⟨rfl, hb⟩
        have HW4 := Lib.hid (HW3.out.trans (hb.mono HW3.out.size))
        clear hb
        go_wp2_with fail
        go_ret
        exact ⟨rfl, HW4.out⟩
end Go.Proofs.YtkeckecdhcknhaaDoor.Ft
