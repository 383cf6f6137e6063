/-
  How long the texts are.
-/
import Derived.Test.YtdapnjnmhkdnpaaDoorMgText
namespace Go.Proofs.YtdapnjnmhkdnpaaDoor.Ft
open Go Go.RowKit Go.Proofs.YtdapnjnmhkdnpaaDoor.Fm Go.Proofs.YtdapnjnmhkdnpaaDoor.Lx Go.Proofs.YtdapnjnmhkdnpaaDoor.Ps
set_option linter.unusedVariables false
set_option linter.unusedSimpArgs false
theorem ba_len (t : ByteArray) : t.data.toList.length = t.size := rfl
theorem var_le {s : ByteArray} (h : varB s = true) : s.size ≤ 16 := (names_head h).1
theorem fn_le {s : ByteArray} (h : fnB s = true) : s.size ≤ 16 := (names_head (fn_names h)).1
theorem pred_le {s : ByteArray} (h : predB s = true) : s.size ≤ 16 := (names_head h).1
theorem met_le {s : ByteArray} (h : metB s = true) : s.size ≤ 16 := (met_head h).1
theorem CmOk.le {c : Pc} (h : CmOk c) : (byP c).length ≤ 1 := by rcases h with rfl | rfl <;> decide
theorem all_len (t : Tm) (lv : Int) : (t.all lv).length = 1 + ((t.args.map fun a => (a.all (wrap64 (lv + 1))).length)).sum := by
  rw [Tm.all_eq, List.length_cons, List.length_flatMap]; omega
mutual
theorem tm_len (m : Bool) (c : Pc) (hc : CmOk c) : ∀ (t : Tm) (lv : Int), t.right m = true → (byP (tmP c t)).length + 2 ≤ 20 * (t.all lv).length
  | .mk true n l, lv, h => by
    obtain ⟨rfl, hv⟩ := right_var h
    have : n.size ≤ 16 := by
      rw [Bool.or_eq_true] at hv
      rcases hv with hv | hv
      · exact var_le hv
      · exact met_le (mt_met hv)
    rw [tmP, tmPA, byP_some, byP_nil, List.append_nil, ba_len, all_len]
    omega
  | .mk false n l, lv, h => by
    obtain ⟨hf, h4, hl⟩ := right_fn h
    have h1 := fn_le hf
    have h2 := tma_len m c hc l (wrap64 (lv + 1)) hl
    rw [tmP, byP_some, List.length_append, ba_len, all_len]
    simp only [Tm.args]
    omega
theorem tma_len (m : Bool) (c : Pc) (hc : CmOk c) : ∀ (l : List Tm) (lv : Int), (∀ a ∈ l, a.right m = true) → (byP (tmPA c l)).length ≤ 2 + 20 * (l.map fun a => (a.all lv).length).sum
  | [], lv, h => by rw [tmPA]; simp
  | a :: l, lv, h => by
    have h1 := tm_len m c hc a lv (h a (List.mem_cons_self ..))
    have h2 := tmr_len m c hc l lv fun b hb => h b (List.mem_cons_of_mem _ hb)
    rw [tmPA, byP_some, byP_app, byP_app, byP_some, byP_nil, List.map_cons, List.sum_cons]
    simp only [List.length_append, ba_len, List.length_nil, List.length_cons]
    have e1 : (⟨#[40]⟩ : ByteArray).size = 1 := rfl
    have e2 : (⟨#[41]⟩ : ByteArray).size = 1 := rfl
    omega
theorem tmr_len (m : Bool) (c : Pc) (hc : CmOk c) : ∀ (l : List Tm) (lv : Int), (∀ a ∈ l, a.right m = true) → (byP (tmPR c l)).length ≤ 20 * (l.map fun a => (a.all lv).length).sum
  | [], lv, h => by rw [tmPR]; simp
  | a :: l, lv, h => by
    have h1 := tm_len m c hc a lv (h a (List.mem_cons_self ..))
    have h2 := tmr_len m c hc l lv fun b hb => h b (List.mem_cons_of_mem _ hb)
    have h3 := hc.le
    rw [tmPR, byP_some, byP_app, byP_app, List.map_cons, List.sum_cons]
    simp only [List.length_append, ba_len, List.length_nil, List.length_cons]
    have e1 : (⟨#[44]⟩ : ByteArray).size = 1 := rfl
    omega
end
/-- The nodes of a formula, terms too. -/
def NF (lv : Int) (f : Fo) : Nat := (f.all lv).length + ((f.all lv).flatMap termsOf).length
theorem termsOf_len (lv : Int) (f : Fo) : (termsOf (lv, f)).length = (f.args.map fun a => (a.all (wrap64 (lv + 1))).length).sum := by
  unfold termsOf; rw [List.length_flatMap]
theorem NF_eq (lv : Int) (f : Fo) : NF lv f = 1 + (f.args.map fun a => (a.all (wrap64 (lv + 1))).length).sum + (f.sub.map fun g => NF (wrap64 (lv + 1)) g).sum := by
  unfold NF
  rw [Fo.all_eq, List.length_cons, List.flatMap_cons, List.length_append, termsOf_len, List.length_flatMap, List.flatMap_assoc, List.length_flatMap]
  have : ∀ l : List Fo, (l.map fun g => (g.all (wrap64 (lv + 1))).length).sum + (l.map fun g => ((g.all (wrap64 (lv + 1))).flatMap termsOf).length).sum = (l.map fun g => (g.all (wrap64 (lv + 1))).length + ((g.all (wrap64 (lv + 1))).flatMap termsOf).length).sum := by
    intro l
    induction l with
    | nil => rfl
    | cons a l ih => simp only [List.map_cons, List.sum_cons]; omega
  have := this f.sub
  omega
theorem NF_pos (lv : Int) (f : Fo) : 1 ≤ NF lv f := by rw [NF_eq]; omega
theorem par_len (b : Bool) (p : Pc) : (byP (par b p)).length ≤ (byP p).length + 2 := by
  cases b with
  | false => show (byP p).length ≤ _; omega
  | true =>
    show (byP (some ⟨#[40]⟩ :: (p ++ [some ⟨#[41]⟩]))).length ≤ _
    rw [byP_some, byP_app, byP_some, byP_nil]
    simp only [List.length_append, ba_len, List.length_nil, List.length_cons]
    have e1 : (⟨#[40]⟩ : ByteArray).size = 1 := rfl
    have e2 : (⟨#[41]⟩ : ByteArray).size = 1 := rfl
    omega
theorem ite_le {c : Prop} [Decidable c] {a b : ByteArray} {n : Nat} (ha : a.size ≤ n) (hb : b.size ≤ n) : (if c then a else b).size ≤ n := by split <;> assumption
theorem sg_le (o : Int) : (sgW o).size ≤ 6 := by
  unfold sgW
  repeat (refine ite_le (by decide) ?_)
  decide
theorem all_pos (t : Tm) (lv : Int) : 1 ≤ (t.all lv).length := by rw [all_len]; omega
theorem ahead_len (s : Sty) (o : Int) (n : ByteArray) (h : n.size ≤ 16) : (byP (aheadP s o n)).length ≤ 24 := by
  have := sg_le o
  unfold aheadP
  rw [byP_some, byP_app]
  simp only [List.length_append, ba_len]
  have h1 : (byP (if s.sp o = true then [none] else [])).length ≤ 1 := by split <;> decide
  have h2 : (byP (if n.size = 0 then [] else [some n, none])).length ≤ 17 := by
    split
    · decide
    · rw [byP_some, List.length_append, ba_len]
      show n.size + 1 ≤ 17
      omega
  omega
theorem fo_len (m : Bool) (s : Sty) (hc : CmOk s.c) (br : Fo → Nat → Bool) (N : Nat) : ∀ (f : Fo), SizeOf.sizeOf f < N → ∀ (lv : Int), FoK m lv f → 1 ≤ lv → (byP (foP s br f)).length + 2 ≤ 29 * NF lv f := by
  induction N with
  | zero => exact fun f h => absurd h (Nat.not_lt_zero _)
  | succ N ih =>
    intro f hN lv hk h1
    have hsh := hk.shape
    have hl := hk.head.2.2.1
    have hwr : wrap64 (lv + 1) = lv + 1 := wrap_id (by omega) (by omega)
    have hsub : ∀ g, g ∈ f.sub → (byP (foP s br g)).length + 2 ≤ 29 * NF (wrap64 (lv + 1)) g := by
      intro g hg
      have hlt : SizeOf.sizeOf g < SizeOf.sizeOf f := by
        obtain ⟨o, n, a, ss⟩ := f
        have : SizeOf.sizeOf g < SizeOf.sizeOf ss := List.sizeOf_lt_of_mem hg
        simp only [Fo.mk.sizeOf_spec]; omega
      rw [hwr]
      exact ih g (by omega) (lv + 1) (hk.sub h1 hg) (by omega)
    have hun : ∀ o n g, f = .mk o n [] [g] → n.size ≤ 16 → (byP (foP s br (.mk o n [] [g]))).length + 2 ≤ 29 * NF lv (.mk o n [] [g]) := by
      rintro o n g rfl hn
      have h2 := hsub g (List.mem_cons_self ..)
      have h3 := ahead_len s o n hn
      have h4 := par_len (br (.mk o n [] [g]) 0) (foP s br g)
      show (byP (aheadP s o n ++ par (br (.mk o n [] [g]) 0) (foP s br g))).length + 2 ≤ _
      rw [byP_app, List.length_append, NF_eq]
      simp only [Fo.args, Fo.sub, List.map_cons, List.map_nil, List.sum_cons, List.sum_nil]
      omega
    rw [show f = f from rfl]
    cases hsh with
    | @ato n a hp h4 ha =>
      have h2 := tma_len m s.c hc a (wrap64 (lv + 1)) ha
      have h3 := pred_le hp
      show (byP (some n :: tmPA s.c a)).length + 2 ≤ _
      rw [byP_some, List.length_append, ba_len, NF_eq]
      simp only [Fo.args, Fo.sub, List.map_nil, List.sum_nil]
      omega
    | fal =>
      have := NF_pos lv (.mk 2 ⟨#[]⟩ [] [])
      show (5 : Nat) + 2 ≤ _
      omega
    | @met n hm hn =>
      have := NF_pos lv (.mk 15 n [] [])
      have h3 := met_le (mf_met hn)
      show (byP (some n :: tmPA s.c [])).length + 2 ≤ _
      rw [tmPA, byP_some, byP_nil, List.append_nil, ba_len]
      omega
    | @ins n t x hm hn ht hx =>
      have h1 := met_le (mf_met hn)
      have h2 := met_le (mt_met ht)
      have h3 := var_le hx
      show (byP [some n, some ⟨#[91]⟩, some t, some ⟨#[47]⟩, some x, some ⟨#[93]⟩]).length + 2 ≤ _
      simp only [byP_some, byP_nil, List.length_append, ba_len, List.length_nil]
      have e1 : (⟨#[91]⟩ : ByteArray).size = 1 := rfl
      have e2 : (⟨#[47]⟩ : ByteArray).size = 1 := rfl
      have e3 : (⟨#[93]⟩ : ByteArray).size = 1 := rfl
      have p1 := all_pos (.mk true x []) (wrap64 (lv + 1))
      have p2 := all_pos (.mk true t []) (wrap64 (lv + 1))
      rw [NF_eq]
      simp only [Fo.args, Fo.sub, List.map_cons, List.map_nil, List.sum_cons, List.sum_nil, List.length_cons, List.length_nil]
      omega
    | @qua o n g ho hn => exact hun o n g rfl (var_le hn)
    | @una o g ho => exact hun o _ g rfl (by decide)
    | @bin o g h ho =>
      have h1 := hsub g (List.mem_cons_self ..)
      have h2 := hsub h (List.mem_cons_of_mem _ (List.mem_cons_self ..))
      have h3 := sg_le o
      have h4 := par_len (br (.mk o ⟨#[]⟩ [] [g, h]) 0) (foP s br g)
      have h5 := par_len (br (.mk o ⟨#[]⟩ [] [g, h]) 1) (foP s br h)
      show (byP (par (br (.mk o ⟨#[]⟩ [] [g, h]) 0) (foP s br g) ++ (none :: some (sgW o) :: none :: par (br (.mk o ⟨#[]⟩ [] [g, h]) 1) (foP s br h)))).length + 2 ≤ _
      rw [byP_app, byP_none, byP_some, byP_none, NF_eq]
      simp only [List.length_append, List.length_cons, ba_len, Fo.args, Fo.sub, List.map_cons, List.map_nil, List.sum_cons, List.sum_nil]
      omega
theorem right_len {m : Bool} {f : Fo} (h : rightB m f = true) (ho : OpsOk f) (s : Sty) (hc : CmOk s.c) (br : Fo → Nat → Bool) : (byP (foP s br f)).length + 2 ≤ 11600 := by
  have h1 := fo_len m s hc br _ f (Nat.lt_succ_self _) 1 (fok_right h ho) (Int.le_refl _)
  have h2 : NF 1 f ≤ 400 := by
    unfold rightB fitsB levelsL at h
    rw [Bool.and_eq_true, Bool.and_eq_true] at h
    have := of_decide_eq_true h.1.1
    rw [List.length_append, List.length_map, List.length_map] at this
    unfold NF
    unfold termsL at this
    omega
  omega
end Go.Proofs.YtdapnjnmhkdnpaaDoor.Ft
