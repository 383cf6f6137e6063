/-
  Several texts in one: PsOnlyT, FtRead, FtWritten, FmSize, PsEqMe, PsWritten.
-/
import Derived.Test.YtkeckecdhcknhaaDoorMgLoc
import Derived.Test.YtkeckecdhcknhaaDoorMgGram
import Derived.Test.YtkeckecdhcknhaaDoorMgApi
import Derived.Test.YtkeckecdhcknhaaDoorFmRight
import Derived.Test.YtkeckecdhcknhaaDoorMgEx

/-
  A text without metavariables is the same formula as a schema: plain mathematics.
-/
namespace Go.Proofs.YtkeckecdhcknhaaDoor.Ps
open Go Go.RowKit Go.Proofs.YtkeckecdhcknhaaDoor.Fm Go.Proofs.YtkeckecdhcknhaaDoor.Lx
set_option linter.unusedVariables false
set_option linter.unusedSimpArgs false
/-- The same of two ways to read. -/
theorem locate2 (m m' : Bool) (ts : List Tg) (hE : Ended m ts) :
    (∃ f i, i < ts.length ∧ binC m 0 0 ts = .ok f (ts.drop i) ∧ ∀ ts2, AgrN m m' (i + 1) ts ts2 → binC m' 0 0 ts2 = .ok f (ts2.drop i)) ∨
    (∃ i e, i < ts.length ∧ (e = 50 ∨ e = 51) ∧ binC m 0 0 ts = bad (ts.drop i) e ∧ ∀ ts2, AgrN m m' (i + 1) ts ts2 → binC m' 0 0 ts2 = bad (ts2.drop i) e) := by
  have hre := re_bin (phi ts) (phi_zero ts) m 0 0 (ixF 0 ts)
  rw [re_ixF ts 0 ts rfl] at hre
  have hinv : InvR (fun r => ∃ i, i < ts.length ∧ r = (ixF 0 ts).drop i) (binC m 0 0 (ixF 0 ts)) := by
    refine inv_bin (m := m) (fun r ⟨i, hi, e⟩ ha => ⟨i + 1, hE.2 i hi ?_, by rw [e, List.drop_drop]⟩) 0 0 _ ⟨0, List.length_pos_iff.2 hE.1, rfl⟩ (by omega)
    rw [e, ixF_drop, ixF_tx] at ha
    exact ha
  have hag : ∀ k ts2, AgrN m m' k ts ts2 → AgrN m m' k (ixF 0 ts) ts2 := fun k ts2 h i hi => by
    rw [ixF_drop, ixF_tx]
    exact h i hi
  cases hx : binC m 0 0 (ixF 0 ts) with
  | ok f r =>
    obtain ⟨i, hi, e⟩ := hinv.1 f r hx
    refine .inl ⟨f, i, hi, ?_, fun ts2 h2 => ?_⟩
    · rw [hre, hx]
      show R.ok f (re (phi ts) r) = _
      rw [e, ← re_drop, re_ixF ts 0 ts rfl]
    · rcases sim_bin 0 0 (i + 1) (ixF 0 ts) ts2 (hag _ _ h2) (by omega) with ⟨a, j, hj, e1, e2⟩ | ⟨j, e', hj, e1, e2⟩ | ⟨f1, _⟩
      · rw [hx] at e1
        injection e1 with e1 e3
        subst e1
        have := congrArg List.length (e.symm.trans e3)
        rw [List.length_drop, List.length_drop, ixF_len] at this
        obtain rfl : j = i := by omega
        exact e2
      · rw [hx] at e1; cases e1
      · obtain ⟨q, hq, e3⟩ := f1.1 f r hx
        have := congrArg List.length (e.symm.trans e3)
        rw [List.length_drop, List.length_drop, ixF_len] at this
        omega
  | er a e =>
    obtain ⟨r, ⟨i, hi, er⟩, ha, he⟩ := hinv.2 a e hx
    have ha' : a = ((i + 1 : Nat) : Int) := by rw [ha, er, ixF_hd 0 i ts hi, Nat.zero_add]
    refine .inr ⟨i, e, hi, he, ?_, fun ts2 h2 => ?_⟩
    · rw [hre, hx]
      show R.er (phi ts a) e = R.er (hd (ts.drop i)).a e
      rw [ha']
      unfold phi
      rw [if_neg (by omega), show (((i + 1 : Nat) : Int) - 1).toNat = i by omega]
    · rcases sim_bin 0 0 (i + 1) (ixF 0 ts) ts2 (hag _ _ h2) (by omega) with ⟨b, j, hj, e1, e2⟩ | ⟨j, e', hj, e1, e2⟩ | ⟨f1, _⟩
      · rw [hx] at e1; cases e1
      · rw [hx] at e1
        have e1 : R.er a e = R.er (hd ((ixF 0 ts).drop j)).a e' := e1
        obtain ⟨e4, e3⟩ := R.er.inj e1
        have e5 := ixF_hd 0 j ts (by omega)
        rw [← e4, ha'] at e5
        obtain rfl : j = i := by omega
        rw [e3]
        exact e2
      · obtain ⟨r', ⟨q, hq, e3⟩, e4, _⟩ := f1.2 a e hx
        rw [ha', e3] at e4
        by_cases hql : q < ts.length
        · rw [ixF_hd 0 q ts hql] at e4; omega
        · rw [List.drop_eq_nil_iff.2 (by rw [ixF_len]; omega)] at e4
          have e4 : ((i + 1 : Nat) : Int) = 0 := e4
          omega
def VT (x : R Tm) : Prop := ∀ t r, x = .ok t r → t.right false = t.right true
def VTs (x : R (List Tm)) : Prop := ∀ l r, x = .ok l r → ∀ t ∈ l, t.right false = t.right true
theorem all_same {l : List Tm} (h : ∀ t ∈ l, t.right false = t.right true) : (l.all fun t => t.right false) = l.all fun t => t.right true := by
  induction l with
  | nil => rfl
  | cons t r ih => rw [List.all_cons, List.all_cons, h t (List.mem_cons_self ..), ih fun u hu => h u (List.mem_cons_of_mem _ hu)]
theorem bind_ok {α β : Type} {x : R α} {f : α → List Tg → R β} {b : β} {r : List Tg} (h : x.bind f = .ok b r) : ∃ a r', x = .ok a r' ∧ f a r' = .ok b r := by
  cases x with
  | ok a r' => exact ⟨a, r', rfl, h⟩
  | er a e => cases h
theorem nm_terms : ∀ k, (∀ n ts, VT (termF false k n ts)) ∧ (∀ n ts, VTs (argsF false k n ts)) ∧ (∀ n ts, VTs (listF false k n ts)) ∧ ∀ n l ts, (∀ t ∈ l, t.right false = t.right true) → VTs (moreF false k n l ts)
  | 0 => by
    refine ⟨fun _ _ t r h => ?_, fun _ _ t r h => ?_, fun _ _ t r h => ?_, fun _ _ _ _ t r h => ?_⟩
    · unfold termF at h; cases h
    · unfold argsF at h; cases h
    · unfold listF at h; cases h
    · unfold moreF at h; cases h
  | k + 1 => by
    obtain ⟨h1, h2, h3, h4⟩ := nm_terms k
    refine ⟨fun n ts t r h => ?_, fun n ts l r h => ?_, fun n ts l r h => ?_, fun n l ts hl l' r h => ?_⟩
    · unfold termF at h
      split at h
      · cases h
      split at h
      · next _ hv =>
        injection h with h _
        subst h
        have hv : varB (tx ts) = true := by
          rw [Bool.or_eq_true] at hv
          rcases hv with hv | hv
          · exact hv
          · unfold mtB at hv; simp at hv
        have : varT (.mk true (tx ts) []) = true := by unfold varT; simp [Tm.v, Tm.args, Tm.n, hv]
        rw [Tm.right_eq, Tm.right_eq, this]
        simp [Tm.v]
      split at h
      · obtain ⟨l, r', hx, h⟩ := bind_ok h
        injection h with h _
        subst h
        rw [Tm.right_eq, Tm.right_eq]
        simp only [Tm.v, Tm.args, Tm.n, Bool.false_eq_true, if_false]
        rw [all_same (h2 n (ts.drop 1) l r' hx)]
      · cases h
    · unfold argsF at h
      split at h
      · obtain ⟨l2, r', hx, h⟩ := bind_ok h
        split at h
        · injection h with h _
          subst h
          exact h3 _ _ _ _ hx
        · cases h
      · injection h with h _
        subst h
        intro t ht; cases ht
    · unfold listF at h
      obtain ⟨t, r', hx, h⟩ := bind_ok h
      exact h4 n [t] r' (fun u hu => by rw [List.mem_singleton.1 hu]; exact h1 n ts t r' hx) l r h
    · unfold moreF at h
      split at h
      · obtain ⟨t, r', hx, h⟩ := bind_ok h
        refine h4 n (l ++ [t]) r' (fun u hu => ?_) l' r h
        rcases List.mem_append.1 hu with hu | hu
        · exact hl u hu
        · rw [List.mem_singleton.1 hu]; exact h1 n (ts.drop 1) t r' hx
      · injection h with h _
        subst h
        exact hl
inductive Nm : Fo → Prop where
  | mk (o : Int) (n : ByteArray) (l : List Tm) (s : List Fo) (h1 : o ≠ 15) (h2 : o ≠ 16) (h3 : ∀ t ∈ l, t.right false = t.right true) (h4 : ∀ g ∈ s, Nm g) : Nm (.mk o n l s)
def VF (x : R Fo) : Prop := ∀ f r, x = .ok f r → Nm f
theorem unOp_cases (s : ByteArray) : unOp s = 0 ∨ unOp s = 3 ∨ (8 ≤ unOp s ∧ unOp s ≤ 13) := by
  unfold unOp
  repeat' split
  all_goals omega
theorem lvO_cases (i : Nat) : 4 ≤ lvO i ∧ lvO i ≤ 14 := by
  unfold lvO
  split <;> omega
theorem nm_two (i : Nat) {f g : Fo} (hf : Nm f) (hg : Nm g) : Nm (two (lvO i) f g) := by
  have := lvO_cases i
  refine .mk _ _ _ _ (by omega) (by omega) (fun t ht => by cases ht) fun x hx => ?_
  rcases List.mem_cons.1 hx with rfl | hx
  · exact hf
  · rw [List.mem_singleton.1 hx]; exact hg
theorem nm_one (s n : ByteArray) {g : Fo} (h : unOp s ≠ 0) (hg : Nm g) : Nm (.mk (unOp s) n [] [g]) := by
  have := unOp_cases s
  refine .mk _ _ _ _ (by omega) (by omega) (fun t ht => by cases ht) fun x hx => ?_
  rw [List.mem_singleton.1 hx]; exact hg
theorem nm_forms : ∀ k, (∀ i n ts, VF (binF false k i n ts)) ∧ (∀ i n f ts, Nm f → VF (chF false k i n f ts)) ∧ (∀ n ts, VF (unF false k n ts)) ∧ ∀ n ts, VF (basF false k n ts)
  | 0 => by
    refine ⟨fun _ _ _ f r h => ?_, fun _ _ _ _ _ f r h => ?_, fun _ _ f r h => ?_, fun _ _ f r h => ?_⟩
    · unfold binF at h; cases h
    · unfold chF at h; cases h
    · unfold unF at h; cases h
    · unfold basF at h; cases h
  | k + 1 => by
    obtain ⟨h1, h2, h3, h4⟩ := nm_forms k
    refine ⟨fun i n ts f r h => ?_, fun i n f ts hf g r h => ?_, fun n ts f r h => ?_, fun n ts f r h => ?_⟩
    · unfold binF at h
      split at h
      · exact h3 n ts f r h
      obtain ⟨g, r', hx, h⟩ := bind_ok h
      have hg := h1 _ _ _ _ _ hx
      split at h
      · split at h
        · obtain ⟨g2, r2, hx2, h⟩ := bind_ok h
          injection h with h _
          subst h
          exact nm_two i hg (h1 _ _ _ _ _ hx2)
        · injection h with h _
          subst h
          exact hg
      · exact h2 i n g r' hg f r h
    · unfold chF at h
      split at h
      · obtain ⟨g2, r', hx, h⟩ := bind_ok h
        exact h2 i n _ r' (nm_two i hf (h1 _ _ _ _ _ hx)) g r h
      · injection h with h _
        subst h
        exact hf
    · unfold unF at h
      split at h
      · cases h
      split at h
      · exact h4 n ts f r h
      next ho =>
      split at h
      · split at h
        · obtain ⟨g, r', hx, h⟩ := bind_ok h
          injection h with h _
          subst h
          exact nm_one _ _ ho (h3 _ _ _ _ hx)
        · cases h
      · obtain ⟨g, r', hx, h⟩ := bind_ok h
        injection h with h _
        subst h
        exact nm_one _ _ ho (h3 _ _ _ _ hx)
    · unfold basF at h
      split at h
      · obtain ⟨g, r', hx, h⟩ := bind_ok h
        split at h
        · injection h with h _
          subst h
          exact h1 _ _ _ _ _ hx
        · cases h
      split at h
      · injection h with h _
        subst h
        exact .mk _ _ _ _ (by decide) (by decide) (fun t ht => by cases ht) fun x hx => by cases hx
      split at h
      · next hm => unfold mfB at hm; simp at hm
      split at h
      · obtain ⟨l, r', hx, h⟩ := bind_ok h
        injection h with h _
        subst h
        exact .mk _ _ _ _ (by decide) (by decide) (fun t ht => (nm_terms _).2.1 n (ts.drop 1) l r' hx t ht) fun x hx => by cases hx
      · cases h
theorem row_plain (o : Int) (h1 : o ≠ 15) (h2 : o ≠ 16) : (rowOf o).schema = false := by
  unfold rowOf
  have e : o.toNat ≠ 15 ∧ o.toNat ≠ 16 := by omega
  generalize o.toNat = k at e
  by_cases hk : k < 17
  · have : k = 0 ∨ k = 1 ∨ k = 2 ∨ k = 3 ∨ k = 4 ∨ k = 5 ∨ k = 6 ∨ k = 7 ∨ k = 8 ∨ k = 9 ∨ k = 10 ∨ k = 11 ∨ k = 12 ∨ k = 13 ∨ k = 14 := by omega
    rcases this with rfl | rfl | rfl | rfl | rfl | rfl | rfl | rfl | rfl | rfl | rfl | rfl | rfl | rfl | rfl <;> rfl
  · rw [List.getElem?_eq_none (by show 17 ≤ k; omega)]; rfl
theorem nm_sat {f : Fo} (h : Nm f) : ∀ lv, ∀ x ∈ f.all lv, satB false x.2 = satB true x.2 := by
  induction h with
  | mk o n l s h1 h2 h3 _ ih =>
    intro lv x hx
    rw [Fo.all_eq] at hx
    rcases List.mem_cons.1 hx with rfl | hx
    · have e1 : headB false (.mk o n l s) = headB true (.mk o n l s) := by
        unfold headB
        rw [show (rowOf (Fo.mk o n l s).op).schema = false from row_plain o h1 h2]
        rfl
      have e2 : tailB false (.mk o n l s) = tailB true (.mk o n l s) := by
        unfold tailB
        rw [if_neg (show (Fo.mk o n l s).op ≠ 16 from h2), if_neg (show (Fo.mk o n l s).op ≠ 16 from h2)]
        exact all_same h3
      show satB false (.mk o n l s) = satB true (.mk o n l s)
      unfold satB
      rw [e1, e2]
    · obtain ⟨g, hg, hx⟩ := List.mem_flatMap.1 hx
      exact ih g hg _ x hx
theorem nm_right {f : Fo} (h : Nm f) : rightB false f = rightB true f := by
  unfold rightB allB
  congr 1
  have := nm_sat h 1
  generalize f.all 1 = l at this
  induction l with
  | nil => rfl
  | cons x r ih => rw [List.all_cons, List.all_cons, this x (List.mem_cons_self ..), ih fun u hu => this u (List.mem_cons_of_mem _ hu)]
/-- No token is a metavariable. -/
theorem plain_same (s : ByteArray) (hs : s.size ≤ 16384) (hl : lexErr s = none) (hm : ∀ t ∈ tgL s, mtB true t.t = false ∧ mfB true t.t = false) : formRes false (rightB false) s = formRes true (rightB true) s := by
  have hE : ∀ m, mtB m ⟨#[]⟩ = false ∧ mfB m ⟨#[]⟩ = false := fun m => ⟨by cases h : mtB m ⟨#[]⟩ with | false => rfl | true => exact absurd rfl (mtB_ne h), by cases h : mfB m ⟨#[]⟩ with | false => rfl | true => exact absurd rfl (mfB_ne h)⟩
  have hag : ∀ k, AgrN false true k (tgL s) (tgL s) := fun k i _ => by
    have h : mtB true (tx ((tgL s).drop i)) = false ∧ mfB true (tx ((tgL s).drop i)) = false := by
      by_cases hi : i < (tgL s).length
      · unfold tx
        rw [hd_drop hi]
        exact hm _ (List.getElem_mem _)
      · rw [List.drop_eq_nil_of_le (by omega)]
        exact hE true
    refine .inl ⟨rfl, ?_, ?_⟩
    · rw [h.1]; unfold mtB; simp
    · rw [h.2]; unfold mfB; simp
  have hf1 : formRes false (rightB false) s = endC (rightB false) (binC false 0 0 (tgL s)) := by unfold formRes; rw [hl]
  have hf2 : formRes true (rightB true) s = endC (rightB true) (binC true 0 0 (tgL s)) := by unfold formRes; rw [hl]
  rw [hf1, hf2]
  rcases locate2 false true (tgL s) (ended_tok false (tok_tgL hs hl).1) with ⟨f, i, hi, hx, hloc⟩ | ⟨i, e, hi, hee, hx, hloc⟩
  · have hn : Nm f := (nm_forms _).1 _ _ _ f _ hx
    rw [hx, hloc _ (hag _)]
    have hr := nm_right hn
    show (if (hd _).k == 5 then if rightB false f = true then (some f, 0, 0) else (none, 0, 3) else (none, (hd _).a, 50)) = (if (hd _).k == 5 then if rightB true f = true then (some f, 0, 0) else (none, 0, 3) else (none, (hd _).a, 50))
    rw [hr]
  · rw [hx, hloc _ (hag _)]
    rfl
end Go.Proofs.YtkeckecdhcknhaaDoor.Ps

/-
  The result of reading a text of pieces.
-/
namespace Go.Proofs.YtkeckecdhcknhaaDoor.Ft
open Go Go.RowKit Go.Proofs.YtkeckecdhcknhaaDoor.Fm Go.Proofs.YtkeckecdhcknhaaDoor.Lx Go.Proofs.YtkeckecdhcknhaaDoor.Ps
set_option linter.unusedVariables false
set_option linter.unusedSimpArgs false
theorem stop_end (n : Int) : Stop 0 [⟨5, ⟨#[]⟩, n⟩] := by
  have e : tx [⟨5, ⟨#[]⟩, n⟩] = ⟨#[]⟩ := rfl
  refine ⟨?_, ?_, fun k _ hk => ?_⟩ <;> rw [e]
  · decide
  · decide
  · rcases (by omega : k = 0 ∨ k = 1 ∨ k = 2 ∨ k = 3 ∨ k = 4) with rfl | rfl | rfl | rfl | rfl <;> decide
/-- A text of pieces is read as what its words say. -/
theorem read_pc {m : Bool} {f : Fo} {p : Pc} {d : Nat} (h : TxF m 0 d f (wd p)) (hd : d ≤ 120) (hl : LxOk p []) : lexErr (bs (byP p)) = none ∧ ∃ us n, tgL (bs (byP p)) = us ++ [⟨5, ⟨#[]⟩, n⟩] ∧ us.map (·.t) = wd p ∧ binC m 0 0 (tgL (bs (byP p))) = .ok f [⟨5, ⟨#[]⟩, n⟩] := by
  obtain ⟨zs, n, h1, h2, h3⟩ := lx_toks p hl 0
  have hy : ysL (bs (byP p)) = zs ++ [(⟨5, [], n⟩, 0)] := by unfold ysL; rw [bs_toList]; exact h1
  have hu : (zs.map fun z => toG z.1).map (·.t) = wd p := by rw [List.map_map]; exact h2
  have ht : tgL (bs (byP p)) = (zs.map fun z => toG z.1) ++ [⟨5, ⟨#[]⟩, (n : Int)⟩] := by
    unfold tgL tksL
    rw [hy, List.map_append, List.map_append, List.map_map]
    rfl
  refine ⟨?_, _, _, ht, hu, ?_⟩
  · unfold lexErr
    rw [hy, show errs (zs ++ [((⟨5, [], n⟩ : Tk), 0)]) = false by unfold errs at h3 ⊢; rw [List.any_append, h3]; rfl]
    rfl
  · rw [ht]
    exact (txt_read h 0 _ _ hu (by omega)).1 (stop_end (n : Int))
theorem res_pc {m sc : Bool} {f : Fo} {p : Pc} {d : Nat} (h : TxF m 0 d f (wd p)) (hd : d ≤ 120) (hl : LxOk p []) : formRes m (rightB sc) (bs (byP p)) = if rightB sc f = true then (some f, 0, 0) else (none, 0, 3) := by
  obtain ⟨h1, us, n, _, _, h2⟩ := read_pc h hd hl
  unfold formRes
  rw [h1]
  simp only [h2]
  show (if ((5 : Int) == 5) = true then (if rightB sc f = true then ((some f, 0, 0) : Option Fo × Int × Int) else (none, 0, 3)) else (none, n, 50)) = _
  rw [if_pos (by decide)]
end Go.Proofs.YtkeckecdhcknhaaDoor.Ft

/-
  What the statements' own text of a formula is read to.
-/
namespace Go.Proofs.YtkeckecdhcknhaaDoor.Ft
open Go Go.RowKit Go.Proofs.YtkeckecdhcknhaaDoor.Fm Go.Proofs.YtkeckecdhcknhaaDoor.Lx Go.Proofs.YtkeckecdhcknhaaDoor.Ps
set_option linter.unusedVariables false
set_option linter.unusedSimpArgs false
theorem br5_ok : ∀ (F : Fo) (i : Nat) (g : Fo), F.sub[i]? = some g → (i = 0 ∨ str F.op < 6) → needB F i g = true → br5 F i = true := by
  intro F i g hg hi hn
  have e : br5 F i = decide (str g.op < 6) := by unfold br5; rw [hg]
  rw [e]
  have hF := str_le F.op
  unfold needB at hn
  split at hn
  · next he => exact decide_eq_true (by have := of_decide_eq_true hn; omega)
  · next he =>
    have he : str F.op = str g.op := Classical.not_not.1 he
    rcases hi with rfl | hi
    · have h5 : frR F.op = true := by simpa using hn
      have : F.op = 6 ∨ F.op = 14 := by
        unfold frR at h5
        rw [Bool.or_eq_true, beq_iff_eq, beq_iff_eq] at h5; exact h5
      rw [← he]
      rcases this with h | h <;> rw [h] <;> decide
    · exact decide_eq_true (by omega)
theorem sty5_ok : StyOk sty5 := ⟨.inl rfl, fun _ _ => rfl⟩
theorem full_txt {m : Bool} {f : Fo} (h : rightB m f = true) (ho : OpsOk f) : TxF m 0 81 f (wd (fullP f)) := by
  have h1 := fo_txt m sty5 rfl br5 br5_ok _ f (Nat.lt_succ_self _) 1 (fok_right h ho) (Int.le_refl _)
  have hst := str_le f.op
  exact part_txt (b := decide (str f.op < 6)) (j := 0) h1 (by omega) (by omega) (fun _ => Nat.zero_le _)
theorem full_lex {m : Bool} {f : Fo} (h : rightB m f = true) (ho : OpsOk f) {r : Bs} (hr : Spc r) : LxOk (fullP f) r :=
  par_lex hr fun r hr => fo_lex m sty5 sty5_ok br5 _ f (Nat.lt_succ_self _) 1 (fok_right h ho) (Int.le_refl _) r hr
theorem full_len {m : Bool} {f : Fo} (h : rightB m f = true) (ho : OpsOk f) : (FF f).size ≤ 11600 := by
  have h1 := right_len h ho sty5 (.inl rfl) br5
  have h2 := par_len (decide (str f.op < 6)) (foP sty5 br5 f)
  unfold FF fullP
  rw [bs_size]
  omega
theorem full_res {m : Bool} {f : Fo} (h : rightB m f = true) (ho : OpsOk f) : formRes m (rightB m) (FF f) = (some f, 0, 0) := by
  have := res_pc (sc := m) (full_txt h ho) (by omega) (full_lex h ho spc_nil)
  rw [if_pos h] at this
  exact this
theorem full_more {f : Fo} (h : rightB true f = true) (ho : OpsOk f) : formRes true (rightB true) (⟨#[40, 40, 32]⟩ ++ FF f ++ ⟨#[41, 41]⟩) = (some f, 0, 0) := by
  have ht : TxF true 0 83 f (wd (some ⟨#[40]⟩ :: some ⟨#[40]⟩ :: none :: (fullP f ++ [some ⟨#[41]⟩, some ⟨#[41]⟩]))) := by
    rw [wd_some, wd_some, wd_none, wd_app, wd_some, wd_some, wd_nil]
    have := ups (j := 0) (TxF.bra (ups (j := 0) (TxF.bra (full_txt h ho)) (Nat.zero_le _) (Nat.le_refl _))) (Nat.zero_le _) (Nat.le_refl _)
    simpa using this
  have hl : LxOk (some ⟨#[40]⟩ :: some ⟨#[40]⟩ :: none :: (fullP f ++ [some ⟨#[41]⟩, some ⟨#[41]⟩])) [] :=
    ⟨t_open _, t_open _, LxOk.app (full_lex h ho (spc_cons (by decide))) ⟨t_close _, t_close _, trivial⟩⟩
  have := res_pc (sc := true) ht (by omega) hl
  rw [if_pos h] at this
  have e : bs (byP (some ⟨#[40]⟩ :: some ⟨#[40]⟩ :: none :: (fullP f ++ [some ⟨#[41]⟩, some ⟨#[41]⟩]))) = ⟨#[40, 40, 32]⟩ ++ FF f ++ ⟨#[41, 41]⟩ := by
    have e2 : ⟨#[40, 40, 32]⟩ ++ FF f ++ ⟨#[41, 41]⟩ = bs [40, 40, 32] ++ bs (byP (fullP f)) ++ bs [41, 41] := rfl
    rw [e2, bs_app, bs_app]
    simp
  rw [e] at this
  exact this
/-- A token stands in its text at its place. -/
theorem tok_place : ∀ (off : Nat) (l : Bs), ∀ y ∈ toks KK off l, y.1.t ≠ [] → off ≤ y.1.a ∧ ∃ r, l.drop (y.1.a - off) = y.1.t ++ r := by
  refine toks_ind KK ?_ ?_ ?_ ?_
  · intro off y hy hn
    rw [toks_nil, List.mem_singleton] at hy
    subst hy
    exact absurd rfl hn
  · intro off c l hc ih y hy hn
    rw [toks_blank KK hc] at hy
    obtain ⟨h1, r, h2⟩ := ih y hy hn
    refine ⟨by omega, r, ?_⟩
    rw [show y.1.a - off = (y.1.a - (off + 1)) + 1 by omega, List.drop_succ_cons, h2]
  · intro off c l hc he y hy hn
    rw [toks_err KK hc he, List.mem_singleton] at hy
    subst hy
    exact absurd rfl hn
  · intro off c l hc he ih y hy hn
    rw [toks_tok KK hc he] at hy
    rcases List.mem_cons.1 hy with rfl | hy
    · refine ⟨Nat.le_refl _, (c :: l).drop (tok1 KK (c :: l)).2.1, ?_⟩
      show (c :: l).drop (off - off) = (c :: l).take _ ++ _
      rw [Nat.sub_self, List.drop_zero, List.take_append_drop]
    · obtain ⟨h1, r, h2⟩ := ih y hy hn
      refine ⟨by omega, r, ?_⟩
      rw [← h2, List.drop_drop]
      congr 1
      omega
theorem mark_place {s : ByteArray} {u : Tg} (hu : u ∈ tgL s) (hm : markB u.t = true) : ∃ a : Nat, u.a = (a : Int) ∧ ∃ h : a < s.size, s[a] = 63 := by
  unfold tgL tksL at hu
  rw [List.map_map] at hu
  obtain ⟨y, hy, rfl⟩ := List.mem_map.1 hu
  obtain ⟨r, hr⟩ := mark_head hm
  have hr : y.1.t = 63 :: r := by
    have : (bs y.1.t).data.toList = 63 :: r := hr
    rwa [bs_toList] at this
  obtain ⟨_, r2, h2⟩ := tok_place 0 s.data.toList y hy (by rw [hr]; simp)
  rw [Nat.sub_zero, hr] at h2
  have hlt : y.1.a < s.data.toList.length := by
    rcases Nat.lt_or_ge y.1.a s.data.toList.length with h | h
    · exact h
    · rw [List.drop_eq_nil_of_le h] at h2; cases h2
  refine ⟨y.1.a, rfl, hlt, ?_⟩
  rw [List.drop_eq_getElem_cons hlt] at h2
  exact (List.cons.inj h2).1
theorem full_not {f : Fo} (h : rightB true f = true) (ho : OpsOk f) (hn : rightB false f = false) : ∃ a : Nat, formRes false (rightB false) (FF f) = (none, (a : Int), 50) ∧ ∃ h : a < (FF f).size, (FF f)[a] = 63 := by
  obtain ⟨h1, us, n, h2, h3, h4⟩ := read_pc (full_txt h ho) (by omega) (full_lex h ho spc_nil)
  have he : FF f = bs (byP (fullP f)) := rfl
  rw [← he] at h1 h2 h4
  have := (txt_err (full_txt h ho) 0 us [⟨5, ⟨#[]⟩, n⟩] h3 (by omega)).1
  have hst : Stop 0 [⟨5, ⟨#[]⟩, n⟩] := by
    have e : tx [⟨5, ⟨#[]⟩, n⟩] = ⟨#[]⟩ := rfl
    refine ⟨?_, ?_, fun k _ hk => ?_⟩ <;> rw [e]
    · decide
    · decide
    · rcases (by omega : k = 0 ∨ k = 1 ∨ k = 2 ∨ k = 3 ∨ k = 4) with rfl | rfl | rfl | rfl | rfl <;> decide
  rcases this hst with h5 | ⟨u, hu, hm, h5⟩
  · have hnm := (nm_forms _).1 0 0 _ f _ h5
    have := nm_right hnm
    rw [h, hn] at this
    cases this
  · obtain ⟨a, ha, hp⟩ := mark_place (s := FF f) (u := u) (by rw [h2]; exact List.mem_append_left _ hu) hm
    refine ⟨a, ?_, hp⟩
    unfold formRes
    rw [h1]
    show endC (rightB false) (binC false 0 0 (tgL (FF f))) = _
    rw [h2, h5, ← ha]
    rfl
end Go.Proofs.YtkeckecdhcknhaaDoor.Ft

/-
  The contracts of the statements' own size, Size and Small: they return.
-/
namespace Go.Proofs.YtkeckecdhcknhaaDoor.Fm
open Go Go.RowKit Go.Shelf
set_option linter.unusedVariables false
set_option linter.unusedSimpArgs false
mutual
def szT (left : Int) : Tm → Int
  | .mk v n l => szL left 0 l
def szL (left n : Int) : List Tm → Int
  | [] => n
  | .mk v nm args :: r => if n ≤ left then szL left (wrap64 (n + wrap64 (wrap64 (1 + wrap64 ((nm.size : Int) / 40)) + szL (wrap64 (left - n)) 0 args))) r else n
end
def SRel (l : List Tm) (left : Int) (w : World) (n i : Value) (wr : World) : Prop := ∃ (q : Nat) (k : Int), n = .int .i64 k ∧ i = .int .i64 (q : Int) ∧ q ≤ l.length ∧ Below w.heap.size w wr ∧ szL left k (l.drop q) = szL left 0 l
theorem szL_step {left n : Int} {l : List Tm} {q : Nat} (h : q < l.length) : szL left n (l.drop q) = if n ≤ left then szL left (wrap64 (n + wrap64 (wrap64 (1 + wrap64 ((l[q].n.size : Int) / 40)) + szL (wrap64 (left - n)) 0 l[q].args))) (l.drop (q + 1)) else n := by
  rw [List.drop_eq_getElem_cons h]
  obtain ⟨v, nm, args⟩ := l[q]
  rw [szL]
  rfl
theorem sizeZ_list {l : List Tm} {q : Nat} (h : q < l.length) : SizeOf.sizeOf l[q].args < SizeOf.sizeOf l := by
  have h1 : SizeOf.sizeOf l[q] < SizeOf.sizeOf l := List.sizeOf_lt_of_mem (List.getElem_mem h)
  have h2 : SizeOf.sizeOf l[q].args < SizeOf.sizeOf l[q] := by obtain ⟨v, n, args⟩ := l[q]; simp [Tm.args]; omega
  omega
set_option maxHeartbeats 2000000 in
theorem sizeT_c (N : Nat) : ∀ (l : List Tm), SizeOf.sizeOf l < N → ∀ (va : Value) (left : Int) (dn : Nat) (w : World), SlT dn w va l → dn ≤ w.heap.size →
    Calls Tryd.prog 26 #[va, .int .i64 left] w fun e w' => e = .returned (.int .i64 (szL left 0 l)) ∧ Below w.heap.size w w' := by
  induction N with
  | zero => exact fun t h => absurd h (Nat.not_lt_zero _)
  | succ N ih =>
    intro l hN va left dn w ha hd
    obtain ⟨⟨sa, ka, rfl⟩, hla⟩ := ha.form
    go_enter Tryd.func26, Tryd.ntmps26
    go_wp2_with fail
    go_loopw [5, 6] (fun n i wr => SRel l left w n i wr) (fun _ i _ => l.length - (intOf i).toNat)
    case atStart => exact ⟨0, 0, rfl, rfl, Nat.zero_le _, Below.refl _ _, by simp⟩
    case round =>
      obtain ⟨q, k, rfl, rfl, hq, hbq, hrest⟩ := hrel
      have HRE := Lib.hid hrest
      clear hrest
      by_cases hlt : q < l.length
      · obtain ⟨_, b, o, rfl, hbn, u0, u1, u2, c0, c1, c2, hu⟩ := (ha.below (hbq.mono hd) (Nat.le_refl _)).get hlt
        have hdr : dn ≤ wr.heap.size := Nat.le_trans hd hbq.size
        have hsz := sizeZ_list hlt
        have HST := Lib.hid (szL_step (left := left) (n := k) hlt)
        have hcc := fun W (h : SlT dn W u2 l[q].args) (h3 : dn ≤ W.heap.size) => ih l[q].args (by omega) u2 (wrap64 (left - k)) dn W h h3
        have HUA := Lib.hid hu.args
        have hok := hu.ok
        obtain ⟨⟨au, ku, hu2⟩, _⟩ := hu.args.form
        have z1 := hu.nm
        subst hu2 z1
        clear hu hsz
        have HCC := Lib.hid (fun (p : InS (Below wr.heap.size wr)) => hcc p.w (HUA.out.below (p.h.mono hdr) (Nat.le_refl _)) (Nat.le_trans hdr p.h.size))
        clear hcc HUA
        haveI hne : Nonempty (InS (Below wr.heap.size wr)) := ⟨⟨_, Below.refl _ _⟩⟩
        have hcl : ∀ (p : InS (Below wr.heap.size wr)) (b q : Nat), b < dn → p.w.cell? ⟨b, q, none⟩ = wr.cell? ⟨b, q, none⟩ := fun p b q h => p.h.cell (p := ⟨b, q, none⟩) (show b < wr.heap.size by omega)
        have i1 := fun p => (hcl p b _ hbn).trans c1
        have i2 := fun p => (hcl p b _ hbn).trans c2
        clear hcl
        generalize szL (wrap64 (left - k)) 0 l[q].args = ss at *
        cases hkl : decide (k ≤ left)
        · have HS2 := Lib.hid (HRE.out.symm.trans (HST.out.trans (if_neg (by simpa using hkl))))
          go_wp2_with fail
          go_ret
          exact ⟨by rw [HS2.out]; rfl, hbq⟩
        · have HS2 := Lib.hid ((HST.out.trans (if_pos (by simpa using hkl))).symm.trans HRE.out)
          go_wp2_with fail
          refine wp_region_class (Below wr.heap.size wr) (by kernel_rfl) (by kernel_rfl) (Below.drew (Below.refl _ _)) ?_
          repeat (go_big_quiet_step ((exact Calls.below_of (HCC.out _))))
          refine wpQuiet_nil ?_
          intro w2 hw'
          obtain ⟨⟨w3, hS2⟩, hw''⟩ := hw'
          have hw3 : w2 = w3 := hw''
          subst hw3
          have hb2 := hbq.trans (hS2.mono hbq.size)
          clear hw'' hS2
          go_wp2_with fail
          exact ⟨⟨q + 1, _, rfl, by go_num, by omega, hb2, HS2.out⟩, by simp [intOf]; omega⟩
      · have e : q = l.length := by omega
        have HF := Lib.hid (show szL left 0 l = k by rw [← HRE.out, e, List.drop_length, szL])
        clear e
        go_wp2_with fail
        go_ret
        exact ⟨by rw [HF.out]; rfl, hbq⟩
mutual
def szF (left : Int) : Fo → Int
  | .mk o n l s => szFL left (wrap64 (wrap64 (1 + wrap64 ((n.size : Int) / 40)) + szL left 0 l)) s
def szFL (left n : Int) : List Fo → Int
  | [] => n
  | x :: r => if n ≤ left then szFL left (wrap64 (n + szF (wrap64 (left - n)) x)) r else n
end
def SRelF (l : List Fo) (left k0 : Int) (w : World) (n i : Value) (wr : World) : Prop := ∃ (q : Nat) (k : Int), n = .int .i64 k ∧ i = .int .i64 (q : Int) ∧ q ≤ l.length ∧ Below w.heap.size w wr ∧ szFL left k (l.drop q) = szFL left k0 l
theorem szFL_step {left n : Int} {l : List Fo} {q : Nat} (h : q < l.length) : szFL left n (l.drop q) = if n ≤ left then szFL left (wrap64 (n + szF (wrap64 (left - n)) l[q])) (l.drop (q + 1)) else n := by
  rw [List.drop_eq_getElem_cons h, szFL]
theorem szF_eq (left : Int) (f : Fo) : szF left f = szFL left (wrap64 (wrap64 (1 + wrap64 ((f.n.size : Int) / 40)) + szL left 0 f.args)) f.sub := by
  obtain ⟨o, n, l, s⟩ := f
  rw [szF]
  rfl
set_option maxHeartbeats 2000000 in
theorem sizeF_c (N : Nat) : ∀ (f : Fo), SizeOf.sizeOf f < N → ∀ (v0 v1 v2 v3 : Value) (left : Int) (dn : Nat) (w : World), FoV dn w v0 v1 v2 v3 f → dn ≤ w.heap.size →
    Calls Tryd.prog 13 #[.agg #[v0, v1, v2, v3], .int .i64 left] w fun e w' => e = .returned (.int .i64 (szF left f)) ∧ Below w.heap.size w w' := by
  induction N with
  | zero => exact fun t h => absurd h (Nat.not_lt_zero _)
  | succ N ih =>
    intro f hN v0 v1 v2 v3 left dn w hf hd
    have hb0 : Below w.heap.size w (w.alloc (.cells #[v0, v1, v2, v3] 25)) := (Below.refl _ _).alloc (Nat.le_refl _) _
    have HE := Lib.hid (szF_eq left f)
    obtain ⟨rfl, _, rfl, _, ha, hb⟩ := hf
    obtain ⟨⟨sa, ka, rfl⟩, hla⟩ := ha.form
    obtain ⟨⟨sb, kb, rfl⟩, hlb⟩ := hb.form
    have hz0 : w.heap.size < (w.alloc (.cells #[.int .u8 f.op, .string f.n, .slice sa f.args.length ka, .slice sb f.sub.length kb] 25)).heap.size := by simp
    have hc0 : ∀ q, (w.alloc (.cells #[.int .u8 f.op, .string f.n, .slice sa f.args.length ka, .slice sb f.sub.length kb] 25)).cell? ⟨w.heap.size, q, none⟩ = (#[Value.int .u8 f.op, .string f.n, .slice sa f.args.length ka, .slice sb f.sub.length kb] : Array Value)[q]? := fun q => by rw [World.cell?_alloc_at _ _ _ _ rfl]
    go_enter Tryd.func13, Tryd.ntmps13
    go_wp2_with fail
    generalize w.alloc (.cells #[.int .u8 f.op, .string f.n, .slice sa f.args.length ka, .slice sb f.sub.length kb] 25) = w0 at *
    have hd0 : dn ≤ w0.heap.size := Nat.le_trans hd hb0.size
    have ha := ha.below hb0 hd
    have hb := hb.below hb0 hd
    have HA := Lib.hid (fun (p : InS (Below w0.heap.size w0)) => sizeT_c _ f.args (Nat.lt_succ_self _) _ left dn p.w (ha.below (p.h.mono hd0) (Nat.le_refl _)) (Nat.le_trans hd0 p.h.size))
    have e1 : w0.cell? ⟨w.heap.size, 1, none⟩ = some (.string f.n) := hc0 1
    have e2 : w0.cell? ⟨w.heap.size, 2, none⟩ = some (.slice sa f.args.length ka) := hc0 2
    have e3 : w0.cell? ⟨w.heap.size, 3, none⟩ = some (.slice sb f.sub.length kb) := hc0 3
    clear hc0 ha
    haveI hne : Nonempty (InS (Below w0.heap.size w0)) := ⟨⟨_, Below.refl _ _⟩⟩
    have i1 := fun (p : InS (Below w0.heap.size w0)) => (p.h.cell (p := ⟨w.heap.size, 1, none⟩) hz0).trans e1
    have i2 := fun (p : InS (Below w0.heap.size w0)) => (p.h.cell (p := ⟨w.heap.size, 2, none⟩) hz0).trans e2
    generalize szL left 0 f.args = ss at *
    refine wp_region_class (Below w0.heap.size w0) (by kernel_rfl) (by kernel_rfl) (Below.drew (Below.refl _ _)) ?_
    repeat (go_big_quiet_step ((exact Calls.below_of (HA.out _))))
    refine wpQuiet_nil ?_
    intro w2 hw'
    obtain ⟨⟨w3, hS2⟩, hw''⟩ := hw'
    have hw3 : w2 = w3 := hw''
    subst hw3
    have hb2 : Below w0.heap.size w0 w2 := hS2
    clear hw'' hS2 i1 i2 HA hne
    generalize wrap64 (wrap64 (1 + wrap64 ((f.n.size : Int) / 40)) + ss) = k0 at *
    go_wp2_with fail
    go_loopw [5, 6] (fun n i wr => SRelF f.sub left k0 w0 n i wr) (fun _ i _ => f.sub.length - (intOf i).toNat)
    case atStart => exact ⟨0, k0, rfl, rfl, Nat.zero_le _, hb2, by simp⟩
    case round =>
      obtain ⟨q, k, rfl, rfl, hq, hbq, hrest⟩ := hrel
      have HRE := Lib.hid hrest
      clear hrest
      have r3 := (hbq.cell (p := ⟨w.heap.size, 3, none⟩) hz0).trans e3
      by_cases hlt : q < f.sub.length
      · obtain ⟨_, b, o, rfl, hbn, u0, u1, u2, u3, c0, c1, c2, c3, hu⟩ := (hb.below (hbq.mono hd0) (Nat.le_refl _)).get hlt
        have hdr : dn ≤ wr.heap.size := Nat.le_trans hd0 hbq.size
        have hsz := size_sub f q hlt
        have HST := Lib.hid (szFL_step (left := left) (n := k) hlt)
        have HCC := Lib.hid (ih f.sub[q] (by omega) u0 u1 u2 u3 (wrap64 (left - k)) dn wr hu hdr)
        have z0 := hu.op
        have z1 := hu.nm
        obtain ⟨⟨au, ku, hu2⟩, _⟩ := hu.args.form
        obtain ⟨⟨av, kv, hu3⟩, _⟩ := hu.sub.form
        subst hu2 hu3 z0 z1
        clear hu hsz
        generalize szF (wrap64 (left - k)) f.sub[q] = ss at *
        cases hkl : decide (k ≤ left)
        · have HS2 := Lib.hid (HRE.out.symm.trans (HST.out.trans (if_neg (by simpa using hkl))))
          go_wp2_with fail
          go_ret
          exact ⟨by rw [HE.out, HS2.out]; rfl, hb0.trans (hbq.mono hb0.size)⟩
        · have HS2 := Lib.hid ((HST.out.trans (if_pos (by simpa using hkl))).symm.trans HRE.out)
          go_wp2_with fail
          refine HCC.out.mono ?_
          rintro e w3 ⟨rfl, hb3⟩
          have hb4 := hbq.trans (hb3.mono hbq.size)
          clear hb3
          go_wp2_with fail
          exact ⟨⟨q + 1, _, rfl, by go_num, by omega, hb4, HS2.out⟩, by simp [intOf]; omega⟩
      · have e : q = f.sub.length := by omega
        have HF := Lib.hid (show szFL left k0 f.sub = k by rw [← HRE.out, e, List.drop_length, szFL])
        clear e
        go_wp2_with fail
        go_ret
        exact ⟨by rw [HE.out, HF.out]; rfl, hb0.trans (hbq.mono hb0.size)⟩
def szS (n : Int) : List Fo → Int
  | [] => n
  | x :: r => if n ≤ 500 then szS (wrap64 (n + szF (wrap64 (500 - n)) x)) r else n
theorem szS_step {n : Int} {l : List Fo} {q : Nat} (h : q < l.length) : szS n (l.drop q) = if n ≤ 500 then szS (wrap64 (n + szF (wrap64 (500 - n)) l[q])) (l.drop (q + 1)) else n := by
  rw [List.drop_eq_getElem_cons h, szS]
def SRelS (l : List Fo) (w : World) (n i : Value) (wr : World) : Prop := ∃ (q : Nat) (k : Int), n = .int .i64 k ∧ i = .int .i64 (q : Int) ∧ q ≤ l.length ∧ Below w.heap.size w wr ∧ szS k (l.drop q) = szS 0 l
set_option maxHeartbeats 2000000 in
theorem small_c (l : List Fo) (va : Value) (dn : Nat) (w : World) (ha : SlF dn w va l) (hd : dn ≤ w.heap.size) :
    Calls Tryd.prog 6 #[va] w fun e w' => e = .returned (.bool (decide (szS 0 l ≤ 500))) ∧ Below w.heap.size w w' := by
  obtain ⟨⟨sa, ka, rfl⟩, hla⟩ := ha.form
  go_enter Tryd.func6, Tryd.ntmps6
  go_wp2_with fail
  go_loopw [3, 4] (fun n i wr => SRelS l w n i wr) (fun _ i _ => l.length - (intOf i).toNat)
  case atStart => exact ⟨0, 0, rfl, rfl, Nat.zero_le _, Below.refl _ _, by simp⟩
  case round =>
    obtain ⟨q, k, rfl, rfl, hq, hbq, hrest⟩ := hrel
    have HRE := Lib.hid hrest
    clear hrest
    by_cases hlt : q < l.length
    · obtain ⟨_, b, o, rfl, hbn, u0, u1, u2, u3, c0, c1, c2, c3, hu⟩ := (ha.below (hbq.mono hd) (Nat.le_refl _)).get hlt
      have hdr : dn ≤ wr.heap.size := Nat.le_trans hd hbq.size
      have HST := Lib.hid (szS_step (n := k) hlt)
      have HCC := Lib.hid (sizeF_c _ l[q] (Nat.lt_succ_self _) u0 u1 u2 u3 (wrap64 (500 - k)) dn wr hu hdr)
      have z0 := hu.op
      have z1 := hu.nm
      obtain ⟨⟨au, ku, hu2⟩, _⟩ := hu.args.form
      obtain ⟨⟨av, kv, hu3⟩, _⟩ := hu.sub.form
      subst hu2 hu3 z0 z1
      clear hu
      generalize szF (wrap64 (500 - k)) l[q] = ss at *
      cases hkl : decide (k ≤ 500)
      · have HS2 := Lib.hid (HRE.out.symm.trans (HST.out.trans (if_neg (by simpa using hkl))))
        have HK := Lib.hid hkl
        go_wp2_with fail
        go_ret
        exact ⟨by rw [HS2.out, HK.out]; rfl, hbq⟩
      · have HS2 := Lib.hid ((HST.out.trans (if_pos (by simpa using hkl))).symm.trans HRE.out)
        go_wp2_with fail
        refine HCC.out.mono ?_
        rintro e w3 ⟨rfl, hb3⟩
        have hb4 := hbq.trans (hb3.mono hbq.size)
        clear hb3
        go_wp2_with fail
        exact ⟨⟨q + 1, _, rfl, by go_num, by omega, hb4, HS2.out⟩, by simp [intOf]; omega⟩
    · have e : q = l.length := by omega
      have HF := Lib.hid (show szS 0 l = k by rw [← HRE.out, e, List.drop_length, szS])
      clear e
      cases hkl : decide (k ≤ 500)
      all_goals
        have HK := Lib.hid hkl
        go_wp2_with fail
        go_ret
        exact ⟨by rw [HF.out, HK.out]; rfl, hbq⟩
end Go.Proofs.YtkeckecdhcknhaaDoor.Fm

/-
  The statements' own Same of a formula with itself.
-/
namespace Go.Proofs.YtkeckecdhcknhaaDoor.Ps
open Go Go.RowKit Go.Proofs.YtkeckecdhcknhaaDoor.Fm
set_option linter.unusedVariables false
set_option linter.unusedSimpArgs false
mutual
theorem eqT_me : ∀ t : Tm, eqT t t = true
  | .mk v n l => by
    unfold eqT
    rw [eqTL_me l]
    simp
theorem eqTL_me : ∀ l : List Tm, eqTL l l = true
  | [] => by unfold eqTL; rfl
  | t :: r => by unfold eqTL; rw [eqT_me t, eqTL_me r]; rfl
end
mutual
theorem eqF_me : ∀ t : Fo, eqF t t = true
  | .mk v n l s => by
    unfold eqF
    rw [eqTL_me l, eqFL_me s]
    simp
theorem eqFL_me : ∀ l : List Fo, eqFL l l = true
  | [] => by unfold eqFL; rfl
  | t :: r => by unfold eqFL; rw [eqF_me t, eqFL_me r]; rfl
end
end Go.Proofs.YtkeckecdhcknhaaDoor.Ps

/-
  ParseWritten's walk.
-/
namespace Go.Proofs.YtkeckecdhcknhaaDoor.Ft
open Go Go.RowKit Go.Shelf Go.Proofs.YtkeckecdhcknhaaDoor.Fm Go.Proofs.YtkeckecdhcknhaaDoor.Lx Go.Proofs.YtkeckecdhcknhaaDoor.Ps
set_option linter.unusedVariables false
set_option linter.unusedSimpArgs false
theorem fov_ops (N : Nat) : ∀ (f : Fo), SizeOf.sizeOf f < N → ∀ (n : Nat) (w : World) (v0 v1 v2 v3 : Value), FoV n w v0 v1 v2 v3 f → ∀ lv, ∀ x ∈ f.all lv, 0 ≤ x.2.op := by
  induction N with
  | zero => exact fun f h => absurd h (Nat.not_lt_zero _)
  | succ N ih =>
    intro f hN n w v0 v1 v2 v3 hf lv x hx
    rw [Fo.all_eq] at hx
    rcases List.mem_cons.1 hx with rfl | hx
    · exact hf.bd.1
    · obtain ⟨g, hg, hx⟩ := List.mem_flatMap.1 hx
      obtain ⟨i, hi, rfl⟩ := List.getElem_of_mem hg
      have hlt : SizeOf.sizeOf f.sub[i] < SizeOf.sizeOf f := by
        obtain ⟨o, n, a, ss⟩ := f
        have : SizeOf.sizeOf ss[i] < SizeOf.sizeOf ss := List.sizeOf_lt_of_mem (List.getElem_mem hi)
        simp only [Fo.sub, Fo.mk.sizeOf_spec]
        omega
      have hs := hf.sub
      obtain ⟨⟨a, c, rfl⟩, _⟩ := hs.form
      obtain ⟨_, b, o, rfl, hbn, u0, u1, u2, u3, c0, c1, c2, c3, hu⟩ := hs.get hi
      exact ih f.sub[i] (by omega) n w _ _ _ _ hu _ x hx
theorem fov_opsOk {f : Fo} {n : Nat} {w : World} {v0 v1 v2 v3 : Value} (h : FoV n w v0 v1 v2 v3 f) : OpsOk f := fov_ops _ f (Nat.lt_succ_self _) n w v0 v1 v2 v3 h 1
theorem slF_one {n b : Nat} {w : World} {f : Fo} {v2 v3 : Value} (c0 : w.cell? ⟨b, 0, none⟩ = some (.int .u8 f.op)) (c1 : w.cell? ⟨b, 1, none⟩ = some (.string f.n)) (c2 : w.cell? ⟨b, 2, none⟩ = some v2) (c3 : w.cell? ⟨b, 3, none⟩ = some v3)
    (hf : FoV n w (.int .u8 f.op) (.string f.n) v2 v3 f) (hb : b < n) : SlF n w (.slice (some ⟨b, 0, none⟩) 1 1) [f] := by
  obtain ⟨op, nm, args, sub⟩ := f
  obtain ⟨_, hop, _, hok, ⟨a, cap, b', o', he, hl, hx, ht⟩, ⟨a', cap', b2, o2, he', hl', hx', ht'⟩⟩ := hf
  subst he he'
  refine ⟨some ⟨b, 0, none⟩, 1, b, 0, rfl, by simp, .inr ⟨rfl, hb⟩, ?_⟩
  rw [FsAt]
  exact ⟨⟨c0, hop, c1, hok, ⟨a, cap, b', o', c2, hl, hx, ht⟩, ⟨a', cap', b2, o2, c3, hl', hx', ht'⟩⟩, by simp [FsAt]⟩
set_option maxHeartbeats 8000000 in
set_option maxRecDepth 20000 in
theorem written_c (f : Fo) (x0 x1 x2 x3 : Value) (W : World) (hT : RTab W) (hL : LTab W W.heap.size) (hawk : ∀ w, RTab w → LTab w w.heap.size → Calls Tryd.prog 5 #[] w fun e w' => e = .returned (.bool true) ∧ Below w.heap.size w w')
    (hf : FoV W.heap.size W x0 x1 x2 x3 f) : Calls Tryd.prog 3 #[.agg #[x0, x1, x2, x3]] W fun e w' => e = .returned (.bool true) ∧ Below W.heap.size W w' := by
  have HOP := Lib.hid (fov_opsOk hf)
  have hrt := fun (w : World) (hb : Below W.heap.size W w) => (⟨hT.below hb hT.1, ⟨Nat.lt_of_lt_of_le hL.1 hb.size, (hL.keep (hb.block _ hL.1)).2⟩⟩ : RTab w ∧ LTab w w.heap.size)
  have HRT := Lib.hid hrt
  have HAW := Lib.hid (fun w (hb : Below W.heap.size W w) => hawk w (hrt w hb).1 (hrt w hb).2)
  have HF := Lib.hid hf
  obtain ⟨rfl, _, rfl, _, hA, hS⟩ := hf
  obtain ⟨⟨a1, k1, rfl⟩, _⟩ := hA.form
  obtain ⟨⟨a2, k2, rfl⟩, _⟩ := hS.form
  clear hA hS hT hL hawk hrt
  go_enter Tryd.func3, Tryd.ntmps3
  go_wp2_with fail
  have hbx := Bx4.new W (.int .u8 f.op) (.string f.n) (.slice a1 f.args.length k1) (.slice a2 f.sub.length k2) 25
  have hb0 : Below W.heap.size W (W.alloc (.cells #[.int .u8 f.op, .string f.n, .slice a1 f.args.length k1, .slice a2 f.sub.length k2] 25)) := (Below.refl _ _).alloc (Nat.le_refl _) _
  obtain ⟨A, hA⟩ : ∃ A, W.heap.size = A := ⟨_, rfl⟩
  have hAl : W.heap.size ≤ A ∧ A ≤ W.heap.size := by omega
  generalize (W.alloc (.cells #[.int .u8 f.op, .string f.n, .slice a1 f.args.length k1, .slice a2 f.sub.length k2] 25)) = X at *
  have HB := Lib.hid hb0
  have HFX := Lib.hid ((HF.out.below hb0 (Nat.le_refl _)).mono hb0.size)
  rw [hA] at hbx ⊢
  have HBX := Lib.hid hbx
  clear hbx hb0 HF hA
  refine (HAW.out _ HB.out).mono ?_
  rintro e X1 ⟨rfl, hb⟩
  have HB2 := Lib.hid (HB.out.trans (hb.mono HB.out.size))
  have HBX2 := Lib.hid (HBX.out.heap (hb.block A HBX.out.lt) (Nat.lt_of_lt_of_le HBX.out.lt hb.size))
  have HFX2 := Lib.hid ((HFX.out.below hb (Nat.le_refl _)).mono hb.size)
  clear HB HBX HFX
  have HB := HB2
  have HBX := HBX2
  have HFX := HFX2
  clear HB2 HBX2 HFX2
  clear hb
  obtain ⟨c0, c1, c2, c3, g0, g1, g2, g3, cl⟩ := HBX.out
  go_wp2_with fail
  have l3 := Bx4.new X1 (.int .u8 f.op) (.string f.n) (.slice a1 f.args.length k1) (.slice a2 f.sub.length k2) 25
  have hb : Below X1.heap.size X1 (X1.alloc (.cells #[.int .u8 f.op, .string f.n, .slice a1 f.args.length k1, .slice a2 f.sub.length k2] 25)) := (Below.refl _ _).alloc (Nat.le_refl _) _
  generalize (X1.alloc (.cells #[.int .u8 f.op, .string f.n, .slice a1 f.args.length k1, .slice a2 f.sub.length k2] 25)) = X2 at *
  clear c0 c1 c2 c3 g0 g1 g2 g3 cl
  have HB2 := Lib.hid (HB.out.trans (hb.mono HB.out.size))
  have HBX2 := Lib.hid (HBX.out.heap (hb.block A HBX.out.lt) (Nat.lt_of_lt_of_le HBX.out.lt hb.size))
  have HFX2 := Lib.hid ((HFX.out.below hb (Nat.le_refl _)).mono hb.size)
  clear HB HBX HFX
  have HB := HB2
  have HBX := HBX2
  have HFX := HFX2
  clear HB2 HBX2 HFX2
  have hsl := slF_one l3.c0 l3.c1 l3.c2 l3.c3 HFX.out l3.lt
  have hsm := Lib.hid (small_c [f] _ _ _ hsl (Nat.le_refl _))
  clear hsl l3 hb
  refine hsm.out.mono ?_
  rintro e X3 ⟨rfl, hb⟩
  clear hsm
  have HB2 := Lib.hid (HB.out.trans (hb.mono HB.out.size))
  have HBX2 := Lib.hid (HBX.out.heap (hb.block A HBX.out.lt) (Nat.lt_of_lt_of_le HBX.out.lt hb.size))
  have HFX2 := Lib.hid ((HFX.out.below hb (Nat.le_refl _)).mono hb.size)
  clear HB HBX HFX
  have HB := HB2
  have HBX := HBX2
  have HFX := HFX2
  clear HB2 HBX2 HFX2
  clear hb
  obtain ⟨c0, c1, c2, c3, g0, g1, g2, g3, cl⟩ := HBX.out
  by_cases hsmall : szS 0 [f] ≤ 500
  rotate_left
  · rw [decide_eq_false hsmall]
    go_wp2_with fail
    go_ret
    exact ⟨rfl, HB.out⟩
  rw [decide_eq_true hsmall]
  clear hsmall
  have hsc := Lib.hid (schema_c _ _ _ _ f X3.heap.size X3 HFX.out (Nat.le_refl _) (HRT.out _ HB.out).1)
  go_wp2_with fail
  refine hsc.out.mono ?_
  rintro e X4 ⟨rfl, hb⟩
  clear hsc
  clear c0 c1 c2 c3 g0 g1 g2 g3 cl
  have HB2 := Lib.hid (HB.out.trans (hb.mono HB.out.size))
  have HBX2 := Lib.hid (HBX.out.heap (hb.block A HBX.out.lt) (Nat.lt_of_lt_of_le HBX.out.lt hb.size))
  have HFX2 := Lib.hid ((HFX.out.below hb (Nat.le_refl _)).mono hb.size)
  clear HB HBX HFX
  have HB := HB2
  have HBX := HBX2
  have HFX := HFX2
  clear HB2 HBX2 HFX2
  clear hb
  by_cases hr : rightB true f = true
  rotate_left
  · rw [Bool.not_eq_true] at hr
    rw [hr]
    clear hr
    go_wp2_with fail
    go_ret
    exact ⟨rfl, HB.out⟩
  have HR := Lib.hid hr
  rw [hr]
  clear hr
  have hfu := Lib.hid (full_c _ f (Nat.lt_succ_self _) 1 (fok_right HR.out HOP.out) (Int.le_refl _) (Nat.le_trans (full_len HR.out HOP.out) (by omega)) _ _ _ _ X4.heap.size X4 HFX.out (Nat.le_refl _))
  obtain ⟨c0, c1, c2, c3, g0, g1, g2, g3, cl⟩ := HBX.out
  go_wp2_with fail
  refine hfu.out.mono ?_
  rintro e X5 ⟨rfl, hb⟩
  clear hfu
  clear c0 c1 c2 c3 g0 g1 g2 g3 cl
  have HB2 := Lib.hid (HB.out.trans (hb.mono HB.out.size))
  have HBX2 := Lib.hid (HBX.out.heap (hb.block A HBX.out.lt) (Nat.lt_of_lt_of_le HBX.out.lt hb.size))
  have HFX2 := Lib.hid ((HFX.out.below hb (Nat.le_refl _)).mono hb.size)
  clear HB HBX HFX
  have HB := HB2
  have HBX := HBX2
  have HFX := HFX2
  clear HB2 HBX2 HFX2
  clear hb
  obtain ⟨s, hs⟩ : ∃ s, FF f = s := ⟨_, rfl⟩
  have hsz := full_len HR.out HOP.out
  have hm1 := full_res HR.out HOP.out
  have hm2 := full_more HR.out HOP.out
  have hyes := fun h => full_res (m := false) (f := f) h HOP.out
  have hno := full_not HR.out HOP.out
  rw [hs] at hsz hm1 hm2 hyes hno ⊢
  clear hs
  have HM1 := Lib.hid hm1
  have HM2 := Lib.hid hm2
  have HYES := Lib.hid hyes
  have HNO := Lib.hid hno
  clear hm1 hm2 hyes hno
  have hfo := Lib.hid (form_c s X5 (by omega) (HRT.out _ HB.out).1 (HRT.out _ HB.out).2)
  go_wp2_with fail
  refine hfo.out.mono ?_
  rintro e X6 ⟨v, rfl, hv, hb⟩
  clear hfo
  obtain ⟨⟨fo, at0, er⟩, hres⟩ : ∃ x, formRes false (rightB false) s = x := ⟨_, rfl⟩
  rw [hres] at hv ⊢
  have HRES := Lib.hid hres
  clear hres
  have HB2 := Lib.hid (HB.out.trans (hb.mono HB.out.size))
  have HBX2 := Lib.hid (HBX.out.heap (hb.block A HBX.out.lt) (Nat.lt_of_lt_of_le HBX.out.lt hb.size))
  have HFX2 := Lib.hid ((HFX.out.below hb (Nat.le_refl _)).mono hb.size)
  clear HB HBX HFX
  have HB := HB2
  have HBX := HBX2
  have HFX := HFX2
  clear HB2 HBX2 HFX2
  obtain ⟨gz, hgz⟩ : ∃ gz, fo.getD Ps.zeroF = gz := ⟨_, rfl⟩
  have hv : FVal X5.heap.size X6 v (fo.getD Ps.zeroF) := hv
  rw [hgz] at hv
  have HGZ := Lib.hid hgz
  have HV := Lib.hid hv
  obtain ⟨a3, k3, a4, k4, rfl, HREST⟩ := hv
  clear hgz HREST hb
  obtain ⟨c0, c1, c2, c3, g0, g1, g2, g3, cl⟩ := HBX.out
  go_wp2_with fail
  have hG := Bx4.new X6 (.int .u8 gz.op) (.string gz.n) (.slice a3 gz.args.length k3) (.slice a4 gz.sub.length k4) 25
  have hv6 := HV.out
  have hb : Below X6.heap.size X6 (X6.alloc (.cells #[.int .u8 gz.op, .string gz.n, .slice a3 gz.args.length k3, .slice a4 gz.sub.length k4] 25)) := (Below.refl _ _).alloc (Nat.le_refl _) _
  have HFG := Lib.hid ((fval_fov hv6).below hb (Nat.le_refl _) |>.mono hb.size)
  obtain ⟨G, hGA⟩ : ∃ G, X6.heap.size = G := ⟨_, rfl⟩
  generalize (X6.alloc (.cells #[.int .u8 gz.op, .string gz.n, .slice a3 gz.args.length k3, .slice a4 gz.sub.length k4] 25)) = X7 at *
  clear c0 c1 c2 c3 g0 g1 g2 g3 cl
  have HB2 := Lib.hid (HB.out.trans (hb.mono HB.out.size))
  have HBX2 := Lib.hid (HBX.out.heap (hb.block A HBX.out.lt) (Nat.lt_of_lt_of_le HBX.out.lt hb.size))
  have HFX2 := Lib.hid ((HFX.out.below hb (Nat.le_refl _)).mono hb.size)
  clear HB HBX HFX
  have HB := HB2
  have HBX := HBX2
  have HFX := HFX2
  clear HB2 HBX2 HFX2
  rw [hGA] at hG ⊢
  have HBG := Lib.hid hG
  clear hv6 hG hGA HV hb
  have hme := Lib.hid (means_true s X7 (by omega) (HRT.out _ HB.out).1 (HRT.out _ HB.out).2 f _ _ _ _ HFX.out HM1.out (eqF_me f))
  refine hme.out.mono ?_
  rintro e X8 ⟨rfl, hb⟩
  clear hme
  have HB2 := Lib.hid (HB.out.trans (hb.mono HB.out.size))
  have HBX2 := Lib.hid (HBX.out.heap (hb.block A HBX.out.lt) (Nat.lt_of_lt_of_le HBX.out.lt hb.size))
  have HFX2 := Lib.hid ((HFX.out.below hb (Nat.le_refl _)).mono hb.size)
  clear HB HBX HFX
  have HB := HB2
  have HBX := HBX2
  have HFX := HFX2
  clear HB2 HBX2 HFX2
  have HBG2 := Lib.hid (HBG.out.heap (hb.block G HBG.out.lt) (Nat.lt_of_lt_of_le HBG.out.lt hb.size))
  have HFG2 := Lib.hid ((HFG.out.below hb (Nat.le_refl _)).mono hb.size)
  clear HBG HFG
  have HBG := HBG2
  have HFG := HFG2
  clear HBG2 HFG2
  clear hb
  obtain ⟨c0, c1, c2, c3, g0, g1, g2, g3, cl⟩ := HBX.out
  obtain ⟨d0, d1, d2, d3, _, _, _, _, dl⟩ := HBG.out
  have hs1 : (⟨#[40, 40, 32]⟩ ++ s ++ ⟨#[41, 41]⟩ : ByteArray).size ≤ 16384 := by rw [ByteArray.size_append, ByteArray.size_append]; show 3 + s.size + 2 ≤ 16384; omega
  have w1 : ¬ 9223372036854775807 < 3 + s.size := by omega
  have w2 : ¬ 9223372036854775807 < 3 + s.size + 2 := by omega
  have hme := Lib.hid (means_true (⟨#[40, 40, 32]⟩ ++ s ++ ⟨#[41, 41]⟩) X8 hs1 (HRT.out _ HB.out).1 (HRT.out _ HB.out).2 f _ _ _ _ HFX.out HM2.out (eqF_me f))
  clear hs1
  go_wp2_with fail
  refine hme.out.mono ?_
  rintro e X9 ⟨rfl, hb⟩
  clear hme w1 w2
  clear c0 c1 c2 c3 g0 g1 g2 g3 cl
  clear d0 d1 d2 d3 dl
  have HB2 := Lib.hid (HB.out.trans (hb.mono HB.out.size))
  have HBX2 := Lib.hid (HBX.out.heap (hb.block A HBX.out.lt) (Nat.lt_of_lt_of_le HBX.out.lt hb.size))
  have HFX2 := Lib.hid ((HFX.out.below hb (Nat.le_refl _)).mono hb.size)
  clear HB HBX HFX
  have HB := HB2
  have HBX := HBX2
  have HFX := HFX2
  clear HB2 HBX2 HFX2
  have HBG2 := Lib.hid (HBG.out.heap (hb.block G HBG.out.lt) (Nat.lt_of_lt_of_le HBG.out.lt hb.size))
  have HFG2 := Lib.hid ((HFG.out.below hb (Nat.le_refl _)).mono hb.size)
  clear HBG HFG
  have HBG := HBG2
  have HFG := HFG2
  clear HBG2 HFG2
  clear hb
  obtain ⟨c0, c1, c2, c3, g0, g1, g2, g3, cl⟩ := HBX.out
  obtain ⟨d0, d1, d2, d3, _, _, _, _, dl⟩ := HBG.out
  have hri := Lib.hid (right_c _ _ _ _ f X9.heap.size X9 HFX.out (Nat.le_refl _) (HRT.out _ HB.out).1)
  go_wp2_with fail
  refine hri.out.mono ?_
  rintro e Y ⟨rfl, hb⟩
  clear hri
  clear c0 c1 c2 c3 g0 g1 g2 g3 cl
  clear d0 d1 d2 d3 dl
  have HB2 := Lib.hid (HB.out.trans (hb.mono HB.out.size))
  have HBX2 := Lib.hid (HBX.out.heap (hb.block A HBX.out.lt) (Nat.lt_of_lt_of_le HBX.out.lt hb.size))
  have HFX2 := Lib.hid ((HFX.out.below hb (Nat.le_refl _)).mono hb.size)
  clear HB HBX HFX
  have HB := HB2
  have HBX := HBX2
  have HFX := HFX2
  clear HB2 HBX2 HFX2
  have HBG2 := Lib.hid (HBG.out.heap (hb.block G HBG.out.lt) (Nat.lt_of_lt_of_le HBG.out.lt hb.size))
  have HFG2 := Lib.hid ((HFG.out.below hb (Nat.le_refl _)).mono hb.size)
  clear HBG HFG
  have HBG := HBG2
  have HFG := HFG2
  clear HBG2 HFG2
  clear hb
  cases hrf : rightB false f with
  | true =>
    have h2 := HYES.out hrf
    rw [HRES.out] at h2
    have h5 := (Prod.mk.inj h2).1
    obtain ⟨h6, h7⟩ := Prod.mk.inj (Prod.mk.inj h2).2
    subst h5 h6 h7
    have hg : gz = f := HGZ.out.symm
    subst hg
    have heq := Lib.hid (eqF_c (SizeOf.sizeOf gz + 1) gz (Nat.lt_succ_self _) gz _ _ _ _ _ _ _ _ Y.heap.size Y HFG.out HFX.out (Nat.le_refl _))
    rw [eqF_me gz] at heq
    obtain ⟨c0, c1, c2, c3, _, _, _, _, cl⟩ := HBX.out
    obtain ⟨d0, d1, d2, d3, _, _, _, _, dl⟩ := HBG.out
    clear HRES HYES HNO HM1 HM2 h2
    go_wp2_with fail
    refine heq.out.mono ?_
    rintro e Z ⟨rfl, hb⟩
    have HB2 := Lib.hid (HB.out.trans (hb.mono HB.out.size))
    clear hb
    go_wp2_with fail
    go_ret
    exact ⟨rfl, HB2.out⟩
  | false =>
    obtain ⟨a, h2, h3, h4⟩ := HNO.out hrf
    rw [HRES.out] at h2
    have h5 := (Prod.mk.inj h2).1
    obtain ⟨h6, h7⟩ := Prod.mk.inj (Prod.mk.inj h2).2
    subst h5 h6 h7
    have n1 : (a : Int) < (s.size : Int) := by omega
    have n2 : decide ((a : Int) < (s.size : Int)) = true := decide_eq_true n1
    have n3 : decide (a < s.size) = true := decide_eq_true h3
    clear HRES HYES HNO HM1 HM2 h2
    go_wp2_with fail
    go_ret
    exact ⟨rfl, HB.out⟩
end Go.Proofs.YtkeckecdhcknhaaDoor.Ft
