/-
  ParseOnly returns true for every string: a text without metavariables is a formula exactly if it is a schema, and the same; one with a metavariable is no formula; what is read is right; and no text is both a term and a formula.
  The condition of the row: the tables of forms and of levels hold what the program's text lays in them (tied by the card).
-/
/-
  Several texts in one: PsOnlyT, PsCatchTi, PsCatchTp, PsResT, PsReadT, PsRightTm, PsTermApi, PsOnlyK, PsOnlyD, PsOnly, PsOpen, ParseOnlyCard.
-/
import Derived.Test.YtggkehncpkfakaaDoorMgLoc
import Derived.Test.YtggkehncpkfakaaDoorMgApi
import Derived.Test.YtggkehncpkfakaaDoorFmNodes
import Derived.Test.YtggkehncpkfakaaDoorMgEx
import Derived.WalkLawsBesides
import Derived.Test.YtggkehncpkfakaaDoorMgBlank
import Derived.Test.YtggkehncpkfakaaDoorCards
import Derived.Test.YtggkehncpkfakaaDoorTie
import Derived.Test.YtggkehncpkfakaaDoorPsFirst
import Derived.ProofKit
import Derived.OpenShut
import Derived.Deep.DeepHandedRow
import Derived.Lib.LaidTab
import Derived.SizedLaws
import Derived.Test.YtggkehncpkfakaaDoorPsAwk

/-
  A text without metavariables is the same formula as a schema: plain mathematics.
-/
namespace Go.Proofs.YtggkehncpkfakaaDoor.Ps
open Go Go.RowKit Go.Proofs.YtggkehncpkfakaaDoor.Fm Go.Proofs.YtggkehncpkfakaaDoor.Lx
set_option linter.unusedVariables false
set_option linter.unusedSimpArgs false
/-- The same of two ways to read. -/
theorem locate2 (m m' : Bool) (ts : List Tg) (hE : Ended m ts) :
    (∃ f i, i < ts.length ∧ binC m 0 0 ts = .ok f (ts.drop i) ∧ ∀ ts2, AgrN m m' (i + 1) ts ts2 → binC m' 0 0 ts2 = .ok f (ts2.drop i)) ∨
    (∃ i e, i < ts.length ∧ (e = 50 ∨ e = 51) ∧ binC m 0 0 ts = bad (ts.drop i) e ∧ ∀ ts2, AgrN m m' (i + 1) ts ts2 → binC m' 0 0 ts2 = bad (ts2.drop i) e) := by
  have hre := re_bin (phi ts) (phi_zero ts) m 0 0 (ixF 0 ts)
  rw [re_ixF ts 0 ts rfl] at hre
  have hinv : InvR (fun r => ∃ i, i < ts.length ∧ r = (ixF 0 ts).drop i) (binC m 0 0 (ixF 0 ts)) := by
    refine inv_bin (m := m) (fun r ⟨i, hi, e⟩ ha => ⟨i + 1, hE.2 i hi ?_, by rw [e, List.drop_drop]⟩) 0 0 _ ⟨0, List.length_pos_iff.2 hE.1, rfl⟩ (by omega)
    rw [e, ixF_drop, ixF_tx] at ha
    exact ha
  have hag : ∀ k ts2, AgrN m m' k ts ts2 → AgrN m m' k (ixF 0 ts) ts2 := fun k ts2 h i hi => by
    rw [ixF_drop, ixF_tx]
    exact h i hi
  cases hx : binC m 0 0 (ixF 0 ts) with
  | ok f r =>
    obtain ⟨i, hi, e⟩ := hinv.1 f r hx
    refine .inl ⟨f, i, hi, ?_, fun ts2 h2 => ?_⟩
    · rw [hre, hx]
      show R.ok f (re (phi ts) r) = _
      rw [e, ← re_drop, re_ixF ts 0 ts rfl]
    · rcases sim_bin 0 0 (i + 1) (ixF 0 ts) ts2 (hag _ _ h2) (by omega) with ⟨a, j, hj, e1, e2⟩ | ⟨j, e', hj, e1, e2⟩ | ⟨f1, _⟩
      · rw [hx] at e1
        injection e1 with e1 e3
        subst e1
        have := congrArg List.length (e.symm.trans e3)
        rw [List.length_drop, List.length_drop, ixF_len] at this
        obtain rfl : j = i := by omega
        exact e2
      · rw [hx] at e1; cases e1
      · obtain ⟨q, hq, e3⟩ := f1.1 f r hx
        have := congrArg List.length (e.symm.trans e3)
        rw [List.length_drop, List.length_drop, ixF_len] at this
        omega
  | er a e =>
    obtain ⟨r, ⟨i, hi, er⟩, ha, he⟩ := hinv.2 a e hx
    have ha' : a = ((i + 1 : Nat) : Int) := by rw [ha, er, ixF_hd 0 i ts hi, Nat.zero_add]
    refine .inr ⟨i, e, hi, he, ?_, fun ts2 h2 => ?_⟩
    · rw [hre, hx]
      show R.er (phi ts a) e = R.er (hd (ts.drop i)).a e
      rw [ha']
      unfold phi
      rw [if_neg (by omega), show (((i + 1 : Nat) : Int) - 1).toNat = i by omega]
    · rcases sim_bin 0 0 (i + 1) (ixF 0 ts) ts2 (hag _ _ h2) (by omega) with ⟨b, j, hj, e1, e2⟩ | ⟨j, e', hj, e1, e2⟩ | ⟨f1, _⟩
      · rw [hx] at e1; cases e1
      · rw [hx] at e1
        have e1 : R.er a e = R.er (hd ((ixF 0 ts).drop j)).a e' := e1
        obtain ⟨e4, e3⟩ := R.er.inj e1
        have e5 := ixF_hd 0 j ts (by omega)
        rw [← e4, ha'] at e5
        obtain rfl : j = i := by omega
        rw [e3]
        exact e2
      · obtain ⟨r', ⟨q, hq, e3⟩, e4, _⟩ := f1.2 a e hx
        rw [ha', e3] at e4
        by_cases hql : q < ts.length
        · rw [ixF_hd 0 q ts hql] at e4; omega
        · rw [List.drop_eq_nil_iff.2 (by rw [ixF_len]; omega)] at e4
          have e4 : ((i + 1 : Nat) : Int) = 0 := e4
          omega
def VT (x : R Tm) : Prop := ∀ t r, x = .ok t r → t.right false = t.right true
def VTs (x : R (List Tm)) : Prop := ∀ l r, x = .ok l r → ∀ t ∈ l, t.right false = t.right true
theorem all_same {l : List Tm} (h : ∀ t ∈ l, t.right false = t.right true) : (l.all fun t => t.right false) = l.all fun t => t.right true := by
  induction l with
  | nil => rfl
  | cons t r ih => rw [List.all_cons, List.all_cons, h t (List.mem_cons_self ..), ih fun u hu => h u (List.mem_cons_of_mem _ hu)]
theorem bind_ok {α β : Type} {x : R α} {f : α → List Tg → R β} {b : β} {r : List Tg} (h : x.bind f = .ok b r) : ∃ a r', x = .ok a r' ∧ f a r' = .ok b r := by
  cases x with
  | ok a r' => exact ⟨a, r', rfl, h⟩
  | er a e => cases h
theorem nm_terms : ∀ k, (∀ n ts, VT (termF false k n ts)) ∧ (∀ n ts, VTs (argsF false k n ts)) ∧ (∀ n ts, VTs (listF false k n ts)) ∧ ∀ n l ts, (∀ t ∈ l, t.right false = t.right true) → VTs (moreF false k n l ts)
  | 0 => by
    refine ⟨fun _ _ t r h => ?_, fun _ _ t r h => ?_, fun _ _ t r h => ?_, fun _ _ _ _ t r h => ?_⟩
    · unfold termF at h; cases h
    · unfold argsF at h; cases h
    · unfold listF at h; cases h
    · unfold moreF at h; cases h
  | k + 1 => by
    obtain ⟨h1, h2, h3, h4⟩ := nm_terms k
    refine ⟨fun n ts t r h => ?_, fun n ts l r h => ?_, fun n ts l r h => ?_, fun n l ts hl l' r h => ?_⟩
    · unfold termF at h
      split at h
      · cases h
      split at h
      · next _ hv =>
        injection h with h _
        subst h
        have hv : varB (tx ts) = true := by
          rw [Bool.or_eq_true] at hv
          rcases hv with hv | hv
          · exact hv
          · unfold mtB at hv; simp at hv
        have : varT (.mk true (tx ts) []) = true := by unfold varT; simp [Tm.v, Tm.args, Tm.n, hv]
        rw [Tm.right_eq, Tm.right_eq, this]
        simp [Tm.v]
      split at h
      · obtain ⟨l, r', hx, h⟩ := bind_ok h
        injection h with h _
        subst h
        rw [Tm.right_eq, Tm.right_eq]
        simp only [Tm.v, Tm.args, Tm.n, Bool.false_eq_true, if_false]
        rw [all_same (h2 n (ts.drop 1) l r' hx)]
      · cases h
    · unfold argsF at h
      split at h
      · obtain ⟨l2, r', hx, h⟩ := bind_ok h
        split at h
        · injection h with h _
          subst h
          exact h3 _ _ _ _ hx
        · cases h
      · injection h with h _
        subst h
        intro t ht; cases ht
    · unfold listF at h
      obtain ⟨t, r', hx, h⟩ := bind_ok h
      exact h4 n [t] r' (fun u hu => by rw [List.mem_singleton.1 hu]; exact h1 n ts t r' hx) l r h
    · unfold moreF at h
      split at h
      · obtain ⟨t, r', hx, h⟩ := bind_ok h
        refine h4 n (l ++ [t]) r' (fun u hu => ?_) l' r h
        rcases List.mem_append.1 hu with hu | hu
        · exact hl u hu
        · rw [List.mem_singleton.1 hu]; exact h1 n (ts.drop 1) t r' hx
      · injection h with h _
        subst h
        exact hl
inductive Nm : Fo → Prop where
  | mk (o : Int) (n : ByteArray) (l : List Tm) (s : List Fo) (h1 : o ≠ 15) (h2 : o ≠ 16) (h3 : ∀ t ∈ l, t.right false = t.right true) (h4 : ∀ g ∈ s, Nm g) : Nm (.mk o n l s)
def VF (x : R Fo) : Prop := ∀ f r, x = .ok f r → Nm f
theorem unOp_cases (s : ByteArray) : unOp s = 0 ∨ unOp s = 3 ∨ (8 ≤ unOp s ∧ unOp s ≤ 13) := by
  unfold unOp
  repeat' split
  all_goals omega
theorem lvO_cases (i : Nat) : 4 ≤ lvO i ∧ lvO i ≤ 14 := by
  unfold lvO
  split <;> omega
theorem nm_two (i : Nat) {f g : Fo} (hf : Nm f) (hg : Nm g) : Nm (two (lvO i) f g) := by
  have := lvO_cases i
  refine .mk _ _ _ _ (by omega) (by omega) (fun t ht => by cases ht) fun x hx => ?_
  rcases List.mem_cons.1 hx with rfl | hx
  · exact hf
  · rw [List.mem_singleton.1 hx]; exact hg
theorem nm_one (s n : ByteArray) {g : Fo} (h : unOp s ≠ 0) (hg : Nm g) : Nm (.mk (unOp s) n [] [g]) := by
  have := unOp_cases s
  refine .mk _ _ _ _ (by omega) (by omega) (fun t ht => by cases ht) fun x hx => ?_
  rw [List.mem_singleton.1 hx]; exact hg
theorem nm_forms : ∀ k, (∀ i n ts, VF (binF false k i n ts)) ∧ (∀ i n f ts, Nm f → VF (chF false k i n f ts)) ∧ (∀ n ts, VF (unF false k n ts)) ∧ ∀ n ts, VF (basF false k n ts)
  | 0 => by
    refine ⟨fun _ _ _ f r h => ?_, fun _ _ _ _ _ f r h => ?_, fun _ _ f r h => ?_, fun _ _ f r h => ?_⟩
    · unfold binF at h; cases h
    · unfold chF at h; cases h
    · unfold unF at h; cases h
    · unfold basF at h; cases h
  | k + 1 => by
    obtain ⟨h1, h2, h3, h4⟩ := nm_forms k
    refine ⟨fun i n ts f r h => ?_, fun i n f ts hf g r h => ?_, fun n ts f r h => ?_, fun n ts f r h => ?_⟩
    · unfold binF at h
      split at h
      · exact h3 n ts f r h
      obtain ⟨g, r', hx, h⟩ := bind_ok h
      have hg := h1 _ _ _ _ _ hx
      split at h
      · split at h
        · obtain ⟨g2, r2, hx2, h⟩ := bind_ok h
          injection h with h _
          subst h
          exact nm_two i hg (h1 _ _ _ _ _ hx2)
        · injection h with h _
          subst h
          exact hg
      · exact h2 i n g r' hg f r h
    · unfold chF at h
      split at h
      · obtain ⟨g2, r', hx, h⟩ := bind_ok h
        exact h2 i n _ r' (nm_two i hf (h1 _ _ _ _ _ hx)) g r h
      · injection h with h _
        subst h
        exact hf
    · unfold unF at h
      split at h
      · cases h
      split at h
      · exact h4 n ts f r h
      next ho =>
      split at h
      · split at h
        · obtain ⟨g, r', hx, h⟩ := bind_ok h
          injection h with h _
          subst h
          exact nm_one _ _ ho (h3 _ _ _ _ hx)
        · cases h
      · obtain ⟨g, r', hx, h⟩ := bind_ok h
        injection h with h _
        subst h
        exact nm_one _ _ ho (h3 _ _ _ _ hx)
    · unfold basF at h
      split at h
      · obtain ⟨g, r', hx, h⟩ := bind_ok h
        split at h
        · injection h with h _
          subst h
          exact h1 _ _ _ _ _ hx
        · cases h
      split at h
      · injection h with h _
        subst h
        exact .mk _ _ _ _ (by decide) (by decide) (fun t ht => by cases ht) fun x hx => by cases hx
      split at h
      · next hm => unfold mfB at hm; simp at hm
      split at h
      · obtain ⟨l, r', hx, h⟩ := bind_ok h
        injection h with h _
        subst h
        exact .mk _ _ _ _ (by decide) (by decide) (fun t ht => (nm_terms _).2.1 n (ts.drop 1) l r' hx t ht) fun x hx => by cases hx
      · cases h
theorem row_plain (o : Int) (h1 : o ≠ 15) (h2 : o ≠ 16) : (rowOf o).schema = false := by
  unfold rowOf
  have e : o.toNat ≠ 15 ∧ o.toNat ≠ 16 := by omega
  generalize o.toNat = k at e
  by_cases hk : k < 17
  · have : k = 0 ∨ k = 1 ∨ k = 2 ∨ k = 3 ∨ k = 4 ∨ k = 5 ∨ k = 6 ∨ k = 7 ∨ k = 8 ∨ k = 9 ∨ k = 10 ∨ k = 11 ∨ k = 12 ∨ k = 13 ∨ k = 14 := by omega
    rcases this with rfl | rfl | rfl | rfl | rfl | rfl | rfl | rfl | rfl | rfl | rfl | rfl | rfl | rfl | rfl <;> rfl
  · rw [List.getElem?_eq_none (by show 17 ≤ k; omega)]; rfl
theorem nm_sat {f : Fo} (h : Nm f) : ∀ lv, ∀ x ∈ f.all lv, satB false x.2 = satB true x.2 := by
  induction h with
  | mk o n l s h1 h2 h3 _ ih =>
    intro lv x hx
    rw [Fo.all_eq] at hx
    rcases List.mem_cons.1 hx with rfl | hx
    · have e1 : headB false (.mk o n l s) = headB true (.mk o n l s) := by
        unfold headB
        rw [show (rowOf (Fo.mk o n l s).op).schema = false from row_plain o h1 h2]
        rfl
      have e2 : tailB false (.mk o n l s) = tailB true (.mk o n l s) := by
        unfold tailB
        rw [if_neg (show (Fo.mk o n l s).op ≠ 16 from h2), if_neg (show (Fo.mk o n l s).op ≠ 16 from h2)]
        exact all_same h3
      show satB false (.mk o n l s) = satB true (.mk o n l s)
      unfold satB
      rw [e1, e2]
    · obtain ⟨g, hg, hx⟩ := List.mem_flatMap.1 hx
      exact ih g hg _ x hx
theorem nm_right {f : Fo} (h : Nm f) : rightB false f = rightB true f := by
  unfold rightB allB
  congr 1
  have := nm_sat h 1
  generalize f.all 1 = l at this
  induction l with
  | nil => rfl
  | cons x r ih => rw [List.all_cons, List.all_cons, this x (List.mem_cons_self ..), ih fun u hu => this u (List.mem_cons_of_mem _ hu)]
/-- No token is a metavariable. -/
theorem plain_same (s : ByteArray) (hs : s.size ≤ 16384) (hl : lexErr s = none) (hm : ∀ t ∈ tgL s, mtB true t.t = false ∧ mfB true t.t = false) : formRes false (rightB false) s = formRes true (rightB true) s := by
  have hE : ∀ m, mtB m ⟨#[]⟩ = false ∧ mfB m ⟨#[]⟩ = false := fun m => ⟨by cases h : mtB m ⟨#[]⟩ with | false => rfl | true => exact absurd rfl (mtB_ne h), by cases h : mfB m ⟨#[]⟩ with | false => rfl | true => exact absurd rfl (mfB_ne h)⟩
  have hag : ∀ k, AgrN false true k (tgL s) (tgL s) := fun k i _ => by
    have h : mtB true (tx ((tgL s).drop i)) = false ∧ mfB true (tx ((tgL s).drop i)) = false := by
      by_cases hi : i < (tgL s).length
      · unfold tx
        rw [hd_drop hi]
        exact hm _ (List.getElem_mem _)
      · rw [List.drop_eq_nil_of_le (by omega)]
        exact hE true
    refine .inl ⟨rfl, ?_, ?_⟩
    · rw [h.1]; unfold mtB; simp
    · rw [h.2]; unfold mfB; simp
  have hf1 : formRes false (rightB false) s = endC (rightB false) (binC false 0 0 (tgL s)) := by unfold formRes; rw [hl]
  have hf2 : formRes true (rightB true) s = endC (rightB true) (binC true 0 0 (tgL s)) := by unfold formRes; rw [hl]
  rw [hf1, hf2]
  rcases locate2 false true (tgL s) (ended_tok false (tok_tgL hs hl).1) with ⟨f, i, hi, hx, hloc⟩ | ⟨i, e, hi, hee, hx, hloc⟩
  · have hn : Nm f := (nm_forms _).1 _ _ _ f _ hx
    rw [hx, hloc _ (hag _)]
    have hr := nm_right hn
    show (if (hd _).k == 5 then if rightB false f = true then (some f, 0, 0) else (none, 0, 3) else (none, (hd _).a, 50)) = (if (hd _).k == 5 then if rightB true f = true then (some f, 0, 0) else (none, 0, 3) else (none, (hd _).a, 50))
    rw [hr]
  · rw [hx, hloc _ (hag _)]
    rfl
end Go.Proofs.YtggkehncpkfakaaDoor.Ps

/-
  A deferred function of read.
-/
namespace Go.Proofs.YtggkehncpkfakaaDoor.Ps
open Go Go.RowKit Go.Shelf Go.Proofs.YtggkehncpkfakaaDoor.Fm Go.Proofs.YtggkehncpkfakaaDoor.Lx
set_option linter.unusedVariables false
set_option linter.unusedSimpArgs false
set_option maxRecDepth 20000 in
set_option maxHeartbeats 8000000 in
theorem catch_idleT (pa pe : Addr) (W : World) :
    CallsD Tryd.prog 55 #[.pointer (some pa), .pointer (some pe)] .returning W fun e u' w' => e = .returned (.tuple #[]) ∧ u' = .returning ∧ Below W.heap.size W w' := by
  refine callsD_of_wpS Tryd.func55 rfl fun c₀ cs hu => ?_
  have hta := ta_nil
  have hrec : recoverD (c₀ :: cs) = none := by simp [recoverD, hu]
  simp only [Tryd.ntmps55, List.size_toArray, List.length_cons, List.length_nil, Nat.reduceAdd, Nat.reduceSub, Array.replicate_succ, Array.replicate_zero, List.push_toArray, List.append_toArray, List.nil_append, List.cons_append]
  apply wpS_seq
  apply wpS_region
  rw [show List.range _ = [0, 1, 2, 3, 4, 5, 6, 7] from rfl]
  refine opsS_open fun QS hQS => ?_
  refine opsS_nil (o := ⟨some 5, _, _, _, _, _⟩) (w' := W) rfl ?_ ?_ hrec ?_
  · rfl
  · go_simp
  simp only [Act.put, List.setIfInBounds_toArray, List.set_cons_zero, List.set_cons_succ]
  refine opsS_val (o := ⟨some 6, _, _, _, _, _⟩) (v := .tuple #[.agg #[.int .i64 0, .int .i64 0], .bool false]) (w' := W) rfl ?_ ?_ ?_
  · rfl
  · go_simp
  simp only [Act.put, List.setIfInBounds_toArray, List.set_cons_zero, List.set_cons_succ]
  refine opsS_val (o := ⟨some 4, _, _, _, _, _⟩) (v := .tuple #[.agg #[.int .i64 0, .int .i64 0], .bool false]) (w' := W) rfl ?_ ?_ ?_
  · rfl
  · go_simp
  simp only [Act.put, List.setIfInBounds_toArray, List.set_cons_zero, List.set_cons_succ]
  refine opsS_val (o := ⟨some 7, _, _, _, _, _⟩) (v := .agg #[.int .i64 0, .int .i64 0]) (w' := W) rfl ?_ ?_ ?_
  · rfl
  · go_simp
  simp only [Act.put, List.setIfInBounds_toArray, List.set_cons_zero, List.set_cons_succ]
  refine opsS_val (o := ⟨some 8, _, _, _, _, _⟩) (v := .bool false) (w' := W) rfl ?_ ?_ ?_
  · rfl
  · go_simp
  simp only [Act.put, List.setIfInBounds_toArray, List.set_cons_zero, List.set_cons_succ]
  refine opsS_val (o := ⟨some 2, _, _, _, _, _⟩) (v := .pointer (some ⟨W.heap.size, 0, none⟩)) (w' := W.alloc (.cells #[.int .i64 0, .int .i64 0] 81)) rfl ?_ ?_ ?_
  · rfl
  · go_simp
  simp only [Act.put, List.setIfInBounds_toArray, List.set_cons_zero, List.set_cons_succ]
  refine opsS_skip (o := ⟨none, _, _, _, _, _⟩) (w' := W.alloc (.cells #[.int .i64 0, .int .i64 0] 81)) rfl ?_ ?_ ?_
  · rfl
  · go_simp
  simp only [Act.put, List.setIfInBounds_toArray, List.set_cons_zero, List.set_cons_succ]
  refine opsS_val (o := ⟨some 3, _, _, _, _, _⟩) (v := .bool false) (w' := W.alloc (.cells #[.int .i64 0, .int .i64 0] 81)) rfl ?_ ?_ ?_
  · rfl
  · go_simp
  simp only [Act.put, List.setIfInBounds_toArray, List.set_cons_zero, List.set_cons_succ]
  refine hQS _ _ _ ?_
  simp only [Exit.thenS]
  apply wpS_seq
  apply wpS_region
  rw [show List.range _ = [0] from rfl]
  refine opsS_val (o := ⟨some 9, _, _, _, _, _⟩) (v := .bool false) (w' := W.alloc (.cells #[.int .i64 0, .int .i64 0] 81)) rfl ?_ ?_ ?_
  · rfl
  · go_simp
  simp only [Act.put, List.setIfInBounds_toArray, List.set_cons_zero, List.set_cons_succ]
  show Exit.thenS _ _ .normal _ _ _
  simp only [Exit.thenS]
  refine wpS_cond (t := false) rfl ?_
  simp only [Bool.false_eq_true, if_false]
  refine wpS_of_wp (wp_skip ?_)
  cases c₀
  simp only at hu
  subst hu
  simp [bodyPostS, results, Tryd.results55]
  exact (Below.refl _ _).alloc (Nat.le_refl _) _
end Go.Proofs.YtggkehncpkfakaaDoor.Ps

/-
  A deferred function of read.
-/
namespace Go.Proofs.YtggkehncpkfakaaDoor.Ps
open Go Go.RowKit Go.Shelf Go.Proofs.YtggkehncpkfakaaDoor.Fm Go.Proofs.YtggkehncpkfakaaDoor.Lx
set_option linter.unusedVariables false
set_option linter.unusedSimpArgs false
set_option maxRecDepth 20000 in
set_option maxHeartbeats 8000000 in
theorem catch_panicT (A E : Nat) (x y : Value) (a0 e0 : Int) (older : List PanicEntry) (W : World) (cA : W.cell? ⟨A, 0, none⟩ = some x) (cE : W.cell? ⟨E, 0, none⟩ = some y) (fA : W.frozen? ⟨A, 0, none⟩ = false) (fE : W.frozen? ⟨E, 0, none⟩ = false) (hAE : A ≠ E) :
    CallsD Tryd.prog 55 #[.pointer (some ⟨A, 0, none⟩), .pointer (some ⟨E, 0, none⟩)] (.panicking ({ v := .iface 81 (.agg #[.int .i64 a0, .int .i64 e0]), recovered := false } :: older)) W fun e u' w' =>
      e = .returned (.tuple #[]) ∧ u' = .panicking ({ v := .iface 81 (.agg #[.int .i64 a0, .int .i64 e0]), recovered := true } :: older) ∧ Grow (fun b => b = A ∨ b = E) W w' ∧ w'.cell? ⟨A, 0, none⟩ = some (.int .i64 a0) ∧ w'.cell? ⟨E, 0, none⟩ = some (.int .i64 e0) := by
  refine callsD_of_wpS Tryd.func55 rfl fun c₀ cs hu => ?_
  have hta := ta_wrong a0 e0
  have hA : A < W.heap.size := World.block_lt_of_cell? W ⟨A, 0, none⟩ cA
  have hE : E < W.heap.size := World.block_lt_of_cell? W ⟨E, 0, none⟩ cE
  have hrec : recoverD (c₀ :: cs) = some (.iface 81 (.agg #[.int .i64 a0, .int .i64 e0]), { c₀ with mode := .panicking ({ v := .iface 81 (.agg #[.int .i64 a0, .int .i64 e0]), recovered := true } :: older) } :: cs) := by simp [recoverD, hu]
  simp only [Tryd.ntmps55, List.size_toArray, List.length_cons, List.length_nil, Nat.reduceAdd, Nat.reduceSub, Array.replicate_succ, Array.replicate_zero, List.push_toArray, List.append_toArray, List.nil_append, List.cons_append]
  apply wpS_seq
  apply wpS_region
  rw [show List.range _ = [0, 1, 2, 3, 4, 5, 6, 7] from rfl]
  refine opsS_open fun QS hQS => ?_
  refine opsS_rec (o := ⟨some 5, _, _, _, _, _⟩) (w' := W) rfl ?_ ?_ hrec ?_
  · rfl
  · go_simp
  simp only [Act.put, List.setIfInBounds_toArray, List.set_cons_zero, List.set_cons_succ]
  refine opsS_val (o := ⟨some 6, _, _, _, _, _⟩) (v := .tuple #[.agg #[.int .i64 a0, .int .i64 e0], .bool true]) (w' := W) rfl ?_ ?_ ?_
  · rfl
  · go_simp
  simp only [Act.put, List.setIfInBounds_toArray, List.set_cons_zero, List.set_cons_succ]
  refine opsS_val (o := ⟨some 4, _, _, _, _, _⟩) (v := .tuple #[.agg #[.int .i64 a0, .int .i64 e0], .bool true]) (w' := W) rfl ?_ ?_ ?_
  · rfl
  · go_simp
  simp only [Act.put, List.setIfInBounds_toArray, List.set_cons_zero, List.set_cons_succ]
  refine opsS_val (o := ⟨some 7, _, _, _, _, _⟩) (v := .agg #[.int .i64 a0, .int .i64 e0]) (w' := W) rfl ?_ ?_ ?_
  · rfl
  · go_simp
  simp only [Act.put, List.setIfInBounds_toArray, List.set_cons_zero, List.set_cons_succ]
  refine opsS_val (o := ⟨some 8, _, _, _, _, _⟩) (v := .bool true) (w' := W) rfl ?_ ?_ ?_
  · rfl
  · go_simp
  simp only [Act.put, List.setIfInBounds_toArray, List.set_cons_zero, List.set_cons_succ]
  refine opsS_val (o := ⟨some 2, _, _, _, _, _⟩) (v := .pointer (some ⟨W.heap.size, 0, none⟩)) (w' := W.alloc (.cells #[.int .i64 0, .int .i64 0] 81)) rfl ?_ ?_ ?_
  · rfl
  · go_simp
  simp only [Act.put, List.setIfInBounds_toArray, List.set_cons_zero, List.set_cons_succ]
  refine opsS_skip (o := ⟨none, _, _, _, _, _⟩) (w' := W.alloc (.cells #[.int .i64 a0, .int .i64 e0] 81)) rfl ?_ ?_ ?_
  · rfl
  · go_simp
  simp only [Act.put, List.setIfInBounds_toArray, List.set_cons_zero, List.set_cons_succ]
  refine opsS_val (o := ⟨some 3, _, _, _, _, _⟩) (v := .bool true) (w' := W.alloc (.cells #[.int .i64 a0, .int .i64 e0] 81)) rfl ?_ ?_ ?_
  · rfl
  · go_simp
  simp only [Act.put, List.setIfInBounds_toArray, List.set_cons_zero, List.set_cons_succ]
  refine hQS _ _ _ ?_
  simp only [Exit.thenS]
  apply wpS_seq
  apply wpS_region
  rw [show List.range _ = [0] from rfl]
  refine opsS_val (o := ⟨some 9, _, _, _, _, _⟩) (v := .bool true) (w' := W.alloc (.cells #[.int .i64 a0, .int .i64 e0] 81)) rfl ?_ ?_ ?_
  · rfl
  · go_simp
  simp only [Act.put, List.setIfInBounds_toArray, List.set_cons_zero, List.set_cons_succ]
  show Exit.thenS _ _ .normal _ _ _
  simp only [Exit.thenS]
  refine wpS_cond (t := true) rfl ?_
  simp only [if_true]
  refine wpS_of_wp ?_
  have al : Below W.heap.size W (W.alloc (.cells #[.int .i64 a0, .int .i64 e0] 81)).drew := Below.drew ((Below.refl _ _).alloc (Nat.le_refl _) _)
  have h0 : (W.alloc (.cells #[.int .i64 a0, .int .i64 e0] 81)).drew.cell? ⟨W.heap.size, 0, none⟩ = some (.int .i64 a0) := by
    show (W.alloc (.cells #[.int .i64 a0, .int .i64 e0] 81)).cell? _ = _
    rw [World.cell?_alloc_at _ _ _ _ rfl]; rfl
  have h1 : (W.alloc (.cells #[.int .i64 a0, .int .i64 e0] 81)).drew.cell? ⟨W.heap.size, 1, none⟩ = some (.int .i64 e0) := by
    show (W.alloc (.cells #[.int .i64 a0, .int .i64 e0] 81)).cell? _ = _
    rw [World.cell?_alloc_at _ _ _ _ rfl]; rfl
  refine wp_region_SP (fun c w' => False) (fun c a' w' hd h => h.elim) (fun w' => w'.cell? ⟨W.heap.size, 0, none⟩ = some (.int .i64 a0) ∧ w'.cell? ⟨W.heap.size, 1, none⟩ = some (.int .i64 e0)) [5] 6 #[false, false, false, false, false, false] (by kernel_rfl) (by kernel_rfl) (by kernel_rfl) ⟨h0, h1⟩ (fun hHeld => ?_)
  have bA := (al.cell (p := ⟨A, 0, none⟩) hA).trans cA
  have bE := (al.cell (p := ⟨E, 0, none⟩) hE).trans cE
  have gA := (al.frozen (p := ⟨A, 0, none⟩) hA).trans fA
  have gE := (al.frozen (p := ⟨E, 0, none⟩) hE).trans fE
  generalize hX : (W.alloc (.cells #[.int .i64 a0, .int .i64 e0] 81)).drew = X at *
  have HAL := Lib.hid al
  have hEA : ¬ E = A := fun e => hAE e.symm
  clear al hX h0 h1
  refine wpAnyS_take (i := 0) (oi := ⟨some 10, _, _, _, _, _⟩) (v := .pointer (some ⟨W.heap.size, 0, none⟩)) rfl (by kernel_rfl) (by kernel_rfl) (by kernel_rfl) (by kernel_rfl) (fun _ _ _ h => Both.panic h) (Or.inl ⟨by rfl, ?_⟩) (by assumption) ?_
  · intro w' hSw
    obtain ⟨k1', k2'⟩ := hSw
    go_simp
  simp only [Act.put, List.setIfInBounds_toArray, List.set_cons_zero, List.set_cons_succ]
  refine wpAnyS_take (i := 1) (oi := ⟨some 11, _, _, _, _, _⟩) (v := .int .i64 a0) rfl (by kernel_rfl) (by kernel_rfl) (by kernel_rfl) (by kernel_rfl) (fun _ _ _ h => Both.panic h) (Or.inl ⟨by rfl, ?_⟩) (by assumption) ?_
  · intro w' hSw
    obtain ⟨k1', k2'⟩ := hSw
    go_simp
  simp only [Act.put, List.setIfInBounds_toArray, List.set_cons_zero, List.set_cons_succ]
  refine wpAnyS_take (i := 2) (oi := ⟨some 12, _, _, _, _, _⟩) (v := .pointer (some ⟨W.heap.size, 1, none⟩)) rfl (by kernel_rfl) (by kernel_rfl) (by kernel_rfl) (by kernel_rfl) (fun _ _ _ h => Both.panic h) (Or.inl ⟨by rfl, ?_⟩) (by assumption) ?_
  · intro w' hSw
    obtain ⟨k1', k2'⟩ := hSw
    go_simp
  simp only [Act.put, List.setIfInBounds_toArray, List.set_cons_zero, List.set_cons_succ]
  refine wpAnyS_take (i := 3) (oi := ⟨some 13, _, _, _, _, _⟩) (v := .int .i64 e0) rfl (by kernel_rfl) (by kernel_rfl) (by kernel_rfl) (by kernel_rfl) (fun _ _ _ h => Both.panic h) (Or.inl ⟨by rfl, ?_⟩) (by assumption) ?_
  · intro w' hSw
    obtain ⟨k1', k2'⟩ := hSw
    go_simp
  simp only [Act.put, List.setIfInBounds_toArray, List.set_cons_zero, List.set_cons_succ]
  refine wpAnyS_one (i := 4) (oi := ⟨none, _, _, _, _, _⟩) rfl (by kernel_rfl) (by rfl) (fun K hK => ?_)
  go_simp
  refine hK _ _ (fun _ => ⟨(World.cell?_setCell_other _ _ _ _ (fun e => by injection e with e1 _ _; omega)).trans hHeld.1, (World.cell?_setCell_other _ _ _ _ (fun e => by injection e with e1 _ _; omega)).trans hHeld.2⟩) ?_
  clear hK K
  simp only [Act.put, List.setIfInBounds_toArray, List.set_cons_zero, List.set_cons_succ]
  refine wpAnyS_one (i := 5) (oi := ⟨none, _, _, _, _, _⟩) rfl (by kernel_rfl) (by rfl) (fun K hK => ?_)
  go_simp
  refine hK _ _ (fun h => absurd (by simp) h) ?_
  clear hK K
  refine wpAnyS_done (by kernel_rfl) ?_
  refine Both.normal ?_
  cases c₀
  simp only at hu
  subst hu
  simp [bodyPostS, results, Tryd.results55]
  have hg : Grow (fun b => b = A ∨ b = E) W ((X.setCell ⟨A, 0, none⟩ (.int .i64 a0)).setCell ⟨E, 0, none⟩ (.int .i64 e0)) :=
    (Grow.of_below HAL.out).trans ((Grow.setCell (O := fun b => b = A ∨ b = E) _ _ (.inl rfl)).trans (Grow.setCell (O := fun b => b = A ∨ b = E) _ _ (.inr rfl)) (Sub.refl _ _)) (Sub.refl _ _)
  refine ⟨hg, ?_, World.cell?_setCell_same _ _ _ (by rw [World.cell?_setCell_other _ _ _ _ (fun e => by injection e with e1 _ _; exact hAE e1)]; exact bE)⟩
  rw [World.cell?_setCell_other _ _ _ _ (fun e => by injection e with e1 _ _; exact hEA e1)]
  exact World.cell?_setCell_same _ _ _ bA
end Go.Proofs.YtggkehncpkfakaaDoor.Ps

/-
  The results' own variables in read, for terms.
-/
namespace Go.Proofs.YtggkehncpkfakaaDoor.Ps
open Go Go.RowKit Go.Shelf Go.Proofs.YtggkehncpkfakaaDoor.Fm Go.Proofs.YtggkehncpkfakaaDoor.Lx
set_option linter.unusedVariables false
set_option linter.unusedSimpArgs false
structure Bx3 (w : World) (L : Nat) (x0 x1 x2 : Value) : Prop where
  c0 : w.cell? ⟨L, 0, none⟩ = some x0
  c1 : w.cell? ⟨L, 1, none⟩ = some x1
  c2 : w.cell? ⟨L, 2, none⟩ = some x2
  f0 : w.frozen? ⟨L, 0, none⟩ = false
  f1 : w.frozen? ⟨L, 1, none⟩ = false
  f2 : w.frozen? ⟨L, 2, none⟩ = false
  lt : L < w.heap.size
variable {w w' : World} {L : Nat} {x0 x1 x2 : Value}
theorem Bx3.new (w : World) (x0 x1 x2 : Value) (t : TypeId) : Bx3 (w.alloc (.cells #[x0, x1, x2] t)) w.heap.size x0 x1 x2 := by
  have hc : ∀ j, (w.alloc (.cells #[x0, x1, x2] t)).cell? ⟨w.heap.size, j, none⟩ = #[x0, x1, x2][j]? := fun j => World.cell?_alloc_at _ _ _ _ rfl
  have hf : ∀ j, (w.alloc (.cells #[x0, x1, x2] t)).frozen? ⟨w.heap.size, j, none⟩ = false := fun j => World.frozen?_alloc_at _ _ _ _ rfl
  exact ⟨hc 0, hc 1, hc 2, hf 0, hf 1, hf 2, by simp⟩
theorem Bx3.heap (h : Bx3 w L x0 x1 x2) (hb : w'.heap[L]? = w.heap[L]?) (hz : L < w'.heap.size) : Bx3 w' L x0 x1 x2 :=
  ⟨(World.cell?_of_block (a := ⟨L, 0, none⟩) hb).trans h.c0, (World.cell?_of_block (a := ⟨L, 1, none⟩) hb).trans h.c1, (World.cell?_of_block (a := ⟨L, 2, none⟩) hb).trans h.c2,
   (World.frozen?_of_block (a := ⟨L, 0, none⟩) hb).trans h.f0, (World.frozen?_of_block (a := ⟨L, 1, none⟩) hb).trans h.f1, (World.frozen?_of_block (a := ⟨L, 2, none⟩) hb).trans h.f2, hz⟩
theorem Bx3.go {P : Nat} (h : Bx3 w L x0 x1 x2) (hg : GP P w w') (hL : L ≠ P) : Bx3 w' L x0 x1 x2 := h.heap (hg.block L h.lt hL) (Nat.lt_of_lt_of_le h.lt hg.size)
theorem Bx3.alloc (h : Bx3 w L x0 x1 x2) (o : Obj) : Bx3 (w.alloc o) L x0 x1 x2 := h.heap (((Below.refl w.heap.size w).alloc (Nat.le_refl _) o).block L h.lt) (Nat.lt_of_lt_of_le h.lt (by simp))
theorem Bx3.other (h : Bx3 w L x0 x1 x2) (a : Addr) (v : Value) (ha : L ≠ a.block) : Bx3 (w.setCell a v) L x0 x1 x2 := h.heap (Below.heap_setCell _ _ _ _ ha) (by simpa using h.lt)
theorem Bx3.put (h : Bx3 w L x0 x1 x2) (y0 y1 y2 : Value) : Bx3 (put3 w L y0 y1 y2) L y0 y1 y2 := by
  unfold put3
  refine ⟨?_, ?_, ?_, ?_, ?_, ?_, by simpa using h.lt⟩
  · rw [cell_set_other _ _ _ _ _ (by omega), cell_set_other _ _ _ _ _ (by omega)]; exact World.cell?_setCell_same _ _ _ h.c0
  · rw [cell_set_other _ _ _ _ _ (by omega)]; exact World.cell?_setCell_same _ _ _ (by rw [cell_set_other _ _ _ _ _ (by omega)]; exact h.c1)
  · exact World.cell?_setCell_same _ _ _ (by rw [cell_set_other _ _ _ _ _ (by omega), cell_set_other _ _ _ _ _ (by omega)]; exact h.c2)
  all_goals (rw [World.frozen?_setCell, World.frozen?_setCell, World.frozen?_setCell])
  · exact h.f0
  · exact h.f1
  · exact h.f2
/-- The results' own variables, and what is there behind a call. -/
structure ResT (w : World) (A : Nat) (x0 x1 x2 a e : Value) : Prop where
  r : Bx3 w A x0 x1 x2
  a : w.cell? ⟨A + 1, 0, none⟩ = some a
  e : w.cell? ⟨A + 1 + 1, 0, none⟩ = some e
  fa : w.frozen? ⟨A + 1, 0, none⟩ = false
  fe : w.frozen? ⟨A + 1 + 1, 0, none⟩ = false
  z : A + 3 ≤ w.heap.size
theorem ResT.heap {w w' : World} {A : Nat} {x0 x1 x2 a e : Value} (h : ResT w A x0 x1 x2 a e) (hb : ∀ b, A ≤ b → b < A + 3 → w'.heap[b]? = w.heap[b]?) (hz : w.heap.size ≤ w'.heap.size) : ResT w' A x0 x1 x2 a e where
  r := h.r.heap (hb A (Nat.le_refl _) (by omega)) (Nat.lt_of_lt_of_le h.r.lt hz)
  a := (World.cell?_of_block (a := ⟨A + 1, 0, none⟩) (hb (A + 1) (by omega) (by omega))).trans h.a
  e := (World.cell?_of_block (a := ⟨A + 1 + 1, 0, none⟩) (hb (A + 1 + 1) (by omega) (by omega))).trans h.e
  fa := (World.frozen?_of_block (a := ⟨A + 1, 0, none⟩) (hb (A + 1) (by omega) (by omega))).trans h.fa
  fe := (World.frozen?_of_block (a := ⟨A + 1 + 1, 0, none⟩) (hb (A + 1 + 1) (by omega) (by omega))).trans h.fe
  z := Nat.le_trans h.z hz
theorem ResT.below {w w' : World} {A B : Nat} {x0 x1 x2 a e : Value} (h : ResT w A x0 x1 x2 a e) (hb : Below B w w') (hB : A + 3 ≤ B) : ResT w' A x0 x1 x2 a e := h.heap (fun b h1 h2 => hb.block b (by omega)) hb.size
theorem ResT.go {P : Nat} {w w' : World} {A : Nat} {x0 x1 x2 a e : Value} (h : ResT w A x0 x1 x2 a e) (hg : GP P w w') (hP : A + 3 ≤ P) : ResT w' A x0 x1 x2 a e := h.heap (fun b h1 h2 => hg.block b (by have := h.z; omega) (fun e => by have e : b = P := e; omega)) hg.size
theorem resT_new (W : World) (x0 x1 x2 a e : Value) (t1 t2 t3 : TypeId) : ResT (((W.alloc (.cells #[x0, x1, x2] t1)).alloc (.cells #[a] t2)).alloc (.cells #[e] t3)) W.heap.size x0 x1 x2 a e := by
  have z1 : (W.alloc (.cells #[x0, x1, x2] t1)).heap.size = W.heap.size + 1 := by simp
  have z2 : ((W.alloc (.cells #[x0, x1, x2] t1)).alloc (.cells #[a] t2)).heap.size = W.heap.size + 1 + 1 := by simp
  have al : ∀ (w : World) (o : Obj), Below w.heap.size w (w.alloc o) := fun w o => (Below.refl _ _).alloc (Nat.le_refl _) _
  refine ⟨((Bx3.new W x0 x1 x2 t1).alloc _).alloc _, ?_, ?_, ?_, ?_, by simp⟩
  · rw [(al _ _).cell (by rw [z2]; show W.heap.size + 1 < _; omega), World.cell?_alloc_at _ _ _ _ z1.symm]; rfl
  · rw [World.cell?_alloc_at _ _ _ _ z2.symm]; rfl
  · rw [(al _ _).frozen (by rw [z2]; show W.heap.size + 1 < _; omega), World.frozen?_alloc_at _ _ _ _ z1.symm]
  · rw [World.frozen?_alloc_at _ _ _ _ z2.symm]
theorem ResT.setA {w : World} {A : Nat} {x0 x1 x2 a e : Value} (h : ResT w A x0 x1 x2 a e) (y : Value) : ResT (w.setCell ⟨A + 1, 0, none⟩ y) A x0 x1 x2 y e where
  r := h.r.other ⟨A + 1, 0, none⟩ y (by show A ≠ A + 1; omega)
  a := World.cell?_setCell_same _ _ _ h.a
  e := by rw [World.cell?_setCell_other _ _ _ _ (fun e => by injection e with e1 _ _; omega)]; exact h.e
  fa := by rw [World.frozen?_setCell]; exact h.fa
  fe := by rw [World.frozen?_setCell]; exact h.fe
  z := by simpa using h.z
theorem ResT.setE {w : World} {A : Nat} {x0 x1 x2 a e : Value} (h : ResT w A x0 x1 x2 a e) (y : Value) : ResT (w.setCell ⟨A + 1 + 1, 0, none⟩ y) A x0 x1 x2 a y where
  r := h.r.other ⟨A + 1 + 1, 0, none⟩ y (by show A ≠ A + 1 + 1; omega)
  a := by rw [World.cell?_setCell_other _ _ _ _ (fun e => by injection e with e1 _ _; omega)]; exact h.a
  e := World.cell?_setCell_same _ _ _ h.e
  fa := by rw [World.frozen?_setCell]; exact h.fa
  fe := by rw [World.frozen?_setCell]; exact h.fe
  z := by simpa using h.z
theorem ResT.put {w : World} {A : Nat} {x0 x1 x2 a e : Value} (h : ResT w A x0 x1 x2 a e) (y0 y1 y2 : Value) : ResT (put3 w A y0 y1 y2) A y0 y1 y2 a e where
  r := h.r.put y0 y1 y2
  a := (World.cell?_of_block (a := ⟨A + 1, 0, none⟩) (put3_heap _ _ _ _ _ (A + 1) (by omega))).trans h.a
  e := (World.cell?_of_block (a := ⟨A + 1 + 1, 0, none⟩) (put3_heap _ _ _ _ _ (A + 1 + 1) (by omega))).trans h.e
  fa := (World.frozen?_of_block (a := ⟨A + 1, 0, none⟩) (put3_heap _ _ _ _ _ (A + 1) (by omega))).trans h.fa
  fe := (World.frozen?_of_block (a := ⟨A + 1 + 1, 0, none⟩) (put3_heap _ _ _ _ _ (A + 1 + 1) (by omega))).trans h.fe
  z := by rw [put3_size]; exact h.z
theorem put3_below {B : Nat} {W w : World} (h : Below B W w) {R : Nat} (hR : B ≤ R) (x0 x1 x2 : Value) : Below B W (put3 w R x0 x1 x2) :=
  h.trans ((((Below.refl _ w).setCell (p := ⟨R, 0, none⟩) hR x0).setCell (p := ⟨R, 1, none⟩) hR x1).setCell (p := ⟨R, 2, none⟩) hR x2)
theorem TVal.put3 {lo R : Nat} {w : World} {v : Value} {l : Tm} (h : TVal lo w v l) (hR : R < lo) (x0 x1 x2 : Value) : TVal lo (put3 w R x0 x1 x2) v l := by
  obtain ⟨a, c, h1, h2, h3⟩ := h
  obtain ⟨k1, k2⟩ := own_put3 (w := w) hR x0 x1 x2
  exact ⟨a, c, h1, h2, h3.keep k1 k2⟩
def zeroT : Tm := .mk false ⟨#[]⟩ []
theorem zeroT_val (lo : Nat) (w : World) : TVal lo w (.agg #[.bool false, .string ⟨#[]⟩, .slice none 0 0]) zeroT := ⟨none, 0, rfl, ok_str (by decide), nil_ts _ _⟩
def termRes (m : Bool) (rt : Tm → Bool) (s : ByteArray) : Option Tm × Int × Int := match lexErr s with
  | some (a, n) => (none, a, n)
  | none => endC rt (termC m 0 (tgL s))
def TermRQ (x : Option Tm × Int × Int) (W : World) (e : Ending) (w' : World) : Prop := ∃ v, e = .returned (.tuple #[v, .int .i64 x.2.1, .int .i64 x.2.2]) ∧ TVal W.heap.size w' v (x.1.getD zeroT) ∧ Below W.heap.size W w'
/-- A check of a term that was read. -/
def TChk (rt : Tm → Bool) (lo : Nat) : Prop := ∀ (W : World) (v : Value) (t : Tm), TVal lo W v t → lo ≤ W.heap.size → Calls Tryd.prog 38 #[v] W fun e w' => e = .returned (.bool (rt t)) ∧ Below W.heap.size W w'
end Go.Proofs.YtggkehncpkfakaaDoor.Ps

/-
  The contract of read, for terms.
-/
namespace Go.Proofs.YtggkehncpkfakaaDoor.Ps
open Go Go.RowKit Go.Shelf Go.Proofs.YtggkehncpkfakaaDoor.Fm Go.Proofs.YtggkehncpkfakaaDoor.Lx
set_option linter.unusedVariables false
set_option linter.unusedSimpArgs false
set_option maxRecDepth 20000 in
set_option maxHeartbeats 4000000 in
theorem readT_c (s : ByteArray) (m : Bool) (W : World) (hs : s.size ≤ 16384) (rt : Tm → Bool) (hT : RTab W) (hrtc : ∀ lo, W.heap.size ≤ lo → TChk rt lo) (hL : LTab W W.heap.size) :
    Calls Tryd.prog 36 #[.string s, .bool m, .func (.func 37) #[] #[], .func (.func 38) #[] #[]] W (TermRQ (termRes m rt s) W) := by
  have hlex := fun w => lexp_c s w hs
  have hmf : ∀ (fn : Fn) (first cap : Array Value) (w : World), (Instr.makeFunc fn first cap).run Tryd.prog w = .ok (.func fn first cap) w := fun _ _ _ _ => rfl
  obtain ⟨Q, hQ⟩ : ∃ Q : Ending → World → Prop, Q = TermRQ (termRes m rt s) W := ⟨_, rfl⟩
  rw [← hQ]
  unfold termRes at hQ
  unfold LxP at hlex
  cases hle : lexErr s with
  | some an =>
    obtain ⟨a, n⟩ := an
    have hn0 : (n != 0) = true := bne_iff_ne.2 (lexErr_ne hle)
    rw [hle] at hlex hQ
    simp only at hlex hQ
    have HQ := Lib.hid hQ
    clear hQ hle
    go_enter_defers Tryd.func36, Tryd.ntmps36
    go_wp2_with fail
    refine (hlex _).mono ?_
    rintro e w1 ⟨rfl, hb1⟩
    have h3 := (resT_new W (.bool false) (.string ⟨#[]⟩) (.slice none 0 0) (.int .i64 0) (.int .i64 0) 51 3 30).below hb1 (by simp)
    have hz1 := hb1.size
    simp only [World.size_alloc] at hz1
    have c1 := h3.a
    have c2 := h3.e
    have c3 := h3.fa
    have c4 := h3.fe
    have hz2 : W.heap.size + 1 < w1.heap.size := by omega
    have hz3 : W.heap.size + 1 + 1 < w1.heap.size := by omega
    have H3 := Lib.hid ((h3.setA (.int .i64 a)).setE (.int .i64 n))
    have HB1 := Lib.hid ((((((Below.refl W.heap.size W).alloc (Nat.le_refl _) (.cells #[.bool false, .string ⟨#[]⟩, .slice none 0 0] 51)).alloc (by simp) (.cells #[.int .i64 0] 3)).alloc (by simp; omega) (.cells #[.int .i64 0] 30)).trans (hb1.mono (by simp; omega))).setCell (p := ⟨W.heap.size + 1, 0, none⟩) (Nat.le_succ _) (.int .i64 a) |>.setCell (p := ⟨W.heap.size + 1 + 1, 0, none⟩) (by show W.heap.size ≤ W.heap.size + 1 + 1; omega) (.int .i64 n))
    clear h3 hb1 hlex
    go_upto_region 3 with fail
    generalize hX : (w1.setCell ⟨W.heap.size + 1, 0, none⟩ (.int .i64 a)).setCell ⟨W.heap.size + 1 + 1, 0, none⟩ (.int .i64 n) = X at *
    have HS := Lib.hid (show ∀ w', ResT w' W.heap.size (.bool false) (.string ⟨#[]⟩) (.slice none 0 0) (.int .i64 a) (.int .i64 n) → _ from fun w' h => And.intro h.r.c0 (And.intro h.r.c1 (And.intro h.r.c2 (And.intro h.a h.e))))
    have h4 := H3.out.below (Below.drew (Below.refl X.heap.size X)) H3.out.z
    have hb4 := Below.drew HB1.out
    clear c1 c2 c3 c4 hz2 hz3 hX H3
    refine wp_region_SP (fun c w' => False) (fun c a' w' hd h => h.elim) (fun w' => w'.cell? ⟨W.heap.size, 0, none⟩ = some (.bool false) ∧ w'.cell? ⟨W.heap.size, 1, none⟩ = some (.string ⟨#[]⟩) ∧ w'.cell? ⟨W.heap.size, 2, none⟩ = some (.slice none 0 0) ∧ w'.cell? ⟨W.heap.size + 1, 0, none⟩ = some (.int .i64 a) ∧ w'.cell? ⟨W.heap.size + 1 + 1, 0, none⟩ = some (.int .i64 n)) [] 6 #[false, false, false, false, false, false] (by kernel_rfl) (by kernel_rfl) (by kernel_rfl) (HS.out _ h4) (fun hHeld => ?_)
    generalize X.drew = Y at *
    refine wpAnyS_take (i := 0) (oi := ⟨some 22, _, _, _, _, _⟩) (v := .agg #[.bool false, .string ⟨#[]⟩, .slice none 0 0]) rfl (by kernel_rfl) (by kernel_rfl) (by kernel_rfl) (by kernel_rfl) (fun _ _ _ h => Both.panic h) (Or.inl ⟨by rfl, ?_⟩) (by assumption) ?_
    · intro w' hSw
      obtain ⟨k1', k2', k3', k4', k5'⟩ := hSw
      go_simp
    simp only [Act.put, List.setIfInBounds_toArray, List.set_cons_zero, List.set_cons_succ]
    refine wpAnyS_take (i := 1) (oi := ⟨some 23, _, _, _, _, _⟩) (v := .int .i64 a) rfl (by kernel_rfl) (by kernel_rfl) (by kernel_rfl) (by kernel_rfl) (fun _ _ _ h => Both.panic h) (Or.inl ⟨by rfl, ?_⟩) (by assumption) ?_
    · intro w' hSw
      obtain ⟨k1', k2', k3', k4', k5'⟩ := hSw
      go_simp
    simp only [Act.put, List.setIfInBounds_toArray, List.set_cons_zero, List.set_cons_succ]
    refine wpAnyS_take (i := 2) (oi := ⟨some 24, _, _, _, _, _⟩) (v := .int .i64 n) rfl (by kernel_rfl) (by kernel_rfl) (by kernel_rfl) (by kernel_rfl) (fun _ _ _ h => Both.panic h) (Or.inl ⟨by rfl, ?_⟩) (by assumption) ?_
    · intro w' hSw
      obtain ⟨k1', k2', k3', k4', k5'⟩ := hSw
      go_simp
    simp only [Act.put, List.setIfInBounds_toArray, List.set_cons_zero, List.set_cons_succ]
    obtain ⟨⟨c0, c1, c2, f0, f1, f2, hlt⟩, ca, ce, fa, fe, hz⟩ := id h4
    have H4 := Lib.hid h4
    have HB4 := Lib.hid hb4
    clear h4 hb4
    refine wpAnyS_one (i := 3) (oi := ⟨none, _, _, _, _, _⟩) rfl (by kernel_rfl) (by rfl) (fun K hK => ?_)
    go_simp
    have h5 := H4.out.put (.bool false) (.string ⟨#[]⟩) (.slice none 0 0)
    have hb5 := put3_below HB4.out (Nat.le_refl _) (.bool false) (.string ⟨#[]⟩) (.slice none 0 0)
    change K _ (put3 Y W.heap.size (.bool false) (.string ⟨#[]⟩) (.slice none 0 0))
    generalize put3 Y W.heap.size (.bool false) (.string ⟨#[]⟩) (.slice none 0 0) = Z at *
    clear c0 c1 c2 f0 f1 f2 hlt ca ce fa fe hz H4 HB4 hHeld
    have hHeld := HS.out _ h5
    refine hK _ _ (fun _ => hHeld) ?_
    clear hK K
    simp only [Act.put, List.setIfInBounds_toArray, List.set_cons_zero, List.set_cons_succ]
    refine wpAnyS_one (i := 4) (oi := ⟨none, _, _, _, _, _⟩) rfl (by kernel_rfl) (by rfl) (fun K hK => ?_)
    have ca := h5.a
    have fa := h5.fa
    go_simp
    have h6 := h5.setA (.int .i64 a)
    have hb6 := hb5.setCell (p := ⟨W.heap.size + 1, 0, none⟩) (Nat.le_succ _) (.int .i64 a)
    generalize Z.setCell ⟨W.heap.size + 1, 0, none⟩ (.int .i64 a) = Z1 at *
    clear ca fa h5 hb5 hHeld
    have hHeld := HS.out _ h6
    refine hK _ _ (fun _ => hHeld) ?_
    clear hK K
    simp only [Act.put, List.setIfInBounds_toArray, List.set_cons_zero, List.set_cons_succ]
    refine wpAnyS_one (i := 5) (oi := ⟨none, _, _, _, _, _⟩) rfl (by kernel_rfl) (by rfl) (fun K hK => ?_)
    have ca := h6.e
    have fa := h6.fe
    go_simp
    have h7 := h6.setE (.int .i64 n)
    have hb7 := hb6.setCell (p := ⟨W.heap.size + 1 + 1, 0, none⟩) (by show W.heap.size ≤ W.heap.size + 1 + 1; omega) (.int .i64 n)
    generalize Z1.setCell ⟨W.heap.size + 1 + 1, 0, none⟩ (.int .i64 n) = Z2 at *
    clear ca fa h6 hb6 hHeld
    have hHeld := HS.out _ h7
    refine hK _ _ (fun _ => hHeld) ?_
    clear hK K
    refine wpAnyS_done (by kernel_rfl) ?_
    refine Both.normal ?_
    clear hHeld HS
    go_wp2_with fail
    obtain ⟨⟨c0, c1, c2, _, _, _, _⟩, ca, ce, _, _, _⟩ := id h7
    simp [bodyPostD, Leaves, settle, results, Tryd.results36, go_sem, c0, c1, c2, ca, ce]
    rw [HQ.out]
    exact ⟨_, rfl, zeroT_val _ _, hb7⟩
  | none =>
    obtain ⟨htok, hlen⟩ := tok_tgL hs hle
    rw [hle] at hlex hQ
    simp only at hlex hQ
    have HQ := Lib.hid hQ
    have HTOK := Lib.hid htok
    have HLEN := Lib.hid hlen
    have HT := Lib.hid hT
    have HL := Lib.hid hL
    clear hQ hle htok hlen hT hL
    go_enter_defers Tryd.func36, Tryd.ntmps36
    go_wp2_with fail
    refine (hlex _).mono ?_
    rintro e w1 ⟨g, cap, rfl, hb1, hcap, hg1, hg2, hrow⟩
    have h3 := (resT_new W (.bool false) (.string ⟨#[]⟩) (.slice none 0 0) (.int .i64 0) (.int .i64 0) 51 3 30).below hb1 (by simp)
    have hz1 := hb1.size
    simp only [World.size_alloc] at hz1 hg1
    have c1 := h3.a
    have c2 := h3.e
    have c3 := h3.fa
    have c4 := h3.fe
    have hz2 : W.heap.size + 1 < w1.heap.size := by omega
    have hz3 : W.heap.size + 1 + 1 < w1.heap.size := by omega
    have H3 := Lib.hid ((h3.setA (.int .i64 0)).setE (.int .i64 0))
    have HB1 := Lib.hid ((((((Below.refl W.heap.size W).alloc (Nat.le_refl _) (.cells #[.bool false, .string ⟨#[]⟩, .slice none 0 0] 51)).alloc (by simp) (.cells #[.int .i64 0] 3)).alloc (by simp; omega) (.cells #[.int .i64 0] 30)).trans (hb1.mono (by simp; omega))).setCell (p := ⟨W.heap.size + 1, 0, none⟩) (Nat.le_succ _) (.int .i64 0) |>.setCell (p := ⟨W.heap.size + 1 + 1, 0, none⟩) (by show W.heap.size ≤ W.heap.size + 1 + 1; omega) (.int .i64 0))
    have HROW := Lib.hid (show ∀ j u, (flatG (tgL s))[j]? = some u → ((w1.setCell ⟨W.heap.size + 1, 0, none⟩ (.int .i64 0)).setCell ⟨W.heap.size + 1 + 1, 0, none⟩ (.int .i64 0)).cell? ⟨g, j, none⟩ = some u from fun j u hj => by
      rw [World.cell?_setCell_other _ _ _ _ (fun e => by injection e with e1 _ _; omega), World.cell?_setCell_other _ _ _ _ (fun e => by injection e with e1 _ _; omega)]
      exact hrow j u hj)
    have HG2 := Lib.hid (show g < ((w1.setCell ⟨W.heap.size + 1, 0, none⟩ (.int .i64 0)).setCell ⟨W.heap.size + 1 + 1, 0, none⟩ (.int .i64 0)).heap.size by simpa using hg2)
    have HCAP := Lib.hid hcap
    clear h3 hb1 hlex hrow hg2 hcap
    go_upto_region 5 with fail
    generalize hX : (w1.setCell ⟨W.heap.size + 1, 0, none⟩ (.int .i64 0)).setCell ⟨W.heap.size + 1 + 1, 0, none⟩ (.int .i64 0) = X at *
    have hun := unaries_c X
    clear c1 c2 c3 c4 hX hz1 hz2 hz3
    go_wp2_with fail
    refine hun.mono ?_
    rintro e w2 ⟨B, rfl, hU, hB0, hb2⟩
    have HB2 := Lib.hid hb2
    have HU := Lib.hid hU
    clear hun hb2 hU
    go_upto_region 6 with fail
    generalize hw3 : w2.alloc (.cells #[.slice (some ⟨g, 0, none⟩) (tgL s).length cap, .int .i64 0, .bool m, .map (some B)] 86) = w3
    have hb3 : Below w2.heap.size w2 w3 := by rw [← hw3]; exact (Below.refl _ _).alloc (Nat.le_refl _) _
    have hzX := HB1.out.size
    have hzX2 := HB2.out.size
    have hR3 : ResT w3 W.heap.size (.bool false) (.string ⟨#[]⟩) (.slice none 0 0) (.int .i64 0) (.int .i64 0) := (H3.out.below HB2.out H3.out.z).below hb3 (Nat.le_trans H3.out.z hzX2)
    have hBW : Below W.heap.size W w3 := (HB1.out.trans (HB2.out.mono hzX)).trans (hb3.mono (Nat.le_trans hzX hzX2))
    have hbx := Bx4.new w2 (.slice (some ⟨g, 0, none⟩) (tgL s).length cap) (.int .i64 0) (.bool m) (.map (some B)) 86
    rw [hw3] at hbx
    have hX3 := HB2.out.trans (hb3.mono hzX2)
    have hps : PSt w3 w2.heap.size m 0 (tgL s) := by
      refine ⟨⟨g, 0, cap, hbx.c0, HCAP.out, Nat.lt_of_lt_of_le HG2.out hzX2, fun j u hj => ?_⟩, hbx.c1, hbx.c2, ⟨B, hbx.c3, HU.out.lt, ?_⟩, ?_, hbx.lt, HTOK.out, by have := HLEN.out; omega, ?_⟩
      · rw [Nat.zero_add]
        exact (hX3.cell (p := ⟨g, j, none⟩) HG2.out).trans (HROW.out j u hj)
      · exact (hb3.block B HU.out.lt).trans HU.out
      · intro i hi
        have h4 : i = 0 ∨ i = 1 ∨ i = 2 ∨ i = 3 := by omega
        rcases h4 with rfl | rfl | rfl | rfl
        · exact hbx.f0
        · exact hbx.f1
        · exact hbx.f2
        · exact hbx.f3
      · exact ⟨Nat.lt_of_lt_of_le HL.out.1 (Nat.le_trans hzX hzX2), (HL.out.keep (hBW.block _ HL.out.1)).2⟩
    have hform := term_c w2.heap.size m 0 (tgL s) w3 hps
    have HP3 := Lib.hid hbx.lt
    have HR3 := Lib.hid hR3
    have HBW := Lib.hid hBW
    have HZ2 := Lib.hid (show W.heap.size + 3 ≤ w2.heap.size from Nat.le_trans H3.out.z hzX2)
    clear hw3 hb3 hzX hzX2 hR3 hBW hbx hX3 hps
    cases hx : termC m 0 (tgL s) with
    | er a0 e0 =>
      rw [hx] at hform HQ
      simp only [endC] at HQ
      clear hx
      go_wp2_with fail
      refine hform.mono ?_
      rintro e w4 ⟨rfl, hg4⟩
      have hR4 := HR3.out.go hg4 HZ2.out
      refine leaves_cons (f := 55) (args := #[.pointer (some ⟨W.heap.size + 1, 0, none⟩), .pointer (some ⟨W.heap.size + 1 + 1, 0, none⟩)]) (by simp) (by simp [go_sem]) ?_
      refine (catch_panicT (W.heap.size + 1) (W.heap.size + 1 + 1) _ _ a0 e0 [] w4 hR4.a hR4.e hR4.fa hR4.fe (by omega)).mono ?_
      rintro e u' w5 ⟨rfl, rfl, hg5, ca, ce⟩
      have hr5 : Bx3 w5 W.heap.size _ _ _ := hR4.r.heap (hg5.block _ hR4.r.lt (by omega)) (Nat.lt_of_lt_of_le hR4.r.lt hg5.size)
      have hb5 : Below W.heap.size W w5 := by
        have h4 := HBW.out.trans (Grow.below hg4 HBW.out.size (fun b hb => by have hb : b = w2.heap.size := hb; have := HZ2.out; omega))
        exact h4.trans (Grow.below hg5 h4.size (fun b hb => by rcases hb with hb | hb <;> (have hb : b = _ := hb; omega)))
      obtain ⟨c0, c1, c2, _, _, _, _⟩ := hr5
      simp [Leaves, settle, results, Tryd.results36, go_sem, c0, c1, c2, ca, ce]
      rw [HQ.out]
      exact ⟨_, rfl, zeroT_val _ _, hb5⟩
    | ok f r =>
      rw [hx] at hform HQ
      simp only [endC] at HQ
      clear hx
      go_wp2_with fail
      refine hform.mono ?_
      rintro e w4 ⟨v, rfl, hv, hp4, hg4⟩
      have HV4 := Lib.hid hv
      obtain ⟨a2, k2, rfl, HREST⟩ := hv
      have HP4 := Lib.hid hp4
      have HG4 := Lib.hid hg4
      clear hp4 hg4 HREST hform
      go_upto_region 7 with fail
      generalize hw5 : w4.alloc (.cells #[.bool f.v, .string f.n, .slice a2 f.args.length k2] 51) = w5
      have hb5 : Below w4.heap.size w4 w5 := by rw [← hw5]; exact (Below.refl _ _).alloc (Nat.le_refl _) _
      have hbT := Bx3.new w4 (.bool f.v) (.string f.n) (.slice a2 f.args.length k2) 51
      rw [hw5] at hbT
      have hp5 := HP4.out.grow hb5
      have hR5 := (HR3.out.go HG4.out HZ2.out).below hb5 (HR3.out.go HG4.out HZ2.out).z
      have hv5 := HV4.out.keep (P := w2.heap.size) (GP.of hb5) HP3.out (Nat.le_refl _)
      have hB5 : Below W.heap.size W w5 := by
        have h4 := HBW.out.trans (Grow.below HG4.out HBW.out.size (fun b hb => by have hb : b = w2.heap.size := hb; have := HZ2.out; omega))
        exact h4.trans (hb5.mono h4.size)
      have hat := atEnd_c w2.heap.size 0 m r w5 hp5
      have HP5 := Lib.hid hp5
      have HR5 := Lib.hid hR5
      have HV5 := Lib.hid hv5
      have HB5 := Lib.hid hB5
      have HBT := Lib.hid hbT
      have HZ4 := Lib.hid HG4.out.size
      have HB54 := Lib.hid hb5.size
      clear hw5 hb5 hbT hp5 hR5 hv5 hB5
      cases hend : ((hd r).k == 5) with
      | false =>
        rw [hend] at hat HQ
        simp only [Bool.false_eq_true, if_false] at HQ
        have hfl := fail_c w2.heap.size 0 m r w5 HP5.out 50
        clear hend
        go_wp2_with fail
        refine hat.mono ?_
        rintro e w6 ⟨rfl, rfl⟩
        go_wp2_with fail
        refine hfl.mono ?_
        rintro e w6 ⟨rfl, rfl⟩
        refine leaves_cons (f := 55) (args := #[.pointer (some ⟨W.heap.size + 1, 0, none⟩), .pointer (some ⟨W.heap.size + 1 + 1, 0, none⟩)]) (by simp) (by simp [go_sem]) ?_
        refine (catch_panicT (W.heap.size + 1) (W.heap.size + 1 + 1) _ _ _ 50 [] _ HR5.out.a HR5.out.e HR5.out.fa HR5.out.fe (by omega)).mono ?_
        rintro e u' w7 ⟨rfl, rfl, hg7, ca, ce⟩
        have hr7 : Bx3 w7 W.heap.size _ _ _ := HR5.out.r.heap (hg7.block _ HR5.out.r.lt (by omega)) (Nat.lt_of_lt_of_le HR5.out.r.lt hg7.size)
        have hb7 : Below W.heap.size W w7 := HB5.out.trans (Grow.below hg7 HB5.out.size (fun b hb => by rcases hb with hb | hb <;> (have hb : b = _ := hb; omega)))
        obtain ⟨c0, c1, c2, _, _, _, _⟩ := hr7
        simp [Leaves, settle, results, Tryd.results36, go_sem, c0, c1, c2, ca, ce]
        rw [HQ.out]
        exact ⟨_, rfl, zeroT_val _ _, hb7⟩
      | true =>
        rw [hend] at hat HQ
        simp only [if_true] at HQ
        clear hend
        have hrt := hrtc w3.heap.size (Nat.le_trans (by have := HZ2.out; omega) (Nat.le_of_lt HP3.out)) w5 _ f HV5.out (Nat.le_trans HG4.out.size (by have := HP5.out.lt; exact HB54.out))
        obtain ⟨t0, t1, t2, _, _, _, hTz⟩ := id HBT.out
        cases hrb : rt f with
        | false =>
          rw [hrb] at hrt HQ
          simp only [Bool.false_eq_true, if_false] at HQ
          clear hrb
          go_wp2_with fail
          refine hat.mono ?_
          rintro e w6 ⟨rfl, rfl⟩
          go_wp2_with fail
          refine hrt.mono ?_
          rintro e w7 ⟨rfl, hb7⟩
          have hR7 := HR5.out.below hb7 HR5.out.z
          have HB7 := Lib.hid (HB5.out.trans (hb7.mono HB5.out.size))
          have HR7 := Lib.hid hR7
          obtain ⟨⟨c0, c1, c2, f0, f1, f2, hlt⟩, ca, ce, fa, fe, hz⟩ := id hR7
          clear hb7 hR7 hrt hat t0 t1 t2 hTz
          go_upto_region 10 with fail
          go_wp2_with fail
          refine leaves_cons (f := 55) (args := #[.pointer (some ⟨W.heap.size + 1, 0, none⟩), .pointer (some ⟨W.heap.size + 1 + 1, 0, none⟩)]) (by simp) (by simp [go_sem]) ?_
          refine (catch_idleT ⟨W.heap.size + 1, 0, none⟩ ⟨W.heap.size + 1 + 1, 0, none⟩ _).mono ?_
          rintro e u' w8 ⟨rfl, rfl, hb8⟩
          have hY : ResT (((put3 w7 W.heap.size (.bool false) (.string ⟨#[]⟩) (.slice none 0 0)).setCell ⟨W.heap.size + 1, 0, none⟩ (.int .i64 0)).setCell ⟨W.heap.size + 1 + 1, 0, none⟩ (.int .i64 3)) W.heap.size (.bool false) (.string ⟨#[]⟩) (.slice none 0 0) (.int .i64 0) (.int .i64 3) :=
            ((HR7.out.put _ _ _).setA _).setE _
          have hbY : Below W.heap.size W (((put3 w7 W.heap.size (.bool false) (.string ⟨#[]⟩) (.slice none 0 0)).setCell ⟨W.heap.size + 1, 0, none⟩ (.int .i64 0)).setCell ⟨W.heap.size + 1 + 1, 0, none⟩ (.int .i64 3)) :=
            ((put3_below HB7.out (Nat.le_refl _) _ _ _).setCell (p := ⟨W.heap.size + 1, 0, none⟩) (Nat.le_succ _) _).setCell (p := ⟨W.heap.size + 1 + 1, 0, none⟩) (by show W.heap.size ≤ W.heap.size + 1 + 1; omega) _
          have hb8' : Below (((put3 w7 W.heap.size (.bool false) (.string ⟨#[]⟩) (.slice none 0 0)).setCell ⟨W.heap.size + 1, 0, none⟩ (.int .i64 0)).setCell ⟨W.heap.size + 1 + 1, 0, none⟩ (.int .i64 3)).heap.size (((put3 w7 W.heap.size (.bool false) (.string ⟨#[]⟩) (.slice none 0 0)).setCell ⟨W.heap.size + 1, 0, none⟩ (.int .i64 0)).setCell ⟨W.heap.size + 1 + 1, 0, none⟩ (.int .i64 3)) w8 := hb8
          obtain ⟨⟨d0, d1, d2, _, _, _, _⟩, da, de, _, _, _⟩ := hY.below hb8' hY.z
          have hbF := hbY.trans (hb8'.mono hbY.size)
          clear hb8 hY hbY c0 c1 c2 ca ce
          simp [Leaves, settle, results, Tryd.results36, go_sem, d0, d1, d2, da, de]
          rw [HQ.out]
          exact ⟨_, rfl, zeroT_val _ _, hbF⟩
        | true =>
          rw [hrb] at hrt HQ
          simp only [if_true] at HQ
          clear hrb
          go_wp2_with fail
          refine hat.mono ?_
          rintro e w6 ⟨rfl, rfl⟩
          go_wp2_with fail
          refine hrt.mono ?_
          rintro e w7 ⟨rfl, hb7⟩
          have hR7 := HR5.out.below hb7 HR5.out.z
          have HB7 := Lib.hid (HB5.out.trans (hb7.mono HB5.out.size))
          have HR7 := Lib.hid hR7
          have hT7 := HBT.out.heap (hb7.block _ HBT.out.lt) (Nat.lt_of_lt_of_le HBT.out.lt hb7.size)
          have HV7 := Lib.hid (HV5.out.keep (P := w2.heap.size) (GP.of hb7) HP3.out (Nat.le_refl _))
          obtain ⟨t0, t1, t2, _, _, _, hTz⟩ := id hT7
          obtain ⟨⟨c0, c1, c2, f0, f1, f2, hlt⟩, ca, ce, fa, fe, hz⟩ := id hR7
          clear hb7 hR7 hrt hat hT7
          go_upto_region 11 with fail
          go_wp2_with fail
          refine leaves_cons (f := 55) (args := #[.pointer (some ⟨W.heap.size + 1, 0, none⟩), .pointer (some ⟨W.heap.size + 1 + 1, 0, none⟩)]) (by simp) (by simp [go_sem]) ?_
          refine (catch_idleT ⟨W.heap.size + 1, 0, none⟩ ⟨W.heap.size + 1 + 1, 0, none⟩ _).mono ?_
          rintro e u' w8 ⟨rfl, rfl, hb8⟩
          have hY : ResT (((put3 w7 W.heap.size (.bool f.v) (.string f.n) (.slice a2 f.args.length k2)).setCell ⟨W.heap.size + 1, 0, none⟩ (.int .i64 0)).setCell ⟨W.heap.size + 1 + 1, 0, none⟩ (.int .i64 0)) W.heap.size (.bool f.v) (.string f.n) (.slice a2 f.args.length k2) (.int .i64 0) (.int .i64 0) :=
            ((HR7.out.put _ _ _).setA _).setE _
          have hbY : Below W.heap.size W (((put3 w7 W.heap.size (.bool f.v) (.string f.n) (.slice a2 f.args.length k2)).setCell ⟨W.heap.size + 1, 0, none⟩ (.int .i64 0)).setCell ⟨W.heap.size + 1 + 1, 0, none⟩ (.int .i64 0)) :=
            ((put3_below HB7.out (Nat.le_refl _) _ _ _).setCell (p := ⟨W.heap.size + 1, 0, none⟩) (Nat.le_succ _) _).setCell (p := ⟨W.heap.size + 1 + 1, 0, none⟩) (by show W.heap.size ≤ W.heap.size + 1 + 1; omega) _
          have hb8' : Below (((put3 w7 W.heap.size (.bool f.v) (.string f.n) (.slice a2 f.args.length k2)).setCell ⟨W.heap.size + 1, 0, none⟩ (.int .i64 0)).setCell ⟨W.heap.size + 1 + 1, 0, none⟩ (.int .i64 0)).heap.size (((put3 w7 W.heap.size (.bool f.v) (.string f.n) (.slice a2 f.args.length k2)).setCell ⟨W.heap.size + 1, 0, none⟩ (.int .i64 0)).setCell ⟨W.heap.size + 1 + 1, 0, none⟩ (.int .i64 0)) w8 := hb8
          obtain ⟨⟨d0, d1, d2, _, _, _, _⟩, da, de, _, _, _⟩ := hY.below hb8' hY.z
          have hbF := hbY.trans (hb8'.mono hbY.size)
          have hvF : TVal W.heap.size w8 (.agg #[.bool f.v, .string f.n, .slice a2 f.args.length k2]) f := by
            have hz3 : W.heap.size < w3.heap.size := by have := HZ2.out; have := HP3.out; omega
            have h1 := (HV7.out.put3 (R := W.heap.size) hz3 (.bool f.v) (.string f.n) (.slice a2 f.args.length k2))
            have hg1 : Grow (fun b => b = W.heap.size + 1 ∨ b = W.heap.size + 1 + 1) (put3 w7 W.heap.size (.bool f.v) (.string f.n) (.slice a2 f.args.length k2)) w8 :=
              ((Grow.setCell (O := fun b => b = W.heap.size + 1 ∨ b = W.heap.size + 1 + 1) _ _ (.inl rfl)).trans (Grow.setCell (O := fun b => b = W.heap.size + 1 ∨ b = W.heap.size + 1 + 1) _ _ (.inr rfl)) (Sub.refl _ _)).trans (Grow.of_below hb8') (Sub.refl _ _)
            obtain ⟨e2, i2, he, hnm, htd⟩ := h1
            have hz3' : W.heap.size + 4 ≤ w3.heap.size := by have := HZ2.out; have := HP3.out; omega
            have q1 : ∀ b, Own w3.heap.size (put3 w7 W.heap.size (.bool f.v) (.string f.n) (.slice a2 f.args.length k2)) b → ∀ q, w8.cell? ⟨b, q, none⟩ = (put3 w7 W.heap.size (.bool f.v) (.string f.n) (.slice a2 f.args.length k2)).cell? ⟨b, q, none⟩ := fun b hb q => hg1.cell (p := ⟨b, q, none⟩) hb.2 (fun e => by have := hb.1; rcases e with e | e <;> (have e : b = _ := e; omega))
            have q2 : ∀ b, Own w3.heap.size (put3 w7 W.heap.size (.bool f.v) (.string f.n) (.slice a2 f.args.length k2)) b → Own W.heap.size w8 b := fun b hb => ⟨by have := hb.1; omega, Nat.lt_of_lt_of_le hb.2 hg1.size⟩
            exact ⟨e2, i2, he, hnm, htd.keep q1 q2⟩
          clear hb8 hY hbY c0 c1 c2 ca ce
          simp [Leaves, settle, results, Tryd.results36, go_sem, d0, d1, d2, da, de]
          rw [HQ.out]
          exact ⟨_, rfl, hvF, hbF⟩
end Go.Proofs.YtggkehncpkfakaaDoor.Ps

/-
  Terms that are right, and no larger than a formula may be.
-/
namespace Go.Proofs.YtggkehncpkfakaaDoor.Fm
open Go Go.RowKit Go.Shelf
set_option linter.unusedVariables false
set_option linter.unusedSimpArgs false
section
attribute [local go_sem] Oper.semAt_some
theorem depth_w (v0 v1 v2 v3 : Value) (f : Fo) (dn : Nat) (w : World) (hf : FoV dn w v0 v1 v2 v3 f) (hd : dn ≤ w.heap.size) :
    CallsIn Fence.wide 0 Tryd.prog 65 #[.agg #[v0, v1, v2, v3]] w fun e w' => e = .returned (.int .i64 (depthL f)) ∧ Below w.heap.size w w' := by
  have hb0 : Below w.heap.size w ((w.alloc (.cells #[v0, v1, v2, v3] 25)).alloc (.cells #[.int .i64 0] 3)) := ((Below.refl _ w).alloc (Nat.le_refl _) _).alloc (by simp) _
  have hw := Lib.hid (levels_in v0 v1 v2 v3 f dn _ (hf.below hb0 hd) (by simp; omega))
  obtain ⟨rfl, _, rfl, _, hA, hS⟩ := hf
  obtain ⟨⟨a1', k1, rfl⟩, _⟩ := hA.form
  obtain ⟨⟨a2, k2, rfl⟩, _⟩ := hS.form
  refine callsIn_of_wp_marks Tryd.func65 rfl trivial ?_ rfl
  simp only [Tryd.ntmps65, List.size_toArray, List.length_cons, List.length_nil, Nat.reduceAdd, Nat.reduceSub, Array.replicate_succ, Array.replicate_zero, List.push_toArray, List.append_toArray, List.nil_append, List.cons_append]
  gi_wp2_with fail
  refine ⟨trivial, rfl, hw.out.mono ?_⟩
  clear hw
  rintro e W1 ⟨rfl, hb1, hbox, hz1⟩
  rw [World.size_alloc, World.size_alloc] at hb1 hbox hz1
  rw [World.size_alloc, World.size_alloc]
  have hz : W1.heap.size ≤ w.heap.size + 3 ∧ w.heap.size + 3 ≤ W1.heap.size := by omega
  clear hz1
  have hbw : Below w.heap.size w W1 := hb0.trans (hb1.mono (by omega))
  have cC : W1.cell? ⟨w.heap.size + 1, 0, none⟩ = some (.int .i64 (((levelsL f).take 0).foldl mx 0)) := by rw [hb1.cell (p := ⟨w.heap.size + 1, 0, none⟩) (by simp)]; rw [World.cell?_alloc_at _ _ _ _ (by simp)]; rfl
  have fC : W1.frozen? ⟨w.heap.size + 1, 0, none⟩ = false := by rw [hb1.frozen (p := ⟨w.heap.size + 1, 0, none⟩) (by simp)]; rw [World.frozen?_alloc_at _ _ _ _ (by simp)]
  have hC := Lib.hid cC
  clear cC
  gi_wp2_with fail
  refine range_law (gf := 96) (lb := #[.pointer (some ⟨w.heap.size + 2, 0, none⟩)]) rfl (enters_of Tryd.func96 (by kernel_rfl) rfl) (levels_iter f (w.heap.size + 2) dn (rng_p f) (rng_t f))
    (by rintro W x args rfl; rfl) (DJ f (w.heap.size + 1)) (fun _ _ _ => False) (fun b => b = w.heap.size + 1) (DJ.fr _ _ _) (fun c => ⟨fun h => h.elim, fun h => h.elim⟩)
    ⟨fun _ => Iff.rfl, hC.out, fC, by omega⟩
    (fun O' W' hb' hs' => ⟨hbox.below hb' (by omega) (by omega), fun h => (hs' _ h).elim (fun h => by omega) fun h => by omega, fun b hb => (hs' b hb).elim (fun h => by omega) fun h => by omega⟩)
    (fun k x args W2 a1 W3 => W3 = W2 ∧ a1 = { tmps := #[.agg #[.int .u8 f.op, .string f.n, .slice a1' f.args.length k1, .slice a2 f.sub.length k2], .pointer (some ⟨w.heap.size, 0, none⟩), .int .i64 0, .pointer (some ⟨w.heap.size + 1, 0, none⟩), .int .i64 x, .agg #[.int .u8 f.op, .string f.n, .slice a1' f.args.length k1, .slice a2 f.sub.length k2], .func (.func 96) #[] #[.pointer (some ⟨w.heap.size + 1 + 1, 0, none⟩)], .int .i64 x, undef, undef, undef, undef], defers := [] }) ?assign ?body ?done ?stop
  case assign =>
    rintro l2 k x O2 W2 args hj hx rfl
    clear hj hbox
    gi_wp2
    exact ⟨Below.refl _ _, trivial, trivial⟩
  case body =>
    rintro l2 k x O2 W2 args _ _ W3 ⟨rfl, rfl⟩ hj hx hrep hbb hbl hz3 hne hl2 hl3 hol
    obtain ⟨ho, hc, hf, hl⟩ := hj
    have hs : ((levelsL f).take (k + 1)).foldl mx 0 = mx (((levelsL f).take k).foldl mx 0) x := by
      obtain ⟨hk, hx'⟩ := List.getElem?_eq_some_iff.1 hx
      rw [List.take_succ_eq_append_getElem hk, List.foldl_append, hx']; rfl
    have HS := Lib.hid hs
    have hrmax : ∀ ts t W, (Builtin.max_ ts t #[.int .i64 (((levelsL f).take k).foldl mx 0), .int .i64 x]).run Tryd.prog W = .ok (.int .i64 (mx (((levelsL f).take k).foldl mx 0) x)) W := fun ts t W => by
      exact run_max_int2 (w := W) ts t .i64 .i64 (((levelsL f).take k).foldl mx 0) x
    clear hs
    generalize ((levelsL f).take k).foldl mx 0 = v at *
    have HG := Lib.hid (Grow.setCell (O := O2) W3 (p := ⟨w.heap.size + 1, 0, none⟩) (.int .i64 (mx v x)) ((ho _).2 rfl))
    have HC := Lib.hid (World.cell?_setCell_same' W3 ⟨w.heap.size + 1, 0, none⟩ (.int .i64 (mx v x)) (by rw [hc]; rfl))
    have HO := Lib.hid ho
    clear hne hbl hbb hx hrep hbox hb1 hbw hA hS hb0 ho
    gi_wp2
    exact ⟨O2, Sub.refl _ _, HG.out, HO.out, by rw [HS.out]; exact HC.out, by rw [World.frozen?_setCell]; exact hf, by simp; omega⟩
  case stop => exact fun c O' W h => h.elim
  case done =>
    rintro O2 W2 ⟨ho, hc, hf, hl⟩ hs2 nD hg2 hK
    rw [List.take_length] at hc
    have hc' : W2.cell? ⟨w.heap.size + 1, 0, none⟩ = some (.int .i64 (depthL f)) := hc
    clear hc
    have hG := Lib.hid (((Grow.of_below (O := fun b => b = w.heap.size + 1) hbw).trans hg2 (Sub.refl _ _)).taken (D := W1.heap.size) (by omega) (.deferred none))
    clear hbox hb1 hbw hA hS hb0 ho hs2 hg2
    gi_wp2
    refine ⟨by simp, .inl ⟨_, _, rfl, run_takeDeferred hK, ?_⟩⟩
    exact ⟨_, results_tmp rfl _ _ _, rfl, hG.out.below (Nat.le_refl _) fun b hb => by omega⟩
end
end Go.Proofs.YtggkehncpkfakaaDoor.Fm
namespace Go.Proofs.YtggkehncpkfakaaDoor.Ps
open Go Go.RowKit Go.Shelf Go.Proofs.YtggkehncpkfakaaDoor.Fm Go.Proofs.YtggkehncpkfakaaDoor.Lx
set_option linter.unusedVariables false
set_option linter.unusedSimpArgs false
theorem tval_tmv {lo : Nat} {w : World} {v : Value} {t : Tm} (h : TVal lo w v t) : ∃ v0 v1 v2, v = .agg #[v0, v1, v2] ∧ TmV w.heap.size w v0 v1 v2 t := by
  obtain ⟨a, c, rfl, hok, hs⟩ := h
  exact ⟨_, _, _, rfl, rfl, rfl, hok, hs.slT fun b hb => hb.2⟩
theorem tm_c (t : Tm) (v0 v1 v2 : Value) (w : World) (h : TmV w.heap.size w v0 v1 v2 t) : Calls Tryd.prog 24 #[.agg #[v0, v1, v2]] w fun e w' => e = .returned (.bool (t.right false)) ∧ Below w.heap.size w w' := by
  have hb0 : Below w.heap.size w (w.alloc (.cells #[v0, v1, v2] 51)) := (Below.refl _ _).alloc (Nat.le_refl _) _
  have hr := rightT_c false (SizeOf.sizeOf t + 1) t (Nat.lt_succ_self _) v0 v1 v2 w.heap.size _ (h.below hb0 (Nat.le_refl _)) hb0.size
  have HB0 := Lib.hid hb0
  obtain ⟨rfl, rfl, hok, hargs⟩ := h
  obtain ⟨⟨sa, cap, rfl⟩, hlen⟩ := hargs.form
  clear hargs hok hlen hb0
  generalize t.right false = b at *
  go_enter Tryd.func24, Tryd.ntmps24
  go_wp2_with fail
  refine hr.mono ?_
  rintro e w1 ⟨rfl, hb⟩
  go_wp2_with fail
  go_ret
  exact ⟨rfl, HB0.out.trans (hb.mono HB0.out.size)⟩
def alone (t : Tm) : Fo := .mk 0 ⟨#[]⟩ [t] []
def n1 (t : Tm) : Int := IntKind.i64.wrap (wrap64 ((levelsL (alone t)).length : Int) - 1)
def p1 (t : Tm) : Int := IntKind.i64.wrap (depthL (alone t) - 1)
def rtT (t : Tm) : Bool := t.right false && decide (n1 t ≤ 400) && decide (p1 t ≤ 40)
theorem fval_alone {lo g : Nat} {w : World} {t : Tm} {a : Option Addr} {c : Nat} (hok : okStr t.n) (hs : SlTD (Own lo w) w (.slice a t.args.length c) t.args) (hg : Own lo w g)
    (hc : ∀ j u, [Value.bool t.v, .string t.n, .slice a t.args.length c][j]? = some u → w.cell? ⟨g, j, none⟩ = some u) : FVal lo w (.agg #[.int .u8 0, .string ⟨#[]⟩, .slice (some ⟨g, 0, none⟩) 1 1, .slice none 0 0]) (alone t) := by
  refine ⟨some ⟨g, 0, none⟩, 1, none, 0, rfl, (show 0 ≤ (0 : Int) ∧ (0 : Int) ≤ 255 by omega), ok_str (show (⟨#[]⟩ : ByteArray).size ≤ 20000 by decide), ⟨some ⟨g, 0, none⟩, 1, g, 0, rfl, by simp [alone, Fo.args], .inr ⟨rfl, hg⟩, ?_⟩, nil_fs _ _⟩
  exact RowT.tsD (RowT.snoc (t := t) (l := []) hok hs rfl) fun j u hj => by rw [Nat.zero_add]; exact hc j u hj
set_option maxRecDepth 20000 in
set_option maxHeartbeats 4000000 in
theorem rtT_c (lo : Nat) : TChk rtT lo := by
  intro W v t hv hlo
  unfold rtT
  have HN1 := Lib.hid (show IntKind.i64.wrap (wrap64 ((levelsL (alone t)).length : Int) - 1) = n1 t from rfl)
  have HP1 := Lib.hid (show IntKind.i64.wrap (depthL (alone t) - 1) = p1 t from rfl)
  generalize n1 t = N1 at *
  generalize p1 t = P1 at *
  obtain ⟨v0, v1, v2, rfl, hm⟩ := tval_tmv hv
  obtain ⟨a, c, he, hok, hs⟩ := hv
  simp only [Value.agg.injEq, Array.mk.injEq, List.cons.injEq, and_true] at he
  obtain ⟨rfl, rfl, rfl⟩ := he
  have hbx := Bx3.new W (.bool t.v) (.string t.n) (.slice a t.args.length c) 51
  have HM := Lib.hid hm
  have HV := Lib.hid (And.intro hok hs)
  clear hm hok hs
  go_enter Tryd.func38, Tryd.ntmps38
  obtain ⟨c0, c1, c2, _, _, _, hz⟩ := id hbx
  go_upto_region 2 with fail
  have z1 : (W.alloc (.cells #[.bool t.v, .string t.n, .slice a t.args.length c] 51)).heap.size = W.heap.size + 1 := by simp
  have hb1 : Below W.heap.size W (W.alloc (.cells #[.bool t.v, .string t.n, .slice a t.args.length c] 51)) := (Below.refl _ _).alloc (Nat.le_refl _) _
  have hby := Bx3.new (W.alloc (.cells #[.bool t.v, .string t.n, .slice a t.args.length c] 51)) (.bool t.v) (.string t.n) (.slice a t.args.length c) 51
  have hb2 := (Below.refl _ (W.alloc (.cells #[.bool t.v, .string t.n, .slice a t.args.length c] 51))).alloc (Nat.le_refl _) (.cells #[.bool t.v, .string t.n, .slice a t.args.length c] 51)
  have hx2 := hbx.alloc (.cells #[.bool t.v, .string t.n, .slice a t.args.length c] 51)
  rw [z1] at hby
  generalize hX2 : (W.alloc (.cells #[.bool t.v, .string t.n, .slice a t.args.length c] 51)).alloc (.cells #[.bool t.v, .string t.n, .slice a t.args.length c] 51) = X2 at *
  have z2 : X2.heap.size = W.heap.size + 1 + 1 := by rw [← hX2]; simp
  have hbz := Bx4.new X2 (.int .u8 0) (.string ⟨#[]⟩) (.slice (some ⟨W.heap.size + 1, 0, none⟩) 1 1) (.slice none 0 0) 25
  have hb3 := (Below.refl _ X2).alloc (Nat.le_refl _) (.cells #[.int .u8 0, .string ⟨#[]⟩, .slice (some ⟨W.heap.size + 1, 0, none⟩) 1 1, .slice none 0 0] 25)
  have hx3 := hx2.alloc (.cells #[.int .u8 0, .string ⟨#[]⟩, .slice (some ⟨W.heap.size + 1, 0, none⟩) 1 1, .slice none 0 0] 25)
  have hy3 := hby.alloc (.cells #[.int .u8 0, .string ⟨#[]⟩, .slice (some ⟨W.heap.size + 1, 0, none⟩) 1 1, .slice none 0 0] 25)
  rw [z2] at hbz
  have hBX : Below W.heap.size W (X2.alloc (.cells #[.int .u8 0, .string ⟨#[]⟩, .slice (some ⟨W.heap.size + 1, 0, none⟩) 1 1, .slice none 0 0] 25)) := (hb1.trans (hb2.mono hb1.size)).trans (hb3.mono (by omega))
  generalize X2.alloc (.cells #[.int .u8 0, .string ⟨#[]⟩, .slice (some ⟨W.heap.size + 1, 0, none⟩) 1 1, .slice none 0 0] 25) = X at *
  clear hb1 hb2 hb3 hX2 hx2 hby c0 c1 c2 hz hbx
  have hFo := fval_fov (fval_alone (lo := lo) (g := W.heap.size + 1) (w := X) (t := t) (a := a) (c := c) HV.out.1 (HV.out.2.keep (fun b hb q => hBX.cell (p := ⟨b, q, none⟩) hb.2) (fun b hb => ⟨hb.1, Nat.lt_of_lt_of_le hb.2 hBX.size⟩)) ⟨by omega, hy3.lt⟩ fun j u hj => by
    match j, hj with
    | 0, hj => rw [← hj]; exact hy3.c0
    | 1, hj => rw [← hj]; exact hy3.c1
    | 2, hj => rw [← hj]; exact hy3.c2)
  have hm := HM.out.below hBX (Nat.le_refl _)
  have hTm := tm_c t _ _ _ X ⟨hm.v, hm.nm, hm.ok, hm.args.mono hBX.size⟩
  clear hm
  have HN := Lib.hid fun w (hb : Below X.heap.size X w) => callsIn_wide.1 (nodes_w _ _ _ _ (alone t) X.heap.size w (hFo.below hb (Nat.le_refl _)) hb.size)
  have HP := Lib.hid fun w (hb : Below X.heap.size X w) => callsIn_wide.1 (depth_w _ _ _ _ (alone t) X.heap.size w (hFo.below hb (Nat.le_refl _)) hb.size)
  obtain ⟨c0, c1, c2, _, _, _, hz⟩ := id hx3
  obtain ⟨d0, d1, d2, d3, _, _, _, _, hz2⟩ := id hbz
  have HBX := Lib.hid hBX
  have HX4 := Lib.hid hbz
  clear hFo hBX hx3 hy3 z1 z2 hbz
  cases ht : t.right false with
  | false =>
    rw [ht] at hTm
    have HTT := Lib.hid ht
    clear ht
    go_wp2_with fail
    refine hTm.mono ?_
    rintro e w1 ⟨rfl, hb1⟩
    have hB1 := HBX.out.trans (hb1.mono HBX.out.size)
    clear hb1 hTm
    go_wp2_with fail
    go_ret
    exact ⟨by rw [HTT.out]; rfl, hB1⟩
  | true =>
    rw [ht] at hTm
    have HTT := Lib.hid ht
    clear ht
    go_wp2_with fail
    refine hTm.mono ?_
    rintro e w1 ⟨rfl, hb1⟩
    have hB1 := HBX.out.trans (hb1.mono HBX.out.size)
    have hz4 := HX4.out.heap (hb1.block _ HX4.out.lt) (Nat.lt_of_lt_of_le HX4.out.lt hb1.size)
    have HX5 := Lib.hid hz4
    have hnn := HN.out w1 hb1
    have HZ1 := Lib.hid hb1
    have HB1 := Lib.hid hB1
    clear d0 d1 d2 d3 hz2 hb1 hTm hB1
    obtain ⟨d0, d1, d2, d3, _, _, _, _, hz2⟩ := hz4
    by_cases hn4 : N1 ≤ 400
    · have dn : decide (N1 ≤ 400) = true := decide_eq_true hn4
      have hpp := fun w (hb : Below w1.heap.size w1 w) => HP.out w (HZ1.out.trans (hb.mono HZ1.out.size))
      have HPP := Lib.hid hpp
      clear hpp
      go_wp2_with fail
      refine hnn.mono ?_
      rintro e w2 ⟨rfl, hb2⟩
      have hz5 := HX5.out.heap (hb2.block _ HX5.out.lt) (Nat.lt_of_lt_of_le HX5.out.lt hb2.size)
      have hp2 := HPP.out w2 hb2
      have HB2 := Lib.hid (HB1.out.trans (hb2.mono HB1.out.size))
      have hn1' := HN1.out
      clear d0 d1 d2 d3 hz2 hb2 hnn
      obtain ⟨d0, d1, d2, d3, _, _, _, _, hz2⟩ := hz5
      have hp1' := HP1.out
      by_cases hp4 : P1 ≤ 40
      · have dp : decide (P1 ≤ 40) = true := decide_eq_true hp4
        go_wp2_with fail
        refine hp2.mono ?_
        rintro e w3 ⟨rfl, hb3⟩
        have hB3 := HB2.out.trans (hb3.mono HB2.out.size)
        clear hb3 hp2
        go_wp2_with fail
        go_ret
        exact ⟨by rw [HTT.out, dn, dp]; rfl, hB3⟩
      · have dp : decide (P1 ≤ 40) = false := decide_eq_false hp4
        go_wp2_with fail
        refine hp2.mono ?_
        rintro e w3 ⟨rfl, hb3⟩
        have hB3 := HB2.out.trans (hb3.mono HB2.out.size)
        clear hb3 hp2
        go_wp2_with fail
        go_ret
        exact ⟨by rw [HTT.out, dn, dp]; rfl, hB3⟩
    · have dn : decide (N1 ≤ 400) = false := decide_eq_false hn4
      have hn1' := HN1.out
      go_wp2_with fail
      refine hnn.mono ?_
      rintro e w2 ⟨rfl, hb2⟩
      have hB2 := HB1.out.trans (hb2.mono HB1.out.size)
      clear hb2 hnn
      go_wp2_with fail
      go_ret
      exact ⟨by rw [HTT.out, dn]; rfl, hB2⟩
end Go.Proofs.YtggkehncpkfakaaDoor.Ps

/-
  The contract of Term.
-/
namespace Go.Proofs.YtggkehncpkfakaaDoor.Ps
open Go Go.RowKit Go.Shelf Go.Proofs.YtggkehncpkfakaaDoor.Fm Go.Proofs.YtggkehncpkfakaaDoor.Lx
set_option linter.unusedVariables false
set_option linter.unusedSimpArgs false
set_option maxRecDepth 20000 in
theorem term_p (s : ByteArray) (W : World) (hs : s.size ≤ 16384) (hT : RTab W) (hL : LTab W W.heap.size) :
    Calls Tryd.prog 23 #[.string s] W (TermRQ (termRes false rtT s) W) := by
  have hb0 : Below W.heap.size W (W.alloc (.cells #[.bool false, .string ⟨#[]⟩, .slice none 0 0] 51)) := (Below.refl _ _).alloc (Nat.le_refl _) _
  have hr := readT_c s false _ hs rtT (hT.below hb0 hT.1) (fun lo _ => rtT_c lo) ⟨Nat.lt_of_lt_of_le hL.1 hb0.size, (hL.keep (hb0.block _ hL.1)).2⟩
  generalize termRes false rtT s = x at *
  have HB := Lib.hid hb0
  clear hb0 hT hL
  go_enter Tryd.func23, Tryd.ntmps23
  go_wp2_with fail
  refine hr.mono ?_
  rintro e w1 ⟨v, rfl, hv, hb1⟩
  obtain ⟨f, hf⟩ : ∃ f, x.1.getD zeroT = f := ⟨_, rfl⟩
  rw [hf] at hv
  have HF := Lib.hid hf
  clear hf
  have HV := Lib.hid hv
  obtain ⟨a2, k2, rfl, HREST⟩ := hv
  obtain ⟨r0, r1, r2, q0, q1, q2, hRz⟩ := (Bx3.new W (.bool false) (.string ⟨#[]⟩) (.slice none 0 0) 51).heap (hb1.block W.heap.size (by simp)) (Nat.lt_of_lt_of_le (by simp) hb1.size)
  have HB1 := Lib.hid (HB.out.trans (hb1.mono HB.out.size))
  clear hb1 HREST hr
  go_wp2_with fail
  refine bodyPost_ret (v := .tuple #[.agg #[.bool f.v, .string f.n, .slice a2 f.args.length k2], .int .i64 x.2.1, .int .i64 x.2.2]) (by simp [results, Tryd.results23, go_sem, r0, r1, r2, hRz]) rfl ?_
  refine ⟨_, rfl, ?_, put3_below HB1.out (Nat.le_refl _) (.bool f.v) (.string f.n) (.slice a2 f.args.length k2)⟩
  rw [HF.out]
  have h1 := HV.out.put3 (R := W.heap.size) (by simp) (.bool f.v) (.string f.n) (.slice a2 f.args.length k2)
  exact h1.keep (P := W.heap.size) (lo' := W.heap.size) (Grow.refl _ _) (by simp) (by simp)
end Go.Proofs.YtggkehncpkfakaaDoor.Ps

/-
  What the kinds of tokens say; a text with a metavariable is no formula and no term; none is both: plain mathematics.
-/
namespace Go.Proofs.YtggkehncpkfakaaDoor.Ps
open Go Go.RowKit Go.Proofs.YtggkehncpkfakaaDoor.Fm Go.Proofs.YtggkehncpkfakaaDoor.Lx
set_option linter.unusedVariables false
set_option linter.unusedSimpArgs false
/-- A token is a mark exactly if its kind is 2. -/
def KdOk (y : Tk × Nat) : Prop := y.2 = 0 → (y.1.k = 2 → ∃ r, y.1.t = 63 :: r) ∧ (y.1.k ≠ 2 → y.1.t = [] ∨ ∃ c r, y.1.t = c :: r ∧ c ≠ 63)
theorem ru_cases (l : Bs) : KK.ru l = 0 ∨ KK.ru l = 1 ∨ KK.ru l = 3 := by
  show runS (bs l) = 0 ∨ runS (bs l) = 1 ∨ runS (bs l) = 3
  unfold runS
  split
  · exact .inr (.inr rfl)
  · split
    · exact .inr (.inl rfl)
    · exact .inl rfl
theorem ma_cases (l : Bs) : KK.ma l = 0 ∨ KK.ma l = 2 := by
  show marS (bs l) = 0 ∨ marS (bs l) = 2
  unfold marS
  split
  · exact .inr rfl
  · exact .inl rfl
theorem ltr63 : ltr 63 = false := by decide
theorem kd_all : ∀ (off : Nat) (l : Bs), ∀ y ∈ toks KK off l, KdOk y := by
  refine toks_ind KK ?_ ?_ ?_ ?_
  · intro off y hy
    rw [toks_nil, List.mem_singleton] at hy
    subst hy
    refine fun _ => ⟨fun h => ?_, fun _ => Or.inl rfl⟩
    exact absurd h (by decide : (5 : Nat) ≠ 2)
  · intro off c l hc ih y hy
    rw [toks_blank KK hc] at hy
    exact ih y hy
  · intro off c l hc he y hy
    rw [toks_err KK hc he, List.mem_singleton] at hy
    subst hy
    exact fun h => absurd h he
  · intro off c l hc he ih y hy
    rw [toks_tok KK hc he] at hy
    rcases List.mem_cons.1 hy with rfl | hy
    · intro _
      have hbd := tok1_bd KK he
      obtain ⟨q, hq⟩ : ∃ q, (tok1 KK (c :: l)).2.1 = q + 1 := ⟨(tok1 KK (c :: l)).2.1 - 1, by omega⟩
      have ht : (c :: l).take (tok1 KK (c :: l)).2.1 = c :: l.take q := by rw [hq, List.take_succ_cons]
      show ((tok1 KK (c :: l)).1 = 2 → ∃ r, (c :: l).take (tok1 KK (c :: l)).2.1 = 63 :: r) ∧ ((tok1 KK (c :: l)).1 ≠ 2 → (c :: l).take (tok1 KK (c :: l)).2.1 = [] ∨ ∃ c' r, (c :: l).take (tok1 KK (c :: l)).2.1 = c' :: r ∧ c' ≠ 63)
      rw [ht]
      by_cases h63 : c = 63
      · subst h63
        refine ⟨fun _ => ⟨_, rfl⟩, fun hn => absurd ?_ hn⟩
        have hk : tok1 KK (63 :: l) = if KK.ma (63 :: l.takeWhile lod) = 0 then (0, 0, 41) else (KK.ma (63 :: l.takeWhile lod), (l.takeWhile lod).length + 1, 0) := by
          rw [tok1, ltr63]; rfl
        rw [hk] at he ⊢
        rcases ma_cases (63 :: l.takeWhile lod) with h | h
        · rw [if_pos h] at he; exact absurd he (by decide)
        · rw [if_neg (by omega)]; exact h
      · refine ⟨fun h2 => absurd h2 ?_, fun _ => .inr ⟨c, _, rfl, h63⟩⟩
        have hc63 : (c == 63) = false := beq_eq_false_iff_ne.2 h63
        rw [tok1, hc63]
        rw [tok1, hc63] at he
        have := ru_cases (c :: l.takeWhile lod)
        cases hl : ltr c with
        | true =>
          rw [hl] at he
          simp only [if_true] at he ⊢
          split
          · show (0 : Nat) ≠ 2; omega
          · show KK.ru _ ≠ 2; omega
        | false =>
          simp only [Bool.false_eq_true, if_false]
          split
          · show (0 : Nat) ≠ 2; omega
          · show (4 : Nat) ≠ 2; omega
    · exact ih y hy
theorem bs_ne (l : Bs) (c : UInt8) (r : Bs) (h : l = c :: r) : (bs l).size = r.length + 1 ∧ ((bs l).extract 0 1).toList = [c] := by
  subst h
  refine ⟨by simp [bs, ByteArray.size], ?_⟩
  rw [ByteArray.toList_eq]
  simp [bs, ByteArray.data_extract]
theorem mark_iff (l : Bs) : markB (bs l) = true ↔ ∃ r, l = 63 :: r := by
  cases l with
  | nil =>
    constructor
    · intro h; exact absurd rfl (markB_ne h)
    · rintro ⟨r, h⟩; cases h
  | cons c r =>
    obtain ⟨h1, h2⟩ := bs_ne (c :: r) c r rfl
    unfold markB
    rw [h1, h2, decide_eq_true (by omega), Bool.true_and, beq_iff_eq]
    constructor
    · intro h; exact ⟨r, by rw [List.cons.inj h |>.1]⟩
    · rintro ⟨r', h⟩; rw [(List.cons.inj h).1]
theorem mark_kind {s : ByteArray} (hl : lexErr s = none) {t : Tg} (ht : t ∈ tgL s) : markB t.t = true ↔ t.k = 2 := by
  rw [tgL_map] at ht
  obtain ⟨y, hy, rfl⟩ := List.mem_map.1 ht
  have h0 : y.2 = 0 := errs_all (lexErr_none.1 hl) y hy
  obtain ⟨h1, h2⟩ := kd_all 0 s.data.toList y hy h0
  show markB (bs y.1.t) = true ↔ ((y.1.k : Nat) : Int) = 2
  rw [mark_iff]
  constructor
  · rintro ⟨r, hr⟩
    by_cases hk : y.1.k = 2
    · omega
    · rcases h2 hk with h | ⟨c, r', h, hc⟩
      · rw [hr] at h; cases h
      · rw [hr] at h; exact absurd (List.cons.inj h).1.symm hc
  · intro h; exact h1 (by omega)
theorem met_mark {s : ByteArray} (h : markB s = false) : metB s = false := by unfold metB metaB; rw [h]; rfl
/-- No mark among the tokens: Form and Schema say the same. -/
theorem plain_same' (s : ByteArray) (hs : s.size ≤ 16384) (hl : lexErr s = none) (hm : ∀ t ∈ tgL s, t.k ≠ 2) : formRes false (rightB false) s = formRes true (rightB true) s := by
  refine plain_same s hs hl fun t ht => ?_
  have h : metB t.t = false := met_mark (by
    cases h : markB t.t with
    | false => rfl
    | true => exact absurd ((mark_kind hl ht).1 h) (hm t ht))
  unfold mtB mfB
  rw [h]
  exact ⟨by simp, by simp⟩
theorem names_rng {f t : Int} {p : Int → Bool} {s : ByteArray} (h : namesB f t p s = true) : ∃ c r, s.data.toList = c :: r ∧ f ≤ (c.toNat : Int) ∧ (c.toNat : Int) ≤ t := by
  have h0 : 0 < s.size := by
    rcases Nat.eq_zero_or_pos s.size with h0 | h0
    · rw [names_empty _ _ _ _ h0] at h; cases h
    · exact h0
  have h1 : s.size ≤ 16 := by
    by_cases h1 : s.size ≤ 16
    · exact h1
    · rw [names_long _ _ _ _ (by omega)] at h; cases h
  rw [names_some _ _ _ _ h0 h1, Bool.and_eq_true, Bool.and_eq_true, decide_eq_true_eq, decide_eq_true_eq] at h
  have hl : 0 < s.data.toList.length := by simpa using h0
  refine ⟨s.data.toList[0], s.data.toList.drop 1, ?_, h.1.1, h.1.2⟩
  rw [← List.drop_eq_getElem_cons hl]; rfl
theorem mark_list {s : ByteArray} (h : markB s = true) : ∃ r, s.data.toList = 63 :: r := by
  have := (mark_iff s.data.toList).1 (by rw [bs_list]; exact h)
  exact this
theorem mark_names {f t : Int} {p : Int → Bool} {s : ByteArray} (h : markB s = true) (hft : 63 < f) : namesB f t p s = false := by
  cases hn : namesB f t p s with
  | false => rfl
  | true =>
    obtain ⟨c, r, e, h1, _⟩ := names_rng hn
    obtain ⟨r', e'⟩ := mark_list h
    rw [e'] at e
    have := (List.cons.inj e).1
    subst this
    exact absurd h1 (by show ¬ f ≤ ((63 : UInt8).toNat : Int); have : ((63 : UInt8).toNat : Int) = 63 := rfl; omega)
theorem eqB_no {s x : ByteArray} (h : s ≠ x) : eqB s x = false := by
  cases he : eqB s x with
  | false => rfl
  | true => exact absurd (eqB_iff.1 he) h
theorem mark_ne {s x : ByteArray} (h : markB s = true) (hx : markB x = false) : s ≠ x := by rintro rfl; rw [h] at hx; cases hx
theorem mark_dead {s : ByteArray} (h : markB s = true) : alive false s = false := by
  have hs : ∀ x, markB x = false → eqB s x = false := fun x hx => eqB_no (mark_ne h hx)
  have h1 : varB s = false := mark_names h (by omega)
  have h2 : fnB s = false := by unfold fnB; rw [mark_names h (by omega)]; rfl
  have h3 : predB s = false := mark_names h (by omega)
  have h4 : unOp s = 0 := by
    unfold unOp
    rw [hs _ (by kernel_rfl), hs _ (by kernel_rfl), hs _ (by kernel_rfl), hs _ (by kernel_rfl), hs _ (by kernel_rfl), hs _ (by kernel_rfl), hs _ (by kernel_rfl)]
    rfl
  have h5 : sigs.any (eqB s) = false := by
    unfold sigs
    simp only [List.any_cons, List.any_nil]
    rw [hs _ (by kernel_rfl), hs _ (by kernel_rfl), hs _ (by kernel_rfl), hs _ (by kernel_rfl), hs _ (by kernel_rfl), hs _ (by kernel_rfl), hs _ (by kernel_rfl), hs (lvS 0) (by kernel_rfl), hs (lvS 1) (by kernel_rfl), hs (lvS 2) (by kernel_rfl), hs (lvS 3) (by kernel_rfl), hs (lvS 4) (by kernel_rfl)]
    rfl
  unfold alive
  rw [h1, h2, h3, h4, h5]
  unfold mtB mfB
  rfl
/-- What stands ahead of the end has all been asked for. -/
theorem ends_all {m : Bool} {ts r : List Tg} (hT : TOK ts) {i : Nat} (hr : r = ts.drop i) (hal : ∀ j, j < i → alive m (tx (ts.drop j)) = true) (h5 : (hd r).k = 5) : ∀ t ∈ ts, t.k ≠ 5 → alive m t.t = true := by
  obtain ⟨pre, a, hts, hp⟩ := hT.h
  intro t ht hk
  rw [hts] at ht
  rcases List.mem_append.1 ht with ht | ht
  · obtain ⟨q, hq, e⟩ := List.getElem_of_mem ht
    have hlen : ts.length = pre.length + 1 := by rw [hts]; simp
    have hget : ∀ j (hj : j < pre.length), hd (ts.drop j) = pre[j] := fun j hj => by
      rw [hd_drop (by omega)]
      simp only [hts]
      exact List.getElem_append_left hj
    by_cases hqi : q < i
    · have := hal q hqi
      unfold tx at this
      rwa [hget q hq, e] at this
    · have hi : i < pre.length := by omega
      rw [hr, hget i hi] at h5
      exact absurd h5 (hp _ (List.getElem_mem hi)).2
  · rw [List.mem_singleton.1 ht] at hk
    exact absurd rfl hk
theorem alive_bin {m : Bool} (ts : List Tg) : InvR (fun r => ∃ i, r = ts.drop i ∧ ∀ j, j < i → alive m (tx (ts.drop j)) = true) (binC m 0 0 ts) := by
  refine inv_bin (m := m) (fun r ⟨i, e, hal⟩ ha => ⟨i + 1, by rw [e, List.drop_drop], fun j hj => ?_⟩) 0 0 ts ⟨0, rfl, fun j hj => by omega⟩ (by omega)
  by_cases h : j < i
  · exact hal j h
  · obtain rfl : j = i := by omega
    rwa [e] at ha
theorem alive_term {m : Bool} (ts : List Tg) : InvR (fun r => ∃ i, r = ts.drop i ∧ ∀ j, j < i → alive m (tx (ts.drop j)) = true) (termC m 0 ts) := by
  refine inv_term (m := m) (fun r ⟨i, e, hal⟩ ha => ⟨i + 1, by rw [e, List.drop_drop], fun j hj => ?_⟩) 0 ts ⟨0, rfl, fun j hj => by omega⟩
  by_cases h : j < i
  · exact hal j h
  · obtain rfl : j = i := by omega
    rwa [e] at ha
theorem endC_ok {α : Type} {rt : α → Bool} {x : R α} (hi : ∀ a e, x = .er a e → e ≠ 0) (h : (endC rt x).2.2 = 0) : ∃ v r, x = .ok v r ∧ (hd r).k = 5 ∧ rt v = true ∧ endC rt x = (some v, 0, 0) := by
  cases x with
  | er a e => exact absurd h (hi a e rfl)
  | ok v r =>
    unfold endC at h
    by_cases h5 : ((hd r).k == 5) = true
    · simp only [h5, if_true] at h
      by_cases hr : rt v = true
      · exact ⟨v, r, rfl, beq_iff_eq.1 h5, hr, by unfold endC; simp [h5, hr]⟩
      · simp [hr] at h
    · simp [h5] at h
theorem form_ok {m : Bool} {rt : Fo → Bool} {s : ByteArray} (hl : lexErr s = none) (h : (formRes m rt s).2.2 = 0) : ∃ f r, binC m 0 0 (tgL s) = .ok f r ∧ (hd r).k = 5 ∧ rt f = true ∧ formRes m rt s = (some f, 0, 0) := by
  have e : formRes m rt s = endC rt (binC m 0 0 (tgL s)) := by unfold formRes; rw [hl]
  rw [e] at h ⊢
  exact endC_ok (fun a e hx => by obtain ⟨_, _, _, h⟩ := (alive_bin (m := m) (tgL s)).2 a e hx; omega) h
theorem term_ok {m : Bool} {rt : Tm → Bool} {s : ByteArray} (hl : lexErr s = none) (h : (termRes m rt s).2.2 = 0) : ∃ f r, termC m 0 (tgL s) = .ok f r ∧ (hd r).k = 5 ∧ rt f = true ∧ termRes m rt s = (some f, 0, 0) := by
  have e : termRes m rt s = endC rt (termC m 0 (tgL s)) := by unfold termRes; rw [hl]
  rw [e] at h ⊢
  exact endC_ok (fun a e hx => by obtain ⟨_, _, _, h⟩ := (alive_term (m := m) (tgL s)).2 a e hx; omega) h
/-- With a mark among the tokens: no formula, no term. -/
theorem meta_none (s : ByteArray) (hs : s.size ≤ 16384) (hl : lexErr s = none) (hm : ∃ t ∈ tgL s, t.k = 2) (rt : Fo → Bool) (rm : Tm → Bool) : (formRes false rt s).2.2 ≠ 0 ∧ (termRes false rm s).2.2 ≠ 0 := by
  obtain ⟨t, ht, hk⟩ := hm
  have hT := (tok_tgL hs hl).1
  have hd' := mark_dead ((mark_kind hl ht).2 hk)
  constructor
  · intro h
    obtain ⟨f, r, hx, h5, _, _⟩ := form_ok hl h
    obtain ⟨i, hr, hal⟩ := (alive_bin (m := false) (tgL s)).1 f r hx
    have := ends_all hT hr hal h5 t ht (by omega)
    rw [hd'] at this; cases this
  · intro h
    obtain ⟨f, r, hx, h5, _, _⟩ := term_ok hl h
    obtain ⟨i, hr, hal⟩ := (alive_term (m := false) (tgL s)).1 f r hx
    have := ends_all hT hr hal h5 t ht (by omega)
    rw [hd'] at this; cases this
end Go.Proofs.YtggkehncpkfakaaDoor.Ps

/-
  No text is both a term and a formula: plain mathematics.
-/
namespace Go.Proofs.YtggkehncpkfakaaDoor.Ps
open Go Go.RowKit Go.Proofs.YtggkehncpkfakaaDoor.Fm Go.Proofs.YtggkehncpkfakaaDoor.Lx
set_option linter.unusedVariables false
set_option linter.unusedSimpArgs false
theorem term_head {n : Nat} {ts r : List Tg} {t : Tm} (h : termC false n ts = .ok t r) : varB (tx ts) = true ∨ fnB (tx ts) = true := by
  rw [termC_eq] at h
  split at h
  · cases h
  split at h
  · next _ hv =>
    rw [Bool.or_eq_true] at hv
    rcases hv with hv | hv
    · exact .inl hv
    · unfold mtB at hv; simp at hv
  split at h
  · next _ _ hf => exact .inr hf
  · cases h
theorem low_rng {s : ByteArray} (h : varB s = true ∨ fnB s = true) : ∃ c r, s.data.toList = c :: r ∧ 97 ≤ (c.toNat : Int) ∧ (c.toNat : Int) ≤ 122 := by
  rcases h with h | h
  · obtain ⟨c, r, e, h1, h2⟩ := names_rng h
    exact ⟨c, r, e, by omega, h2⟩
  · unfold fnB at h
    rw [Bool.and_eq_true] at h
    obtain ⟨c, r, e, h1, h2⟩ := names_rng h.1
    exact ⟨c, r, e, h1, by omega⟩
theorem low_ne {s x : ByteArray} (h : varB s = true ∨ fnB s = true) (h1 : varB x = false) (h2 : fnB x = false) : eqB s x = false := eqB_no fun e => by
  subst e
  rcases h with h | h
  · rw [h] at h1; cases h1
  · rw [h] at h2; cases h2
theorem low_bad {m : Bool} {n : Nat} {ts : List Tg} (h : varB (tx ts) = true ∨ fnB (tx ts) = true) : ∀ f r, unC m n ts ≠ .ok f r := by
  intro f r hx
  have hno : unOp (tx ts) = 0 := by
    unfold unOp
    rw [low_ne h (by kernel_rfl) (by kernel_rfl), low_ne h (by kernel_rfl) (by kernel_rfl), low_ne h (by kernel_rfl) (by kernel_rfl), low_ne h (by kernel_rfl) (by kernel_rfl), low_ne h (by kernel_rfl) (by kernel_rfl), low_ne h (by kernel_rfl) (by kernel_rfl), low_ne h (by kernel_rfl) (by kernel_rfl)]
    rfl
  obtain ⟨c, r', e, h1, h2⟩ := low_rng h
  have hp : predB (tx ts) = false := by
    cases hp : predB (tx ts) with
    | false => rfl
    | true =>
      obtain ⟨c', r2, e', _, g2⟩ := names_rng hp
      rw [e] at e'
      rw [(List.cons.inj e').1] at h1
      omega
  have hm : mfB m (tx ts) = false := by
    have : markB (tx ts) = false := by
      cases hk : markB (tx ts) with
      | false => rfl
      | true =>
        obtain ⟨r2, e'⟩ := mark_list hk
        rw [e] at e'
        rw [(List.cons.inj e').1] at h1
        exact absurd h1 (by decide)
    unfold mfB
    rw [met_mark this]
    simp
  have hb : basC m n ts = bad ts 50 := by
    rw [basC_eq, show is ts ⟨#[40]⟩ = false from low_ne h (by kernel_rfl) (by kernel_rfl), show is ts ⟨#[102, 97, 108, 115, 101]⟩ = false from low_ne h (by kernel_rfl) (by kernel_rfl), hm, hp]
    rfl
  rw [unC_eq, hb] at hx
  by_cases h120 : 120 < n
  · rw [if_pos h120] at hx; cases hx
  · rw [if_neg h120, if_pos hno] at hx; cases hx
theorem low_bin {m : Bool} {n : Nat} {ts : List Tg} (h : varB (tx ts) = true ∨ fnB (tx ts) = true) : ∀ d i, i + d = 5 → ∀ f r, binC m i n ts ≠ .ok f r
  | 0, i, hi => fun f r hx => by
    obtain rfl : i = 5 := by omega
    rw [binC_un] at hx
    exact low_bad h f r hx
  | d + 1, i, hi => fun f r hx => by
    rw [binC_eq m i n ts (by omega)] at hx
    obtain ⟨g, r', h1, _⟩ := bind_ok hx
    exact low_bin h d (i + 1) (by omega) g r' h1
theorem not_both (s : ByteArray) (hl : lexErr s = none) (rt : Fo → Bool) (rm : Tm → Bool) : ¬ ((formRes true rt s).2.2 = 0 ∧ (termRes false rm s).2.2 = 0) := by
  rintro ⟨h1, h2⟩
  obtain ⟨f, r, hx, _, _, _⟩ := form_ok hl h1
  obtain ⟨t, r2, hy, _, _, _⟩ := term_ok hl h2
  exact low_bin (term_head hy) 5 0 rfl f r hx
end Go.Proofs.YtggkehncpkfakaaDoor.Ps

/-
  ParseOnly's walk.
-/
namespace Go.Proofs.YtggkehncpkfakaaDoor.Ps
open Go Go.RowKit Go.Shelf Go.Proofs.YtggkehncpkfakaaDoor.Fm Go.Proofs.YtggkehncpkfakaaDoor.Lx
set_option linter.unusedVariables false
set_option linter.unusedSimpArgs false
theorem tv_below {lo : Nat} {w w' : World} {v : Value} {t : Tm} (h : TVal lo w v t) (hb : Below w.heap.size w w') : TVal lo w' v t := by
  obtain ⟨a, c, h1, h2, h3⟩ := h
  exact ⟨a, c, h1, h2, h3.keep (fun b h q => hb.cell (p := ⟨b, q, none⟩) h.2) (fun b h => ⟨h.1, Nat.lt_of_lt_of_le h.2 hb.size⟩)⟩
def seen (ts : List Tg) (q : Nat) : Bool := (ts.take q).any fun t => t.k == 2
theorem seen_step {ts : List Tg} {q : Nat} (h : q < ts.length) : seen ts (q + 1) = (seen ts q || (ts[q].k == 2)) := by
  unfold seen
  rw [List.take_succ_eq_append_getElem h, List.any_append]
  simp
theorem seen_all {ts : List Tg} : seen ts ts.length = true ↔ ∃ t ∈ ts, t.k = 2 := by
  unfold seen
  rw [List.take_length, List.any_eq_true]
  constructor
  · rintro ⟨t, h, e⟩; exact ⟨t, h, beq_iff_eq.1 e⟩
  · rintro ⟨t, h, e⟩; exact ⟨t, h, beq_iff_eq.2 e⟩
def OnR (ts : List Tg) (X : World) (m v : Value) (wr : World) : Prop := ∃ q : Nat, v = .int .i64 (q : Int) ∧ q ≤ ts.length ∧ m = .bool (seen ts q) ∧ wr = X
set_option maxHeartbeats 16000000 in
set_option maxRecDepth 20000 in
theorem only_c (s : ByteArray) (W : World) (hT : RTab W) (hL : LTab W W.heap.size) (haw : Calls Tryd.prog 8 #[] W fun e w' => e = .returned (.bool true) ∧ Below W.heap.size W w') : Calls Tryd.prog 7 #[.string s] W fun e w' => e = .returned (.bool true) ∧ Below W.heap.size W w' := by
  have HA := Lib.hid haw
  have HT := Lib.hid hT
  have HL := Lib.hid hL
  have HSCH := Lib.hid fun (w : World) (hx : s.size ≤ 16384) (hb : Below W.heap.size W w) => schema_p s w hx (HT.out.below hb HT.out.1) ⟨Nat.lt_of_lt_of_le HL.out.1 hb.size, (HL.out.keep (hb.block _ HL.out.1)).2⟩
  have HFRM := Lib.hid fun (w : World) (hx : s.size ≤ 16384) (hb : Below W.heap.size W w) => form_c s w hx (HT.out.below hb HT.out.1) ⟨Nat.lt_of_lt_of_le HL.out.1 hb.size, (HL.out.keep (hb.block _ HL.out.1)).2⟩
  have HTRM := Lib.hid fun (w : World) (hx : s.size ≤ 16384) (hb : Below W.heap.size W w) => term_p s w hx (HT.out.below hb HT.out.1) ⟨Nat.lt_of_lt_of_le HL.out.1 hb.size, (HL.out.keep (hb.block _ HL.out.1)).2⟩
  clear hT hL haw
  by_cases h1 : 2500 < s.size
  · have d1 : decide (2500 < s.size) = true := decide_eq_true h1
    have d2 : decide (2500 < (s.size : Int)) = true := decide_eq_true (by omega)
    go_enter Tryd.func7, Tryd.ntmps7
    go_wp2_with fail
    refine HA.out.mono ?_
    rintro e w1 ⟨rfl, hb1⟩
    go_wp2_with fail
    go_ret
    exact ⟨rfl, hb1⟩
  have d1 : decide (2500 < s.size) = false := decide_eq_false h1
  have d2 : decide (2500 < (s.size : Int)) = false := decide_eq_false (by omega)
  obtain ⟨⟨fo, a0, e0⟩, hX⟩ : ∃ x, formRes false (rightB false) s = x := ⟨_, rfl⟩
  obtain ⟨⟨go, b0, e1⟩, hY⟩ : ∃ x, formRes true (rightB true) s = x := ⟨_, rfl⟩
  obtain ⟨⟨tw, t0, e2⟩, hZ⟩ : ∃ x, termRes false rtT s = x := ⟨_, rfl⟩
  have HX := Lib.hid hX
  have HY := Lib.hid hY
  have HZ := Lib.hid hZ
  obtain ⟨fz, hfz⟩ : ∃ fz, fo.getD zeroF = fz := ⟨_, rfl⟩
  obtain ⟨gz, hgz⟩ : ∃ gz, go.getD zeroF = gz := ⟨_, rfl⟩
  obtain ⟨tz, htz⟩ : ∃ tz, tw.getD zeroT = tz := ⟨_, rfl⟩
  have HFZ := Lib.hid hfz
  have HGZ := Lib.hid hgz
  have HTZ := Lib.hid htz
  cases hle : lexErr s with
  | some an =>
    obtain ⟨a, z⟩ := an
    have hz0 : (z != 0) = true := bne_iff_ne.2 (lexErr_ne hle)
    have HLX := Lib.hid (fun w => lexp_c s w (by omega))
    have HLE := Lib.hid hle
    have e1' : formRes false (rightB false) s = (none, a, z) := by unfold formRes; rw [hle]
    have e2' : formRes true (rightB true) s = (none, a, z) := by unfold formRes; rw [hle]
    have e3' : termRes false rtT s = (none, a, z) := by unfold termRes; rw [hle]
    obtain ⟨rfl, rfl, rfl⟩ : fo = none ∧ a0 = a ∧ e0 = z := by have := hX.symm.trans e1'; simpa using this
    obtain ⟨rfl, rfl, rfl⟩ : go = none ∧ b0 = a0 ∧ e1 = e0 := by have := hY.symm.trans e2'; simpa using this
    obtain ⟨rfl, rfl, rfl⟩ : tw = none ∧ t0 = b0 ∧ e2 = e1 := by have := hZ.symm.trans e3'; simpa using this
    clear e1' e2' e3' hX hY hZ hle hfz hgz htz
    go_enter Tryd.func7, Tryd.ntmps7
    go_wp2_with fail
    refine HA.out.mono ?_
    rintro e w1 ⟨rfl, hb1⟩
    go_wp2_with fail
    clear d1 d2
    have hlx := HLX.out w1
    unfold LxP at hlx
    rw [HLE.out] at hlx
    simp only at hlx
    refine hlx.mono ?_
    rintro e w2 ⟨rfl, hb2⟩
    have hb2 := hb1.trans (hb2.mono hb1.size)
    clear hlx hb1
    have hs1 := HFRM.out w2 (by omega) hb2
    rw [HX.out] at hs1
    go_wp2_with fail
    refine hs1.mono ?_
    rintro e w3 ⟨v3, rfl, hv3, hb3⟩
    rw [HFZ.out] at hv3
    have HV3 := Lib.hid hv3
    obtain ⟨a2, k2, a3, k3, rfl, HREST⟩ := hv3
    have HT3 := True.intro
    have hb3 := hb2.trans (hb3.mono hb2.size)
    clear HREST hs1 hb2
    go_upto_region 7 with fail
    generalize hw4 : w3.alloc (.cells #[.int .u8 fz.op, .string fz.n, .slice a2 fz.args.length k2, .slice a3 fz.sub.length k3] 25) = w4
    have hal : Below w3.heap.size w3 w4 := by rw [← hw4]; exact (Below.refl _ _).alloc (Nat.le_refl _) _
    have hbx := Bx4.new w3 (.int .u8 fz.op) (.string fz.n) (.slice a2 fz.args.length k2) (.slice a3 fz.sub.length k3) 25
    rw [hw4] at hbx
    have HV4 := Lib.hid (fv_below HV3.out hal)
    have HT4 := True.intro
    have hb4 := hb3.trans (hal.mono hb3.size)
    have HBX4 := Lib.hid hbx
    have HB4 := Lib.hid hb4
    have hs2 := HSCH.out w4 (by omega) hb4
    rw [HY.out] at hs2
    clear hw4 hal hbx HV3 HT3 hb3 hb4
    go_wp2_with fail
    refine hs2.mono ?_
    rintro e w5 ⟨v5, rfl, hv5, hb5⟩
    rw [HGZ.out] at hv5
    have HG5 := Lib.hid hv5
    obtain ⟨b2, j2, b3, j3, rfl, HREST⟩ := hv5
    have HV5 := Lib.hid (fv_below HV4.out hb5)
    have HT5 := True.intro
    have HBX5 := Lib.hid (HBX4.out.heap (hb5.block _ HBX4.out.lt) (Nat.lt_of_lt_of_le HBX4.out.lt hb5.size))
    have HB5 := Lib.hid (HB4.out.trans (hb5.mono HB4.out.size))
    clear HREST hs2 hb5 HV4 HT4 HBX4 HB4
    go_upto_region 8 with fail
    generalize hw6 : w5.alloc (.cells #[.int .u8 gz.op, .string gz.n, .slice b2 gz.args.length j2, .slice b3 gz.sub.length j3] 25) = w6
    have hal : Below w5.heap.size w5 w6 := by rw [← hw6]; exact (Below.refl _ _).alloc (Nat.le_refl _) _
    have hby := Bx4.new w5 (.int .u8 gz.op) (.string gz.n) (.slice b2 gz.args.length j2) (.slice b3 gz.sub.length j3) 25
    rw [hw6] at hby
    have HV6 := Lib.hid (fv_below HV5.out hal)
    have HG6 := Lib.hid (fv_below HG5.out hal)
    have HT6 := True.intro
    have HBX6 := Lib.hid (HBX5.out.heap (hal.block _ HBX5.out.lt) (Nat.lt_of_lt_of_le HBX5.out.lt hal.size))
    have HBY6 := Lib.hid hby
    have HB6 := Lib.hid (HB5.out.trans (hal.mono HB5.out.size))
    have hs3 := HTRM.out w6 (by omega) HB6.out
    rw [HZ.out] at hs3
    clear hw6 hal hby HV5 HG5 HT5 HBX5 HB5
    go_wp2_with fail
    refine hs3.mono ?_
    rintro e w7 ⟨v7, rfl, hv7, hb7⟩
    rw [HTZ.out] at hv7
    have HM7 := Lib.hid hv7
    obtain ⟨c2, l2, rfl, HREST⟩ := hv7
    have HV7 := Lib.hid (fv_below HV6.out hb7)
    have HG7 := Lib.hid (fv_below HG6.out hb7)
    have HT7 := True.intro
    have HBX7 := Lib.hid (HBX6.out.heap (hb7.block _ HBX6.out.lt) (Nat.lt_of_lt_of_le HBX6.out.lt hb7.size))
    have HBY7 := Lib.hid (HBY6.out.heap (hb7.block _ HBY6.out.lt) (Nat.lt_of_lt_of_le HBY6.out.lt hb7.size))
    have HB7 := Lib.hid (HB6.out.trans (hb7.mono HB6.out.size))
    clear HREST hs3 hb7 HV6 HG6 HT6 HBX6 HBY6 HB6
    go_upto_region 9 with fail
    generalize hw8 : w7.alloc (.cells #[.bool tz.v, .string tz.n, .slice c2 tz.args.length l2] 51) = X
    have hal : Below w7.heap.size w7 X := by rw [← hw8]; exact (Below.refl _ _).alloc (Nat.le_refl _) _
    have hbz := Bx3.new w7 (.bool tz.v) (.string tz.n) (.slice c2 tz.args.length l2) 51
    rw [hw8] at hbz
    have HV := Lib.hid (fval_fov (fv_below HV7.out hal))
    have HG := Lib.hid (fval_fov (fv_below HG7.out hal))
    have HM := Lib.hid (tv_below HM7.out hal)
    have HTS := True.intro
    have HBX := Lib.hid (HBX7.out.heap (hal.block _ HBX7.out.lt) (Nat.lt_of_lt_of_le HBX7.out.lt hal.size))
    have HBY := Lib.hid (HBY7.out.heap (hal.block _ HBY7.out.lt) (Nat.lt_of_lt_of_le HBY7.out.lt hal.size))
    have HBZ := Lib.hid hbz
    have HB := Lib.hid (HB7.out.trans (hal.mono HB7.out.size))
    clear hw8 hal hbz HV7 HG7 HM7 HT7 HBX7 HBY7 HB7
    go_wp2_with fail
    go_ret
    exact ⟨rfl, HB.out⟩
  | none =>
    have HLX := Lib.hid (lexp_ok s (by omega) hle)
    have hln := (tok_tgL (by omega) hle).2
    have hbth := not_both s hle (rightB true) rtT
    rw [hY, hZ] at hbth
    have HOF := Lib.hid (fun h => form_ok (m := false) (rt := rightB false) hle (h : (formRes false (rightB false) s).2.2 = 0))
    have HOS := Lib.hid (fun h => form_ok (m := true) (rt := rightB true) hle (h : (formRes true (rightB true) s).2.2 = 0))
    have HOT := Lib.hid (fun h => term_ok (m := false) (rt := rtT) hle (h : (termRes false rtT s).2.2 = 0))
    have hRF : e0 = 0 → rightB false fz = true := fun h => by
      obtain ⟨f, r, _, _, hr, e⟩ := HOF.out (by rw [hX]; exact h)
      rw [hX] at e
      rw [← hfz, (Prod.mk.inj e).1]
      exact hr
    have hRS : e1 = 0 → rightB true gz = true := fun h => by
      obtain ⟨f, r, _, _, hr, e⟩ := HOS.out (by rw [hY]; exact h)
      rw [hY] at e
      rw [← hgz, (Prod.mk.inj e).1]
      exact hr
    have hRT : e2 = 0 → tz.right false = true := fun h => by
      obtain ⟨f, r, _, _, hr, e⟩ := HOT.out (by rw [hZ]; exact h)
      rw [hZ] at e
      rw [← htz, (Prod.mk.inj e).1]
      unfold rtT at hr
      rw [Bool.and_eq_true, Bool.and_eq_true] at hr
      exact hr.1.1
    have HRF := Lib.hid hRF
    have HRS := Lib.hid hRS
    have HRT := Lib.hid hRT
    clear HOF HOS HOT hRF hRS hRT
    by_cases hm : ∃ t ∈ tgL s, t.k = 2
    · obtain ⟨hn1, hn2⟩ := meta_none s (by omega) hle hm (rightB false) rtT
      rw [hX] at hn1
      rw [hZ] at hn2
      have i0 : (e0 == 0) = false := beq_eq_false_iff_ne.2 hn1
      have i2 : (e2 == 0) = false := beq_eq_false_iff_ne.2 hn2
      have g0 : (e0 != 0) = true := bne_iff_ne.2 hn1
      have g2 : (e2 != 0) = true := bne_iff_ne.2 hn2
      have HM2 := Lib.hid hm
      clear hn1 hn2 hm hX hY hZ hle hfz hgz htz hbth
      go_enter Tryd.func7, Tryd.ntmps7
      go_wp2_with fail
      refine HA.out.mono ?_
      rintro e w1 ⟨rfl, hb1⟩
      go_wp2_with fail
      clear d1 d2
      refine (HLX.out w1).mono ?_
      rintro e w2 ⟨g, cap, rfl, hb2, ht2⟩
      have hb2 := hb1.trans (hb2.mono hb1.size)
      clear hb1
      have hs1 := HFRM.out w2 (by omega) hb2
      rw [HX.out] at hs1
      go_wp2_with fail
      refine hs1.mono ?_
      rintro e w3 ⟨v3, rfl, hv3, hb3⟩
      rw [HFZ.out] at hv3
      have HV3 := Lib.hid hv3
      obtain ⟨a2, k2, a3, k3, rfl, HREST⟩ := hv3
      have HT3 := Lib.hid (ht2.grow hb3)
      have hb3 := hb2.trans (hb3.mono hb2.size)
      clear HREST hs1 hb2
      go_upto_region 7 with fail
      generalize hw4 : w3.alloc (.cells #[.int .u8 fz.op, .string fz.n, .slice a2 fz.args.length k2, .slice a3 fz.sub.length k3] 25) = w4
      have hal : Below w3.heap.size w3 w4 := by rw [← hw4]; exact (Below.refl _ _).alloc (Nat.le_refl _) _
      have hbx := Bx4.new w3 (.int .u8 fz.op) (.string fz.n) (.slice a2 fz.args.length k2) (.slice a3 fz.sub.length k3) 25
      rw [hw4] at hbx
      have HV4 := Lib.hid (fv_below HV3.out hal)
      have HT4 := Lib.hid (HT3.out.grow hal)
      have hb4 := hb3.trans (hal.mono hb3.size)
      have HBX4 := Lib.hid hbx
      have HB4 := Lib.hid hb4
      have hs2 := HSCH.out w4 (by omega) hb4
      rw [HY.out] at hs2
      clear hw4 hal hbx HV3 HT3 hb3 hb4
      go_wp2_with fail
      refine hs2.mono ?_
      rintro e w5 ⟨v5, rfl, hv5, hb5⟩
      rw [HGZ.out] at hv5
      have HG5 := Lib.hid hv5
      obtain ⟨b2, j2, b3, j3, rfl, HREST⟩ := hv5
      have HV5 := Lib.hid (fv_below HV4.out hb5)
      have HT5 := Lib.hid (HT4.out.grow hb5)
      have HBX5 := Lib.hid (HBX4.out.heap (hb5.block _ HBX4.out.lt) (Nat.lt_of_lt_of_le HBX4.out.lt hb5.size))
      have HB5 := Lib.hid (HB4.out.trans (hb5.mono HB4.out.size))
      clear HREST hs2 hb5 HV4 HT4 HBX4 HB4
      go_upto_region 8 with fail
      generalize hw6 : w5.alloc (.cells #[.int .u8 gz.op, .string gz.n, .slice b2 gz.args.length j2, .slice b3 gz.sub.length j3] 25) = w6
      have hal : Below w5.heap.size w5 w6 := by rw [← hw6]; exact (Below.refl _ _).alloc (Nat.le_refl _) _
      have hby := Bx4.new w5 (.int .u8 gz.op) (.string gz.n) (.slice b2 gz.args.length j2) (.slice b3 gz.sub.length j3) 25
      rw [hw6] at hby
      have HV6 := Lib.hid (fv_below HV5.out hal)
      have HG6 := Lib.hid (fv_below HG5.out hal)
      have HT6 := Lib.hid (HT5.out.grow hal)
      have HBX6 := Lib.hid (HBX5.out.heap (hal.block _ HBX5.out.lt) (Nat.lt_of_lt_of_le HBX5.out.lt hal.size))
      have HBY6 := Lib.hid hby
      have HB6 := Lib.hid (HB5.out.trans (hal.mono HB5.out.size))
      have hs3 := HTRM.out w6 (by omega) HB6.out
      rw [HZ.out] at hs3
      clear hw6 hal hby HV5 HG5 HT5 HBX5 HB5
      go_wp2_with fail
      refine hs3.mono ?_
      rintro e w7 ⟨v7, rfl, hv7, hb7⟩
      rw [HTZ.out] at hv7
      have HM7 := Lib.hid hv7
      obtain ⟨c2, l2, rfl, HREST⟩ := hv7
      have HV7 := Lib.hid (fv_below HV6.out hb7)
      have HG7 := Lib.hid (fv_below HG6.out hb7)
      have HT7 := Lib.hid (HT6.out.grow hb7)
      have HBX7 := Lib.hid (HBX6.out.heap (hb7.block _ HBX6.out.lt) (Nat.lt_of_lt_of_le HBX6.out.lt hb7.size))
      have HBY7 := Lib.hid (HBY6.out.heap (hb7.block _ HBY6.out.lt) (Nat.lt_of_lt_of_le HBY6.out.lt hb7.size))
      have HB7 := Lib.hid (HB6.out.trans (hb7.mono HB6.out.size))
      clear HREST hs3 hb7 HV6 HG6 HT6 HBX6 HBY6 HB6
      go_upto_region 9 with fail
      generalize hw8 : w7.alloc (.cells #[.bool tz.v, .string tz.n, .slice c2 tz.args.length l2] 51) = X
      have hal : Below w7.heap.size w7 X := by rw [← hw8]; exact (Below.refl _ _).alloc (Nat.le_refl _) _
      have hbz := Bx3.new w7 (.bool tz.v) (.string tz.n) (.slice c2 tz.args.length l2) 51
      rw [hw8] at hbz
      have HV := Lib.hid (fval_fov (fv_below HV7.out hal))
      have HG := Lib.hid (fval_fov (fv_below HG7.out hal))
      have HM := Lib.hid (tv_below HM7.out hal)
      have HTS := Lib.hid (HT7.out.grow hal)
      have HBX := Lib.hid (HBX7.out.heap (hal.block _ HBX7.out.lt) (Nat.lt_of_lt_of_le HBX7.out.lt hal.size))
      have HBY := Lib.hid (HBY7.out.heap (hal.block _ HBY7.out.lt) (Nat.lt_of_lt_of_le HBY7.out.lt hal.size))
      have HBZ := Lib.hid hbz
      have HB := Lib.hid (HB7.out.trans (hal.mono HB7.out.size))
      clear hw8 hal hbz HV7 HG7 HM7 HT7 HBX7 HBY7 HB7
      go_wp2_with fail
      go_loopw [15, 16] (fun m v wr => OnR (tgL s) X m v wr) (fun _ q _ => (tgL s).length - (intOf q).toNat)
      case atStart => exact ⟨0, rfl, Nat.zero_le _, rfl, rfl⟩
      case round =>
        obtain ⟨q, rfl, hq, rfl, hwr⟩ := hrel
        have hwr := hwr.symm
        subst hwr
        by_cases hlt : q < (tgL s).length
        · obtain ⟨c0, c1, c2⟩ := ts_at3 HTS.out hlt
          have n0 : (0 : Int) ≤ (q : Int) := by omega
          have n1 : (q : Int) < ((tgL s).length : Int) := by omega
          have n2 : decide ((q : Int) < ((tgL s).length : Int)) = true := decide_eq_true n1
          have m10 : IntKind.i64.wrap ((q : Int) + 1) = (q : Int) + 1 := IntWalk.i64_in _ (by omega)
          have HST := Lib.hid (seen_step hlt)
          cases hsn : seen (tgL s) q with
          | true =>
            rw [hsn] at HST
            clear c1 c2
            go_wp2_with fail
            exact ⟨⟨q + 1, by go_num, by omega, by rw [HST.out]; rfl, rfl⟩, by simp [intOf]; omega⟩
          | false =>
            rw [hsn] at HST
            clear c1 c2
            cases hk2 : (((tgL s)[q]'hlt).k == 2) with
            | true =>
              rw [hk2] at HST
              go_wp2_with fail
              exact ⟨⟨q + 1, by go_num, by omega, by rw [HST.out]; rfl, rfl⟩, by simp [intOf]; omega⟩
            | false =>
              rw [hk2] at HST
              go_wp2_with fail
              exact ⟨⟨q + 1, by go_num, by omega, by rw [HST.out]; rfl, rfl⟩, by simp [intOf]; omega⟩
        · obtain rfl : q = (tgL s).length := by omega
          have n2 : decide ((((tgL s).length : Nat) : Int) < ((tgL s).length : Int)) = false := decide_eq_false (by omega)
          rw [seen_all.2 HM2.out]
          obtain ⟨c0, c1, c2, c3, _, _, _, _, hz1⟩ := HBX.out
          obtain ⟨y0, y1, y2, y3, _, _, _, _, hz2⟩ := HBY.out
          obtain ⟨x0, x1, x2, _, _, _, hz3⟩ := HBZ.out
          by_cases hd0 : e1 = 0
          · have g1 : (e1 != 0) = false := by rw [hd0]; rfl
            have hsc := schema_c _ _ _ _ gz _ X HG.out (Nat.le_refl _) (HT.out.below HB.out HT.out.1)
            rw [HRS.out hd0] at hsc
            clear hd0
            go_wp2_with fail
            refine hsc.mono ?_
            rintro e w9 ⟨rfl, hb9⟩
            have hB9 := HB.out.trans (hb9.mono HB.out.size)
            clear hb9 hsc
            go_wp2_with fail
            go_ret
            exact ⟨rfl, hB9⟩
          · have g1 : (e1 != 0) = true := bne_iff_ne.2 hd0
            clear hd0
            go_wp2_with fail
            go_ret
            exact ⟨rfl, HB.out⟩
    · have hsame := plain_same' s (by omega) hle fun t ht hk => hm ⟨t, ht, hk⟩
      rw [hX, hY] at hsame
      obtain ⟨rfl, rfl, rfl⟩ : fo = go ∧ a0 = b0 ∧ e0 = e1 := by simpa using hsame
      have HFG := Lib.hid (show eqF fz gz = true from by rw [← hfz, ← hgz]; exact eqF_me _)
      have HNB := Lib.hid hbth
      have HSN := Lib.hid (show seen (tgL s) (tgL s).length = false from by
        cases h : seen (tgL s) (tgL s).length with
        | false => rfl
        | true => exact absurd (seen_all.1 h) hm)
      have ee : (e0 != e0) = false := by simp
      have aa : (a0 != a0) = false := by simp
      clear hm hX hY hZ hle hfz hgz htz hbth hsame
      go_enter Tryd.func7, Tryd.ntmps7
      go_wp2_with fail
      refine HA.out.mono ?_
      rintro e w1 ⟨rfl, hb1⟩
      go_wp2_with fail
      clear d1 d2
      refine (HLX.out w1).mono ?_
      rintro e w2 ⟨g, cap, rfl, hb2, ht2⟩
      have hb2 := hb1.trans (hb2.mono hb1.size)
      clear hb1
      have hs1 := HFRM.out w2 (by omega) hb2
      rw [HX.out] at hs1
      go_wp2_with fail
      refine hs1.mono ?_
      rintro e w3 ⟨v3, rfl, hv3, hb3⟩
      rw [HFZ.out] at hv3
      have HV3 := Lib.hid hv3
      obtain ⟨a2, k2, a3, k3, rfl, HREST⟩ := hv3
      have HT3 := Lib.hid (ht2.grow hb3)
      have hb3 := hb2.trans (hb3.mono hb2.size)
      clear HREST hs1 hb2
      go_upto_region 7 with fail
      generalize hw4 : w3.alloc (.cells #[.int .u8 fz.op, .string fz.n, .slice a2 fz.args.length k2, .slice a3 fz.sub.length k3] 25) = w4
      have hal : Below w3.heap.size w3 w4 := by rw [← hw4]; exact (Below.refl _ _).alloc (Nat.le_refl _) _
      have hbx := Bx4.new w3 (.int .u8 fz.op) (.string fz.n) (.slice a2 fz.args.length k2) (.slice a3 fz.sub.length k3) 25
      rw [hw4] at hbx
      have HV4 := Lib.hid (fv_below HV3.out hal)
      have HT4 := Lib.hid (HT3.out.grow hal)
      have hb4 := hb3.trans (hal.mono hb3.size)
      have HBX4 := Lib.hid hbx
      have HB4 := Lib.hid hb4
      have hs2 := HSCH.out w4 (by omega) hb4
      rw [HY.out] at hs2
      clear hw4 hal hbx HV3 HT3 hb3 hb4
      go_wp2_with fail
      refine hs2.mono ?_
      rintro e w5 ⟨v5, rfl, hv5, hb5⟩
      rw [HGZ.out] at hv5
      have HG5 := Lib.hid hv5
      obtain ⟨b2, j2, b3, j3, rfl, HREST⟩ := hv5
      have HV5 := Lib.hid (fv_below HV4.out hb5)
      have HT5 := Lib.hid (HT4.out.grow hb5)
      have HBX5 := Lib.hid (HBX4.out.heap (hb5.block _ HBX4.out.lt) (Nat.lt_of_lt_of_le HBX4.out.lt hb5.size))
      have HB5 := Lib.hid (HB4.out.trans (hb5.mono HB4.out.size))
      clear HREST hs2 hb5 HV4 HT4 HBX4 HB4
      go_upto_region 8 with fail
      generalize hw6 : w5.alloc (.cells #[.int .u8 gz.op, .string gz.n, .slice b2 gz.args.length j2, .slice b3 gz.sub.length j3] 25) = w6
      have hal : Below w5.heap.size w5 w6 := by rw [← hw6]; exact (Below.refl _ _).alloc (Nat.le_refl _) _
      have hby := Bx4.new w5 (.int .u8 gz.op) (.string gz.n) (.slice b2 gz.args.length j2) (.slice b3 gz.sub.length j3) 25
      rw [hw6] at hby
      have HV6 := Lib.hid (fv_below HV5.out hal)
      have HG6 := Lib.hid (fv_below HG5.out hal)
      have HT6 := Lib.hid (HT5.out.grow hal)
      have HBX6 := Lib.hid (HBX5.out.heap (hal.block _ HBX5.out.lt) (Nat.lt_of_lt_of_le HBX5.out.lt hal.size))
      have HBY6 := Lib.hid hby
      have HB6 := Lib.hid (HB5.out.trans (hal.mono HB5.out.size))
      have hs3 := HTRM.out w6 (by omega) HB6.out
      rw [HZ.out] at hs3
      clear hw6 hal hby HV5 HG5 HT5 HBX5 HB5
      go_wp2_with fail
      refine hs3.mono ?_
      rintro e w7 ⟨v7, rfl, hv7, hb7⟩
      rw [HTZ.out] at hv7
      have HM7 := Lib.hid hv7
      obtain ⟨c2, l2, rfl, HREST⟩ := hv7
      have HV7 := Lib.hid (fv_below HV6.out hb7)
      have HG7 := Lib.hid (fv_below HG6.out hb7)
      have HT7 := Lib.hid (HT6.out.grow hb7)
      have HBX7 := Lib.hid (HBX6.out.heap (hb7.block _ HBX6.out.lt) (Nat.lt_of_lt_of_le HBX6.out.lt hb7.size))
      have HBY7 := Lib.hid (HBY6.out.heap (hb7.block _ HBY6.out.lt) (Nat.lt_of_lt_of_le HBY6.out.lt hb7.size))
      have HB7 := Lib.hid (HB6.out.trans (hb7.mono HB6.out.size))
      clear HREST hs3 hb7 HV6 HG6 HT6 HBX6 HBY6 HB6
      go_upto_region 9 with fail
      generalize hw8 : w7.alloc (.cells #[.bool tz.v, .string tz.n, .slice c2 tz.args.length l2] 51) = X
      have hal : Below w7.heap.size w7 X := by rw [← hw8]; exact (Below.refl _ _).alloc (Nat.le_refl _) _
      have hbz := Bx3.new w7 (.bool tz.v) (.string tz.n) (.slice c2 tz.args.length l2) 51
      rw [hw8] at hbz
      have HV := Lib.hid (fval_fov (fv_below HV7.out hal))
      have HG := Lib.hid (fval_fov (fv_below HG7.out hal))
      have HM := Lib.hid (tv_below HM7.out hal)
      have HTS := Lib.hid (HT7.out.grow hal)
      have HBX := Lib.hid (HBX7.out.heap (hal.block _ HBX7.out.lt) (Nat.lt_of_lt_of_le HBX7.out.lt hal.size))
      have HBY := Lib.hid (HBY7.out.heap (hal.block _ HBY7.out.lt) (Nat.lt_of_lt_of_le HBY7.out.lt hal.size))
      have HBZ := Lib.hid hbz
      have HB := Lib.hid (HB7.out.trans (hal.mono HB7.out.size))
      clear hw8 hal hbz HV7 HG7 HM7 HT7 HBX7 HBY7 HB7
      go_wp2_with fail
      go_loopw [15, 16] (fun m v wr => OnR (tgL s) X m v wr) (fun _ q _ => (tgL s).length - (intOf q).toNat)
      case atStart => exact ⟨0, rfl, Nat.zero_le _, rfl, rfl⟩
      case round =>
        obtain ⟨q, rfl, hq, rfl, hwr⟩ := hrel
        have hwr := hwr.symm
        subst hwr
        by_cases hlt : q < (tgL s).length
        · obtain ⟨c0, c1, c2⟩ := ts_at3 HTS.out hlt
          have n0 : (0 : Int) ≤ (q : Int) := by omega
          have n1 : (q : Int) < ((tgL s).length : Int) := by omega
          have n2 : decide ((q : Int) < ((tgL s).length : Int)) = true := decide_eq_true n1
          have m10 : IntKind.i64.wrap ((q : Int) + 1) = (q : Int) + 1 := IntWalk.i64_in _ (by omega)
          have HST := Lib.hid (seen_step hlt)
          cases hsn : seen (tgL s) q with
          | true =>
            rw [hsn] at HST
            clear c1 c2
            go_wp2_with fail
            exact ⟨⟨q + 1, by go_num, by omega, by rw [HST.out]; rfl, rfl⟩, by simp [intOf]; omega⟩
          | false =>
            rw [hsn] at HST
            clear c1 c2
            cases hk2 : (((tgL s)[q]'hlt).k == 2) with
            | true =>
              rw [hk2] at HST
              go_wp2_with fail
              exact ⟨⟨q + 1, by go_num, by omega, by rw [HST.out]; rfl, rfl⟩, by simp [intOf]; omega⟩
            | false =>
              rw [hk2] at HST
              go_wp2_with fail
              exact ⟨⟨q + 1, by go_num, by omega, by rw [HST.out]; rfl, rfl⟩, by simp [intOf]; omega⟩
        · obtain rfl : q = (tgL s).length := by omega
          have n2 : decide ((((tgL s).length : Nat) : Int) < ((tgL s).length : Int)) = false := decide_eq_false (by omega)
          rw [HSN.out]
          have heq := eqF_c (SizeOf.sizeOf fz + 1) fz (Nat.lt_succ_self _) gz _ _ _ _ _ _ _ _ X.heap.size X HV.out HG.out (Nat.le_refl _)
          rw [HFG.out] at heq
          obtain ⟨c0, c1, c2, c3, _, _, _, _, hz1⟩ := HBX.out
          obtain ⟨y0, y1, y2, y3, _, _, _, _, hz2⟩ := HBY.out
          obtain ⟨x0, x1, x2, _, _, _, hz3⟩ := HBZ.out
          by_cases hd0 : e0 = 0
          · have g0 : (e0 != 0) = false := by rw [hd0]; rfl
            have g2 : (e2 != 0) = true := bne_iff_ne.2 fun h => HNB.out ⟨hd0, h⟩
            have hR1 := HRF.out hd0
            have hR2 := HRS.out hd0
            clear hd0
            go_wp2_with fail
            refine heq.mono ?_
            rintro e w9 ⟨rfl, hb9⟩
            have hx9 := HBX.out.heap (hb9.block _ HBX.out.lt) (Nat.lt_of_lt_of_le HBX.out.lt hb9.size)
            have hy9 := HBY.out.heap (hb9.block _ HBY.out.lt) (Nat.lt_of_lt_of_le HBY.out.lt hb9.size)
            have hzz9 := HBZ.out.heap (hb9.block _ HBZ.out.lt) (Nat.lt_of_lt_of_le HBZ.out.lt hb9.size)
            have HB9 := Lib.hid (HB.out.trans (hb9.mono HB.out.size))
            have HBB9 := Lib.hid hb9
            clear hb9 heq c0 c1 c2 c3 y0 y1 y2 y3 x0 x1 x2 hz1 hz2 hz3
            have HX9 := Lib.hid hx9
            have HY9 := Lib.hid hy9
            have HZ9 := Lib.hid hzz9
            obtain ⟨c0, c1, c2, c3, _, _, _, _, hz1⟩ := hx9
            obtain ⟨y0, y1, y2, y3, _, _, _, _, hz2⟩ := hy9
            obtain ⟨x0, x1, x2, _, _, _, hz3⟩ := hzz9
            have hrc := right_c _ _ _ _ fz _ w9 (HV.out.below HBB9.out (Nat.le_refl _)) HBB9.out.size (HT.out.below HB9.out HT.out.1)
            rw [hR1] at hrc
            go_wp2_with fail
            refine hrc.mono ?_
            rintro e w10 ⟨rfl, hb10⟩
            have hy10 := HY9.out.heap (hb10.block _ HY9.out.lt) (Nat.lt_of_lt_of_le HY9.out.lt hb10.size)
            have hb90 := HBB9.out.trans (hb10.mono HBB9.out.size)
            have HB10 := Lib.hid (HB9.out.trans (hb10.mono HB9.out.size))
            have hsc := schema_c _ _ _ _ gz _ w10 (HG.out.below hb90 (Nat.le_refl _)) hb90.size (HT.out.below HB10.out HT.out.1)
            rw [hR2] at hsc
            clear hb10 hrc c0 c1 c2 c3 y0 y1 y2 y3 x0 x1 x2 hz1 hz2 hz3 hb90
            obtain ⟨y0, y1, y2, y3, _, _, _, _, hz2⟩ := hy10
            go_wp2_with fail
            refine hsc.mono ?_
            rintro e w11 ⟨rfl, hb11⟩
            have hB11 := HB10.out.trans (hb11.mono HB10.out.size)
            clear hb11 hsc
            go_wp2_with fail
            go_ret
            exact ⟨rfl, hB11⟩
          · have g0 : (e0 != 0) = true := bne_iff_ne.2 hd0
            clear hd0
            go_wp2_with fail
            refine heq.mono ?_
            rintro e w9 ⟨rfl, hb9⟩
            have hx9 := HBX.out.heap (hb9.block _ HBX.out.lt) (Nat.lt_of_lt_of_le HBX.out.lt hb9.size)
            have hy9 := HBY.out.heap (hb9.block _ HBY.out.lt) (Nat.lt_of_lt_of_le HBY.out.lt hb9.size)
            have hzz9 := HBZ.out.heap (hb9.block _ HBZ.out.lt) (Nat.lt_of_lt_of_le HBZ.out.lt hb9.size)
            have HB9 := Lib.hid (HB.out.trans (hb9.mono HB.out.size))
            have HBB9 := Lib.hid hb9
            clear hb9 heq c0 c1 c2 c3 y0 y1 y2 y3 x0 x1 x2 hz1 hz2 hz3
            have HX9 := Lib.hid hx9
            have HY9 := Lib.hid hy9
            have HZ9 := Lib.hid hzz9
            obtain ⟨c0, c1, c2, c3, _, _, _, _, hz1⟩ := hx9
            obtain ⟨y0, y1, y2, y3, _, _, _, _, hz2⟩ := hy9
            obtain ⟨x0, x1, x2, _, _, _, hz3⟩ := hzz9
            by_cases h20 : e2 = 0
            · have g2 : (e2 != 0) = false := by rw [h20]; rfl
              have htm9 := tv_below HM.out HBB9.out
              obtain ⟨_, _, _, he9, hmm⟩ := tval_tmv htm9
              simp only [Value.agg.injEq, Array.mk.injEq, List.cons.injEq, and_true] at he9
              obtain ⟨rfl, rfl, rfl⟩ := he9
              have htc := tm_c tz _ _ _ w9 hmm
              rw [HRT.out h20] at htc
              clear h20 htm9 hmm
              go_wp2_with fail
              refine htc.mono ?_
              rintro e w10 ⟨rfl, hb10⟩
              have hB10 := HB9.out.trans (hb10.mono HB9.out.size)
              clear hb10 htc
              go_wp2_with fail
              go_ret
              exact ⟨rfl, hB10⟩
            · have g2 : (e2 != 0) = true := bne_iff_ne.2 h20
              clear h20
              go_wp2_with fail
              go_ret
              exact ⟨rfl, HB9.out⟩
end Go.Proofs.YtggkehncpkfakaaDoor.Ps

/-
  The two laid tables.
-/
namespace Go.Proofs.YtggkehncpkfakaaDoor.Ps
open Go Go.RowKit Go.ChangeShapes Go.WideShapes Go.ChangeAt Go.WideMaps Go.WideElems Go.Proofs.YtggkehncpkfakaaDoor.Fm
set_option linter.unusedVariables false
set_option linter.unusedSimpArgs false
theorem cells1 : Tryd.prog.cellsOf 4 = 1 ∧ Tryd.prog.cellsOf 5 = 1 ∧ Tryd.prog.cellsOf 9 = 1 := by refine ⟨?_, ?_, ?_⟩ <;> kernel_rfl
theorem cellsI : Tryd.prog.cellsOf 3 = 1 := by kernel_rfl
theorem own : ownKnob Tryd.prog.godebug = none := by kernel_rfl
theorem gRows : Tryd.prog.globalNamed "lyceum/syntax.rows" = some 1 := by kernel_rfl
theorem gRowsType : (Tryd.prog.globals[1]?).map (·.type) = some 142 := by kernel_rfl
theorem cellsRows : Tryd.prog.cellsOf 142 = 85 := by kernel_rfl
theorem cellsRow : Tryd.prog.cellsOf 118 = 5 := by kernel_rfl
set_option maxRecDepth 20000 in
theorem row_cells {H : Type} {enc : TypeId × Value → H} {w : World} {base : Nat} {sp : Nat → Bool} {held : Bool} {fuel : Nat} {cs : List Value} {a b c d : Int} {e : Bool} {p : List MemPlace}
    (h : DataW.trod enc Tryd.prog w base sp held fuel 118 cs = some (.agg [.lit (.int .u8 a), .lit (.int .i64 b), .lit (.int .i64 c), .lit (.int .i64 d), .lit (.bool e)], p)) : cs = [.int .u8 a, .int .i64 b, .int .i64 c, .int .i64 d, .bool e] := by
  obtain ⟨xs, n, _, hx, hl, hlen, hf⟩ := DataW.trod_struct Tryd.underlying118 h
  rw [cellsRow] at hl
  have e1 : (xs.map (·.1)) = _ := (DataW.agg.inj (Prod.mk.inj hx).1).symm
  match cs, hl with
  | [c0, c1, c2, c3, c4], _ =>
  match xs, e1 with
  | [x0, x1, x2, x3, x4], e1 =>
    simp only [List.map_cons, List.map_nil, List.cons.injEq, and_true] at e1
    obtain ⟨k0, k1, k2, k3, k4⟩ := e1
    have f0 : DataW.trod enc Tryd.prog w base sp held n 5 (([c0, c1, c2, c3, c4].drop 0).take (Tryd.prog.cellsOf 5)) = some x0 := hf 0 _ rfl
    have f1 : DataW.trod enc Tryd.prog w base sp held n 3 (([c0, c1, c2, c3, c4].drop 1).take (Tryd.prog.cellsOf 3)) = some x1 := hf 1 _ rfl
    have f2 : DataW.trod enc Tryd.prog w base sp held n 3 (([c0, c1, c2, c3, c4].drop 2).take (Tryd.prog.cellsOf 3)) = some x2 := hf 2 _ rfl
    have f3 : DataW.trod enc Tryd.prog w base sp held n 3 (([c0, c1, c2, c3, c4].drop 3).take (Tryd.prog.cellsOf 3)) = some x3 := hf 3 _ rfl
    have f4 : DataW.trod enc Tryd.prog w base sp held n 4 (([c0, c1, c2, c3, c4].drop 4).take (Tryd.prog.cellsOf 4)) = some x4 := hf 4 _ rfl
    rw [cells1.2.1] at f0
    rw [cellsI] at f1 f2 f3
    rw [cells1.1] at f4
    simp only [List.drop_zero, List.drop_succ_cons, List.take_succ_cons, List.take_zero] at f0 f1 f2 f3 f4
    obtain ⟨z0, h0, d0, _⟩ := DataW.trod_int Tryd.underlying5 f0
    obtain ⟨z1, h1, d1, _⟩ := DataW.trod_int Tryd.underlying3 f1
    obtain ⟨z2, h2, d2, _⟩ := DataW.trod_int Tryd.underlying3 f2
    obtain ⟨z3, h3, d3, _⟩ := DataW.trod_int Tryd.underlying3 f3
    obtain ⟨z4, h4, d4⟩ := DataW.trod_bool Tryd.underlying4 f4
    subst d0 d1 d2 d3 d4
    simp only [DataW.lit.injEq, Lit.int.injEq, Lit.bool.injEq, true_and] at k0 k1 k2 k3 k4
    subst k0 k1 k2 k3 k4
    simp only [List.cons.injEq, and_true] at h0 h1 h2 h3 h4
    rw [h0, h1, h2, h3, h4]
def rowD (r : RowD) {H : Type} : DataW H := .agg [.lit (.int .u8 r.name), .lit (.int .i64 r.least), .lit (.int .i64 r.most), .lit (.int .i64 r.sub), .lit (.bool r.schema)]
theorem rows_datum {H : Type} : Rows.laid_lyceum_syntax_rows = DataW.agg (H := H) (rowsL.map fun r => rowD r) := rfl
set_option maxRecDepth 20000 in
theorem rows_of {W : World} {g : Nat} {t : TypeId} {cs : Array Value} {fuel : Nat} {p : List MemPlace} (hg : Tryd.prog.globalNamed "lyceum/syntax.rows" = some g) (ht : (Tryd.prog.globals[g]?).map (·.type) = some t) (hv : W.var? Tryd.prog "lyceum/syntax.rows" = some cs)
    (hd : DataW.trod (fun _ => ()) Tryd.prog W 0 (fun _ => true) false fuel t cs.toList = some (Rows.laid_lyceum_syntax_rows, p)) : RTab W := by
  obtain rfl := Option.some.inj (gRows.symm.trans hg)
  obtain rfl := Option.some.inj (gRowsType.symm.trans ht)
  obtain ⟨xs, m, _, ex, hl, hlen, hel⟩ := DataW.trod_array Tryd.underlying142 hd
  rw [rows_datum] at ex
  have e3 : (xs.map (·.1)) = _ := (DataW.agg.inj (Prod.mk.inj ex).1).symm
  have hc := fun i => World.var?_cell hg hv i
  have key : ∀ k r, rowsL[k]? = some r → W.cell? ⟨1, k * 5, none⟩ = some (.int .u8 r.name) ∧ W.cell? ⟨1, k * 5 + 1, none⟩ = some (.int .i64 r.least) ∧ W.cell? ⟨1, k * 5 + 2, none⟩ = some (.int .i64 r.most) ∧
      W.cell? ⟨1, k * 5 + 3, none⟩ = some (.int .i64 r.sub) ∧ W.cell? ⟨1, k * 5 + 4, none⟩ = some (.bool r.schema) := by
    intro k r hr
    have hk : k < 17 := (List.getElem?_eq_some_iff.1 hr).1
    have hx : (xs.map (·.1))[k]? = some (rowD r) := by rw [e3, List.getElem?_map, hr]; rfl
    rw [List.getElem?_map] at hx
    obtain ⟨⟨y, p'⟩, hy, hy2⟩ := Option.map_eq_some_iff.1 hx
    simp only at hy2
    subst hy2
    have hr5 := row_cells ((hel k hk).trans hy)
    rw [cellsRow] at hr5
    have hget : ∀ j, j < 5 → cs[k * 5 + j]? = ([Value.int .u8 r.name, .int .i64 r.least, .int .i64 r.most, .int .i64 r.sub, .bool r.schema] : List Value)[j]? := by
      intro j hj
      have h1 : ((cs.toList.drop (k * 5)).take 5)[j]? = cs[k * 5 + j]? := by
        rw [List.getElem?_take_of_lt hj, List.getElem?_drop]
        simp
      rw [← h1, hr5]
    exact ⟨(hc _).trans (hget 0 (by decide)), (hc _).trans (hget 1 (by decide)), (hc _).trans (hget 2 (by decide)), (hc _).trans (hget 3 (by decide)), (hc _).trans (hget 4 (by decide))⟩
  refine ⟨?_, key⟩
  have h00 := (key 0 _ rfl).1
  exact World.block_lt_of_cell? W ⟨1, 0 * 5, none⟩ h00
theorem gLev : Tryd.prog.globalNamed "lyceum/parse.levels" = some 0 := by kernel_rfl
theorem gLevType : (Tryd.prog.globals[0]?).map (·.type) = some 123 := by kernel_rfl
theorem cellsLev : Tryd.prog.cellsOf 122 = 3 := by kernel_rfl
set_option maxRecDepth 20000 in
theorem lev_cells {H : Type} {enc : TypeId × Value → H} {w : World} {base : Nat} {sp : Nat → Bool} {held : Bool} {fuel : Nat} {cs : List Value} {a : List UInt8} {b : Int} {e : Bool} {p : List MemPlace}
    (h : DataW.trod enc Tryd.prog w base sp held fuel 122 cs = some (.agg [.lit (.string a), .lit (.int .u8 b), .lit (.bool e)], p)) : ∃ s : ByteArray, s.data.toList = a ∧ cs = [.string s, .int .u8 b, .bool e] := by
  obtain ⟨xs, n, _, hx, hl, hlen, hf⟩ := DataW.trod_struct Tryd.underlying122 h
  rw [cellsLev] at hl
  have e1 : (xs.map (·.1)) = _ := (DataW.agg.inj (Prod.mk.inj hx).1).symm
  match cs, hl with
  | [c0, c1, c2], _ =>
  match xs, e1 with
  | [x0, x1, x2], e1 =>
    simp only [List.map_cons, List.map_nil, List.cons.injEq, and_true] at e1
    obtain ⟨k0, k1, k2⟩ := e1
    have f0 : DataW.trod enc Tryd.prog w base sp held n 9 (([c0, c1, c2].drop 0).take (Tryd.prog.cellsOf 9)) = some x0 := hf 0 _ rfl
    have f1 : DataW.trod enc Tryd.prog w base sp held n 5 (([c0, c1, c2].drop 1).take (Tryd.prog.cellsOf 5)) = some x1 := hf 1 _ rfl
    have f2 : DataW.trod enc Tryd.prog w base sp held n 4 (([c0, c1, c2].drop 2).take (Tryd.prog.cellsOf 4)) = some x2 := hf 2 _ rfl
    rw [cells1.2.2] at f0
    rw [cells1.2.1] at f1
    rw [cells1.1] at f2
    simp only [List.drop_zero, List.drop_succ_cons, List.take_succ_cons, List.take_zero] at f0 f1 f2
    obtain ⟨z0, h0, d0, _⟩ := DataW.trod_string Tryd.underlying9 f0
    obtain ⟨z1, h1, d1, _⟩ := DataW.trod_int Tryd.underlying5 f1
    obtain ⟨z2, h2, d2⟩ := DataW.trod_bool Tryd.underlying4 f2
    subst d0 d1 d2
    simp only [DataW.lit.injEq, Lit.int.injEq, Lit.string.injEq, Lit.bool.injEq, true_and] at k0 k1 k2
    subst k1 k2
    simp only [List.cons.injEq, and_true] at h0 h1 h2
    exact ⟨z0, k0, by rw [h0, h1, h2]⟩
def levD {H : Type} (i : Nat) : DataW H := .agg [.lit (.string (lvS i).data.toList), .lit (.int .u8 (lvO i)), .lit (.bool (lvR i))]
theorem lev_datum {H : Type} : Rows.laid_lyceum_parse_levels = DataW.agg (H := H) ((List.range 5).map levD) := rfl
set_option maxRecDepth 20000 in
theorem levs_of {W : World} {g : Nat} {t : TypeId} {cs : Array Value} {fuel : Nat} {p : List MemPlace} (hg : Tryd.prog.globalNamed "lyceum/parse.levels" = some g) (ht : (Tryd.prog.globals[g]?).map (·.type) = some t) (hv : W.var? Tryd.prog "lyceum/parse.levels" = some cs)
    (hd : DataW.trod (fun _ => ()) Tryd.prog W 0 (fun _ => true) false fuel t cs.toList = some (Rows.laid_lyceum_parse_levels, p)) : LTab W W.heap.size := by
  obtain rfl := Option.some.inj (gLev.symm.trans hg)
  obtain rfl := Option.some.inj (gLevType.symm.trans ht)
  obtain ⟨xs, m, _, ex, hl, hlen, hel⟩ := DataW.trod_array Tryd.underlying123 hd
  rw [lev_datum] at ex
  have e3 : (xs.map (·.1)) = _ := (DataW.agg.inj (Prod.mk.inj ex).1).symm
  have hc := fun i => World.var?_cell hg hv i
  have key : ∀ i, i < 5 → W.cell? ⟨0, i * 3, none⟩ = some (.string (lvS i)) ∧ W.cell? ⟨0, i * 3 + 1, none⟩ = some (.int .u8 (lvO i)) ∧ W.cell? ⟨0, i * 3 + 2, none⟩ = some (.bool (lvR i)) := by
    intro k hk
    have hx : (xs.map (·.1))[k]? = some (levD k) := by rw [e3, List.getElem?_map, List.getElem?_range hk]; rfl
    rw [List.getElem?_map] at hx
    obtain ⟨⟨y, p'⟩, hy, hy2⟩ := Option.map_eq_some_iff.1 hx
    simp only at hy2
    subst hy2
    obtain ⟨z, hz, hr5⟩ := lev_cells ((hel k hk).trans hy)
    obtain rfl : z = lvS k := by
      cases z
      rename_i d
      have : d = (lvS k).data := Array.toList_inj.1 hz
      rw [this]
    rw [cellsLev] at hr5
    have hget : ∀ j, j < 3 → cs[k * 3 + j]? = ([Value.string (lvS k), .int .u8 (lvO k), .bool (lvR k)] : List Value)[j]? := by
      intro j hj
      have h1 : ((cs.toList.drop (k * 3)).take 3)[j]? = cs[k * 3 + j]? := by
        rw [List.getElem?_take_of_lt hj, List.getElem?_drop]
        simp
      rw [← h1, hr5]
    exact ⟨(hc _).trans (hget 0 (by decide)), (hc _).trans (hget 1 (by decide)), (hc _).trans (hget 2 (by decide))⟩
  refine ⟨?_, key⟩
  have h00 := (key 0 (by omega)).1
  exact World.block_lt_of_cell? W ⟨0, 0 * 3, none⟩ h00
set_option maxRecDepth 20000 in
theorem tabs_of_laid {W : World} (h : laidMetH Tryd.prog [("lyceum/syntax.rows", Rows.laid_lyceum_syntax_rows), ("lyceum/parse.levels", Rows.laid_lyceum_parse_levels)] W) : RTab W ∧ LTab W W.heap.size := by
  rw [MakeChecks.laidMetH_plain _ _ _ (by kernel_rfl)] at h
  obtain ⟨ps, ⟨g, t, cs, fuel, p, q, hg, ht, hv, hd, ⟨g', t', cs', fuel', p', q', hg', ht', hv', hd', _, _⟩, _⟩, _, _⟩ := h
  exact ⟨rows_of hg ht hv hd, levs_of hg' ht' hv' hd'⟩
end Go.Proofs.YtggkehncpkfakaaDoor.Ps

/-
  ParseOnly returns true for every string: a text without metavariables is a formula exactly if it is a schema, and the same; one with a metavariable is no formula; what is read is right; and no text is both a term and a formula.
  The condition of the row: the tables of forms and of levels hold what the program's text lays in them (tied by the card).
-/
namespace Go.Proofs.YtggkehncpkfakaaDoor.ParseOnlyP
open Go Go.RowKit Go.ChangeShapes Go.WideShapes Go.ChangeAt Go.Proofs.YtggkehncpkfakaaDoor.Fm Go.Proofs.YtggkehncpkfakaaDoor.Ps Go.WideMaps Go.WideElems
open Go.ChangeMaps (open_string shut_string)
set_option linter.unusedVariables false
set_option linter.unusedSimpArgs false

set_option maxRecDepth 20000 in
theorem contract (H : Type) (enc : TypeId × Value → H) (W : World) (base : Nat) (args : Array Value) (ds gs : List (DataW H)) (before : List MemPlace)
    (hval : ∀ (j : Nat) t v, Tryd.f7.params[j]? = some t → args[j]? = some v → Value.okWide Tryd.prog W .any base t v)
    (hW : DataW.Whole enc Tryd.prog Tryd.f7.params.toList Rows.parseOnlySpec.vars false W args.toList ds gs before) (hsz : (DataW.weightsEach Tryd.prog (Tryd.f7.params.toList ++ (OpenSpec.ofChange Rows.parseOnlySpec).bare.plain.varTypes Tryd.prog) (ds ++ gs)).all (· ≤ reachBytes) = true) (hL : laidMetH Tryd.prog Rows.parseOnlyRow.laid W) :
    Calls Tryd.prog 7 args W fun e W' => ∃ v, e = .returned v ∧ Rows.parseOnlySpec.post enc Tryd.prog Tryd.f7 false true false false W args v W' := by
  obtain ⟨hT, hLT⟩ := tabs_of_laid hL
  have hW' := hW
  obtain ⟨p, q, hA0, hV, rfl, hfz, hnd⟩ := hW
  have hA : DataW.TrodAll enc Tryd.prog W 0 (fun _ => true) true Tryd.f7.params.toList args.toList ds p := hA0
  rw [Tryd.params7] at hA hval hsz
  obtain ⟨v0, vs0, d0, ds0, p0, q0, hargs, rfl, rfl, h0, r0⟩ := trodAll_cons hA
  obtain ⟨rfl, rfl, rfl⟩ := trodAll_nil r0
  obtain rfl : args = #[v0] := by cases args; simp_all
  obtain ⟨rfl, rfl⟩ := trodVars_none hV
  simp only [List.append_nil] at hW'
  obtain ⟨x0, rfl, rfl, rfl, hs0⟩ := open_string Tryd.underlying9 (hval 0 9 v0 rfl rfl) h0
  clear hA0
  refine (show Calls Tryd.prog 7 #[.string x0] W fun e w' => e = .returned (.bool true) ∧ Below W.heap.size W w' from only_c x0 W hT hLT (awake_c W hT hLT)).mono fun e W' ⟨he, hg⟩ => ?_
  subst he
  exact ⟨_, rfl, _, _, _, [], _, [], hW', trodAll_cons_mk (shut_bool Tryd.underlying4 _) trodAll_mk0, (trodAll_cons_mk (shut_string Tryd.underlying9 hs0) trodAll_mk0), rfl, hg.frame _, fun h => by cases h⟩

def putCells (cs : List Value) : Obj → Obj
  | .cells _ t frozen => .cells cs.toArray t frozen
  | o => o
noncomputable def laidWorld (os : Os) : World :=
  { World.holding Tryd.prog os ⟨#[], #[], []⟩ with heap := ((World.holding Tryd.prog os ⟨#[], #[], []⟩).heap.modify 1 (putCells (rowsL.flatMap fun r => [Value.int .u8 r.name, .int .i64 r.least, .int .i64 r.most, .int .i64 r.sub, .bool r.schema]))).modify 0 (putCells ((List.range 5).flatMap fun i => [Value.string (lvS i), .int .u8 (lvO i), .bool (lvR i)])) }
set_option maxRecDepth 20000 in
theorem laid_met (os : Os) : laidMet Tryd.prog Rows.parseOnlyRow.laid ((laidWorld os).forCall (fun _ _ => 0) ⟨#[], #[.string ⟨#[]⟩], []⟩).memory :=
  laidMet_of_run' 10 (by kernel_rfl) (by kernel_rfl)
theorem reads (os : Os) {H : Type} (enc : TypeId × Value → H) : ∃ places, DataW.whole enc Tryd.prog ((laidWorld os).forCall (fun _ _ => 0) ⟨#[], #[.string ⟨#[]⟩], []⟩).memory Tryd.f7.params.toList Rows.parseOnlySpec.vars false (#[.string ⟨#[]⟩] : Array Value).toList 8 = some ([.lit (.string [])], [], places) :=
  ⟨[], by kernel_rfl⟩

set_option maxRecDepth 100000 in
theorem lifted (os : Os) (started : os.Started) (H : Type) (enc : TypeId × Value → H) (F : Stop.Interp) :
    ReturnsInHanded {} Tryd.checked os 7 .any ((OpenSpec.ofChange Rows.parseOnlySpec).preRow enc Tryd.prog Tryd.f7 Rows.parseOnlyRow.domain false Rows.parseOnlyRow.laid) (((OpenSpec.ofChange Rows.parseOnlySpec).at F).post enc Tryd.prog Tryd.f7 false true false false) := by
  obtain ⟨places, hx⟩ := reads os enc
  refine returnsInHanded_of_row (C := Tryd.checked) (s := OpenSpec.ofChange Rows.parseOnlySpec) own started (by kernel_rfl) Tryd.func7
    (witness_row_at (enc := enc) (C := Tryd.checked) false (laidWorld os) #[.string ⟨#[]⟩] rfl (by kernel_rfl) (by kernel_rfl) (by kernel_rfl)
      (OpenSpec.preRow_of_cond 8 hx (by kernel_rfl) (fun k hk => by cases hk) (by kernel_rfl) (laid_met os))) ?_
  intro W base args ds gs before hval hW _ _ hsz hL _ _
  exact contract H enc W base args ds gs before hval hW hsz hL

theorem said : Rows.ParseOnlySaid :=
  OpenClaim.holds_of_cond 7 Tryd.f7 rfl rfl rfl rfl rfl rfl rfl ⟨rfl, rfl, rfl, rfl, rfl⟩ rfl rfl rfl rfl rfl (by kernel_rfl) Tryd.func7 (by kernel_rfl)
    (of_decide_eq_true (by kernel_rfl)) (by unfold Func.isWrapper; first | (rw [if_pos (by decide +kernel)]; kernel_rfl) | (rw [if_neg (by decide +kernel)]; exact ⟨rfl, rfl⟩))
    (fun os started H enc _ F => by rw [OpenClaim.pre_eq_preRow]; exact lifted os started H enc F)

theorem plain (f : FuncId) (fn : Func) (hf : Tryd.pinned.checked.prog.funcNamed "lyceum/lyceumlaw05.ParseOnly" = some f) (hfn : Tryd.pinned.checked.prog.funcs[f]? = some fn) :
    true = Tryd.pinned.checked.prog.looks [] ∧ ∀ (j : Nat) t, fn.params[j]? = some t → Tryd.pinned.checked.prog.wantsStandIn t = false := by
  obtain rfl : f = 7 := Option.some.inj ((show Tryd.prog.funcNamed "lyceum/lyceumlaw05.ParseOnly" = some 7 by kernel_rfl).symm.trans hf) |>.symm
  obtain rfl : fn = Tryd.f7 := (Option.some.inj (Tryd.func7.symm.trans hfn)).symm
  refine ⟨by kernel_rfl, fun j t ht => ?_⟩
  rw [Tryd.params7] at ht
  have hm : t ∈ [9] := by simpa using Array.mem_of_getElem? ht
  have hall : ([9].all fun u => !Tryd.prog.wantsStandIn u) = true := by kernel_rfl
  exact (show Tryd.prog.wantsStandIn t = false by simpa using List.all_eq_true.1 hall t hm)

theorem card : Rows.ParseOnlyCardSaid :=
  Claim7.holds_tied_plain_at .later [] _ _ _ _ said (fun _ h => by cases h) (by kernel_rfl) (fun _ h => by cases h) parseOnly_row_tie rfl ⟨rfl, rfl⟩ (by kernel_rfl) rfl plain (by kernel_rfl)
#print axioms card
end Go.Proofs.YtggkehncpkfakaaDoor.ParseOnlyP
