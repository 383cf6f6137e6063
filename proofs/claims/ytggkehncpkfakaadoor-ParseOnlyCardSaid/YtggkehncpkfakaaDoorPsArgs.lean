/-
  The contract of args, given that of list; that of list, given that of term.
-/
import Derived.Test.YtggkehncpkfakaaDoorPsNest4
import Derived.Test.YtggkehncpkfakaaDoorPsList
namespace Go.Proofs.YtggkehncpkfakaaDoor.Ps
open Go Go.RowKit Go.Shelf Go.Proofs.YtggkehncpkfakaaDoor.Fm Go.Proofs.YtggkehncpkfakaaDoor.Lx
set_option linter.unusedVariables false
set_option linter.unusedSimpArgs false
theorem nil_tsv (lo : Nat) (w : World) : TsVal lo w (.slice none 0 0) [] := ⟨none, 0, rfl, nil_ts _ _⟩
/-- The closure of args. -/
theorem args1_c (P : Nat) (m : Bool) (n : Nat) (ts : List Tg) (hL : ListQ P m n ts) (b0 : Nat) (W : World) (h : PSt W P m n ts) (hc : W.cell? ⟨b0, 0, none⟩ = some (.pointer (some ⟨P, 0, none⟩))) :
    Calls Tryd.prog 92 #[.pointer (some ⟨b0, 0, none⟩)] W (RuQ TsVal W P n m (listC m n ts)) := by
  have hl := hL W h
  have H := Lib.hid h
  clear h hL
  cases hx : listC m n ts with
  | ok l r =>
    rw [hx] at hl
    clear hx
    go_enter Tryd.func92, Tryd.ntmps92
    go_wp2_with fail
    refine hl.mono ?_
    rintro e w1 ⟨v, rfl, ⟨a2, k2, rfl, htd⟩, hp, hg⟩
    go_wp2_with fail
    go_ret
    exact ⟨_, rfl, ⟨a2, k2, rfl, htd⟩, hp, hg⟩
  | er a e0 =>
    rw [hx] at hl
    clear hx
    go_enter Tryd.func92, Tryd.ntmps92
    go_wp2_with fail
    refine hl.mono ?_
    rintro e w1 ⟨rfl, hg⟩
    exact ⟨rfl, rfl, hg⟩
set_option maxRecDepth 20000 in
set_option maxHeartbeats 1000000 in
theorem args_of (P : Nat) (m : Bool) (n : Nat) (ts : List Tg) (hL : is ts ⟨#[40]⟩ = true → ListQ P m (n + 1) (ts.drop 1)) : ArgsQ P m n ts := by
  intro W h
  have hb0 : Below W.heap.size W (W.alloc (.cells #[.pointer (some ⟨P, 0, none⟩)] 64)) := (Below.refl _ _).alloc (Nat.le_refl _) _
  have h0 := h.grow hb0
  have hk := skip_c P n m ts ⟨#[40]⟩ (by decide) _ h0
  obtain ⟨Q, hQ⟩ : ∃ Q : Ending → World → Prop, Q = RuQ TsVal W P n m (argsC m n ts) := ⟨_, rfl⟩
  rw [← hQ]
  rw [argsC_eq] at hQ
  unfold skT at hk
  cases hi : is ts ⟨#[40]⟩ with
  | false =>
    rw [hi] at hk
    simp only [hi, Bool.false_eq_true, if_false] at hk hQ
    have HQ := Lib.hid hQ
    have HB := Lib.hid hb0
    clear hQ h0 h hL hb0 hi
    go_enter Tryd.func63, Tryd.ntmps63
    go_wp2_with fail
    refine hk.mono ?_
    rintro e w1 ⟨rfl, hp, hg⟩
    go_wp2_with fail
    rw [HQ.out]
    exact ⟨_, rfl, nil_tsv _ _, hp, (GP.of HB.out).tr hg⟩
  | true =>
    rw [hi] at hk
    simp only [hi, if_true] at hk hQ
    have hdl : (ts.drop 1).length < ts.length := drop_len hi (by decide)
    have hbd := h.bd
    have hP := h.lt
    have HL := Lib.hid (hL hi)
    obtain ⟨r, hr⟩ : ∃ r, ts.drop 1 = r := ⟨_, rfl⟩
    rw [hr] at hk hQ HL hdl
    have HQ := Lib.hid hQ
    have HB := Lib.hid hb0
    have HLT := Lib.hid (show n + 1 + r.length ≤ 30000 by omega)
    have HPP := Lib.hid hP
    have HNE := Lib.hid (Nat.ne_of_lt hP)
    clear hQ h0 h hL hb0 hi hr hdl hbd hP
    go_enter Tryd.func63, Tryd.ntmps63
    go_wp2_with fail
    refine hk.mono ?_
    rintro e w1 ⟨rfl, hp, hg⟩
    have hc : ∀ W1, GP P w1 W1 → W1.cell? ⟨W.heap.size, 0, none⟩ = some (.pointer (some ⟨P, 0, none⟩)) := fun W1 h1 => by
      rw [h1.cell (p := ⟨W.heap.size, 0, none⟩) (by have := hg.size; simp at this; show W.heap.size < _; omega) (fun e => HNE.out e.symm), hg.cell (p := ⟨W.heap.size, 0, none⟩) (by simp) (fun e => HNE.out e.symm), World.cell?_alloc_at _ _ _ _ rfl]
      rfl
    have hn := nestArgsP_c P n m r (listC m (n + 1) r) (b0 := W.heap.size) w1 hp HLT.out (fun a r2 e => Nat.le_of_lt (listC_len m (n + 1) r a r2 e)) fun W1 h1 hg1 => args1_c P m (n + 1) r HL.out _ W1 h1 (hc W1 hg1)
    have hc1 := hc w1 (Grow.refl _ _)
    have HC := Lib.hid hc
    have HG := Lib.hid ((GP.of HB.out).tr hg)
    clear hp hg hc HL hk
    cases hx : listC m (n + 1) r with
    | ok l r2 =>
      rw [hx] at hn HQ
      clear hx
      go_wp2_with fail
      refine hn.mono ?_
      rintro e w2 ⟨v, rfl, ⟨a2, k2, rfl, htd⟩, hp2, hg2⟩
      have hc2 := HC.out w2 hg2
      have hnd := need_c P n m r2 ⟨#[41]⟩ (by decide) w2 hp2
      have HG2 := Lib.hid (HG.out.tr hg2)
      have HZ := Lib.hid HG.out.size
      have HTD := Lib.hid htd
      clear hp2 hg2 htd hn hc1
      unfold NeedQ at hnd
      simp only [R.bind] at HQ
      cases hi2 : is r2 ⟨#[41]⟩ with
      | true =>
        rw [hi2] at hnd HQ
        simp only [if_true] at hnd HQ
        obtain ⟨r3, hr3⟩ : ∃ r3, r2.drop 1 = r3 := ⟨_, rfl⟩
        rw [hr3] at hnd HQ
        clear hr3 hi2
        go_wp2_with fail
        refine hnd.mono ?_
        rintro e w3 ⟨rfl, hp3, hg3⟩
        go_wp2_with fail
        rw [HQ.out]
        exact ⟨_, rfl, TsVal.keep ⟨a2, k2, rfl, HTD.out⟩ hg3 (by have := HPP.out; have := HZ.out; omega) HZ.out, hp3, HG2.out.tr hg3⟩
      | false =>
        rw [hi2] at hnd HQ
        simp only [Bool.false_eq_true, if_false] at hnd HQ
        clear hi2
        go_wp2_with fail
        refine hnd.mono ?_
        rintro e w3 ⟨rfl, hg3⟩
        refine ⟨rfl, ?_⟩
        rw [HQ.out]
        exact ⟨rfl, HG2.out.tr hg3⟩
    | er a e0 =>
      rw [hx] at hn HQ
      clear hx
      go_wp2_with fail
      refine hn.mono ?_
      rintro e w2 ⟨rfl, hg2⟩
      refine ⟨rfl, ?_⟩
      rw [HQ.out]
      exact ⟨rfl, HG.out.tr hg2⟩
end Go.Proofs.YtggkehncpkfakaaDoor.Ps
