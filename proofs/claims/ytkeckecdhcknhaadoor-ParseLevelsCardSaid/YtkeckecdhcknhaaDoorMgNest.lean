/-
  Several texts in one: PsNest1, PsNest4, PsList, PsArgs, PsTerms.
-/
import Derived.Test.YtkeckecdhcknhaaDoorPsNest
import Derived.Test.YtkeckecdhcknhaaDoorPsTerm
import Derived.Test.YtkeckecdhcknhaaDoorPsRow

/-
  nested with one rule.
-/
namespace Go.Proofs.YtkeckecdhcknhaaDoor.Ps
open Go Go.RowKit Go.Shelf Go.Proofs.YtkeckecdhcknhaaDoor.Fm Go.Proofs.YtkeckecdhcknhaaDoor.Lx
set_option linter.unusedVariables false
set_option linter.unusedSimpArgs false

set_option maxRecDepth 20000 in
set_option maxHeartbeats 1000000 in
/-- nested over FormP. -/
theorem nestFormP_c (P n : Nat) (m : Bool) (ts : List Tg) (x : R (Fo)) (W : World) (h : PSt W P m n ts) (hn : n + 1 + ts.length ≤ 30000) (hx : ∀ a r, x = .ok a r → r.length ≤ ts.length)
    (hr : ∀ W1, PSt W1 P m (n + 1) ts → GP P W W1 → Calls Tryd.prog 22 #[.pointer (some ⟨P, 0, none⟩)] W1 (RuQ FVal W1 P (n + 1) m x)) :
    Calls Tryd.prog 48 #[.pointer (some ⟨P, 0, none⟩), .func (.func 22) #[.pointer (some ⟨P, 0, none⟩)] #[]] W (RuQ FVal W P n m x) := by
  have h1 := h.ns
  have f1 := h.fz 1 (by decide)
  have H := Lib.hid h
  have hb := h.bd
  have hP := h.lt
  have n0 : (0 : Int) ≤ (n : Int) := by omega
  have n1 : (n : Int) ≤ 30000 := by omega
  have HR := Lib.hid hr
  have HN := Lib.hid hn
  have HX := Lib.hid hx
  have HBD := Lib.hid hb
  clear h hr hn hb hx
  cases x with
  | ok a r =>
    obtain ⟨Q, hQ⟩ : ∃ Q : Ending → World → Prop, Q = RuQ FVal W P n m (.ok a r) := ⟨_, rfl⟩
    rw [← hQ]
    have HQ := Lib.hid hQ
    clear hQ
    go_enter Tryd.func48, Tryd.ntmps48
    go_wp2_with fail
    have hg0 : GP P W ((W.setCell ⟨P, 1, none⟩ (.int .i64 ((n : Int) + 1))).alloc (.cells #[.int .u8 0, .string ⟨#[]⟩, .slice none 0 0, .slice none 0 0] 25)) := GP.tr (Grow.setCell (O := fun b => b = P) _ _ rfl) (GP.of ((Below.refl _ _).alloc (Nat.le_refl _) _))
    have hs0 : PSt ((W.setCell ⟨P, 1, none⟩ (.int .i64 ((n : Int) + 1))).alloc (.cells #[.int .u8 0, .string ⟨#[]⟩, .slice none 0 0, .slice none 0 0] 25)) P m (n + 1) ts := (H.out.setNest (n + 1) HN.out (by go_num)).grow ((Below.refl _ _).alloc (Nat.le_refl _) _)
    have hz0 : W.heap.size ≤ ((W.setCell ⟨P, 1, none⟩ (.int .i64 ((n : Int) + 1))).alloc (.cells #[.int .u8 0, .string ⟨#[]⟩, .slice none 0 0, .slice none 0 0] 25)).heap.size := hg0.size
    have hcall := HR.out _ hs0 hg0
    have HG0 := Lib.hid hg0
    have HZ0 := Lib.hid hz0
    clear hg0 hs0 hz0
    refine hcall.mono ?_
    rintro e w1 ⟨v, rfl, hv, hp1, hg1⟩
    clear hcall
    have HG1 := Lib.hid (HG0.out.tr hg1)
    have HV0 := Lib.hid hv
    obtain ⟨a2, k2, a3, k3, rfl, HREST⟩ := hv
    have HP1 := Lib.hid hp1
    have h1' := hp1.ns
    have f1' := hp1.fz 1 (by decide)
    have hP1 := hp1.lt
    have HPP := Lib.hid hP
    obtain ⟨r0, r1, r2, r3, q0, q1, q2, q3, hRz⟩ := box4 (W := W.setCell ⟨P, 1, none⟩ (.int .i64 ((n : Int) + 1))) (P := P) (by simpa using HPP.out) hg1
    rw [World.size_setCell] at r0 r1 r2 r3 q0 q1 q2 q3 hRz
    have n2 : ((n + 1 : Nat) : Int) = (n : Int) + 1 := by omega
    rw [n2] at h1'
    have hPW : ¬ P = W.heap.size := Nat.ne_of_lt hP
    have hWP : ¬ W.heap.size = P := fun e => hPW e.symm
    have HPL := Lib.hid hP
    clear hg1 hp1 HREST hP h1 f1
    go_wp2_with fail
    refine bodyPost_ret (v := .agg #[.int .u8 a.op, .string a.n, .slice a2 a.args.length k2, .slice a3 a.sub.length k3]) (by simp [results, Tryd.results48, go_sem, r0, r1, r2, r3, hPW, hWP, hRz]) rfl ?_
    have hs1 : PSt (w1.setCell ⟨P, 1, none⟩ (.int .i64 (n : Int))) P m n r := HP1.out.setNest n (by have := HX.out a r rfl; have := HN.out; omega) rfl
    have hg1 : GP P W (w1.setCell ⟨P, 1, none⟩ (.int .i64 (n : Int))) := HG1.out.tr (Grow.setCell (O := fun b => b = P) _ _ rfl)
    have hgx : GP P w1 (w1.setCell ⟨P, 1, none⟩ (.int .i64 (n : Int))) := Grow.setCell (O := fun b => b = P) _ _ rfl
    have hv1 := HV0.out.keep hgx (by simp; have := HPP.out; omega) (Nat.le_refl _)
    have hal : Below (put4 (w1.setCell ⟨P, 1, none⟩ (.int .i64 (n : Int))) W.heap.size (.int .u8 a.op) (.string a.n) (.slice a2 a.args.length k2) (.slice a3 a.sub.length k3)).heap.size _ _ := (Below.refl _ _).alloc (Nat.le_refl _) (.cells #[.int .u8 a.op, .string a.n, .slice a2 a.args.length k2, .slice a3 a.sub.length k3] 25)
    rw [HQ.out]
    exact ⟨_, rfl, ((hv1.put4 (R := W.heap.size) (by simp) _ _ _ _).keep (P := P) (GP.of hal) (by simp; have := HPP.out; omega) (by simp)), (hs1.put4 (R := W.heap.size) HPP.out _ _ _ _).grow hal, (put4_grow hg1 (Nat.le_refl _) _ _ _ _).tr (GP.of hal)⟩
  | er a e0 =>
    obtain ⟨Q, hQ⟩ : ∃ Q : Ending → World → Prop, Q = RuQ FVal W P n m (.er a e0) := ⟨_, rfl⟩
    rw [← hQ]
    have HQ := Lib.hid hQ
    clear hQ
    go_enter Tryd.func48, Tryd.ntmps48
    go_wp2_with fail
    have hg0 : GP P W ((W.setCell ⟨P, 1, none⟩ (.int .i64 ((n : Int) + 1))).alloc (.cells #[.int .u8 0, .string ⟨#[]⟩, .slice none 0 0, .slice none 0 0] 25)) := GP.tr (Grow.setCell (O := fun b => b = P) _ _ rfl) (GP.of ((Below.refl _ _).alloc (Nat.le_refl _) _))
    have hs0 : PSt ((W.setCell ⟨P, 1, none⟩ (.int .i64 ((n : Int) + 1))).alloc (.cells #[.int .u8 0, .string ⟨#[]⟩, .slice none 0 0, .slice none 0 0] 25)) P m (n + 1) ts := (H.out.setNest (n + 1) HN.out (by go_num)).grow ((Below.refl _ _).alloc (Nat.le_refl _) _)
    refine (HR.out _ hs0 hg0).mono ?_
    rintro e w1 ⟨rfl, hg1⟩
    refine ⟨rfl, ?_⟩
    rw [HQ.out]
    exact ⟨rfl, hg0.tr hg1⟩
end Go.Proofs.YtkeckecdhcknhaaDoor.Ps

/-
  nested with one rule.
-/
namespace Go.Proofs.YtkeckecdhcknhaaDoor.Ps
open Go Go.RowKit Go.Shelf Go.Proofs.YtkeckecdhcknhaaDoor.Fm Go.Proofs.YtkeckecdhcknhaaDoor.Lx
set_option linter.unusedVariables false
set_option linter.unusedSimpArgs false

set_option maxRecDepth 20000 in
set_option maxHeartbeats 1000000 in
/-- nested over ArgsP. -/
theorem nestArgsP_c (P n : Nat) (m : Bool) (ts : List Tg) (x : R (List Tm)) {b0 : Nat} (W : World) (h : PSt W P m n ts) (hn : n + 1 + ts.length ≤ 30000) (hx : ∀ a r, x = .ok a r → r.length ≤ ts.length)
    (hr : ∀ W1, PSt W1 P m (n + 1) ts → GP P W W1 → Calls Tryd.prog 96 #[.pointer (some ⟨b0, 0, none⟩)] W1 (RuQ TsVal W1 P (n + 1) m x)) :
    Calls Tryd.prog 95 #[.pointer (some ⟨P, 0, none⟩), .func (.func 96) #[] #[.pointer (some ⟨b0, 0, none⟩)]] W (RuQ TsVal W P n m x) := by
  have h1 := h.ns
  have f1 := h.fz 1 (by decide)
  have H := Lib.hid h
  have hb := h.bd
  have hP := h.lt
  have n0 : (0 : Int) ≤ (n : Int) := by omega
  have n1 : (n : Int) ≤ 30000 := by omega
  have HR := Lib.hid hr
  have HN := Lib.hid hn
  have HX := Lib.hid hx
  have HBD := Lib.hid hb
  clear h hr hn hb hx
  cases x with
  | ok a r =>
    obtain ⟨Q, hQ⟩ : ∃ Q : Ending → World → Prop, Q = RuQ TsVal W P n m (.ok a r) := ⟨_, rfl⟩
    rw [← hQ]
    have HQ := Lib.hid hQ
    clear hQ
    go_enter Tryd.func95, Tryd.ntmps95
    go_wp2_with fail
    have hg0 : GP P W ((W.setCell ⟨P, 1, none⟩ (.int .i64 ((n : Int) + 1)))) := (Grow.setCell (O := fun b => b = P) _ _ rfl)
    have hs0 : PSt ((W.setCell ⟨P, 1, none⟩ (.int .i64 ((n : Int) + 1)))) P m (n + 1) ts := (H.out.setNest (n + 1) HN.out (by go_num))
    have hz0 : W.heap.size ≤ ((W.setCell ⟨P, 1, none⟩ (.int .i64 ((n : Int) + 1)))).heap.size := hg0.size
    have hcall := HR.out _ hs0 hg0
    have HG0 := Lib.hid hg0
    have HZ0 := Lib.hid hz0
    clear hg0 hs0 hz0
    refine hcall.mono ?_
    rintro e w1 ⟨v, rfl, hv, hp1, hg1⟩
    clear hcall
    have HG1 := Lib.hid (HG0.out.tr hg1)
    have HV0 := Lib.hid hv
    obtain ⟨a2, k2, rfl, HREST⟩ := hv
    have HP1 := Lib.hid hp1
    have h1' := hp1.ns
    have f1' := hp1.fz 1 (by decide)
    have hP1 := hp1.lt
    have HPP := Lib.hid hP
    have n2 : ((n + 1 : Nat) : Int) = (n : Int) + 1 := by omega
    rw [n2] at h1'
    have hPW : ¬ P = W.heap.size := Nat.ne_of_lt hP
    have hWP : ¬ W.heap.size = P := fun e => hPW e.symm
    have HPL := Lib.hid hP
    clear hg1 hp1 HREST hP h1 f1
    go_wp2_with fail
    have hs1 : PSt (w1.setCell ⟨P, 1, none⟩ (.int .i64 (n : Int))) P m n r := HP1.out.setNest n (by have := HX.out a r rfl; have := HN.out; omega) rfl
    have hg1 : GP P W (w1.setCell ⟨P, 1, none⟩ (.int .i64 (n : Int))) := HG1.out.tr (Grow.setCell (O := fun b => b = P) _ _ rfl)
    have hgx : GP P w1 (w1.setCell ⟨P, 1, none⟩ (.int .i64 (n : Int))) := Grow.setCell (O := fun b => b = P) _ _ rfl
    rw [HQ.out]
    exact ⟨_, rfl, HV0.out.keep hgx (by have := HPL.out; simp; omega) (by simp), hs1, hg1⟩
  | er a e0 =>
    obtain ⟨Q, hQ⟩ : ∃ Q : Ending → World → Prop, Q = RuQ TsVal W P n m (.er a e0) := ⟨_, rfl⟩
    rw [← hQ]
    have HQ := Lib.hid hQ
    clear hQ
    go_enter Tryd.func95, Tryd.ntmps95
    go_wp2_with fail
    have hg0 : GP P W ((W.setCell ⟨P, 1, none⟩ (.int .i64 ((n : Int) + 1)))) := (Grow.setCell (O := fun b => b = P) _ _ rfl)
    have hs0 : PSt ((W.setCell ⟨P, 1, none⟩ (.int .i64 ((n : Int) + 1)))) P m (n + 1) ts := (H.out.setNest (n + 1) HN.out (by go_num))
    refine (HR.out _ hs0 hg0).mono ?_
    rintro e w1 ⟨rfl, hg1⟩
    refine ⟨rfl, ?_⟩
    rw [HQ.out]
    exact ⟨rfl, hg0.tr hg1⟩
end Go.Proofs.YtkeckecdhcknhaaDoor.Ps

/-
  The contract of list, given that of term.
-/
namespace Go.Proofs.YtkeckecdhcknhaaDoor.Ps
open Go Go.RowKit Go.Shelf Go.Proofs.YtkeckecdhcknhaaDoor.Fm Go.Proofs.YtkeckecdhcknhaaDoor.Lx
set_option linter.unusedVariables false
set_option linter.unusedSimpArgs false
def ListQ (P : Nat) (m : Bool) (n : Nat) (ts : List Tg) : Prop := ∀ W, PSt W P m n ts → Calls Tryd.prog 97 #[.pointer (some ⟨P, 0, none⟩), .func (.func 98) #[.pointer (some ⟨P, 0, none⟩)] #[]] W (RuQ TsVal W P n m (listC m n ts))
/-- How many tokens are left. -/
def tkM (P : Nat) (w : World) : Nat := match w.cell? ⟨P, 0, none⟩ with
  | some (.slice _ l _) => l
  | _ => 0
theorem tkM_eq {P n : Nat} {m : Bool} {ts : List Tg} {w : World} (h : PSt w P m n ts) : tkM P w = ts.length := by
  obtain ⟨g, o, cap, h1, _⟩ := h.tk
  unfold tkM
  rw [h1]
def LsRel (P : Nat) (m : Bool) (n : Nat) (x : R (List Tm)) (W : World) (N : Nat) (v : Value) (wr : World) : Prop := ∃ l r xs a k, v = .slice a l.length k ∧ PSt wr P m n r ∧ GP P W wr ∧ wr.ownsRow W.heap.size 44 3 v l.length xs ∧ RowT (ApD W.heap.size wr v) wr xs l ∧
  moreC m n l r = x ∧ l.length + r.length ≤ 30000 ∧ 0 < l.length ∧ r.length < N
theorem own_heap' {w w' : World} {base n size : Nat} {e : TypeId} {v : Value} {xs : List Value} (h : w.ownsRow base e size v n xs) (hh : ∀ g, v.ownBlock = some g → w'.heap[g]? = w.heap[g]?) : w'.ownsRow base e size v n xs := Lx.own_heap h hh
set_option maxRecDepth 20000 in
set_option maxHeartbeats 2000000 in
theorem list_of (P : Nat) (m : Bool) (n : Nat) (ts : List Tg) (hT : ∀ r : List Tg, r.length ≤ ts.length → TermQ P m n r) : ListQ P m n ts := by
  intro W h
  have hP := h.lt
  have hbd := h.bd
  have ht := hT ts (Nat.le_refl _) W h
  obtain ⟨Q, hQ⟩ : ∃ Q : Ending → World → Prop, Q = RuQ TsVal W P n m (listC m n ts) := ⟨_, rfl⟩
  rw [← hQ]
  rw [listC_eq] at hQ
  have HT := Lib.hid hT
  have HPP := Lib.hid hP
  have HBD := Lib.hid (show ts.length ≤ 30000 by omega)
  have HTL := Lib.hid (termC_len m n ts)
  clear h hT hP hbd
  cases hx : termC m n ts with
  | er a e0 =>
    rw [hx] at ht hQ
    have HQ := Lib.hid hQ
    clear hx hQ
    go_enter Tryd.func97, Tryd.ntmps97
    go_wp2_with fail
    refine ht.mono ?_
    rintro e w1 ⟨rfl, hg⟩
    refine ⟨rfl, ?_⟩
    rw [HQ.out]
    exact ⟨rfl, hg⟩
  | ok t r =>
    have HRL := Lib.hid (HTL.out t r hx)
    rw [hx] at ht hQ
    simp only [R.bind] at hQ
    generalize hX : moreC m n [t] r = X at hQ
    have HQ := Lib.hid hQ
    have HX := Lib.hid hX
    clear hx hQ hX HTL
    go_enter Tryd.func97, Tryd.ntmps97
    go_wp2_with fail
    refine ht.mono ?_
    rintro e w1 ⟨v, rfl, ⟨a2, k2, rfl, hok, htd⟩, hp, hg⟩
    have HP1 := Lib.hid hp
    have HG1 := Lib.hid hg
    have HTD := Lib.hid htd
    have HOK := Lib.hid hok
    clear hp hg htd hok ht
    go_wp2_with fail
    go_loopw [5] (fun v wr => LsRel P m n X W ts.length v wr) (fun _ wr => tkM P wr)
    case atStart =>
      have hal : Below w1.heap.size w1 (w1.alloc (.cells #[.bool t.v, .string t.n, .slice a2 t.args.length k2] 44)) := (Below.refl _ _).alloc (Nat.le_refl _) _
      refine ⟨[t], r, [.bool t.v, .string t.n, .slice a2 t.args.length k2], _, _, rfl, HP1.out.grow hal, HG1.out.tr (GP.of hal), ?_, ?_, HX.out, by have := HBD.out; have := HRL.out; simp; omega, by simp, HRL.out⟩
      · exact World.ownsRow_lit (base := W.heap.size) (size := 3) _ #[.bool t.v, .string t.n, .slice a2 t.args.length k2] 1 HG1.out.size (by unfold maxLen; omega) rfl
      · refine RowT.snoc (l := []) HOK.out (HTD.out.keep (fun b hb q => hal.cell (p := ⟨b, q, none⟩) hb.2) fun b hb => ⟨hb.1, by have := hb.2; simp; omega, fun e => ?_⟩) rfl
        have e : w1.heap.size = b := by simpa [Value.ownBlock] using e
        have := hb.2
        omega
    case round =>
      obtain ⟨l, r, xs, sa, ka, rfl, hp, hg, hown, hrow, hx, hb, hl0, hrN⟩ := hrel
      have hk := skip_c P n m r ⟨#[44]⟩ (by decide) wr hp
      unfold skT at hk
      rw [moreC_eq] at hx
      have HTK := Lib.hid (tkM_eq hp)
      have HROW := Lib.hid hrow
      have HG := Lib.hid hg
      have HB := Lib.hid hb
      have HL0 := Lib.hid hl0
      have HRN := Lib.hid hrN
      have HOWN := Lib.hid hown
      clear hp hg hb hl0 hrow hown hrN
      cases hi : is r ⟨#[44]⟩ with
      | false =>
        rw [hi] at hk hx
        simp only [Bool.false_eq_true, if_false] at hk hx
        subst hx
        clear hi
        go_wp2_with fail
        refine hk.mono ?_
        rintro e w2 ⟨rfl, hp2, hg2⟩
        go_wp2_with fail
        rw [HQ.out]
        have HZ := HG.out.size
        rcases own_cells HOWN.out with ⟨h0, h1, _⟩ | ⟨g, cap, h0, hob, hg1, hgz, hcells⟩
        · exact absurd HL0.out (by omega)
        · injection h0 with e1 e2 e3
          subst e1; subst e3
          have hcl : ∀ b, W.heap.size ≤ b → b < wr.heap.size → ∀ q, w2.cell? ⟨b, q, none⟩ = wr.cell? ⟨b, q, none⟩ := fun b hb1 hb2 q => hg2.cell (p := ⟨b, q, none⟩) hb2 (fun e => by have e : b = P := e; have := HPP.out; omega)
          refine ⟨_, rfl, ⟨some ⟨g, 0, none⟩, ka, rfl, some ⟨g, 0, none⟩, ka, g, 0, rfl, by have := HB.out; omega, .inr ⟨rfl, hg1, Nat.lt_of_lt_of_le hgz hg2.size⟩, ?_⟩, hp2, HG.out.tr hg2⟩
          refine RowT.tsD (HROW.out.keep (fun b hb q => hcl b hb.1 hb.2.1 q) fun b hb => ⟨hb.1, Nat.lt_of_lt_of_le hb.2.1 hg2.size⟩) fun j u hj => by
            rw [Nat.zero_add, hcl g hg1 hgz]
            exact hcells j u hj
      | true =>
        have hdl := drop_len hi (by decide)
        rw [hi] at hk hx
        simp only [if_true] at hk hx
        obtain ⟨r1, hr1⟩ : ∃ r1, r.drop 1 = r1 := ⟨_, rfl⟩
        rw [hr1] at hk hx hdl
        clear hi hr1
        go_wp2_with fail
        refine hk.mono ?_
        rintro e w2 ⟨rfl, hp2, hg2⟩
        have ht := HT.out r1 (by have := HRN.out; omega) w2 hp2
        have HG2 := Lib.hid hg2
        have HDL := Lib.hid hdl
        have HTL := Lib.hid (termC_len m n r1)
        clear hp2 hg2 hk hdl
        cases hx1 : termC m n r1 with
        | er a e0 =>
          rw [hx1] at ht hx
          simp only [R.bind] at hx
          subst hx
          clear hx1
          go_wp2_with fail
          refine ht.mono ?_
          rintro e w3 ⟨rfl, hg3⟩
          refine ⟨rfl, ?_⟩
          rw [HQ.out]
          exact ⟨rfl, (HG.out.tr HG2.out).tr hg3⟩
        | ok t2 r2 =>
          have HRL := Lib.hid (HTL.out t2 r2 hx1)
          rw [hx1] at ht hx
          simp only [R.bind] at hx
          have HXX := Lib.hid hx
          clear hx1 hx
          go_wp2_with fail
          refine ht.mono ?_
          rintro e w3 ⟨v3, rfl, ⟨a3, k3, rfl, hok3, htd3⟩, hp3, hg3⟩
          obtain ⟨i0, hi, hz0, hz1, hz2⟩ := info_parts infoT
          have hcl : ∀ b, W.heap.size ≤ b → b < wr.heap.size → w3.heap[b]? = wr.heap[b]? := fun b hb1 hb2 => by
            rw [hg3.block b (Nat.lt_of_lt_of_le hb2 HG2.out.size) (fun e => by have e : b = P := e; have := HPP.out; omega), HG2.out.block b hb2 (fun e => by have e : b = P := e; have := HPP.out; omega)]
          have HLT := Lib.hid HOWN.out.lt
          have HOWN3 := Lib.hid (own_heap' HOWN.out (w' := w3) fun g hg => hcl g (HLT.out g hg).1 (HLT.out g hg).2)
          have HCL := Lib.hid hcl
          have HG3 := Lib.hid ((HG.out.tr HG2.out).tr hg3)
          have HZ3 := Lib.hid (Nat.le_trans HG2.out.size hg3.size)
          have HGW3 := Lib.hid hg3.size
          have HTD3 := Lib.hid htd3
          have HOK3 := Lib.hid hok3
          have HP3 := Lib.hid hp3
          have hl3 : l.length ≤ 30000 := by have := HB.out; omega
          have hz30 : W.heap.size ≤ w3.heap.size := HG3.out.size
          clear hcl hg3 htd3 hok3 hp3 ht
          go_wp2_with ((at_builtin; refine wpList_append_lies _ (by rfl) _ _ 22 (by rfl) W.heap.size 44 i0 (.agg #[.bool false, .string ByteArray.empty, .slice none 0 0]) 3 48 Tryd.underlying22 hi hz0 hz1 hz2 rfl (by decide) _ l.length xs (by rfl) (HOWN3.out.alloc _) ⟨w3.heap.size, 0, none⟩ 1 1 [.bool t2.v, .string t2.n, .slice a3 t2.args.length k3] (by rfl) (by rfl) (new_three _ _ _ _ _) (by simp [Value.oneCell']) (by decide) (by unfold maxLen; omega) (by omega) (by simp; omega) (w3.heap.size + 1) (by simp) ?_))
          intro g cap w7 hown7 hgrow hat hlt7
          have hz7 := hgrow.size
          rw [World.size_alloc] at hz7
          have hgr : Grow (fun b => W.heap.size ≤ b) w3 w7 := Lx.grow_of_grown hgrow fun g hg => (HLT.out g hg).1
          have HGR := Lib.hid hgr
          have HC7 := Lib.hid (show ∀ b, b < w3.heap.size → Value.ownBlock _ ≠ some b → ∀ j, w7.cell? ⟨b, j, none⟩ = w3.cell? ⟨b, j, none⟩ from fun b hb hne j => by
            rw [World.cell?_of_block (hgrow.block b (by rw [World.size_alloc]; omega) (Ne.symm hne)), ((Below.refl w3.heap.size w3).alloc (Nat.le_refl _) _).cell (p := ⟨b, j, none⟩) hb])
          have HAT := Lib.hid hat
          clear hgrow hgr hat
          go_wp2_with fail
          refine ⟨⟨l ++ [t2], r2, _, some ⟨g, 0, none⟩, cap, by simp, HP3.out.keep (fun b hb => HGR.out.block b (by have := HPP.out; omega) (by have := HPP.out; omega)) (by have := HPP.out; omega), HG3.out.trans HGR.out (fun b hb => .inr hb), by simpa using hown7, ?_, HXX.out, ?_, by simp, ?_⟩, ?_⟩
          · have hn1 : ∀ b, wr.heap.size ≤ b → Value.ownBlock (.slice sa l.length ka) ≠ some b := fun b hb h => by have := (HLT.out _ h).2; omega
            have hn2 : ∀ b, b < w3.heap.size → (wr.heap.size ≤ b ∨ Value.ownBlock (.slice sa l.length ka) ≠ some b) → Value.ownBlock (.slice (some ⟨g, 0, none⟩) (l.length + 1) cap) ≠ some b := fun b hb hor h => by
              have h : g = b := by simpa [Value.ownBlock] using h
              subst h
              rcases HAT.out with h | h
              · rcases hor with h2 | h2
                · exact hn1 g h2 h
                · exact h2 h
              · omega
            have hz := HZ3.out
            have hzg := HG2.out.size
            have hgw := HG.out.size
            exact RowT.snoc HOK3.out (HTD3.out.keep (fun b hb j => HC7.out b hb.2 (hn1 b (Nat.le_trans hzg hb.1)) j) fun b hb => ⟨Nat.le_trans (Nat.le_trans hgw hzg) hb.1, by have := hb.2; omega, hn2 b hb.2 (.inl (Nat.le_trans hzg hb.1))⟩)
              (HROW.out.keep (fun b hb j => (HC7.out b (Nat.lt_of_lt_of_le hb.2.1 hz) hb.2.2 j).trans (World.cell?_of_block (a := ⟨b, j, none⟩) (HCL.out b hb.1 hb.2.1))) fun b hb => ⟨hb.1, by have := hb.2.1; omega, hn2 b (Nat.lt_of_lt_of_le hb.2.1 hz) (.inr hb.2.2)⟩)
          · have := HB.out; have := HRL.out; have := HDL.out; simp; omega
          · have := HRL.out; have := HDL.out; have := HRN.out; omega
          · rw [tkM_eq (HP3.out.keep (W' := w7) (fun b hb => HGR.out.block b (by have := HPP.out; omega) (by have := HPP.out; omega)) (by have := HPP.out; omega)), HTK.out]
            have := HRL.out; have := HDL.out; omega
end Go.Proofs.YtkeckecdhcknhaaDoor.Ps

/-
  The contract of args, given that of list; that of list, given that of term.
-/
namespace Go.Proofs.YtkeckecdhcknhaaDoor.Ps
open Go Go.RowKit Go.Shelf Go.Proofs.YtkeckecdhcknhaaDoor.Fm Go.Proofs.YtkeckecdhcknhaaDoor.Lx
set_option linter.unusedVariables false
set_option linter.unusedSimpArgs false
theorem nil_tsv (lo : Nat) (w : World) : TsVal lo w (.slice none 0 0) [] := ⟨none, 0, rfl, nil_ts _ _⟩
/-- The closure of args. -/
theorem args1_c (P : Nat) (m : Bool) (n : Nat) (ts : List Tg) (hL : ListQ P m n ts) (b0 : Nat) (W : World) (h : PSt W P m n ts) (hc : W.cell? ⟨b0, 0, none⟩ = some (.pointer (some ⟨P, 0, none⟩))) :
    Calls Tryd.prog 96 #[.pointer (some ⟨b0, 0, none⟩)] W (RuQ TsVal W P n m (listC m n ts)) := by
  have hl := hL W h
  have H := Lib.hid h
  clear h hL
  cases hx : listC m n ts with
  | ok l r =>
    rw [hx] at hl
    clear hx
    go_enter Tryd.func96, Tryd.ntmps96
    go_wp2_with fail
    refine hl.mono ?_
    rintro e w1 ⟨v, rfl, ⟨a2, k2, rfl, htd⟩, hp, hg⟩
    go_wp2_with fail
    go_ret
    exact ⟨_, rfl, ⟨a2, k2, rfl, htd⟩, hp, hg⟩
  | er a e0 =>
    rw [hx] at hl
    clear hx
    go_enter Tryd.func96, Tryd.ntmps96
    go_wp2_with fail
    refine hl.mono ?_
    rintro e w1 ⟨rfl, hg⟩
    exact ⟨rfl, rfl, hg⟩
set_option maxRecDepth 20000 in
set_option maxHeartbeats 1000000 in
theorem args_of (P : Nat) (m : Bool) (n : Nat) (ts : List Tg) (hL : is ts ⟨#[40]⟩ = true → ListQ P m (n + 1) (ts.drop 1)) : ArgsQ P m n ts := by
  intro W h
  have hb0 : Below W.heap.size W (W.alloc (.cells #[.pointer (some ⟨P, 0, none⟩)] 53)) := (Below.refl _ _).alloc (Nat.le_refl _) _
  have h0 := h.grow hb0
  have hk := skip_c P n m ts ⟨#[40]⟩ (by decide) _ h0
  obtain ⟨Q, hQ⟩ : ∃ Q : Ending → World → Prop, Q = RuQ TsVal W P n m (argsC m n ts) := ⟨_, rfl⟩
  rw [← hQ]
  rw [argsC_eq] at hQ
  unfold skT at hk
  cases hi : is ts ⟨#[40]⟩ with
  | false =>
    rw [hi] at hk
    simp only [hi, Bool.false_eq_true, if_false] at hk hQ
    have HQ := Lib.hid hQ
    have HB := Lib.hid hb0
    clear hQ h0 h hL hb0 hi
    go_enter Tryd.func84, Tryd.ntmps84
    go_wp2_with fail
    refine hk.mono ?_
    rintro e w1 ⟨rfl, hp, hg⟩
    go_wp2_with fail
    rw [HQ.out]
    exact ⟨_, rfl, nil_tsv _ _, hp, (GP.of HB.out).tr hg⟩
  | true =>
    rw [hi] at hk
    simp only [hi, if_true] at hk hQ
    have hdl : (ts.drop 1).length < ts.length := drop_len hi (by decide)
    have hbd := h.bd
    have hP := h.lt
    have HL := Lib.hid (hL hi)
    obtain ⟨r, hr⟩ : ∃ r, ts.drop 1 = r := ⟨_, rfl⟩
    rw [hr] at hk hQ HL hdl
    have HQ := Lib.hid hQ
    have HB := Lib.hid hb0
    have HLT := Lib.hid (show n + 1 + r.length ≤ 30000 by omega)
    have HPP := Lib.hid hP
    have HNE := Lib.hid (Nat.ne_of_lt hP)
    clear hQ h0 h hL hb0 hi hr hdl hbd hP
    go_enter Tryd.func84, Tryd.ntmps84
    go_wp2_with fail
    refine hk.mono ?_
    rintro e w1 ⟨rfl, hp, hg⟩
    have hc : ∀ W1, GP P w1 W1 → W1.cell? ⟨W.heap.size, 0, none⟩ = some (.pointer (some ⟨P, 0, none⟩)) := fun W1 h1 => by
      rw [h1.cell (p := ⟨W.heap.size, 0, none⟩) (by have := hg.size; simp at this; show W.heap.size < _; omega) (fun e => HNE.out e.symm), hg.cell (p := ⟨W.heap.size, 0, none⟩) (by simp) (fun e => HNE.out e.symm), World.cell?_alloc_at _ _ _ _ rfl]
      rfl
    have hn := nestArgsP_c P n m r (listC m (n + 1) r) (b0 := W.heap.size) w1 hp HLT.out (fun a r2 e => Nat.le_of_lt (listC_len m (n + 1) r a r2 e)) fun W1 h1 hg1 => args1_c P m (n + 1) r HL.out _ W1 h1 (hc W1 hg1)
    have hc1 := hc w1 (Grow.refl _ _)
    have HC := Lib.hid hc
    have HG := Lib.hid ((GP.of HB.out).tr hg)
    clear hp hg hc HL hk
    cases hx : listC m (n + 1) r with
    | ok l r2 =>
      rw [hx] at hn HQ
      clear hx
      go_wp2_with fail
      refine hn.mono ?_
      rintro e w2 ⟨v, rfl, ⟨a2, k2, rfl, htd⟩, hp2, hg2⟩
      have hc2 := HC.out w2 hg2
      have hnd := need_c P n m r2 ⟨#[41]⟩ (by decide) w2 hp2
      have HG2 := Lib.hid (HG.out.tr hg2)
      have HZ := Lib.hid HG.out.size
      have HTD := Lib.hid htd
      clear hp2 hg2 htd hn hc1
      unfold NeedQ at hnd
      simp only [R.bind] at HQ
      cases hi2 : is r2 ⟨#[41]⟩ with
      | true =>
        rw [hi2] at hnd HQ
        simp only [if_true] at hnd HQ
        obtain ⟨r3, hr3⟩ : ∃ r3, r2.drop 1 = r3 := ⟨_, rfl⟩
        rw [hr3] at hnd HQ
        clear hr3 hi2
        go_wp2_with fail
        refine hnd.mono ?_
        rintro e w3 ⟨rfl, hp3, hg3⟩
        go_wp2_with fail
        rw [HQ.out]
        exact ⟨_, rfl, TsVal.keep ⟨a2, k2, rfl, HTD.out⟩ hg3 (by have := HPP.out; have := HZ.out; omega) HZ.out, hp3, HG2.out.tr hg3⟩
      | false =>
        rw [hi2] at hnd HQ
        simp only [Bool.false_eq_true, if_false] at hnd HQ
        clear hi2
        go_wp2_with fail
        refine hnd.mono ?_
        rintro e w3 ⟨rfl, hg3⟩
        refine ⟨rfl, ?_⟩
        rw [HQ.out]
        exact ⟨rfl, HG2.out.tr hg3⟩
    | er a e0 =>
      rw [hx] at hn HQ
      clear hx
      go_wp2_with fail
      refine hn.mono ?_
      rintro e w2 ⟨rfl, hg2⟩
      refine ⟨rfl, ?_⟩
      rw [HQ.out]
      exact ⟨rfl, HG.out.tr hg2⟩
end Go.Proofs.YtkeckecdhcknhaaDoor.Ps

/-
  The contracts of term, args and list.
-/
namespace Go.Proofs.YtkeckecdhcknhaaDoor.Ps
open Go Go.RowKit Go.Shelf Go.Proofs.YtkeckecdhcknhaaDoor.Fm Go.Proofs.YtkeckecdhcknhaaDoor.Lx
set_option linter.unusedVariables false
set_option linter.unusedSimpArgs false
theorem terms_all (P : Nat) (m : Bool) : ∀ N (ts : List Tg), ts.length ≤ N → ∀ n, TermQ P m n ts ∧ ArgsQ P m n ts ∧ ListQ P m n ts := by
  intro N
  induction N using Nat.strongRecOn with
  | _ N ih =>
  intro ts hN n
  have ht : ∀ (r : List Tg), r.length ≤ ts.length → ∀ n, TermQ P m n r := fun r hr n => term_of P m n r fun hf => by
    have hd := drop_tx (fnB_ne hf)
    exact (ih (r.drop 1).length (by omega) _ (Nat.le_refl _) n).2.1
  refine ⟨ht ts (Nat.le_refl _) n, args_of P m n ts fun hi => ?_, list_of P m n ts fun r hr => ht r hr n⟩
  have hd := drop_len hi (by decide)
  exact (ih (ts.drop 1).length (by omega) _ (Nat.le_refl _) (n + 1)).2.2
theorem term_c (P : Nat) (m : Bool) (n : Nat) (ts : List Tg) : TermQ P m n ts := (terms_all P m _ ts (Nat.le_refl _) n).1
theorem args_c (P : Nat) (m : Bool) (n : Nat) (ts : List Tg) : ArgsQ P m n ts := (terms_all P m _ ts (Nat.le_refl _) n).2.1
end Go.Proofs.YtkeckecdhcknhaaDoor.Ps
