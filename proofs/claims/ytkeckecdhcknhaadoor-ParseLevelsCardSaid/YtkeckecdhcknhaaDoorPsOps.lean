/-
  The contracts of text, atEnd, fail, pass, skip, need and shallow.
-/
import Derived.Test.YtkeckecdhcknhaaDoorPsSt
namespace Go.Proofs.YtkeckecdhcknhaaDoor.Ps
open Go Go.RowKit Go.Shelf Go.Proofs.YtkeckecdhcknhaaDoor.Fm Go.Proofs.YtkeckecdhcknhaaDoor.Lx
set_option linter.unusedVariables false
set_option linter.unusedSimpArgs false
theorem PSt.cells {W : World} {P n : Nat} {m : Bool} {ts : List Tg} (h : PSt W P m n ts) : ∃ g o cap, W.cell? ⟨P, 0, none⟩ = some (.slice (some ⟨g, o, none⟩) ts.length cap) ∧ 0 < ts.length ∧ ts.length ≤ cap ∧
    W.cell? ⟨g, o, none⟩ = some (.int .u8 (hd ts).k) ∧ W.cell? ⟨g, o + 1, none⟩ = some (.string (tx ts)) ∧ W.cell? ⟨g, o + 2, none⟩ = some (.int .i64 (hd ts).a) ∧ g < W.heap.size ∧ P < W.heap.size := by
  obtain ⟨g, o, cap, h1, h2, h3, h5⟩ := h.tk
  obtain ⟨g', o', cap', k1, k2, k3, k4, k5, k6⟩ := h.head
  rw [h1] at k1
  injection k1 with k1
  injection k1 with k1 _ k1c
  injection k1 with k1
  injection k1 with e1 e2 _
  subst e1; subst e2; subst k1c
  exact ⟨g, o, cap, h1, k2, k3, k4, k5, k6, Nat.lt_trans h3 h.lt, h.lt⟩
theorem text_c (P n : Nat) (m : Bool) (ts : List Tg) (W : World) (h : PSt W P m n ts) :
    Calls Tryd.prog 64 #[.pointer (some ⟨P, 0, none⟩)] W fun e w' => e = .returned (.string (tx ts)) ∧ W = w' := by
  obtain ⟨g, o, cap, c0, hl, hcap, c1, c2, c3, hg, hP⟩ := h.cells
  clear h
  have n0 : (0 : Int) < (ts.length : Int) := by omega
  go_enter Tryd.func64, Tryd.ntmps64
  go_wp2_with fail
  go_ret
  exact ⟨rfl, rfl⟩
theorem atEnd_c (P n : Nat) (m : Bool) (ts : List Tg) (W : World) (h : PSt W P m n ts) :
    Calls Tryd.prog 33 #[.pointer (some ⟨P, 0, none⟩)] W fun e w' => e = .returned (.bool ((hd ts).k == 5)) ∧ W = w' := by
  obtain ⟨g, o, cap, c0, hl, hcap, c1, c2, c3, hg, hP⟩ := h.cells
  clear h
  have n0 : (0 : Int) < (ts.length : Int) := by omega
  go_enter Tryd.func33, Tryd.ntmps33
  go_wp2_with fail
  go_ret
  exact ⟨rfl, rfl⟩
/-- What a wrong token ends in. -/
def wrongV (a e : Int) : Ending := .panicked [{ v := .iface 65 (.agg #[.int .i64 a, .int .i64 e]), recovered := false }]
theorem fail_c (P n : Nat) (m : Bool) (ts : List Tg) (W : World) (h : PSt W P m n ts) (e0 : Int) :
    Calls Tryd.prog 34 #[.pointer (some ⟨P, 0, none⟩), .int .i64 e0] W fun e w' => e = wrongV (hd ts).a e0 ∧ W = w' := by
  obtain ⟨g, o, cap, c0, hl, hcap, c1, c2, c3, hg, hP⟩ := h.cells
  clear h
  have n0 : (0 : Int) < (ts.length : Int) := by omega
  go_enter Tryd.func34, Tryd.ntmps34
  go_wp2_with fail
  exact ⟨rfl, rfl, rfl⟩
abbrev GP (P : Nat) (W w' : World) : Prop := Grow (fun b => b = P) W w'
theorem GP.of {P : Nat} {W w' : World} (h : Below W.heap.size W w') : GP P W w' := Grow.of_below h
theorem GP.tr {P : Nat} {A B C : World} (h : GP P A B) (k : GP P B C) : GP P A C := Grow.trans h k (Sub.refl _ _)
theorem pass_c (P n : Nat) (m : Bool) (ts : List Tg) (W : World) (h : PSt W P m n ts) (hne : tx ts ≠ ⟨#[]⟩) :
    Calls Tryd.prog 66 #[.pointer (some ⟨P, 0, none⟩)] W fun e w' => e = .returned (.string (tx ts)) ∧ PSt w' P m n (ts.drop 1) ∧ GP P W w' := by
  obtain ⟨g, o, cap, c0, hl, hcap, c1, c2, c3, hg, hP⟩ := h.cells
  have f0 := h.fz 0 (by decide)
  have H := Lib.hid h
  have HNE := Lib.hid hne
  have HL := Lib.hid hl
  have HCAP := Lib.hid hcap
  have ht := text_c P n m ts W h
  have n2 : ¬ cap = 1 := by
    have := List.length_pos_iff.2 (h.ok.drop hne).ne
    simp at this
    omega
  obtain ⟨r, hr⟩ : ∃ r, ts.drop 1 = r := ⟨_, rfl⟩
  rw [hr]
  have HR := Lib.hid hr
  clear h hne hr
  have n0 : (1 : Int) ≤ (ts.length : Int) := by omega
  have n1 : (ts.length : Int) ≤ (cap : Int) := by omega
  clear hl hcap
  go_enter Tryd.func66, Tryd.ntmps66
  go_wp2_with fail
  refine ht.mono ?_
  rintro e w1 ⟨rfl, rfl⟩
  go_wp2_with fail
  go_ret
  have hs := H.out.setTok HNE.out c0 (v := .slice (some ⟨g, o + 3, none⟩) (ts.length - 1) (cap - 1)) (by simp)
  rw [HR.out] at hs
  exact ⟨rfl, hs, Grow.setCell (O := fun b => b = P) _ _ rfl⟩
/-- What is left behind a sign that may come next. -/
def skT (s : ByteArray) (ts : List Tg) : List Tg := if is ts s then ts.drop 1 else ts
theorem toList_inj {a b : ByteArray} (h : a.toList = b.toList) : a = b := by
  rw [ByteArray.toList_eq, ByteArray.toList_eq] at h
  exact eqB_iff.1 (by unfold eqB; rw [h]; exact beq_self_eq_true _)
theorem skip_c (P n : Nat) (m : Bool) (ts : List Tg) (s : ByteArray) (hs : s ≠ ⟨#[]⟩) (W : World) (h : PSt W P m n ts) :
    Calls Tryd.prog 46 #[.pointer (some ⟨P, 0, none⟩), .string s] W fun e w' => e = .returned (.bool (is ts s)) ∧ PSt w' P m n (skT s ts) ∧ GP P W w' := by
  have ht := text_c P n m ts W h
  have H := Lib.hid h
  cases hi : is ts s with
  | false =>
    have hne : ¬ tx ts = s := fun e => by rw [show is ts s = true from eqB_iff.2 e] at hi; exact absurd hi (by decide)
    have HT := Lib.hid (show skT s ts = ts by unfold skT; rw [hi]; rfl)
    have hbq : ((tx ts).toList == s.toList) = false := beq_eq_false_iff_ne.2 fun e => hne (toList_inj e)
    clear h hi
    go_enter Tryd.func46, Tryd.ntmps46
    go_wp2_with fail
    refine ht.mono ?_
    rintro e w1 ⟨rfl, rfl⟩
    go_wp2_with fail
    go_ret
    exact ⟨rfl, by rw [HT.out]; exact H.out, Grow.refl _ _⟩
  | true =>
    have he : tx ts = s := eqB_iff.1 hi
    have HT := Lib.hid (show ts.drop 1 = skT s ts by unfold skT; rw [hi]; rfl)
    have hp := pass_c P n m ts W h (by rw [he]; exact hs)
    rw [HT.out] at hp
    generalize skT s ts = r at *
    rw [he] at ht hp
    have HE := Lib.hid he
    clear h hi he hs
    go_enter Tryd.func46, Tryd.ntmps46
    go_wp2_with fail
    refine ht.mono ?_
    rintro e w1 ⟨rfl, rfl⟩
    go_wp2_with fail
    refine hp.mono ?_
    rintro e w1 ⟨rfl, hs, hg⟩
    go_wp2_with fail
    go_ret
    exact ⟨rfl, hs, hg⟩
theorem skip_grow {s : ByteArray} {ts : List Tg} : (skT s ts).length ≤ ts.length := by unfold skT; split <;> simp
/-- How a rule without a result ends. -/
def NeedQ (W : World) (P n : Nat) (m : Bool) (ts : List Tg) (b : Bool) (e : Ending) (w' : World) : Prop :=
  if b then e = .returned (.tuple #[]) ∧ PSt w' P m n (ts.drop 1) ∧ GP P W w' else e = wrongV (hd ts).a 50 ∧ GP P W w'
theorem need_c (P n : Nat) (m : Bool) (ts : List Tg) (s : ByteArray) (hs : s ≠ ⟨#[]⟩) (W : World) (h : PSt W P m n ts) :
    Calls Tryd.prog 81 #[.pointer (some ⟨P, 0, none⟩), .string s] W (NeedQ W P n m ts (is ts s)) := by
  have hk := skip_c P n m ts s hs W h
  unfold skT at hk
  clear h
  cases hi : is ts s with
  | true =>
    rw [hi] at hk
    simp only [if_true] at hk
    obtain ⟨r, hr⟩ : ∃ r, ts.drop 1 = r := ⟨_, rfl⟩
    rw [hr] at hk
    have HR := Lib.hid hr
    clear hr hi
    go_enter Tryd.func81, Tryd.ntmps81
    go_wp2_with fail
    refine hk.mono ?_
    rintro e w1 ⟨rfl, hp, hg⟩
    go_wp2_with fail
    refine bodyPost_ret (results_none rfl _ _ _) rfl ?_
    exact ⟨rfl, by rw [HR.out]; exact hp, hg⟩
  | false =>
    rw [hi] at hk
    simp only [Bool.false_eq_true, if_false] at hk
    clear hi
    go_enter Tryd.func81, Tryd.ntmps81
    go_wp2_with fail
    refine hk.mono ?_
    rintro e w1 ⟨rfl, hp, hg⟩
    have hf := fail_c P n m ts w1 hp 50
    have HG := Lib.hid hg
    clear hg hp
    go_wp2_with fail
    refine hf.mono ?_
    rintro e w2 ⟨rfl, rfl⟩
    exact ⟨rfl, rfl, HG.out⟩
/-- shallow: nothing, or ErrDeep. -/
theorem shallow_c (P n : Nat) (m : Bool) (ts : List Tg) (W : World) (h : PSt W P m n ts) :
    Calls Tryd.prog 63 #[.pointer (some ⟨P, 0, none⟩)] W fun e w' => if 120 < n then e = wrongV (hd ts).a 51 ∧ W = w' else e = .returned (.tuple #[]) ∧ W = w' := by
  have hn := h.ns
  have H := Lib.hid h
  by_cases hd : 120 < n
  · have n0 : (120 : Int) < (n : Int) := by omega
    simp only [if_pos hd]
    have hf := fail_c P n m ts W h 51
    clear h hd
    go_enter Tryd.func63, Tryd.ntmps63
    go_wp2_with fail
    refine hf.mono ?_
    rintro e w1 ⟨rfl, rfl⟩
    exact ⟨rfl, rfl, rfl⟩
  · have n0 : ¬ (120 : Int) < (n : Int) := by omega
    simp only [if_neg hd]
    clear h hd
    go_enter Tryd.func63, Tryd.ntmps63
    go_wp2_with fail
    go_end0
    exact ⟨rfl, rfl⟩
/-- A check of the next token's text: a function value. -/
def Chk (P n : Nat) (m : Bool) (ts : List Tg) (k : Nat) (args : Array Value) (b : Bool) : Prop :=
  ∀ W, PSt W P m n ts → Calls Tryd.prog k args W fun e w' => e = .returned (.bool b) ∧ Below W.heap.size W w'
def NameQ (W : World) (P n : Nat) (m : Bool) (ts : List Tg) (b : Bool) (e : Ending) (w' : World) : Prop :=
  if b then e = .returned (.string (tx ts)) ∧ PSt w' P m n (ts.drop 1) ∧ GP P W w' else e = wrongV (hd ts).a 50 ∧ GP P W w'
theorem nameV_c (P n : Nat) (m : Bool) (ts : List Tg) (b : Bool) (hc : Chk P n m ts 53 #[.string (tx ts)] b) (hb : b = true → tx ts ≠ ⟨#[]⟩) (W : World) (h : PSt W P m n ts) :
    Calls Tryd.prog 67 #[.pointer (some ⟨P, 0, none⟩), .func (.func 53) #[] #[]] W (NameQ W P n m ts b) := by
  have ht := text_c P n m ts W h
  have H := Lib.hid h
  have hk := hc W h
  clear h hc
  cases b with
  | true =>
    have hne := Lib.hid (hb rfl)
    clear hb
    obtain ⟨s0, hs0⟩ : ∃ s, tx ts = s := ⟨_, rfl⟩
    rw [hs0] at ht hk
    have HS0 := Lib.hid hs0
    clear hs0
    go_enter Tryd.func67, Tryd.ntmps67
    go_wp2_with fail
    refine ht.mono ?_
    rintro e w1 ⟨rfl, rfl⟩
    go_wp2_with fail
    refine hk.mono ?_
    rintro e w1 ⟨rfl, hb1⟩
    have hp := pass_c P n m ts w1 (H.out.grow hb1) hne.out
    rw [HS0.out] at hp
    have HB := Lib.hid hb1
    clear hb1
    obtain ⟨r, hr⟩ : ∃ r, ts.drop 1 = r := ⟨_, rfl⟩
    rw [hr] at hp
    have HR := Lib.hid hr
    clear hr
    go_wp2_with fail
    refine hp.mono ?_
    rintro e w2 ⟨rfl, hp2, hg2⟩
    go_wp2_with fail
    go_ret
    exact ⟨by rw [HS0.out]; rfl, by rw [HR.out]; exact hp2, (GP.of HB.out).tr hg2⟩
  | false =>
    clear hb
    obtain ⟨s0, hs0⟩ : ∃ s, tx ts = s := ⟨_, rfl⟩
    rw [hs0] at ht hk
    clear hs0
    go_enter Tryd.func67, Tryd.ntmps67
    go_wp2_with fail
    refine ht.mono ?_
    rintro e w1 ⟨rfl, rfl⟩
    go_wp2_with fail
    refine hk.mono ?_
    rintro e w1 ⟨rfl, hb1⟩
    have hp := fail_c P n m ts w1 (H.out.grow hb1) 50
    have HB := Lib.hid hb1
    clear hb1
    go_wp2_with fail
    refine hp.mono ?_
    rintro e w2 ⟨rfl, rfl⟩
    exact ⟨rfl, rfl, GP.of HB.out⟩
theorem nameP_c (P n : Nat) (m : Bool) (ts : List Tg) (b : Bool) (hc : Chk P n m ts 54 #[.string (tx ts)] b) (hb : b = true → tx ts ≠ ⟨#[]⟩) (W : World) (h : PSt W P m n ts) :
    Calls Tryd.prog 67 #[.pointer (some ⟨P, 0, none⟩), .func (.func 54) #[] #[]] W (NameQ W P n m ts b) := by
  have ht := text_c P n m ts W h
  have H := Lib.hid h
  have hk := hc W h
  clear h hc
  cases b with
  | true =>
    have hne := Lib.hid (hb rfl)
    clear hb
    obtain ⟨s0, hs0⟩ : ∃ s, tx ts = s := ⟨_, rfl⟩
    rw [hs0] at ht hk
    have HS0 := Lib.hid hs0
    clear hs0
    go_enter Tryd.func67, Tryd.ntmps67
    go_wp2_with fail
    refine ht.mono ?_
    rintro e w1 ⟨rfl, rfl⟩
    go_wp2_with fail
    refine hk.mono ?_
    rintro e w1 ⟨rfl, hb1⟩
    have hp := pass_c P n m ts w1 (H.out.grow hb1) hne.out
    rw [HS0.out] at hp
    have HB := Lib.hid hb1
    clear hb1
    obtain ⟨r, hr⟩ : ∃ r, ts.drop 1 = r := ⟨_, rfl⟩
    rw [hr] at hp
    have HR := Lib.hid hr
    clear hr
    go_wp2_with fail
    refine hp.mono ?_
    rintro e w2 ⟨rfl, hp2, hg2⟩
    go_wp2_with fail
    go_ret
    exact ⟨by rw [HS0.out]; rfl, by rw [HR.out]; exact hp2, (GP.of HB.out).tr hg2⟩
  | false =>
    clear hb
    obtain ⟨s0, hs0⟩ : ∃ s, tx ts = s := ⟨_, rfl⟩
    rw [hs0] at ht hk
    clear hs0
    go_enter Tryd.func67, Tryd.ntmps67
    go_wp2_with fail
    refine ht.mono ?_
    rintro e w1 ⟨rfl, rfl⟩
    go_wp2_with fail
    refine hk.mono ?_
    rintro e w1 ⟨rfl, hb1⟩
    have hp := fail_c P n m ts w1 (H.out.grow hb1) 50
    have HB := Lib.hid hb1
    clear hb1
    go_wp2_with fail
    refine hp.mono ?_
    rintro e w2 ⟨rfl, rfl⟩
    exact ⟨rfl, rfl, GP.of HB.out⟩
theorem nameF_c (P n : Nat) (m : Bool) (ts : List Tg) (b : Bool) (hc : Chk P n m ts 58 #[.string (tx ts)] b) (hb : b = true → tx ts ≠ ⟨#[]⟩) (W : World) (h : PSt W P m n ts) :
    Calls Tryd.prog 67 #[.pointer (some ⟨P, 0, none⟩), .func (.func 58) #[] #[]] W (NameQ W P n m ts b) := by
  have ht := text_c P n m ts W h
  have H := Lib.hid h
  have hk := hc W h
  clear h hc
  cases b with
  | true =>
    have hne := Lib.hid (hb rfl)
    clear hb
    obtain ⟨s0, hs0⟩ : ∃ s, tx ts = s := ⟨_, rfl⟩
    rw [hs0] at ht hk
    have HS0 := Lib.hid hs0
    clear hs0
    go_enter Tryd.func67, Tryd.ntmps67
    go_wp2_with fail
    refine ht.mono ?_
    rintro e w1 ⟨rfl, rfl⟩
    go_wp2_with fail
    refine hk.mono ?_
    rintro e w1 ⟨rfl, hb1⟩
    have hp := pass_c P n m ts w1 (H.out.grow hb1) hne.out
    rw [HS0.out] at hp
    have HB := Lib.hid hb1
    clear hb1
    obtain ⟨r, hr⟩ : ∃ r, ts.drop 1 = r := ⟨_, rfl⟩
    rw [hr] at hp
    have HR := Lib.hid hr
    clear hr
    go_wp2_with fail
    refine hp.mono ?_
    rintro e w2 ⟨rfl, hp2, hg2⟩
    go_wp2_with fail
    go_ret
    exact ⟨by rw [HS0.out]; rfl, by rw [HR.out]; exact hp2, (GP.of HB.out).tr hg2⟩
  | false =>
    clear hb
    obtain ⟨s0, hs0⟩ : ∃ s, tx ts = s := ⟨_, rfl⟩
    rw [hs0] at ht hk
    clear hs0
    go_enter Tryd.func67, Tryd.ntmps67
    go_wp2_with fail
    refine ht.mono ?_
    rintro e w1 ⟨rfl, rfl⟩
    go_wp2_with fail
    refine hk.mono ?_
    rintro e w1 ⟨rfl, hb1⟩
    have hp := fail_c P n m ts w1 (H.out.grow hb1) 50
    have HB := Lib.hid hb1
    clear hb1
    go_wp2_with fail
    refine hp.mono ?_
    rintro e w2 ⟨rfl, rfl⟩
    exact ⟨rfl, rfl, GP.of HB.out⟩
theorem nameM_c (P n : Nat) (m : Bool) (ts : List Tg) (b : Bool) (hc : Chk P n m ts 94 #[.pointer (some ⟨P, 0, none⟩), .string (tx ts)] b) (hb : b = true → tx ts ≠ ⟨#[]⟩) (W : World) (h : PSt W P m n ts) :
    Calls Tryd.prog 67 #[.pointer (some ⟨P, 0, none⟩), .func (.func 94) #[.pointer (some ⟨P, 0, none⟩)] #[]] W (NameQ W P n m ts b) := by
  have ht := text_c P n m ts W h
  have H := Lib.hid h
  have hk := hc W h
  clear h hc
  cases b with
  | true =>
    have hne := Lib.hid (hb rfl)
    clear hb
    obtain ⟨s0, hs0⟩ : ∃ s, tx ts = s := ⟨_, rfl⟩
    rw [hs0] at ht hk
    have HS0 := Lib.hid hs0
    clear hs0
    go_enter Tryd.func67, Tryd.ntmps67
    go_wp2_with fail
    refine ht.mono ?_
    rintro e w1 ⟨rfl, rfl⟩
    go_wp2_with fail
    refine hk.mono ?_
    rintro e w1 ⟨rfl, hb1⟩
    have hp := pass_c P n m ts w1 (H.out.grow hb1) hne.out
    rw [HS0.out] at hp
    have HB := Lib.hid hb1
    clear hb1
    obtain ⟨r, hr⟩ : ∃ r, ts.drop 1 = r := ⟨_, rfl⟩
    rw [hr] at hp
    have HR := Lib.hid hr
    clear hr
    go_wp2_with fail
    refine hp.mono ?_
    rintro e w2 ⟨rfl, hp2, hg2⟩
    go_wp2_with fail
    go_ret
    exact ⟨by rw [HS0.out]; rfl, by rw [HR.out]; exact hp2, (GP.of HB.out).tr hg2⟩
  | false =>
    clear hb
    obtain ⟨s0, hs0⟩ : ∃ s, tx ts = s := ⟨_, rfl⟩
    rw [hs0] at ht hk
    clear hs0
    go_enter Tryd.func67, Tryd.ntmps67
    go_wp2_with fail
    refine ht.mono ?_
    rintro e w1 ⟨rfl, rfl⟩
    go_wp2_with fail
    refine hk.mono ?_
    rintro e w1 ⟨rfl, hb1⟩
    have hp := fail_c P n m ts w1 (H.out.grow hb1) 50
    have HB := Lib.hid hb1
    clear hb1
    go_wp2_with fail
    refine hp.mono ?_
    rintro e w2 ⟨rfl, rfl⟩
    exact ⟨rfl, rfl, GP.of HB.out⟩
end Go.Proofs.YtkeckecdhcknhaaDoor.Ps
