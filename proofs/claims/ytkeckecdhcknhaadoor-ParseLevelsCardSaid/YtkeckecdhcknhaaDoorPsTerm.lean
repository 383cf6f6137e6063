/-
  The contract of term, given that of args.
-/
import Derived.Test.YtkeckecdhcknhaaDoorPsNest
namespace Go.Proofs.YtkeckecdhcknhaaDoor.Ps
open Go Go.RowKit Go.Shelf Go.Proofs.YtkeckecdhcknhaaDoor.Fm Go.Proofs.YtkeckecdhcknhaaDoor.Lx
set_option linter.unusedVariables false
set_option linter.unusedSimpArgs false
def TermQ (P : Nat) (m : Bool) (n : Nat) (ts : List Tg) : Prop := ∀ W, PSt W P m n ts → Calls Tryd.prog 98 #[.pointer (some ⟨P, 0, none⟩)] W (RuQ TVal W P n m (termC m n ts))
def ArgsQ (P : Nat) (m : Bool) (n : Nat) (ts : List Tg) : Prop := ∀ W, PSt W P m n ts → Calls Tryd.prog 84 #[.pointer (some ⟨P, 0, none⟩)] W (RuQ TsVal W P n m (argsC m n ts))
def put3 (w : World) (R : Nat) (x0 x1 x2 : Value) : World := ((w.setCell ⟨R, 0, none⟩ x0).setCell ⟨R, 1, none⟩ x1).setCell ⟨R, 2, none⟩ x2
theorem put3_heap (w : World) (R : Nat) (x0 x1 x2 : Value) (b : Nat) (h : b ≠ R) : (put3 w R x0 x1 x2).heap[b]? = w.heap[b]? := by
  unfold put3
  rw [Below.heap_setCell _ _ _ _ h, Below.heap_setCell _ _ _ _ h, Below.heap_setCell _ _ _ _ h]
theorem put3_size (w : World) (R : Nat) (x0 x1 x2 : Value) : (put3 w R x0 x1 x2).heap.size = w.heap.size := by unfold put3; simp
theorem put3_grow {P : Nat} {W w : World} (h : GP P W w) {R : Nat} (hR : W.heap.size ≤ R) (x0 x1 x2 : Value) : GP P W (put3 w R x0 x1 x2) := by
  have hb : Below W.heap.size w (put3 w R x0 x1 x2) := (((Below.refl _ w).setCell (p := ⟨R, 0, none⟩) hR x0).setCell (p := ⟨R, 1, none⟩) hR x1).setCell (p := ⟨R, 2, none⟩) hR x2
  exact ⟨hb.os.trans h.os, hb.tape.trans h.tape, hb.output.trans h.output, Nat.le_trans h.size hb.size, fun k hk hn => (hb.block k hk).trans (h.block k hk hn)⟩
theorem PSt.put3 {w : World} {P n : Nat} {m : Bool} {ts : List Tg} (h : PSt w P m n ts) {R : Nat} (hR : P < R) (x0 x1 x2 : Value) : PSt (put3 w R x0 x1 x2) P m n ts :=
  h.keep (fun b hb => put3_heap _ _ _ _ _ b (by omega)) (by rw [put3_size]; exact h.lt)
theorem own_put3 {lo R : Nat} {w : World} (hR : R < lo) (x0 x1 x2 : Value) : (∀ b, Own lo w b → ∀ q, (put3 w R x0 x1 x2).cell? ⟨b, q, none⟩ = w.cell? ⟨b, q, none⟩) ∧ ∀ b, Own lo w b → Own lo (put3 w R x0 x1 x2) b :=
  ⟨fun b hb q => World.cell?_of_block (put3_heap _ _ _ _ _ b (by have := hb.1; omega)), fun b hb => ⟨hb.1, by rw [put3_size]; exact hb.2⟩⟩
theorem box3 {P : Nat} {W w1 : World} {x0 x1 x2 : Value} {t : TypeId} (hP : P < W.heap.size) (hg : GP P (W.alloc (.cells #[x0, x1, x2] t)) w1) :
    w1.cell? ⟨W.heap.size, 0, none⟩ = some x0 ∧ w1.cell? ⟨W.heap.size, 1, none⟩ = some x1 ∧ w1.cell? ⟨W.heap.size, 2, none⟩ = some x2 ∧
    w1.frozen? ⟨W.heap.size, 0, none⟩ = false ∧ w1.frozen? ⟨W.heap.size, 1, none⟩ = false ∧ w1.frozen? ⟨W.heap.size, 2, none⟩ = false ∧ W.heap.size < w1.heap.size := by
  have hz : W.heap.size < (W.alloc (.cells #[x0, x1, x2] t)).heap.size := by simp
  have hc : ∀ j, w1.cell? ⟨W.heap.size, j, none⟩ = #[x0, x1, x2][j]? := fun j => (hg.cell (p := ⟨W.heap.size, j, none⟩) hz (fun e => by have e : W.heap.size = P := e; omega)).trans (World.cell?_alloc_at _ _ _ _ rfl)
  have hf : ∀ j, w1.frozen? ⟨W.heap.size, j, none⟩ = false := fun j => (hg.frozen (p := ⟨W.heap.size, j, none⟩) hz (fun e => by have e : W.heap.size = P := e; omega)).trans (World.frozen?_alloc_at _ _ _ _ rfl)
  exact ⟨hc 0, hc 1, hc 2, hf 0, hf 1, hf 2, Nat.lt_of_lt_of_le hz hg.size⟩
theorem nil_ts (D : Nat → Prop) (w : World) : SlTD D w (.slice none 0 0) [] := ⟨none, 0, 0, 0, rfl, by simp, .inl rfl, by simp [TsD]⟩
theorem ok_str {s : ByteArray} (h : s.size ≤ 20000) : okStr s := by unfold okStr; omega
set_option maxRecDepth 20000 in
set_option maxHeartbeats 1000000 in
theorem term_of (P : Nat) (m : Bool) (n : Nat) (ts : List Tg) (hA : fnB (tx ts) = true → ArgsQ P m n (ts.drop 1)) : TermQ P m n ts := by
  intro W h
  have hsz := h.ok.size
  have hP := h.lt
  have hb0 : Below W.heap.size W (W.alloc (.cells #[.bool false, .string ⟨#[]⟩, .slice none 0 0] 44)) := (Below.refl _ _).alloc (Nat.le_refl _) _
  have h0 := h.grow hb0
  have hsh := shallow_c P n m ts _ h0
  obtain ⟨Q, hQ⟩ : ∃ Q : Ending → World → Prop, Q = RuQ TVal W P n m (termC m n ts) := ⟨_, rfl⟩
  rw [← hQ]
  rw [termC_eq] at hQ
  by_cases hn : 120 < n
  · simp only [if_pos hn] at hsh hQ
    have HQ := Lib.hid hQ
    have HB := Lib.hid hb0
    clear hQ h0 h hA hb0
    go_enter Tryd.func98, Tryd.ntmps98
    go_wp2_with fail
    refine hsh.mono ?_
    rintro e w1 ⟨rfl, rfl⟩
    refine ⟨rfl, ?_⟩
    rw [HQ.out]
    exact ⟨rfl, GP.of HB.out⟩
  simp only [if_neg hn] at hsh hQ
  have htx := text_c P n m ts _ h0
  have hv := fun w => variable_c (tx ts) w (by omega)
  have hmt := metaT_p P n m ts (tx ts) hsz
  cases hvar : varB (tx ts) with
  | true =>
    rw [hvar] at hv
    simp only [hvar, Bool.true_or, if_true] at hQ
    have HPASS := Lib.hid (fun W1 (h1 : PSt W1 P m n ts) => pass_c P n m ts W1 h1 (varB_ne hvar))
    clear hvar
    have H0 := Lib.hid h0
    have HB := Lib.hid hb0
    have HS := Lib.hid hsz
    have HQ := Lib.hid hQ
    have HPP := Lib.hid hP
    have hPW : ¬ P = W.heap.size := Nat.ne_of_lt hP
    have hWP : ¬ W.heap.size = P := fun e => hPW e.symm
    clear hQ h0 h hb0 hsz hn  hmt hA
    generalize tx ts = s at *
    go_enter Tryd.func98, Tryd.ntmps98
    go_wp2_with fail
    refine hsh.mono ?_
    rintro e w1 ⟨rfl, rfl⟩
    go_wp2_with fail
    refine htx.mono ?_
    rintro e w1 ⟨rfl, rfl⟩
    go_wp2_with fail
    refine (hv _).mono ?_
    rintro e w1 ⟨rfl, hb1⟩
    have H1 := Lib.hid (H0.out.grow hb1)
    have HG1 := Lib.hid (GP.of (P := P) hb1)
    clear hb1
    have hp := HPASS.out _ H1.out
    clear HPASS
    obtain ⟨r, hr⟩ : ∃ r, ts.drop 1 = r := ⟨_, rfl⟩
    rw [hr] at hp HQ
    clear hr
    go_wp2_with fail
    refine hp.mono ?_
    rintro e w3 ⟨rfl, hp3, hg3⟩
    have HG2 := Lib.hid (HG1.out.tr hg3)
    have H2 := Lib.hid hp3
    clear hp3 hg3 hp
    obtain ⟨r0, r1, r2, q0, q1, q2, hRz⟩ := box3 (P := P) HPP.out HG2.out
    go_wp2_with fail
    refine bodyPost_ret (v := .agg #[.bool true, .string s, .slice none 0 0]) (by simp [results, Tryd.results98, go_sem, r0, r1, r2, hPW, hWP, hRz]) rfl ?_
    rw [HQ.out]
    have hgw : GP P W w3 := (GP.of HB.out).tr HG2.out
    exact ⟨_, rfl, ⟨none, 0, rfl, ok_str HS.out, nil_ts _ _⟩, H2.out.put3 (R := W.heap.size) HPP.out _ _ _, put3_grow hgw (Nat.le_refl _) _ _ _⟩
  | false =>
    rw [hvar] at hv
    simp only [hvar, Bool.false_or] at hQ
    clear hvar
    cases hmv : mtB m (tx ts) with
    | true =>
      rw [hmv] at hmt
      simp only [hmv, if_true] at hQ
      have HPASS := Lib.hid (fun W1 (h1 : PSt W1 P m n ts) => pass_c P n m ts W1 h1 (mtB_ne hmv))
      clear hmv
      have H0 := Lib.hid h0
      have HB := Lib.hid hb0
      have HS := Lib.hid hsz
      have HQ := Lib.hid hQ
      have HPP := Lib.hid hP
      have hPW : ¬ P = W.heap.size := Nat.ne_of_lt hP
      have hWP : ¬ W.heap.size = P := fun e => hPW e.symm
      clear hQ h0 h hb0 hsz hn  hA
      generalize tx ts = s at *
      go_enter Tryd.func98, Tryd.ntmps98
      go_wp2_with fail
      refine hsh.mono ?_
      rintro e w1 ⟨rfl, rfl⟩
      go_wp2_with fail
      refine htx.mono ?_
      rintro e w1 ⟨rfl, rfl⟩
      go_wp2_with fail
      refine (hv _).mono ?_
      rintro e w1 ⟨rfl, hb1⟩
      have h1 := H0.out.grow hb1
      have hmt1 := hmt w1 h1
      have HB1 := Lib.hid hb1
      clear hb1 h1 hmt
      go_wp2_with fail
      refine hmt1.mono ?_
      rintro e w2 ⟨rfl, hb2⟩
      have hb3 := HB1.out.trans (hb2.mono HB1.out.size)
      clear hb2
      have H1 := Lib.hid (H0.out.grow hb3)
      have HG1 := Lib.hid (GP.of (P := P) hb3)
      clear hb3
      have hp := HPASS.out _ H1.out
      clear HPASS
      obtain ⟨r, hr⟩ : ∃ r, ts.drop 1 = r := ⟨_, rfl⟩
      rw [hr] at hp HQ
      clear hr
      go_wp2_with fail
      refine hp.mono ?_
      rintro e w3 ⟨rfl, hp3, hg3⟩
      have HG2 := Lib.hid (HG1.out.tr hg3)
      have H2 := Lib.hid hp3
      clear hp3 hg3 hp
      obtain ⟨r0, r1, r2, q0, q1, q2, hRz⟩ := box3 (P := P) HPP.out HG2.out
      go_wp2_with fail
      refine bodyPost_ret (v := .agg #[.bool true, .string s, .slice none 0 0]) (by simp [results, Tryd.results98, go_sem, r0, r1, r2, hPW, hWP, hRz]) rfl ?_
      rw [HQ.out]
      have hgw : GP P W w3 := (GP.of HB.out).tr HG2.out
      exact ⟨_, rfl, ⟨none, 0, rfl, ok_str HS.out, nil_ts _ _⟩, H2.out.put3 (R := W.heap.size) HPP.out _ _ _, put3_grow hgw (Nat.le_refl _) _ _ _⟩
    | false =>
      rw [hmv] at hmt
      simp only [hmv, Bool.false_eq_true, if_false] at hQ
      clear hmv
      have hck : Chk P n m ts 58 #[.string (tx ts)] (fnB (tx ts)) := fun W1 _ => function_c (tx ts) W1 (by omega)
      cases hf : fnB (tx ts) with
      | true =>
        rw [hf] at hck
        simp only [hf, if_true] at hQ
        have HNAME := Lib.hid (fun W1 (h1 : PSt W1 P m n ts) => nameF_c P n m ts true hck (fun _ => fnB_ne hf) W1 h1)
        have HA := Lib.hid (hA hf)
        unfold NameQ at HNAME
        simp only [if_true] at HNAME
        clear hf hck hA
        have H0 := Lib.hid h0
        have HB := Lib.hid hb0
        have HS := Lib.hid hsz
        have HQ := Lib.hid hQ
        have HPP := Lib.hid hP
        have hPW : ¬ P = W.heap.size := Nat.ne_of_lt hP
        have hWP : ¬ W.heap.size = P := fun e => hPW e.symm
        clear hQ h0 h hb0 hsz hn
        generalize tx ts = s at *
        go_enter Tryd.func98, Tryd.ntmps98
        go_wp2_with fail
        refine hsh.mono ?_
        rintro e w1 ⟨rfl, rfl⟩
        go_wp2_with fail
        refine htx.mono ?_
        rintro e w1 ⟨rfl, rfl⟩
        go_wp2_with fail
        refine (hv _).mono ?_
        rintro e w1 ⟨rfl, hb1⟩
        have h1 := H0.out.grow hb1
        have hmt1 := hmt w1 h1
        have HB1 := Lib.hid hb1
        clear hb1 h1 hmt
        go_wp2_with fail
        refine hmt1.mono ?_
        rintro e w2 ⟨rfl, hb2⟩
        have hb3 := HB1.out.trans (hb2.mono HB1.out.size)
        clear hb2
        have H1 := Lib.hid (H0.out.grow hb3)
        have HG1 := Lib.hid (GP.of (P := P) hb3)
        clear hb3
        have hp := HNAME.out _ H1.out
        clear HNAME
        obtain ⟨r, hr⟩ : ∃ r, ts.drop 1 = r := ⟨_, rfl⟩
        rw [hr] at hp HQ HA
        clear hr
        go_wp2_with fail
        refine hp.mono ?_
        rintro e w3 ⟨rfl, hp3, hg3⟩
        have hargs := HA.out w3 hp3
        have HG3 := Lib.hid (HG1.out.tr hg3)
        have hz3 : W.heap.size ≤ w3.heap.size := ((GP.of HB.out).tr (HG1.out.tr hg3)).size
        have hz4 : W.heap.size + 1 ≤ w3.heap.size := by have := (HG1.out.tr hg3).size; simp at this; omega
        have HZ4 := Lib.hid hz4
        clear hp3 hg3 hp HA hz3 hz4
        cases hx : argsC m n r with
        | ok l r2 =>
          rw [hx] at hargs HQ
          clear hx
          go_wp2_with fail
          refine hargs.mono ?_
          rintro e w4 ⟨v, rfl, ⟨a2, k2, rfl, htd⟩, hp4, hg4⟩
          have HG2 := Lib.hid (HG3.out.tr hg4)
          have H2 := Lib.hid hp4
          have HTD := Lib.hid htd
          clear hp4 hg4 htd hargs
          obtain ⟨r0, r1, r2, q0, q1, q2, hRz⟩ := box3 (P := P) HPP.out HG2.out
          go_wp2_with fail
          refine bodyPost_ret (v := .agg #[.bool false, .string s, .slice a2 l.length k2]) (by simp [results, Tryd.results98, go_sem, r0, r1, r2, hPW, hWP, hRz]) rfl ?_
          rw [HQ.out]
          have hgw : GP P W w4 := (GP.of HB.out).tr HG2.out
          exact ⟨_, rfl, ⟨a2, k2, rfl, ok_str HS.out, HTD.out.keep (fun b hb q => (own_put3 (R := W.heap.size) (lo := w3.heap.size) (by have := HZ4.out; omega) _ _ _).1 b hb q) (fun b hb => ⟨by have := HZ4.out; have := hb.1; omega, by simpa using hb.2⟩)⟩, H2.out.put3 (R := W.heap.size) HPP.out _ _ _, put3_grow hgw (Nat.le_refl _) _ _ _⟩
        | er a e0 =>
          rw [hx] at hargs HQ
          clear hx
          go_wp2_with fail
          refine hargs.mono ?_
          rintro e w4 ⟨rfl, hg4⟩
          refine ⟨rfl, ?_⟩
          rw [HQ.out]
          exact ⟨rfl, ((GP.of HB.out).tr HG3.out).tr hg4⟩
      | false =>
        rw [hf] at hck
        simp only [hf, Bool.false_eq_true, if_false] at hQ
        have HNAME := Lib.hid (fun W1 (h1 : PSt W1 P m n ts) => nameF_c P n m ts false hck (fun e => absurd e (by decide)) W1 h1)
        unfold NameQ at HNAME
        simp only [Bool.false_eq_true, if_false] at HNAME
        clear hf hck hA
        have H0 := Lib.hid h0
        have HB := Lib.hid hb0
        have HS := Lib.hid hsz
        have HQ := Lib.hid hQ
        have HPP := Lib.hid hP
        have hPW : ¬ P = W.heap.size := Nat.ne_of_lt hP
        have hWP : ¬ W.heap.size = P := fun e => hPW e.symm
        clear hQ h0 h hb0 hsz hn
        generalize tx ts = s at *
        go_enter Tryd.func98, Tryd.ntmps98
        go_wp2_with fail
        refine hsh.mono ?_
        rintro e w1 ⟨rfl, rfl⟩
        go_wp2_with fail
        refine htx.mono ?_
        rintro e w1 ⟨rfl, rfl⟩
        go_wp2_with fail
        refine (hv _).mono ?_
        rintro e w1 ⟨rfl, hb1⟩
        have h1 := H0.out.grow hb1
        have hmt1 := hmt w1 h1
        have HB1 := Lib.hid hb1
        clear hb1 h1 hmt
        go_wp2_with fail
        refine hmt1.mono ?_
        rintro e w2 ⟨rfl, hb2⟩
        have hb3 := HB1.out.trans (hb2.mono HB1.out.size)
        clear hb2
        have H1 := Lib.hid (H0.out.grow hb3)
        have HG1 := Lib.hid (GP.of (P := P) hb3)
        clear hb3
        have hp := HNAME.out _ H1.out
        clear HNAME
        go_wp2_with fail
        refine hp.mono ?_
        rintro e w3 ⟨rfl, hg3⟩
        refine ⟨rfl, ?_⟩
        rw [HQ.out]
        exact ⟨rfl, ((GP.of HB.out).tr HG1.out).tr hg3⟩
end Go.Proofs.YtkeckecdhcknhaaDoor.Ps
