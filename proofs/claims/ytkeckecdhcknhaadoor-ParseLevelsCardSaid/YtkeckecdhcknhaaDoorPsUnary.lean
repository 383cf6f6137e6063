/-
  The contract of unary, given those of basic and of shorter unaries.
-/
import Derived.Test.YtkeckecdhcknhaaDoorPsBasic
import Derived.Test.YtkeckecdhcknhaaDoorPsNest2
import Derived.Test.YtkeckecdhcknhaaDoorPsBox
namespace Go.Proofs.YtkeckecdhcknhaaDoor.Ps
open Go Go.RowKit Go.Shelf Go.Proofs.YtkeckecdhcknhaaDoor.Fm Go.Proofs.YtkeckecdhcknhaaDoor.Lx
set_option linter.unusedVariables false
set_option linter.unusedSimpArgs false
theorem unOp_rng (s : ByteArray) : 0 ≤ unOp s ∧ unOp s ≤ 255 := by
  unfold unOp
  repeat' split
  all_goals omega
/-- One formula in a row of its own. -/
theorem fval_one {lo g : Nat} {w : World} (o : Int) (n : ByteArray) (ho : 0 ≤ o ∧ o ≤ 255) (hn : okStr n) {a : Fo} {a2 a3 : Option Addr} {k2 k3 : Nat} (hg : Own lo w g)
    (h : FVal lo w (.agg #[.int .u8 a.op, .string a.n, .slice a2 a.args.length k2, .slice a3 a.sub.length k3]) a)
    (hc : ∀ j u, [Value.int .u8 a.op, .string a.n, .slice a2 a.args.length k2, .slice a3 a.sub.length k3][j]? = some u → w.cell? ⟨g, j, none⟩ = some u) :
    FVal lo w (.agg #[.int .u8 o, .string n, .slice none 0 0, .slice (some ⟨g, 0, none⟩) 1 1]) (.mk o n [] [a]) := by
  obtain ⟨b2, c2, b3, c3, he, ho', hn', h2, h3⟩ := h
  simp only [Value.agg.injEq, Array.mk.injEq, List.cons.injEq, Value.slice.injEq, true_and, and_true] at he
  obtain ⟨⟨rfl, rfl⟩, rfl, rfl⟩ := he
  refine ⟨none, 0, some ⟨g, 0, none⟩, 1, rfl, ho, hn, nil_ts _ _, ⟨some ⟨g, 0, none⟩, 1, g, 0, rfl, by simp [Fo.sub], .inr ⟨rfl, hg⟩, ?_⟩⟩
  exact RowF.fsD (RowF.snoc (l := []) ho' hn' h2 h3 rfl) fun j u hj => by rw [Nat.zero_add]; exact hc j u hj
set_option maxRecDepth 20000 in
set_option maxHeartbeats 2000000 in
theorem unary_of (P : Nat) (m : Bool) (n : Nat) (ts : List Tg) (hB : BasQ P m n ts) (hU : ∀ r : List Tg, r.length < ts.length → UnQ P m (n + 1) r) : UnQ P m n ts := by
  intro W h
  have hsz := h.ok.size
  have hP := h.lt
  have hbd := h.bd
  have hb0 : Below W.heap.size W (W.alloc (.cells #[.int .u8 0, .string ⟨#[]⟩, .slice none 0 0, .slice none 0 0] 25)) := (Below.refl _ _).alloc (Nat.le_refl _) _
  have h0 := h.grow hb0
  have hsh := shallow_c P n m ts _ h0
  obtain ⟨Q, hQ⟩ : ∃ Q : Ending → World → Prop, Q = RuQ FVal W P n m (unC m n ts) := ⟨_, rfl⟩
  rw [← hQ]
  rw [unC_eq] at hQ
  have HB := Lib.hid hb0
  have HPP := Lib.hid hP
  by_cases hn : 120 < n
  · simp only [if_pos hn] at hsh hQ
    have HQ := Lib.hid hQ
    clear hQ h0 h hB hU hb0 hn
    go_enter Tryd.func45, Tryd.ntmps45
    go_wp2_with fail
    refine hsh.mono ?_
    rintro e w1 ⟨rfl, rfl⟩
    refine ⟨rfl, ?_⟩
    rw [HQ.out]
    exact ⟨rfl, GP.of HB.out⟩
  simp only [if_neg hn] at hsh hQ
  have HTX := Lib.hid (fun k => text_c P n m ts _ (h0.drewN k))
  obtain ⟨B, u1, u2, u3⟩ := h0.un
  have hlk := fun k => map_look (W := (W.alloc (.cells #[.int .u8 0, .string ⟨#[]⟩, .slice none 0 0, .slice none 0 0] 25)).drewN k) (B := B) (by have := (Below.drewN (Below.refl _ (W.alloc (.cells #[.int .u8 0, .string ⟨#[]⟩, .slice none 0 0, .slice none 0 0] 25))) k).block B u3.lt; exact this.trans u3) (tx ts)
  have HBAS := Lib.hid (fun k => hB _ (h0.drewN k))
  have H0 := Lib.hid h0
  have HTS := Lib.hid h.ok
  have HU := Lib.hid hU
  have hPW : ¬ P = W.heap.size := Nat.ne_of_lt hP
  have hWP : ¬ W.heap.size = P := fun e => hPW e.symm
  by_cases ho : unOp (tx ts) = 0
  · rw [ho] at hlk
    simp only [if_pos ho] at hQ
    rw [show ((0 : Int) != 0) = false from rfl] at hlk
    have HQ := Lib.hid hQ
    clear hQ h0 h hB hU hb0 hn ho hsz hbd u3
    generalize tx ts = s at *
    go_enter Tryd.func45, Tryd.ntmps45
    go_wp2_with fail
    refine hsh.mono ?_
    rintro e w1 ⟨rfl, rfl⟩
    go_wp2_with fail
    go_quiet ((exact Calls.quiet_of_same ((HTX.out _).mono fun e w' h => ⟨h.1, h.2.symm⟩)))
    go_wp2_with fail
    have hb := HBAS.out nq
    have HGQ := Lib.hid ((GP.of HB.out).tr (GP.of (P := P) (Below.drewN (Below.refl _ _) nq)))
    have HR := Lib.hid ((Bx4.new W (.int .u8 0) (.string ⟨#[]⟩) (.slice none 0 0) (.slice none 0 0) 25).go (P := P) (GP.of (Below.drewN (Below.refl _ _) nq)) hWP)
    clear HBAS
    cases hx : basC m n ts with
    | er a e0 =>
      rw [hx] at hb HQ
      clear hx
      refine hb.mono ?_
      rintro e w4 ⟨rfl, hg4⟩
      refine ⟨rfl, ?_⟩
      rw [HQ.out]
      exact ⟨rfl, HGQ.out.tr hg4⟩
    | ok a r =>
      rw [hx] at hb HQ
      clear hx
      refine hb.mono ?_
      rintro e w4 ⟨v, rfl, hv, hp4, hg4⟩
      have HV := Lib.hid hv
      obtain ⟨a2, k2, a3, k3, rfl, HREST⟩ := hv
      obtain ⟨r0, r1, r2', r3', q0, q1, q2, q3, hRz⟩ := HR.out.go hg4 hWP
      have HP4 := Lib.hid hp4
      have HG4 := Lib.hid (HGQ.out.tr hg4)
      clear hp4 hg4 HREST hb
      go_wp2_with fail
      refine bodyPost_ret (v := .agg #[.int .u8 a.op, .string a.n, .slice a2 a.args.length k2, .slice a3 a.sub.length k3]) (by simp [results, Tryd.results45, go_sem, r0, r1, r2', r3', hRz]) rfl ?_
      rw [HQ.out]
      obtain ⟨e1, e2, e3⟩ := put_res HV.out HP4.out HG4.out HPP.out (R := W.heap.size) (Nat.le_refl _) (by simp) (.int .u8 a.op) (.string a.n) (.slice a2 a.args.length k2) (.slice a3 a.sub.length k3)
      exact ⟨_, rfl, e1, e2, e3⟩
  have HDL := Lib.hid (drop_tx (unOp_ne ho))
  have HNE := Lib.hid (unOp_ne ho)
  have HRNG := Lib.hid (unOp_rng (tx ts))
  have HBD := Lib.hid hbd
  simp only [if_neg ho] at hQ
  by_cases h8 : unOp (tx ts) = 8
  · rw [h8] at hlk HRNG
    simp only [h8, true_or, if_true] at hQ
    rw [show ((8 : Int) != 0) = true from rfl] at hlk
    clear h8
    have HQ := Lib.hid hQ
    clear hQ h0 h hB hU hb0 hn ho hsz hbd u3 HBAS
    have HPS := Lib.hid (fun W1 (h1 : PSt W1 P m n ts) => pass_c P n m ts W1 h1 HNE.out)
    generalize tx ts = s at *
    obtain ⟨r, hr⟩ : ∃ r, ts.drop 1 = r := ⟨_, rfl⟩
    rw [hr] at HPS HQ HDL
    go_enter Tryd.func45, Tryd.ntmps45
    go_wp2_with fail
    refine hsh.mono ?_
    rintro e w1 ⟨rfl, rfl⟩
    go_wp2_with fail
    go_quiet ((exact Calls.quiet_of_same ((HTX.out _).mono fun e w' h => ⟨h.1, h.2.symm⟩)))
    go_wp2_with fail
    have hGQ := (GP.of HB.out).tr (GP.of (P := P) (Below.drewN (Below.refl _ _) nq))
    have HR := Lib.hid ((Bx4.new W (.int .u8 0) (.string ⟨#[]⟩) (.slice none 0 0) (.slice none 0 0) 25).go (P := P) (GP.of (Below.drewN (Below.refl _ _) nq)) hWP)
    have hpq := H0.out.drewN nq
    have hps := HPS.out _ hpq
    have HGQ := Lib.hid hGQ
    clear hGQ hpq HPS
    refine hps.mono ?_
    rintro e w3 ⟨rfl, hp3, hg3⟩
    have HR3 := Lib.hid (HR.out.go hg3 hWP)
    have HG3 := Lib.hid (HGQ.out.tr hg3)
    have HP3 := Lib.hid hp3
    have HZ3 := Lib.hid (show W.heap.size + 1 ≤ w3.heap.size by have := hg3.size; simp at this; omega)
    clear hp3 hg3 hps HR HGQ
    have hal : Below w3.heap.size w3 (w3.alloc (.cells #[.int .u8 8, .string ⟨#[]⟩, .slice none 0 0, .slice none 0 0] 25)) := (Below.refl _ _).alloc (Nat.le_refl _) _
    have hp3' := HP3.out.grow hal
    have hnm := nameV_c P n m r (varB (tx r)) (fun W1 _ => variable_c (tx r) W1 (by have := hp3'.ok.size; omega)) varB_ne _ hp3'
    have HS1 := Lib.hid hp3'.ok.size
    have HAL := Lib.hid hal
    unfold NameQ at hnm
    obtain ⟨r', hr'⟩ : ∃ r', r.drop 1 = r' := ⟨_, rfl⟩
    rw [hr'] at hnm
    have HDD := Lib.hid (show ts.drop 2 = r' by rw [← hr', ← hr, List.drop_drop])
    have HDL2 := Lib.hid (show r'.length ≤ r.length by rw [← hr']; simp)
    rw [HDD.out] at HQ
    generalize tx r = s1 at *
    clear hal hp3' hr hr'
    cases hv : varB s1 with
    | false =>
      rw [hv] at hnm HQ
      simp only [Bool.false_eq_true, if_false] at hnm HQ
      clear hv
      go_wp2_with fail
      refine hnm.mono ?_
      rintro e w4 ⟨rfl, hg4⟩
      refine ⟨rfl, ?_⟩
      rw [HQ.out]
      exact ⟨rfl, HG3.out.tr ((GP.of HAL.out).tr hg4)⟩
    | true =>
      rw [hv] at hnm HQ
      simp only [if_true] at hnm HQ
      clear hv
      go_wp2_with fail
      refine hnm.mono ?_
      rintro e w4 ⟨rfl, hp4, hg4⟩
      have hbxR := (HR3.out.alloc (.cells #[.int .u8 8, .string ⟨#[]⟩, .slice none 0 0, .slice none 0 0] 25)).go hg4 hWP
      have hLP : w3.heap.size ≠ P := by have := HP3.out.lt; omega
      have hbxL := (Bx4.new w3 (.int .u8 8) (.string ⟨#[]⟩) (.slice none 0 0) (.slice none 0 0) 25).go hg4 hLP
      have hbw : Below w3.heap.size w4 (w4.setCell ⟨w3.heap.size, 1, none⟩ (.string s1)) := (Below.refl _ _).setCell (p := ⟨w3.heap.size, 1, none⟩) (Nat.le_refl _) _
      have HBXR := Lib.hid (hbxR.other ⟨w3.heap.size, 1, none⟩ (.string s1) (by have := HZ3.out; show W.heap.size ≠ w3.heap.size; omega))
      have HBXL := Lib.hid (hbxL.set1 (.string s1))
      have HPN := Lib.hid (hp4.new hbw HP3.out.lt)
      have HGN := Lib.hid (HG3.out.tr ((GP.of HAL.out).tr hg4) |>.new (hbw.mono (by have := HZ3.out; omega)))
      have l0 := hbxL.c1
      have l1 := hbxL.f1
      have hLz := hbxL.lt
      have HZN := Lib.hid (show w3.heap.size < (w4.setCell ⟨w3.heap.size, 1, none⟩ (.string s1)).heap.size by simpa using hbxL.lt)
      have HLP := Lib.hid hLP
      clear hp4 hg4 hnm hbxR hbxL hLP hbw
      have hn := nestUnP_c P n m r' (unC m (n + 1) r') _ HPN.out (by have := HBD.out; have := HDL.out; have := HDL2.out; omega) (fun a r2 e => Nat.le_of_lt (unC_len m (n + 1) r' a r2 e)) fun W1 h1 _ => HU.out r' (by have := HDL.out; have := HDL2.out; omega) W1 h1
      cases hx : unC m (n + 1) r' with
      | er a e0 =>
        rw [hx] at hn HQ
        clear hx
        go_wp2_with fail
        refine hn.mono ?_
        rintro e w5 ⟨rfl, hg5⟩
        refine ⟨rfl, ?_⟩
        rw [HQ.out]
        exact ⟨rfl, HGN.out.tr hg5⟩
      | ok a r2 =>
        rw [hx] at hn HQ
        clear hx
        go_wp2_with fail
        refine hn.mono ?_
        rintro e w5 ⟨v, rfl, hv, hp5, hg5⟩
        have HV := Lib.hid hv
        obtain ⟨a2, k2, a3, k3, rfl, HREST⟩ := hv
        have hbL := HBXL.out.go hg5 HLP.out
        have HBL := Lib.hid hbL
        have HBR := Lib.hid (HBXR.out.go hg5 hWP)
        have HP5 := Lib.hid hp5
        have HG5 := Lib.hid (HGN.out.tr hg5)
        have HZ5 := Lib.hid hg5.size
        have m3 := hbL.c3
        have n3 := hbL.f3
        have hLz5 := hbL.lt
        clear hp5 hg5 HREST hn hbL l0 l1 hLz
        go_upto_region 10 with fail
        generalize hX : ((w5.setCell ⟨w3.heap.size, 3, none⟩ (.slice (some ⟨w5.heap.size, 0, none⟩) 1 1)).alloc (.cells #[.int .u8 a.op, .string a.n, .slice a2 a.args.length k2, .slice a3 a.sub.length k3] 25)) = X
        have hXL : Bx4 X w3.heap.size (.int .u8 8) (.string s1) (.slice none 0 0) (.slice (some ⟨w5.heap.size, 0, none⟩) 1 1) := by rw [← hX]; exact (HBL.out.set3 _).alloc _
        have hXR : Bx4 X W.heap.size (.int .u8 0) (.string ⟨#[]⟩) (.slice none 0 0) (.slice none 0 0) := by rw [← hX]; exact (HBR.out.other ⟨w3.heap.size, 3, none⟩ _ (by have := HZ3.out; show W.heap.size ≠ w3.heap.size; omega)).alloc _
        have hbX : Below w3.heap.size w5 X := by rw [← hX]; exact ((Below.refl _ _).setCell (p := ⟨w3.heap.size, 3, none⟩) (Nat.le_refl _) _).alloc (by simp; omega) _
        have hcX : ∀ j u, [Value.int .u8 a.op, .string a.n, .slice a2 a.args.length k2, .slice a3 a.sub.length k3][j]? = some u → X.cell? ⟨w5.heap.size, j, none⟩ = some u := fun j u hj => by
          rw [← hX, World.cell?_alloc_at _ _ _ _ (by simp), ← hj]
          simp
        have hzX : X.heap.size = w5.heap.size + 1 := by rw [← hX]; simp
        have hvX : FVal ((w4.setCell ⟨w3.heap.size, 1, none⟩ (.string s1))).heap.size X (.agg #[.int .u8 a.op, .string a.n, .slice a2 a.args.length k2, .slice a3 a.sub.length k3]) a := by
          have hgX : Grow (fun b => b = w3.heap.size) w5 X := by
            rw [← hX]
            exact Grow.alloc (Grow.setCell (O := fun b => b = w3.heap.size) _ _ rfl) _
          exact HV.out.keep (P := w3.heap.size) hgX HZN.out (Nat.le_refl _)
        have HPX := Lib.hid (HP5.out.new hbX HP3.out.lt)
        have HGX := Lib.hid (HG5.out.new (hbX.mono (by have := HZ3.out; omega)))
        have HVX := Lib.hid (fval_one (g := w5.heap.size) (8) s1 HRNG.out (ok_str HS1.out) ⟨HZ5.out, by omega⟩ hvX hcX)
        obtain ⟨r0, r1, r2', r3', q0, q1, q2, q3, hRz⟩ := hXR
        obtain ⟨l0, l1, l2, l3, _, _, _, _, hLz⟩ := hXL
        clear hX hbX hcX hzX hvX m3 n3 hLz5
        go_wp2_with fail
        refine bodyPost_ret (v := .agg #[.int .u8 8, .string s1, .slice none 0 0, .slice (some ⟨w5.heap.size, 0, none⟩) 1 1]) (by simp [results, Tryd.results45, go_sem, r0, r1, r2', r3', hRz]) rfl ?_
        rw [HQ.out]
        obtain ⟨e1, e2, e3⟩ := put_res HVX.out HPX.out HGX.out HPP.out (R := W.heap.size) (Nat.le_refl _) (by have := HZ3.out; have := HZN.out; omega) (.int .u8 8) (.string s1) (.slice none 0 0) (.slice (some ⟨w5.heap.size, 0, none⟩) 1 1)
        exact ⟨_, rfl, e1, e2, e3⟩
  by_cases h9 : unOp (tx ts) = 9
  · rw [h9] at hlk HRNG
    simp only [h9, or_true, if_true] at hQ
    rw [show ((9 : Int) != 0) = true from rfl] at hlk
    clear h9 h8
    have HQ := Lib.hid hQ
    clear hQ h0 h hB hU hb0 hn ho hsz hbd u3 HBAS
    have HPS := Lib.hid (fun W1 (h1 : PSt W1 P m n ts) => pass_c P n m ts W1 h1 HNE.out)
    generalize tx ts = s at *
    obtain ⟨r, hr⟩ : ∃ r, ts.drop 1 = r := ⟨_, rfl⟩
    rw [hr] at HPS HQ HDL
    go_enter Tryd.func45, Tryd.ntmps45
    go_wp2_with fail
    refine hsh.mono ?_
    rintro e w1 ⟨rfl, rfl⟩
    go_wp2_with fail
    go_quiet ((exact Calls.quiet_of_same ((HTX.out _).mono fun e w' h => ⟨h.1, h.2.symm⟩)))
    go_wp2_with fail
    have hGQ := (GP.of HB.out).tr (GP.of (P := P) (Below.drewN (Below.refl _ _) nq))
    have HR := Lib.hid ((Bx4.new W (.int .u8 0) (.string ⟨#[]⟩) (.slice none 0 0) (.slice none 0 0) 25).go (P := P) (GP.of (Below.drewN (Below.refl _ _) nq)) hWP)
    have hpq := H0.out.drewN nq
    have hps := HPS.out _ hpq
    have HGQ := Lib.hid hGQ
    clear hGQ hpq HPS
    refine hps.mono ?_
    rintro e w3 ⟨rfl, hp3, hg3⟩
    have HR3 := Lib.hid (HR.out.go hg3 hWP)
    have HG3 := Lib.hid (HGQ.out.tr hg3)
    have HP3 := Lib.hid hp3
    have HZ3 := Lib.hid (show W.heap.size + 1 ≤ w3.heap.size by have := hg3.size; simp at this; omega)
    clear hp3 hg3 hps HR HGQ
    have hal : Below w3.heap.size w3 (w3.alloc (.cells #[.int .u8 9, .string ⟨#[]⟩, .slice none 0 0, .slice none 0 0] 25)) := (Below.refl _ _).alloc (Nat.le_refl _) _
    have hp3' := HP3.out.grow hal
    have hnm := nameV_c P n m r (varB (tx r)) (fun W1 _ => variable_c (tx r) W1 (by have := hp3'.ok.size; omega)) varB_ne _ hp3'
    have HS1 := Lib.hid hp3'.ok.size
    have HAL := Lib.hid hal
    unfold NameQ at hnm
    obtain ⟨r', hr'⟩ : ∃ r', r.drop 1 = r' := ⟨_, rfl⟩
    rw [hr'] at hnm
    have HDD := Lib.hid (show ts.drop 2 = r' by rw [← hr', ← hr, List.drop_drop])
    have HDL2 := Lib.hid (show r'.length ≤ r.length by rw [← hr']; simp)
    rw [HDD.out] at HQ
    generalize tx r = s1 at *
    clear hal hp3' hr hr'
    cases hv : varB s1 with
    | false =>
      rw [hv] at hnm HQ
      simp only [Bool.false_eq_true, if_false] at hnm HQ
      clear hv
      go_wp2_with fail
      refine hnm.mono ?_
      rintro e w4 ⟨rfl, hg4⟩
      refine ⟨rfl, ?_⟩
      rw [HQ.out]
      exact ⟨rfl, HG3.out.tr ((GP.of HAL.out).tr hg4)⟩
    | true =>
      rw [hv] at hnm HQ
      simp only [if_true] at hnm HQ
      clear hv
      go_wp2_with fail
      refine hnm.mono ?_
      rintro e w4 ⟨rfl, hp4, hg4⟩
      have hbxR := (HR3.out.alloc (.cells #[.int .u8 9, .string ⟨#[]⟩, .slice none 0 0, .slice none 0 0] 25)).go hg4 hWP
      have hLP : w3.heap.size ≠ P := by have := HP3.out.lt; omega
      have hbxL := (Bx4.new w3 (.int .u8 9) (.string ⟨#[]⟩) (.slice none 0 0) (.slice none 0 0) 25).go hg4 hLP
      have hbw : Below w3.heap.size w4 (w4.setCell ⟨w3.heap.size, 1, none⟩ (.string s1)) := (Below.refl _ _).setCell (p := ⟨w3.heap.size, 1, none⟩) (Nat.le_refl _) _
      have HBXR := Lib.hid (hbxR.other ⟨w3.heap.size, 1, none⟩ (.string s1) (by have := HZ3.out; show W.heap.size ≠ w3.heap.size; omega))
      have HBXL := Lib.hid (hbxL.set1 (.string s1))
      have HPN := Lib.hid (hp4.new hbw HP3.out.lt)
      have HGN := Lib.hid (HG3.out.tr ((GP.of HAL.out).tr hg4) |>.new (hbw.mono (by have := HZ3.out; omega)))
      have l0 := hbxL.c1
      have l1 := hbxL.f1
      have hLz := hbxL.lt
      have HZN := Lib.hid (show w3.heap.size < (w4.setCell ⟨w3.heap.size, 1, none⟩ (.string s1)).heap.size by simpa using hbxL.lt)
      have HLP := Lib.hid hLP
      clear hp4 hg4 hnm hbxR hbxL hLP hbw
      have hn := nestUnP_c P n m r' (unC m (n + 1) r') _ HPN.out (by have := HBD.out; have := HDL.out; have := HDL2.out; omega) (fun a r2 e => Nat.le_of_lt (unC_len m (n + 1) r' a r2 e)) fun W1 h1 _ => HU.out r' (by have := HDL.out; have := HDL2.out; omega) W1 h1
      cases hx : unC m (n + 1) r' with
      | er a e0 =>
        rw [hx] at hn HQ
        clear hx
        go_wp2_with fail
        refine hn.mono ?_
        rintro e w5 ⟨rfl, hg5⟩
        refine ⟨rfl, ?_⟩
        rw [HQ.out]
        exact ⟨rfl, HGN.out.tr hg5⟩
      | ok a r2 =>
        rw [hx] at hn HQ
        clear hx
        go_wp2_with fail
        refine hn.mono ?_
        rintro e w5 ⟨v, rfl, hv, hp5, hg5⟩
        have HV := Lib.hid hv
        obtain ⟨a2, k2, a3, k3, rfl, HREST⟩ := hv
        have hbL := HBXL.out.go hg5 HLP.out
        have HBL := Lib.hid hbL
        have HBR := Lib.hid (HBXR.out.go hg5 hWP)
        have HP5 := Lib.hid hp5
        have HG5 := Lib.hid (HGN.out.tr hg5)
        have HZ5 := Lib.hid hg5.size
        have m3 := hbL.c3
        have n3 := hbL.f3
        have hLz5 := hbL.lt
        clear hp5 hg5 HREST hn hbL l0 l1 hLz
        go_upto_region 10 with fail
        generalize hX : ((w5.setCell ⟨w3.heap.size, 3, none⟩ (.slice (some ⟨w5.heap.size, 0, none⟩) 1 1)).alloc (.cells #[.int .u8 a.op, .string a.n, .slice a2 a.args.length k2, .slice a3 a.sub.length k3] 25)) = X
        have hXL : Bx4 X w3.heap.size (.int .u8 9) (.string s1) (.slice none 0 0) (.slice (some ⟨w5.heap.size, 0, none⟩) 1 1) := by rw [← hX]; exact (HBL.out.set3 _).alloc _
        have hXR : Bx4 X W.heap.size (.int .u8 0) (.string ⟨#[]⟩) (.slice none 0 0) (.slice none 0 0) := by rw [← hX]; exact (HBR.out.other ⟨w3.heap.size, 3, none⟩ _ (by have := HZ3.out; show W.heap.size ≠ w3.heap.size; omega)).alloc _
        have hbX : Below w3.heap.size w5 X := by rw [← hX]; exact ((Below.refl _ _).setCell (p := ⟨w3.heap.size, 3, none⟩) (Nat.le_refl _) _).alloc (by simp; omega) _
        have hcX : ∀ j u, [Value.int .u8 a.op, .string a.n, .slice a2 a.args.length k2, .slice a3 a.sub.length k3][j]? = some u → X.cell? ⟨w5.heap.size, j, none⟩ = some u := fun j u hj => by
          rw [← hX, World.cell?_alloc_at _ _ _ _ (by simp), ← hj]
          simp
        have hzX : X.heap.size = w5.heap.size + 1 := by rw [← hX]; simp
        have hvX : FVal ((w4.setCell ⟨w3.heap.size, 1, none⟩ (.string s1))).heap.size X (.agg #[.int .u8 a.op, .string a.n, .slice a2 a.args.length k2, .slice a3 a.sub.length k3]) a := by
          have hgX : Grow (fun b => b = w3.heap.size) w5 X := by
            rw [← hX]
            exact Grow.alloc (Grow.setCell (O := fun b => b = w3.heap.size) _ _ rfl) _
          exact HV.out.keep (P := w3.heap.size) hgX HZN.out (Nat.le_refl _)
        have HPX := Lib.hid (HP5.out.new hbX HP3.out.lt)
        have HGX := Lib.hid (HG5.out.new (hbX.mono (by have := HZ3.out; omega)))
        have HVX := Lib.hid (fval_one (g := w5.heap.size) (9) s1 HRNG.out (ok_str HS1.out) ⟨HZ5.out, by omega⟩ hvX hcX)
        obtain ⟨r0, r1, r2', r3', q0, q1, q2, q3, hRz⟩ := hXR
        obtain ⟨l0, l1, l2, l3, _, _, _, _, hLz⟩ := hXL
        clear hX hbX hcX hzX hvX m3 n3 hLz5
        go_wp2_with fail
        refine bodyPost_ret (v := .agg #[.int .u8 9, .string s1, .slice none 0 0, .slice (some ⟨w5.heap.size, 0, none⟩) 1 1]) (by simp [results, Tryd.results45, go_sem, r0, r1, r2', r3', hRz]) rfl ?_
        rw [HQ.out]
        obtain ⟨e1, e2, e3⟩ := put_res HVX.out HPX.out HGX.out HPP.out (R := W.heap.size) (Nat.le_refl _) (by have := HZ3.out; have := HZN.out; omega) (.int .u8 9) (.string s1) (.slice none 0 0) (.slice (some ⟨w5.heap.size, 0, none⟩) 1 1)
        exact ⟨_, rfl, e1, e2, e3⟩
  simp only [h8, h9, or_self, if_false] at hQ
  have hne0 : (unOp (tx ts) != 0) = true := bne_iff_ne.2 ho
  rw [hne0] at hlk
  have e8 : (unOp (tx ts) == 8) = false := beq_eq_false_iff_ne.2 h8
  have e9 : (unOp (tx ts) == 9) = false := beq_eq_false_iff_ne.2 h9
  generalize unOp (tx ts) = o at *
  clear h8 h9 hne0
  have HQ := Lib.hid hQ
  clear hQ h0 h hB hU hb0 hn ho hsz hbd u3 HBAS
  have HPS := Lib.hid (fun W1 (h1 : PSt W1 P m n ts) => pass_c P n m ts W1 h1 HNE.out)
  generalize tx ts = s at *
  obtain ⟨r, hr⟩ : ∃ r, ts.drop 1 = r := ⟨_, rfl⟩
  rw [hr] at HPS HQ HDL
  go_enter Tryd.func45, Tryd.ntmps45
  go_wp2_with fail
  refine hsh.mono ?_
  rintro e w1 ⟨rfl, rfl⟩
  go_wp2_with fail
  go_quiet ((exact Calls.quiet_of_same ((HTX.out _).mono fun e w' h => ⟨h.1, h.2.symm⟩)))
  go_wp2_with fail
  have hGQ := (GP.of HB.out).tr (GP.of (P := P) (Below.drewN (Below.refl _ _) nq))
  have HR := Lib.hid ((Bx4.new W (.int .u8 0) (.string ⟨#[]⟩) (.slice none 0 0) (.slice none 0 0) 25).go (P := P) (GP.of (Below.drewN (Below.refl _ _) nq)) hWP)
  have hpq := H0.out.drewN nq
  have hps := HPS.out _ hpq
  have HGQ := Lib.hid hGQ
  clear hGQ hpq HPS
  refine hps.mono ?_
  rintro e w3 ⟨rfl, hp3, hg3⟩
  have HR3 := Lib.hid (HR.out.go hg3 hWP)
  have HG3 := Lib.hid (HGQ.out.tr hg3)
  have HP3 := Lib.hid hp3
  have HZ3 := Lib.hid (show W.heap.size + 1 ≤ w3.heap.size by have := hg3.size; simp at this; omega)
  clear hp3 hg3 hps HR HGQ
  have hal : Below w3.heap.size w3 (w3.alloc (.cells #[.int .u8 o, .string ⟨#[]⟩, .slice none 0 0, .slice none 0 0] 25)) := (Below.refl _ _).alloc (Nat.le_refl _) _
  have hLP : w3.heap.size ≠ P := by have := HP3.out.lt; omega
  have HPN := Lib.hid (HP3.out.grow hal)
  have HGN := Lib.hid (HG3.out.tr (GP.of hal))
  have HBXR := Lib.hid (HR3.out.alloc (.cells #[.int .u8 o, .string ⟨#[]⟩, .slice none 0 0, .slice none 0 0] 25))
  have HBXL := Lib.hid (Bx4.new w3 (.int .u8 o) (.string ⟨#[]⟩) (.slice none 0 0) (.slice none 0 0) 25)
  have HZN := Lib.hid (show w3.heap.size < (w3.alloc (.cells #[.int .u8 o, .string ⟨#[]⟩, .slice none 0 0, .slice none 0 0] 25)).heap.size by simp)
  have HLP := Lib.hid hLP
  clear hal hLP hr
  have hn := nestUnP_c P n m r (unC m (n + 1) r) _ HPN.out (by have := HBD.out; have := HDL.out; omega) (fun a r2 e => Nat.le_of_lt (unC_len m (n + 1) r a r2 e)) fun W1 h1 _ => HU.out r (by have := HDL.out; omega) W1 h1
  cases hx : unC m (n + 1) r with
  | er a e0 =>
    rw [hx] at hn HQ
    clear hx
    go_wp2_with fail
    refine hn.mono ?_
    rintro e w5 ⟨rfl, hg5⟩
    refine ⟨rfl, ?_⟩
    rw [HQ.out]
    exact ⟨rfl, HGN.out.tr hg5⟩
  | ok a r2 =>
    rw [hx] at hn HQ
    clear hx
    go_wp2_with fail
    refine hn.mono ?_
    rintro e w5 ⟨v, rfl, hv, hp5, hg5⟩
    have HV := Lib.hid hv
    obtain ⟨a2, k2, a3, k3, rfl, HREST⟩ := hv
    have hbL := HBXL.out.go hg5 HLP.out
    have HBL := Lib.hid hbL
    have HBR := Lib.hid (HBXR.out.go hg5 hWP)
    have HP5 := Lib.hid hp5
    have HG5 := Lib.hid (HGN.out.tr hg5)
    have HZ5 := Lib.hid hg5.size
    have m3 := hbL.c3
    have n3 := hbL.f3
    have hLz5 := hbL.lt
    clear hp5 hg5 HREST hn hbL
    go_upto_region 10 with fail
    generalize hX : ((w5.setCell ⟨w3.heap.size, 3, none⟩ (.slice (some ⟨w5.heap.size, 0, none⟩) 1 1)).alloc (.cells #[.int .u8 a.op, .string a.n, .slice a2 a.args.length k2, .slice a3 a.sub.length k3] 25)) = X
    have hXL : Bx4 X w3.heap.size (.int .u8 o) (.string ⟨#[]⟩) (.slice none 0 0) (.slice (some ⟨w5.heap.size, 0, none⟩) 1 1) := by rw [← hX]; exact (HBL.out.set3 _).alloc _
    have hXR : Bx4 X W.heap.size (.int .u8 0) (.string ⟨#[]⟩) (.slice none 0 0) (.slice none 0 0) := by rw [← hX]; exact (HBR.out.other ⟨w3.heap.size, 3, none⟩ _ (by have := HZ3.out; show W.heap.size ≠ w3.heap.size; omega)).alloc _
    have hbX : Below w3.heap.size w5 X := by rw [← hX]; exact ((Below.refl _ _).setCell (p := ⟨w3.heap.size, 3, none⟩) (Nat.le_refl _) _).alloc (by simp; omega) _
    have hcX : ∀ j u, [Value.int .u8 a.op, .string a.n, .slice a2 a.args.length k2, .slice a3 a.sub.length k3][j]? = some u → X.cell? ⟨w5.heap.size, j, none⟩ = some u := fun j u hj => by
      rw [← hX, World.cell?_alloc_at _ _ _ _ (by simp), ← hj]
      simp
    have hzX : X.heap.size = w5.heap.size + 1 := by rw [← hX]; simp
    have hvX : FVal ((w3.alloc (.cells #[.int .u8 o, .string ⟨#[]⟩, .slice none 0 0, .slice none 0 0] 25))).heap.size X (.agg #[.int .u8 a.op, .string a.n, .slice a2 a.args.length k2, .slice a3 a.sub.length k3]) a := by
      have hgX : Grow (fun b => b = w3.heap.size) w5 X := by
        rw [← hX]
        exact Grow.alloc (Grow.setCell (O := fun b => b = w3.heap.size) _ _ rfl) _
      exact HV.out.keep (P := w3.heap.size) hgX HZN.out (Nat.le_refl _)
    have HPX := Lib.hid (HP5.out.new hbX HP3.out.lt)
    have HGX := Lib.hid (HG5.out.new (hbX.mono (by have := HZ3.out; omega)))
    have HVX := Lib.hid (fval_one (g := w5.heap.size) o ⟨#[]⟩ HRNG.out (ok_str (by decide)) ⟨HZ5.out, by omega⟩ hvX hcX)
    obtain ⟨r0, r1, r2', r3', q0, q1, q2, q3, hRz⟩ := hXR
    obtain ⟨l0, l1, l2, l3, _, _, _, _, hLz⟩ := hXL
    clear hX hbX hcX hzX hvX m3 n3 hLz5
    go_wp2_with fail
    refine bodyPost_ret (v := .agg #[.int .u8 o, .string ⟨#[]⟩, .slice none 0 0, .slice (some ⟨w5.heap.size, 0, none⟩) 1 1]) (by simp [results, Tryd.results45, go_sem, r0, r1, r2', r3', hRz]) rfl ?_
    rw [HQ.out]
    obtain ⟨e1, e2, e3⟩ := put_res HVX.out HPX.out HGX.out HPP.out (R := W.heap.size) (Nat.le_refl _) (by have := HZ3.out; have := HZN.out; omega) (.int .u8 o) (.string ⟨#[]⟩) (.slice none 0 0) (.slice (some ⟨w5.heap.size, 0, none⟩) 1 1)
    exact ⟨_, rfl, e1, e2, e3⟩
end Go.Proofs.YtkeckecdhcknhaaDoor.Ps
