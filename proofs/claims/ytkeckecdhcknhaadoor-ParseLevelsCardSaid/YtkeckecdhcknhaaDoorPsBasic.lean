/-
  The contract of basic, given that of binary.
-/
import Derived.Test.YtkeckecdhcknhaaDoorMgForm
import Derived.Test.YtkeckecdhcknhaaDoorMgNest
namespace Go.Proofs.YtkeckecdhcknhaaDoor.Ps
open Go Go.RowKit Go.Shelf Go.Proofs.YtkeckecdhcknhaaDoor.Fm Go.Proofs.YtkeckecdhcknhaaDoor.Lx
set_option linter.unusedVariables false
set_option linter.unusedSimpArgs false
set_option maxRecDepth 20000 in
set_option maxHeartbeats 2000000 in
theorem basic_of (P : Nat) (m : Bool) (n : Nat) (ts : List Tg) (hB : is ts ⟨#[40]⟩ = true → BinQ P m 0 (n + 1) (ts.drop 1)) : BasQ P m n ts := by
  intro W h
  have hsz := h.ok.size
  have hP := h.lt
  have hbd := h.bd
  have hb0 : Below W.heap.size W (W.alloc (.cells #[.int .u8 0, .string ⟨#[]⟩, .slice none 0 0, .slice none 0 0] 25)) := (Below.refl _ _).alloc (Nat.le_refl _) _
  have h0 := h.grow hb0
  have hk := skip_c P n m ts ⟨#[40]⟩ (by decide) _ h0
  obtain ⟨Q, hQ⟩ : ∃ Q : Ending → World → Prop, Q = RuQ FVal W P n m (basC m n ts) := ⟨_, rfl⟩
  rw [← hQ]
  rw [basC_eq] at hQ
  unfold skT at hk
  have HB := Lib.hid hb0
  have HPP := Lib.hid hP
  have HSZ := Lib.hid hsz
  have hPW : ¬ P = W.heap.size := Nat.ne_of_lt hP
  have hWP : ¬ W.heap.size = P := fun e => hPW e.symm
  have HTS := Lib.hid h.ok
  cases hi : is ts ⟨#[40]⟩ with
  | true =>
    have hdl := drop_len hi (by decide)
    rw [hi] at hk
    simp only [hi, if_true] at hk hQ
    have HBI := Lib.hid (hB hi)
    obtain ⟨r, hr⟩ : ∃ r, ts.drop 1 = r := ⟨_, rfl⟩
    rw [hr] at hk hQ HBI hdl
    have HLT := Lib.hid (show n + 1 + r.length ≤ 30000 by omega)
    have HQ := Lib.hid hQ
    clear hb0 hP hsz hbd h h0 hB hi hr hdl hQ
    go_enter Tryd.func65, Tryd.ntmps65
    go_wp2_with fail
    refine hk.mono ?_
    rintro e w1 ⟨rfl, hp1, hg1⟩
    have hn := nestFormP_c P n m r (binC m 0 (n + 1) r) w1 hp1 HLT.out (fun a r2 e => Nat.le_of_lt (binC_len m 0 (n + 1) r a r2 e)) fun W1 h1 hg1 => formula_of P m (n + 1) r HBI.out W1 h1
    have HG1 := Lib.hid hg1
    have HP1 := Lib.hid hp1.lt
    clear hp1 hg1 hk HBI
    cases hx : binC m 0 (n + 1) r with
    | er a e0 =>
      rw [hx] at hn HQ
      clear hx
      go_wp2_with fail
      refine hn.mono ?_
      rintro e w2 ⟨rfl, hg2⟩
      refine ⟨rfl, ?_⟩
      rw [HQ.out]
      exact ⟨rfl, (GP.of HB.out).tr (HG1.out.tr hg2)⟩
    | ok a r2 =>
      rw [hx] at hn HQ
      simp only [R.bind] at HQ
      clear hx
      go_wp2_with fail
      refine hn.mono ?_
      rintro e w2 ⟨v, rfl, hv, hp2, hg2⟩
      have HV := Lib.hid hv
      obtain ⟨a2, k2, a3, k3, rfl, HREST⟩ := hv
      have HP2 := Lib.hid hp2
      have HG2 := Lib.hid (HG1.out.tr hg2)
      have HZ2 := Lib.hid hg2.size
      clear hp2 hg2 HREST hn
      go_upto_region 3 with fail
      generalize hX : w2.alloc (.cells #[.int .u8 a.op, .string a.n, .slice a2 a.args.length k2, .slice a3 a.sub.length k3] 25) = X
      have hal : Below w2.heap.size w2 X := by rw [← hX]; exact (Below.refl _ _).alloc (Nat.le_refl _) _
      have hpx := HP2.out.grow hal
      have hnd := need_c P n m r2 ⟨#[41]⟩ (by decide) X hpx
      have HGX := Lib.hid (HG2.out.tr (GP.of hal))
      have HAL := Lib.hid hal
      unfold NeedQ at hnd
      cases hi : is r2 ⟨#[41]⟩ with
      | false =>
        rw [hi] at hnd HQ
        simp only [Bool.false_eq_true, if_false] at hnd HQ
        clear hi hpx hal hX
        go_wp2_with fail
        refine hnd.mono ?_
        rintro e w3 ⟨rfl, hg3⟩
        refine ⟨rfl, ?_⟩
        rw [HQ.out]
        exact ⟨rfl, (GP.of HB.out).tr (HGX.out.tr hg3)⟩
      | true =>
        rw [hi] at hnd HQ
        simp only [if_true] at hnd HQ
        obtain ⟨r3, hr3⟩ : ∃ r3, r2.drop 1 = r3 := ⟨_, rfl⟩
        rw [hr3] at hnd HQ
        have HX := Lib.hid hX
        clear hi hpx hal hr3 hX
        go_wp2_with fail
        refine hnd.mono ?_
        rintro e w3 ⟨rfl, hp3, hg3⟩
        have hg4 := HGX.out.tr hg3
        obtain ⟨r0, r1, r2', r3', q0, q1, q2, q3, hRz⟩ := box4 (P := P) HPP.out hg4
        have hg3' := hg3
        rw [← HX.out] at hg3'
        have hP2 : P < w2.heap.size := by have := HP1.out; have := HZ2.out; omega
        obtain ⟨s0, s1, s2, s3, p0, p1, p2, p3, hSz⟩ := box4 (P := P) hP2 hg3'
        have HP3 := Lib.hid hp3
        have HG4 := Lib.hid hg4
        have HG3 := Lib.hid hg3
        have HVX := Lib.hid (HV.out.keep (GP.of (P := P) HAL.out) HP1.out (Nat.le_refl _))
        have HW1 := Lib.hid (show W.heap.size + 1 ≤ w1.heap.size by have := HG1.out.size; simp at this; omega)
        clear hp3 hg3 hg4 hg3' hnd hP2
        go_wp2_with fail
        refine bodyPost_ret (v := .agg #[.int .u8 a.op, .string a.n, .slice a2 a.args.length k2, .slice a3 a.sub.length k3]) (by simp [results, Tryd.results65, go_sem, r0, r1, r2', r3', hRz]) rfl ?_
        rw [HQ.out]
        obtain ⟨e1, e2, e3⟩ := put_res (HVX.out.keep HG3.out HP1.out (Nat.le_refl _)) HP3.out ((GP.of HB.out).tr HG4.out) HPP.out (R := W.heap.size) (Nat.le_refl _) (by have := HW1.out; omega) (.int .u8 a.op) (.string a.n) (.slice a2 a.args.length k2) (.slice a3 a.sub.length k3)
        exact ⟨_, rfl, e1, e2, e3⟩
  | false =>
    rw [hi] at hk
    simp only [hi, Bool.false_eq_true, if_false] at hk hQ
    have HK2 := Lib.hid (fun W1 (h1 : PSt W1 P m n ts) => skip_c P n m ts ⟨#[102, 97, 108, 115, 101]⟩ (by decide) W1 h1)
    unfold skT at HK2
    clear hb0 hP hsz hbd h h0 hB hi
    cases hi2 : is ts ⟨#[102, 97, 108, 115, 101]⟩ with
    | true =>
      rw [hi2] at HK2
      simp only [hi2, if_true] at HK2 hQ
      obtain ⟨r, hr⟩ : ∃ r, ts.drop 1 = r := ⟨_, rfl⟩
      rw [hr] at HK2 hQ
      have HQ := Lib.hid hQ
      clear hi2 hr hQ
      go_enter Tryd.func65, Tryd.ntmps65
      go_wp2_with fail
      refine hk.mono ?_
      rintro e w1 ⟨rfl, hp1, hg1⟩
      have hk2 := HK2.out w1 hp1
      have HG1 := Lib.hid hg1
      clear hp1 hg1 hk HK2
      go_wp2_with fail
      refine hk2.mono ?_
      rintro e w2 ⟨rfl, hp2, hg2⟩
      have hg3 := HG1.out.tr hg2
      obtain ⟨r0, r1, r2', r3', q0, q1, q2, q3, hRz⟩ := box4 (P := P) HPP.out hg3
      have HP2 := Lib.hid hp2
      have HG3 := Lib.hid hg3
      clear hp2 hg2 hg3 hk2
      go_wp2_with fail
      refine bodyPost_ret (v := .agg #[.int .u8 2, .string ⟨#[]⟩, .slice none 0 0, .slice none 0 0]) (by simp [results, Tryd.results65, go_sem, r0, r1, r2', r3', hRz]) rfl ?_
      rw [HQ.out]
      exact ⟨_, rfl, fval_leaf 2 ⟨#[]⟩ (by omega) (ok_str (by decide)), HP2.out.put4 (R := W.heap.size) HPP.out (.int .u8 2) (.string ⟨#[]⟩) (.slice none 0 0) (.slice none 0 0), put4_grow ((GP.of HB.out).tr HG3.out) (Nat.le_refl _) (.int .u8 2) (.string ⟨#[]⟩) (.slice none 0 0) (.slice none 0 0)⟩
    | false =>
      rw [hi2] at HK2
      simp only [hi2, Bool.false_eq_true, if_false] at HK2 hQ
      clear hi2
      have HMF := Lib.hid (fun W1 (h1 : PSt W1 P m n ts) => metaF_p P n m ts (tx ts) HSZ.out W1 h1)
      have HTX := Lib.hid (fun W1 (h1 : PSt W1 P m n ts) => text_c P n m ts W1 h1)
      cases hmf : mfB m (tx ts) with
      | true =>
        rw [hmf] at HMF
        simp only [hmf, if_true] at hQ
        have HME := Lib.hid (fun W1 (h1 : PSt W1 P m n ts) => meta_p P m n ts (mfB_ne hmf) W1 h1)
        have HQ := Lib.hid hQ
        clear hmf hQ
        generalize tx ts = s at *
        go_enter Tryd.func65, Tryd.ntmps65
        go_wp2_with fail
        refine hk.mono ?_
        rintro e w1 ⟨rfl, hp1, hg1⟩
        have hk2 := HK2.out w1 hp1
        have HG1 := Lib.hid hg1
        clear hp1 hg1 hk HK2
        go_wp2_with fail
        refine hk2.mono ?_
        rintro e w2 ⟨rfl, hp2, hg2⟩
        have ht2 := HTX.out w2 hp2
        have hmf2 := HMF.out w2 hp2
        have HP2 := Lib.hid hp2
        have HG2 := Lib.hid (HG1.out.tr hg2)
        clear hp2 hg2 hk2 HTX HMF
        go_wp2_with fail
        refine ht2.mono ?_
        rintro e w3 ⟨rfl, rfl⟩
        go_wp2_with fail
        refine hmf2.mono ?_
        rintro e w3 ⟨rfl, hb3⟩
        have hp3 := HP2.out.grow hb3
        have hme := HME.out w3 hp3
        have HG3 := Lib.hid (HG2.out.tr (GP.of hb3))
        clear hb3 hp3 ht2 hmf2 HME
        cases hx : metaP m ts with
        | er a e0 =>
          rw [hx] at hme HQ
          clear hx
          go_wp2_with fail
          refine hme.mono ?_
          rintro e w4 ⟨rfl, hg4⟩
          refine ⟨rfl, ?_⟩
          rw [HQ.out]
          exact ⟨rfl, (GP.of HB.out).tr (HG3.out.tr hg4)⟩
        | ok a r =>
          rw [hx] at hme HQ
          clear hx
          go_wp2_with fail
          refine hme.mono ?_
          rintro e w4 ⟨v, rfl, hv, hp4, hg4⟩
          have HV := Lib.hid hv
          obtain ⟨a2, k2, a3, k3, rfl, HREST⟩ := hv
          have hg5 := HG3.out.tr hg4
          obtain ⟨r0, r1, r2', r3', q0, q1, q2, q3, hRz⟩ := box4 (P := P) HPP.out hg5
          have HP4 := Lib.hid hp4
          have HG5 := Lib.hid hg5
          have HW3 := Lib.hid (show W.heap.size + 1 ≤ w3.heap.size by have := HG3.out.size; simp at this; omega)
          clear hp4 hg4 hg5 HREST hme
          go_wp2_with fail
          refine bodyPost_ret (v := .agg #[.int .u8 a.op, .string a.n, .slice a2 a.args.length k2, .slice a3 a.sub.length k3]) (by simp [results, Tryd.results65, go_sem, r0, r1, r2', r3', hRz]) rfl ?_
          rw [HQ.out]
          obtain ⟨e1, e2, e3⟩ := put_res HV.out HP4.out ((GP.of HB.out).tr HG5.out) HPP.out (R := W.heap.size) (Nat.le_refl _) (by have := HW3.out; omega) (.int .u8 a.op) (.string a.n) (.slice a2 a.args.length k2) (.slice a3 a.sub.length k3)
          exact ⟨_, rfl, e1, e2, e3⟩
      | false =>
        rw [hmf] at HMF
        simp only [hmf, Bool.false_eq_true, if_false] at hQ
        clear hmf
        have hck : Chk P n m ts 54 #[.string (tx ts)] (predB (tx ts)) := fun W1 _ => predicate_c (tx ts) W1 (by have := HSZ.out; omega)
        have HNM := Lib.hid (fun W1 (h1 : PSt W1 P m n ts) => nameP_c P n m ts (predB (tx ts)) hck predB_ne W1 h1)
        unfold NameQ at HNM
        have HA := Lib.hid (args_c P m n (ts.drop 1))
        clear hck
        obtain ⟨r, hr⟩ : ∃ r, ts.drop 1 = r := ⟨_, rfl⟩
        rw [hr] at HNM hQ HA
        clear hr
        generalize tx ts = s at *
        cases hpr : predB s with
        | false =>
          rw [hpr] at HNM hQ
          simp only [Bool.false_eq_true, if_false] at HNM hQ
          have HQ := Lib.hid hQ
          clear hpr hQ
          go_enter Tryd.func65, Tryd.ntmps65
          go_wp2_with fail
          refine hk.mono ?_
          rintro e w1 ⟨rfl, hp1, hg1⟩
          have hk2 := HK2.out w1 hp1
          have HG1 := Lib.hid hg1
          clear hp1 hg1 hk HK2
          go_wp2_with fail
          refine hk2.mono ?_
          rintro e w2 ⟨rfl, hp2, hg2⟩
          have ht2 := HTX.out w2 hp2
          have hmf2 := HMF.out w2 hp2
          have HP2 := Lib.hid hp2
          have HG2 := Lib.hid (HG1.out.tr hg2)
          clear hp2 hg2 hk2 HTX HMF
          go_wp2_with fail
          refine ht2.mono ?_
          rintro e w3 ⟨rfl, rfl⟩
          go_wp2_with fail
          refine hmf2.mono ?_
          rintro e w3 ⟨rfl, hb3⟩
          have hnm := HNM.out w3 (HP2.out.grow hb3)
          have HG3 := Lib.hid (HG2.out.tr (GP.of hb3))
          clear hb3 ht2 hmf2 HNM
          go_wp2_with fail
          refine hnm.mono ?_
          rintro e w4 ⟨rfl, hg4⟩
          refine ⟨rfl, ?_⟩
          rw [HQ.out]
          exact ⟨rfl, (GP.of HB.out).tr (HG3.out.tr hg4)⟩
        | true =>
          rw [hpr] at HNM hQ
          simp only [if_true] at HNM hQ
          have HQ := Lib.hid hQ
          clear hpr hQ
          go_enter Tryd.func65, Tryd.ntmps65
          go_wp2_with fail
          refine hk.mono ?_
          rintro e w1 ⟨rfl, hp1, hg1⟩
          have hk2 := HK2.out w1 hp1
          have HG1 := Lib.hid hg1
          clear hp1 hg1 hk HK2
          go_wp2_with fail
          refine hk2.mono ?_
          rintro e w2 ⟨rfl, hp2, hg2⟩
          have ht2 := HTX.out w2 hp2
          have hmf2 := HMF.out w2 hp2
          have HP2 := Lib.hid hp2
          have HG2 := Lib.hid (HG1.out.tr hg2)
          clear hp2 hg2 hk2 HTX HMF
          go_wp2_with fail
          refine ht2.mono ?_
          rintro e w3 ⟨rfl, rfl⟩
          go_wp2_with fail
          refine hmf2.mono ?_
          rintro e w3 ⟨rfl, hb3⟩
          have hnm := HNM.out w3 (HP2.out.grow hb3)
          have HG3 := Lib.hid (HG2.out.tr (GP.of hb3))
          clear hb3 ht2 hmf2 HNM
          go_wp2_with fail
          refine hnm.mono ?_
          rintro e w4 ⟨rfl, hp4, hg4⟩
          have har := HA.out w4 hp4
          have HG4 := Lib.hid (HG3.out.tr hg4)
          clear hp4 hg4 hnm HA
          cases hx : argsC m n r with
          | er a e0 =>
            rw [hx] at har HQ
            clear hx
            go_wp2_with fail
            refine har.mono ?_
            rintro e w5 ⟨rfl, hg5⟩
            refine ⟨rfl, ?_⟩
            rw [HQ.out]
            exact ⟨rfl, (GP.of HB.out).tr (HG4.out.tr hg5)⟩
          | ok l r2 =>
            rw [hx] at har HQ
            clear hx
            go_wp2_with fail
            refine har.mono ?_
            rintro e w5 ⟨v, rfl, ⟨a2, k2, rfl, htd⟩, hp5, hg5⟩
            have hg6 := HG4.out.tr hg5
            obtain ⟨r0, r1, r2', r3', q0, q1, q2, q3, hRz⟩ := box4 (P := P) HPP.out hg6
            have HP5 := Lib.hid hp5
            have HG6 := Lib.hid hg6
            have HTD := Lib.hid htd
            have HW4 := Lib.hid (show W.heap.size + 1 ≤ w4.heap.size by have := HG4.out.size; simp at this; omega)
            clear hp5 hg5 hg6 htd har
            go_wp2_with fail
            refine bodyPost_ret (v := .agg #[.int .u8 1, .string s, .slice a2 l.length k2, .slice none 0 0]) (by simp [results, Tryd.results65, go_sem, r0, r1, r2', r3', hRz]) rfl ?_
            rw [HQ.out]
            have hv : FVal w4.heap.size w5 (.agg #[.int .u8 1, .string s, .slice a2 l.length k2, .slice none 0 0]) (.mk 1 s l []) :=
              ⟨a2, k2, none, 0, rfl, ⟨by show (0 : Int) ≤ 1; decide, by show (1 : Int) ≤ 255; decide⟩, ok_str HSZ.out, HTD.out, nil_fs _ _⟩
            obtain ⟨e1, e2, e3⟩ := put_res hv HP5.out ((GP.of HB.out).tr HG6.out) HPP.out (R := W.heap.size) (Nat.le_refl _) (by have := HW4.out; omega) (.int .u8 1) (.string s) (.slice a2 l.length k2) (.slice none 0 0)
            exact ⟨_, rfl, e1, e2, e3⟩
end Go.Proofs.YtkeckecdhcknhaaDoor.Ps
