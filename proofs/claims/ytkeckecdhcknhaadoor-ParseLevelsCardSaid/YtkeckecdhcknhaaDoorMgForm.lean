/-
  Several texts in one: PsForm00, PsForm1, PsForm0.
-/
import Derived.Test.YtkeckecdhcknhaaDoorPsTerm
import Derived.Test.YtkeckecdhcknhaaDoorPsRow
import Derived.Deep.DeepCutAuto

/-
  Leaves.
-/
namespace Go.Proofs.YtkeckecdhcknhaaDoor.Ps
open Go Go.RowKit Go.Shelf Go.Proofs.YtkeckecdhcknhaaDoor.Fm Go.Proofs.YtkeckecdhcknhaaDoor.Lx
set_option linter.unusedVariables false
set_option linter.unusedSimpArgs false
theorem nil_fs (D : Nat → Prop) (w : World) : SlFD D w (.slice none 0 0) [] := ⟨none, 0, 0, 0, rfl, by simp, .inl rfl, by simp [FsD]⟩
theorem fval_leaf {lo : Nat} {w : World} (o : Int) (n : ByteArray) (ho : 0 ≤ o ∧ o ≤ 255) (hn : okStr n) : FVal lo w (.agg #[.int .u8 o, .string n, .slice none 0 0, .slice none 0 0]) (.mk o n [] []) :=
  ⟨none, 0, none, 0, rfl, ho, hn, nil_ts _ _, nil_fs _ _⟩
end Go.Proofs.YtkeckecdhcknhaaDoor.Ps

/-
  The contracts of formula and of binary's closure, given that of binary.
-/
namespace Go.Proofs.YtkeckecdhcknhaaDoor.Ps
open Go Go.RowKit Go.Shelf Go.Proofs.YtkeckecdhcknhaaDoor.Fm Go.Proofs.YtkeckecdhcknhaaDoor.Lx
set_option linter.unusedVariables false
set_option linter.unusedSimpArgs false
def BinQ (P : Nat) (m : Bool) (i n : Nat) (ts : List Tg) : Prop := ∀ W, PSt W P m n ts → Calls Tryd.prog 35 #[.pointer (some ⟨P, 0, none⟩), .int .i64 (i : Int)] W (RuQ FVal W P n m (binC m i n ts))
def UnQ (P : Nat) (m : Bool) (n : Nat) (ts : List Tg) : Prop := ∀ W, PSt W P m n ts → Calls Tryd.prog 45 #[.pointer (some ⟨P, 0, none⟩)] W (RuQ FVal W P n m (unC m n ts))
def BasQ (P : Nat) (m : Bool) (n : Nat) (ts : List Tg) : Prop := ∀ W, PSt W P m n ts → Calls Tryd.prog 65 #[.pointer (some ⟨P, 0, none⟩)] W (RuQ FVal W P n m (basC m n ts))
/-- A formula is put into a result's own variable. -/
theorem put_res {P n R : Nat} {m : Bool} {W X : World} {lo : Nat} {a : Fo} {r : List Tg} {v : Value} (hv : FVal lo X v a) (hp : PSt X P m n r) (hg : GP P W X) (hP : P < W.heap.size) (hR : W.heap.size ≤ R) (hRl : R < lo) (x0 x1 x2 x3 : Value) :
    FVal W.heap.size (put4 X R x0 x1 x2 x3) v a ∧ PSt (put4 X R x0 x1 x2 x3) P m n r ∧ GP P W (put4 X R x0 x1 x2 x3) :=
  ⟨((hv.put4 hRl x0 x1 x2 x3).keep (P := P) (Grow.refl _ _) (by omega) (by omega)), hp.put4 (by omega) _ _ _ _, put4_grow hg hR _ _ _ _⟩
set_option maxRecDepth 20000 in
set_option maxHeartbeats 2000000 in
theorem formula_of (P : Nat) (m : Bool) (n : Nat) (ts : List Tg) (hB : BinQ P m 0 n ts) (W : World) (h : PSt W P m n ts) :
    Calls Tryd.prog 22 #[.pointer (some ⟨P, 0, none⟩)] W (RuQ FVal W P n m (binC m 0 n ts)) := by
  have hP := h.lt
  have hb0 : Below W.heap.size W (W.alloc (.cells #[.int .u8 0, .string ⟨#[]⟩, .slice none 0 0, .slice none 0 0] 25)) := (Below.refl _ _).alloc (Nat.le_refl _) _
  have hb := hB _ (h.grow hb0)
  rw [show ((0 : Nat) : Int) = 0 from rfl] at hb
  have HB := Lib.hid hb0
  have HPP := Lib.hid hP
  have hPW : ¬ P = W.heap.size := Nat.ne_of_lt hP
  have hWP : ¬ W.heap.size = P := fun e => hPW e.symm
  clear h hB hb0 hP
  obtain ⟨Q, hQ⟩ : ∃ Q : Ending → World → Prop, Q = RuQ FVal W P n m (binC m 0 n ts) := ⟨_, rfl⟩
  rw [← hQ]
  cases hx : binC m 0 n ts with
  | ok a r =>
    rw [hx] at hb hQ
    have HQ := Lib.hid hQ
    clear hx hQ
    go_enter Tryd.func22, Tryd.ntmps22
    go_wp2_with fail
    refine hb.mono ?_
    rintro e w1 ⟨v, rfl, hv, hp1, hg1⟩
    have HV := Lib.hid hv
    obtain ⟨a2, k2, a3, k3, rfl, HREST⟩ := hv
    obtain ⟨r0, r1, r2, r3, q0, q1, q2, q3, hRz⟩ := box4 (P := P) HPP.out hg1
    have HP1 := Lib.hid hp1
    have HG1 := Lib.hid hg1
    clear hp1 hg1 HREST hb
    go_wp2_with fail
    refine bodyPost_ret (v := .agg #[.int .u8 a.op, .string a.n, .slice a2 a.args.length k2, .slice a3 a.sub.length k3]) (by simp [results, Tryd.results22, go_sem, r0, r1, r2, r3, hPW, hWP, hRz]) rfl ?_
    rw [HQ.out]
    obtain ⟨e1, e2, e3⟩ := put_res HV.out HP1.out ((GP.of HB.out).tr HG1.out) HPP.out (R := W.heap.size) (Nat.le_refl _) (by simp) (.int .u8 a.op) (.string a.n) (.slice a2 a.args.length k2) (.slice a3 a.sub.length k3)
    exact ⟨_, rfl, e1, e2, e3⟩
  | er a e0 =>
    rw [hx] at hb hQ
    have HQ := Lib.hid hQ
    clear hx hQ
    go_enter Tryd.func22, Tryd.ntmps22
    go_wp2_with fail
    refine hb.mono ?_
    rintro e w1 ⟨rfl, hg1⟩
    refine ⟨rfl, ?_⟩
    rw [HQ.out]
    exact ⟨rfl, (GP.of HB.out).tr hg1⟩
set_option maxRecDepth 20000 in
set_option maxHeartbeats 2000000 in
theorem bin1_of (P : Nat) (m : Bool) (i n : Nat) (ts : List Tg) (hB : BinQ P m i n ts) (b0 b1 : Nat) (W : World) (h : PSt W P m n ts) (c0 : W.cell? ⟨b0, 0, none⟩ = some (.pointer (some ⟨P, 0, none⟩))) (c1 : W.cell? ⟨b1, 0, none⟩ = some (.int .i64 (i : Int))) :
    Calls Tryd.prog 49 #[.pointer (some ⟨b0, 0, none⟩), .pointer (some ⟨b1, 0, none⟩)] W (RuQ FVal W P n m (binC m i n ts)) := by
  have hP := h.lt
  have hb0 : Below W.heap.size W (W.alloc (.cells #[.int .u8 0, .string ⟨#[]⟩, .slice none 0 0, .slice none 0 0] 25)) := (Below.refl _ _).alloc (Nat.le_refl _) _
  have hb := hB _ (h.grow hb0)
  have d0 : b0 < W.heap.size := World.block_lt_of_cell? W ⟨b0, 0, none⟩ c0
  have d1 : b1 < W.heap.size := World.block_lt_of_cell? W ⟨b1, 0, none⟩ c1
  have HB := Lib.hid hb0
  have HPP := Lib.hid hP
  have hPW : ¬ P = W.heap.size := Nat.ne_of_lt hP
  have hWP : ¬ W.heap.size = P := fun e => hPW e.symm
  clear h hB hb0 hP
  obtain ⟨Q, hQ⟩ : ∃ Q : Ending → World → Prop, Q = RuQ FVal W P n m (binC m i n ts) := ⟨_, rfl⟩
  rw [← hQ]
  cases hx : binC m i n ts with
  | ok a r =>
    rw [hx] at hb hQ
    have HQ := Lib.hid hQ
    clear hx hQ
    go_enter Tryd.func49, Tryd.ntmps49
    go_wp2_with fail
    refine hb.mono ?_
    rintro e w1 ⟨v, rfl, hv, hp1, hg1⟩
    have HV := Lib.hid hv
    obtain ⟨a2, k2, a3, k3, rfl, HREST⟩ := hv
    obtain ⟨r0, r1, r2, r3, q0, q1, q2, q3, hRz⟩ := box4 (P := P) HPP.out hg1
    have HP1 := Lib.hid hp1
    have HG1 := Lib.hid hg1
    clear hp1 hg1 HREST hb
    go_wp2_with fail
    refine bodyPost_ret (v := .agg #[.int .u8 a.op, .string a.n, .slice a2 a.args.length k2, .slice a3 a.sub.length k3]) (by simp [results, Tryd.results49, go_sem, r0, r1, r2, r3, hPW, hWP, hRz]) rfl ?_
    rw [HQ.out]
    obtain ⟨e1, e2, e3⟩ := put_res HV.out HP1.out ((GP.of HB.out).tr HG1.out) HPP.out (R := W.heap.size) (Nat.le_refl _) (by simp) (.int .u8 a.op) (.string a.n) (.slice a2 a.args.length k2) (.slice a3 a.sub.length k3)
    exact ⟨_, rfl, e1, e2, e3⟩
  | er a e0 =>
    rw [hx] at hb hQ
    have HQ := Lib.hid hQ
    clear hx hQ
    go_enter Tryd.func49, Tryd.ntmps49
    go_wp2_with fail
    refine hb.mono ?_
    rintro e w1 ⟨rfl, hg1⟩
    refine ⟨rfl, ?_⟩
    rw [HQ.out]
    exact ⟨rfl, (GP.of HB.out).tr hg1⟩
end Go.Proofs.YtkeckecdhcknhaaDoor.Ps

/-
  The contract of meta.
-/
namespace Go.Proofs.YtkeckecdhcknhaaDoor.Ps
open Go Go.RowKit Go.Shelf Go.Proofs.YtkeckecdhcknhaaDoor.Fm Go.Proofs.YtkeckecdhcknhaaDoor.Lx
set_option linter.unusedVariables false
set_option linter.unusedSimpArgs false
set_option maxRecDepth 20000 in
set_option maxHeartbeats 2000000 in
theorem meta_p (P : Nat) (m : Bool) (n : Nat) (ts : List Tg) (hne : tx ts ≠ ⟨#[]⟩) (W : World) (h : PSt W P m n ts) :
    Calls Tryd.prog 83 #[.pointer (some ⟨P, 0, none⟩)] W (RuQ FVal W P n m (metaP m ts)) := by
  have hsz := h.ok.size
  have hP := h.lt
  have hb0 : Below W.heap.size W (W.alloc (.cells #[.int .u8 0, .string ⟨#[]⟩, .slice none 0 0, .slice none 0 0] 25)) := (Below.refl _ _).alloc (Nat.le_refl _) _
  have h0 := h.grow hb0
  have hp := pass_c P n m ts _ h0 hne
  obtain ⟨Q, hQ⟩ : ∃ Q : Ending → World → Prop, Q = RuQ FVal W P n m (metaP m ts) := ⟨_, rfl⟩
  rw [← hQ]
  unfold metaP at hQ
  generalize tx ts = s at *
  obtain ⟨r, hr⟩ : ∃ r, ts.drop 1 = r := ⟨_, rfl⟩
  rw [hr] at hp hQ
  have HB := Lib.hid hb0
  have HQ := Lib.hid hQ
  have HPP := Lib.hid hP
  have HSZ := Lib.hid hsz
  have hPW : ¬ P = W.heap.size := Nat.ne_of_lt hP
  have hWP : ¬ W.heap.size = P := fun e => hPW e.symm
  clear hb0 hQ h h0 hne hr hsz hP
  go_enter Tryd.func83, Tryd.ntmps83
  go_wp2_with fail
  refine hp.mono ?_
  rintro e w1 ⟨rfl, hp1, hg1⟩
  have HP1 := Lib.hid hp1
  have HG1 := Lib.hid hg1
  have hz1 := hg1.size
  simp only [World.size_alloc] at hz1
  have hk := skip_c P n m r ⟨#[91]⟩ (by decide) _ (hp1.grow ((Below.refl _ _).alloc (Nat.le_refl _) (.cells #[.int .u8 15, .string s, .slice none 0 0, .slice none 0 0] 25)))
  unfold skT at hk
  unfold metaQ at HQ
  clear hp hp1 hg1
  cases hi : is r ⟨#[91]⟩ with
  | false =>
    rw [hi] at hk HQ
    simp only [Bool.false_eq_true, if_false] at hk HQ
    clear hi
    go_wp2_with fail
    refine hk.mono ?_
    rintro e w2 ⟨rfl, hp2, hg2⟩
    have hP1 : P < w1.heap.size := by have := HPP.out; omega
    have hal : GP P w1 (w1.alloc (.cells #[.int .u8 15, .string s, .slice none 0 0, .slice none 0 0] 25)) := GP.of ((Below.refl _ _).alloc (Nat.le_refl _) _)
    have hg3 := (HG1.out.tr hal).tr hg2
    obtain ⟨r0, r1, r2, r3, q0, q1, q2, q3, hRz⟩ := box4 (P := P) HPP.out hg3
    obtain ⟨s0, s1, s2, s3, p0, p1, p2, p3, hSz⟩ := box4 (P := P) hP1 hg2
    have HP2 := Lib.hid hp2
    have HG3 := Lib.hid hg3
    clear hp2 hg2 hg3 hal hk hP1
    go_wp2_with fail
    refine bodyPost_ret (v := .agg #[.int .u8 15, .string s, .slice none 0 0, .slice none 0 0]) (by simp [results, Tryd.results83, go_sem, r0, r1, r2, r3, hPW, hWP, hRz]) rfl ?_
    rw [HQ.out]
    exact ⟨_, rfl, fval_leaf 15 s (by omega) (ok_str HSZ.out), HP2.out.put4 (R := W.heap.size) HPP.out (.int .u8 15) (.string s) (.slice none 0 0) (.slice none 0 0), put4_grow ((GP.of HB.out).tr HG3.out) (Nat.le_refl _) (.int .u8 15) (.string s) (.slice none 0 0) (.slice none 0 0)⟩
  | true =>
    rw [hi] at hk HQ
    simp only [if_true] at hk HQ
    unfold metaA at HQ
    obtain ⟨ra, hra⟩ : ∃ ra, r.drop 1 = ra := ⟨_, rfl⟩
    rw [hra] at hk HQ
    clear hi hra
    have hP1 : P < w1.heap.size := by have := HPP.out; omega
    have HP1' := Lib.hid hP1
    go_wp2_with fail
    refine hk.mono ?_
    rintro e w2 ⟨rfl, hp2, hg2⟩
    have hnm := nameM_c P n m ra (mtB m (tx ra)) (fun W1 h1 => metaT_p P n m ra (tx ra) hp2.ok.size W1 h1) mtB_ne w2 hp2
    have HSA := Lib.hid hp2.ok.size
    have HG2 := Lib.hid hg2
    unfold NameQ at hnm
    clear hp2 hg2 hk hP1
    generalize tx ra = sa at *
    cases ha : mtB m sa with
    | false =>
      rw [ha] at hnm HQ
      simp only [Bool.false_eq_true, if_false] at hnm HQ
      clear ha
      go_wp2_with fail
      refine hnm.mono ?_
      rintro e w3 ⟨rfl, hg3⟩
      refine ⟨rfl, ?_⟩
      rw [HQ.out]
      exact ⟨rfl, (((GP.of HB.out).tr HG1.out).tr (GP.of ((Below.refl _ _).alloc (Nat.le_refl _) _))).tr (HG2.out.tr hg3)⟩
    | true =>
      rw [ha] at hnm HQ
      simp only [if_true] at hnm HQ
      unfold metaS at HQ
      obtain ⟨rb, hrb⟩ : ∃ rb, ra.drop 1 = rb := ⟨_, rfl⟩
      rw [hrb] at hnm HQ
      clear ha hrb
      go_wp2_with fail
      refine hnm.mono ?_
      rintro e w3 ⟨rfl, hp3, hg3⟩
      have hnd := need_c P n m rb ⟨#[47]⟩ (by decide) w3 hp3
      have HG3 := Lib.hid (HG2.out.tr hg3)
      unfold NeedQ at hnd
      clear hp3 hg3 hnm
      cases hb : is rb ⟨#[47]⟩ with
      | false =>
        rw [hb] at hnd HQ
        simp only [Bool.false_eq_true, if_false] at hnd HQ
        clear hb
        go_wp2_with fail
        refine hnd.mono ?_
        rintro e w4 ⟨rfl, hg4⟩
        refine ⟨rfl, ?_⟩
        rw [HQ.out]
        exact ⟨rfl, (((GP.of HB.out).tr HG1.out).tr (GP.of ((Below.refl _ _).alloc (Nat.le_refl _) _))).tr (HG3.out.tr hg4)⟩
      | true =>
        rw [hb] at hnd HQ
        simp only [if_true] at hnd HQ
        unfold metaE at HQ
        obtain ⟨rc, hrc⟩ : ∃ rc, rb.drop 1 = rc := ⟨_, rfl⟩
        rw [hrc] at hnd HQ
        clear hb hrc
        go_wp2_with fail
        refine hnd.mono ?_
        rintro e w4 ⟨rfl, hp4, hg4⟩
        have hnm := nameV_c P n m rc (varB (tx rc)) (fun W1 h1 => variable_c (tx rc) W1 (by have := hp4.ok.size; omega)) varB_ne w4 hp4
        have HSC := Lib.hid hp4.ok.size
        have HG4 := Lib.hid (HG3.out.tr hg4)
        unfold NameQ at hnm
        clear hp4 hg4 hnd
        generalize tx rc = sc at *
        cases hc : varB sc with
        | false =>
          rw [hc] at hnm HQ
          simp only [Bool.false_eq_true, if_false] at hnm HQ
          clear hc
          go_wp2_with fail
          refine hnm.mono ?_
          rintro e w5 ⟨rfl, hg5⟩
          refine ⟨rfl, ?_⟩
          rw [HQ.out]
          exact ⟨rfl, (((GP.of HB.out).tr HG1.out).tr (GP.of ((Below.refl _ _).alloc (Nat.le_refl _) _))).tr (HG4.out.tr hg5)⟩
        | true =>
          rw [hc] at hnm HQ
          simp only [if_true] at hnm HQ
          unfold metaD at HQ
          obtain ⟨rd, hrd⟩ : ∃ rd, rc.drop 1 = rd := ⟨_, rfl⟩
          rw [hrd] at hnm HQ
          clear hc hrd
          go_wp2_with fail
          refine hnm.mono ?_
          rintro e w5 ⟨rfl, hp5, hg5⟩
          have hnd := need_c P n m rd ⟨#[93]⟩ (by decide) w5 hp5
          have HG5 := Lib.hid (HG4.out.tr hg5)
          unfold NeedQ at hnd
          clear hp5 hg5 hnm
          cases hd : is rd ⟨#[93]⟩ with
          | false =>
            rw [hd] at hnd HQ
            simp only [Bool.false_eq_true, if_false] at hnd HQ
            clear hd
            go_wp2_with fail
            refine hnd.mono ?_
            rintro e w6 ⟨rfl, hg6⟩
            refine ⟨rfl, ?_⟩
            rw [HQ.out]
            exact ⟨rfl, (((GP.of HB.out).tr HG1.out).tr (GP.of ((Below.refl _ _).alloc (Nat.le_refl _) _))).tr (HG5.out.tr hg6)⟩
          | true =>
            rw [hd] at hnd HQ
            simp only [if_true] at hnd HQ
            obtain ⟨re, hre⟩ : ∃ re, rd.drop 1 = re := ⟨_, rfl⟩
            rw [hre] at hnd HQ
            clear hd hre
            go_wp2_with fail
            refine hnd.mono ?_
            rintro e w6 ⟨rfl, hp6, hg6⟩
            have hg7 := HG5.out.tr hg6
            have hal : GP P w1 (w1.alloc (.cells #[.int .u8 15, .string s, .slice none 0 0, .slice none 0 0] 25)) := GP.of ((Below.refl _ _).alloc (Nat.le_refl _) _)
            have hg8 := (HG1.out.tr hal).tr hg7
            obtain ⟨r0, r1, r2, r3, q0, q1, q2, q3, hRz⟩ := box4 (P := P) HPP.out hg8
            obtain ⟨s0, s1, s2, s3, p0, p1, p2, p3, hSz⟩ := box4 (P := P) HP1'.out hg7
            have HP6 := Lib.hid hp6
            have HG8 := Lib.hid hg8
            clear hp6 hg6 hg7 hg8 hal hnd
            go_upto_region 8 with fail
            generalize hX : (((w6.setCell ⟨w1.heap.size, 0, none⟩ (.int .u8 16)).setCell ⟨w1.heap.size, 2, none⟩ (.slice (some ⟨w6.heap.size, 0, none⟩) 2 2)).alloc (.cells #[.bool true, .string sc, .slice none 0 0, .bool true, .string sa, .slice none 0 0] 44)) = X
            have hXz : X.heap.size = w6.heap.size + 1 := by rw [← hX]; simp
            have hXb : ∀ b, b ≠ w1.heap.size → b < w6.heap.size → X.heap[b]? = w6.heap[b]? := fun b hb hb2 => by
              rw [← hX, ((Below.refl _ _).alloc (Nat.le_refl _) _).block b (by simpa using hb2), Below.heap_setCell _ _ _ _ hb, Below.heap_setCell _ _ _ _ hb]
            have hXl : ∀ j, X.cell? ⟨w1.heap.size, j, none⟩ = ((w6.setCell ⟨w1.heap.size, 0, none⟩ (.int .u8 16)).setCell ⟨w1.heap.size, 2, none⟩ (.slice (some ⟨w6.heap.size, 0, none⟩) 2 2)).cell? ⟨w1.heap.size, j, none⟩ := fun j => by
              rw [← hX]
              exact ((Below.refl _ _).alloc (Nat.le_refl _) _).cell (p := ⟨w1.heap.size, j, none⟩) (by simpa using hSz)
            have hXn : ∀ j, X.cell? ⟨w6.heap.size, j, none⟩ = (#[.bool true, .string sc, .slice none 0 0, .bool true, .string sa, .slice none 0 0] : Array Value)[j]? := fun j => by
              rw [← hX, World.cell?_alloc_at _ _ _ _ (by simp)]
            have l0 : X.cell? ⟨w1.heap.size, 0, none⟩ = some (.int .u8 16) := by rw [hXl, cell_set_other _ _ _ _ _ (by omega), World.cell?_setCell_same _ _ _ s0]
            have l1 : X.cell? ⟨w1.heap.size, 1, none⟩ = some (.string s) := by rw [hXl, cell_set_other _ _ _ _ _ (by omega), cell_set_other _ _ _ _ _ (by omega), s1]
            have l2 : X.cell? ⟨w1.heap.size, 2, none⟩ = some (.slice (some ⟨w6.heap.size, 0, none⟩) 2 2) := by rw [hXl, World.cell?_setCell_same _ _ _ (by rw [cell_set_other _ _ _ _ _ (by omega)]; exact s2)]
            have l3 : X.cell? ⟨w1.heap.size, 3, none⟩ = some (.slice none 0 0) := by rw [hXl, cell_set_other _ _ _ _ _ (by omega), cell_set_other _ _ _ _ _ (by omega), s3]
            have hRL : W.heap.size ≠ w1.heap.size := by omega
            have hbR := hXb W.heap.size hRL hRz
            have t0 := (World.cell?_of_block (a := ⟨W.heap.size, 0, none⟩) hbR).trans r0
            have t1 := (World.cell?_of_block (a := ⟨W.heap.size, 1, none⟩) hbR).trans r1
            have t2 := (World.cell?_of_block (a := ⟨W.heap.size, 2, none⟩) hbR).trans r2
            have t3 := (World.cell?_of_block (a := ⟨W.heap.size, 3, none⟩) hbR).trans r3
            have y0 := (World.frozen?_of_block (a := ⟨W.heap.size, 0, none⟩) hbR).trans q0
            have y1 := (World.frozen?_of_block (a := ⟨W.heap.size, 1, none⟩) hbR).trans q1
            have y2 := (World.frozen?_of_block (a := ⟨W.heap.size, 2, none⟩) hbR).trans q2
            have y3 := (World.frozen?_of_block (a := ⟨W.heap.size, 3, none⟩) hbR).trans q3
            have hR7 : W.heap.size < X.heap.size := by omega
            have hgX : Grow (fun b => W.heap.size ≤ b) w6 X := by
              have b1 : Below W.heap.size w6 X := by
                rw [← hX]
                exact (((Below.refl _ _).setCell (p := ⟨w1.heap.size, 0, none⟩) (by show W.heap.size ≤ w1.heap.size; omega) _).setCell (p := ⟨w1.heap.size, 2, none⟩) (by show W.heap.size ≤ w1.heap.size; omega) _).alloc (by simp; omega) _
              exact ⟨b1.os, b1.tape, b1.output, b1.size, fun k hk hn => b1.block k (by omega)⟩
            have hPX : PSt X P m n re := HP6.out.keep (fun b hb => hgX.block b (by have := HPP.out; omega) (by have := HPP.out; omega)) (by have := HPP.out; omega)
            have HPX := Lib.hid hPX
            have HGX := Lib.hid (((GP.of HB.out).tr HG8.out).trans hgX (fun b hb => .inr hb))
            have HXN := Lib.hid hXn
            have HXZ := Lib.hid hXz
            clear hX hXz hXb hXl hXn hbR r0 r1 r2 r3 q0 q1 q2 q3 s0 s1 s2 s3 p0 p1 p2 p3 hgX hPX hRz hSz
            go_wp2_with fail
            refine bodyPost_ret (v := .agg #[.int .u8 16, .string s, .slice (some ⟨w6.heap.size, 0, none⟩) 2 2, .slice none 0 0]) (by simp [results, Tryd.results83, go_sem, t0, t1, t2, t3, hR7]) rfl ?_
            rw [HQ.out]
            have hz6 : W.heap.size + 1 ≤ w6.heap.size := by have := HG8.out.size; simp at this; omega
            have hv : FVal w6.heap.size X (.agg #[.int .u8 16, .string s, .slice (some ⟨w6.heap.size, 0, none⟩) 2 2, .slice none 0 0]) (.mk 16 s [.mk true sc [], .mk true sa []] []) := by
              refine ⟨some ⟨w6.heap.size, 0, none⟩, 2, none, 0, rfl, ⟨by show (0 : Int) ≤ 16; decide, by show (16 : Int) ≤ 255; decide⟩, ok_str HSZ.out, ⟨some ⟨w6.heap.size, 0, none⟩, 2, w6.heap.size, 0, rfl, by simp [Fo.args], .inr ⟨rfl, Nat.le_refl _, by have := HXZ.out; omega⟩, ?_⟩, nil_fs _ _⟩
              show TsD _ X w6.heap.size 0 [.mk true sc [], .mk true sa []]
              simp only [TsD]
              exact ⟨⟨HXN.out 0, HXN.out 1, ok_str HSC.out, none, 0, 0, 0, HXN.out 2, by simp, .inl trivial, by simp [TsD]⟩, ⟨HXN.out 3, HXN.out 4, ok_str HSA.out, none, 0, 0, 0, HXN.out 5, by simp, .inl trivial, by simp [TsD]⟩, trivial⟩
            obtain ⟨e1, e2, e3⟩ := put_res hv HPX.out HGX.out HPP.out (R := W.heap.size) (Nat.le_refl _) (by omega) (.int .u8 16) (.string s) (.slice (some ⟨w6.heap.size, 0, none⟩) 2 2) (.slice none 0 0)
            exact ⟨_, rfl, e1, e2, e3⟩
end Go.Proofs.YtkeckecdhcknhaaDoor.Ps
