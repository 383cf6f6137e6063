/-
  The contracts of formula and of binary's closure, given that of binary.
-/
import Derived.Test.YtggkehncpkfakaaDoorPsForm00
import Derived.Deep.DeepCutAuto
namespace Go.Proofs.YtggkehncpkfakaaDoor.Ps
open Go Go.RowKit Go.Shelf Go.Proofs.YtggkehncpkfakaaDoor.Fm Go.Proofs.YtggkehncpkfakaaDoor.Lx
set_option linter.unusedVariables false
set_option linter.unusedSimpArgs false
def BinQ (P : Nat) (m : Bool) (i n : Nat) (ts : List Tg) : Prop := ∀ W, PSt W P m n ts → Calls Tryd.prog 47 #[.pointer (some ⟨P, 0, none⟩), .int .i64 (i : Int)] W (RuQ FVal W P n m (binC m i n ts))
def UnQ (P : Nat) (m : Bool) (n : Nat) (ts : List Tg) : Prop := ∀ W, PSt W P m n ts → Calls Tryd.prog 73 #[.pointer (some ⟨P, 0, none⟩)] W (RuQ FVal W P n m (unC m n ts))
def BasQ (P : Nat) (m : Bool) (n : Nat) (ts : List Tg) : Prop := ∀ W, PSt W P m n ts → Calls Tryd.prog 102 #[.pointer (some ⟨P, 0, none⟩)] W (RuQ FVal W P n m (basC m n ts))
/-- A formula is put into a result's own variable. -/
theorem put_res {P n R : Nat} {m : Bool} {W X : World} {lo : Nat} {a : Fo} {r : List Tg} {v : Value} (hv : FVal lo X v a) (hp : PSt X P m n r) (hg : GP P W X) (hP : P < W.heap.size) (hR : W.heap.size ≤ R) (hRl : R < lo) (x0 x1 x2 x3 : Value) :
    FVal W.heap.size (put4 X R x0 x1 x2 x3) v a ∧ PSt (put4 X R x0 x1 x2 x3) P m n r ∧ GP P W (put4 X R x0 x1 x2 x3) :=
  ⟨((hv.put4 hRl x0 x1 x2 x3).keep (P := P) (Grow.refl _ _) (by omega) (by omega)), hp.put4 (by omega) _ _ _ _, put4_grow hg hR _ _ _ _⟩
set_option maxRecDepth 20000 in
set_option maxHeartbeats 2000000 in
theorem formula_of (P : Nat) (m : Bool) (n : Nat) (ts : List Tg) (hB : BinQ P m 0 n ts) (W : World) (h : PSt W P m n ts) :
    Calls Tryd.prog 30 #[.pointer (some ⟨P, 0, none⟩)] W (RuQ FVal W P n m (binC m 0 n ts)) := by
  have hP := h.lt
  have hb0 : Below W.heap.size W (W.alloc (.cells #[.int .u8 0, .string ⟨#[]⟩, .slice none 0 0, .slice none 0 0] 25)) := (Below.refl _ _).alloc (Nat.le_refl _) _
  have hb := hB _ (h.grow hb0)
  rw [show ((0 : Nat) : Int) = 0 from rfl] at hb
  have HB := Lib.hid hb0
  have HPP := Lib.hid hP
  have hPW : ¬ P = W.heap.size := Nat.ne_of_lt hP
  have hWP : ¬ W.heap.size = P := fun e => hPW e.symm
  clear h hB hb0 hP
  obtain ⟨Q, hQ⟩ : ∃ Q : Ending → World → Prop, Q = RuQ FVal W P n m (binC m 0 n ts) := ⟨_, rfl⟩
  rw [← hQ]
  cases hx : binC m 0 n ts with
  | ok a r =>
    rw [hx] at hb hQ
    have HQ := Lib.hid hQ
    clear hx hQ
    go_enter Tryd.func30, Tryd.ntmps30
    go_wp2_with fail
    refine hb.mono ?_
    rintro e w1 ⟨v, rfl, hv, hp1, hg1⟩
    have HV := Lib.hid hv
    obtain ⟨a2, k2, a3, k3, rfl, HREST⟩ := hv
    obtain ⟨r0, r1, r2, r3, q0, q1, q2, q3, hRz⟩ := box4 (P := P) HPP.out hg1
    have HP1 := Lib.hid hp1
    have HG1 := Lib.hid hg1
    clear hp1 hg1 HREST hb
    go_wp2_with fail
    refine bodyPost_ret (v := .agg #[.int .u8 a.op, .string a.n, .slice a2 a.args.length k2, .slice a3 a.sub.length k3]) (by simp [results, Tryd.results30, go_sem, r0, r1, r2, r3, hPW, hWP, hRz]) rfl ?_
    rw [HQ.out]
    obtain ⟨e1, e2, e3⟩ := put_res HV.out HP1.out ((GP.of HB.out).tr HG1.out) HPP.out (R := W.heap.size) (Nat.le_refl _) (by simp) (.int .u8 a.op) (.string a.n) (.slice a2 a.args.length k2) (.slice a3 a.sub.length k3)
    exact ⟨_, rfl, e1, e2, e3⟩
  | er a e0 =>
    rw [hx] at hb hQ
    have HQ := Lib.hid hQ
    clear hx hQ
    go_enter Tryd.func30, Tryd.ntmps30
    go_wp2_with fail
    refine hb.mono ?_
    rintro e w1 ⟨rfl, hg1⟩
    refine ⟨rfl, ?_⟩
    rw [HQ.out]
    exact ⟨rfl, (GP.of HB.out).tr hg1⟩
set_option maxRecDepth 20000 in
set_option maxHeartbeats 2000000 in
theorem bin1_of (P : Nat) (m : Bool) (i n : Nat) (ts : List Tg) (hB : BinQ P m i n ts) (b0 b1 : Nat) (W : World) (h : PSt W P m n ts) (c0 : W.cell? ⟨b0, 0, none⟩ = some (.pointer (some ⟨P, 0, none⟩))) (c1 : W.cell? ⟨b1, 0, none⟩ = some (.int .i64 (i : Int))) :
    Calls Tryd.prog 77 #[.pointer (some ⟨b0, 0, none⟩), .pointer (some ⟨b1, 0, none⟩)] W (RuQ FVal W P n m (binC m i n ts)) := by
  have hP := h.lt
  have hb0 : Below W.heap.size W (W.alloc (.cells #[.int .u8 0, .string ⟨#[]⟩, .slice none 0 0, .slice none 0 0] 25)) := (Below.refl _ _).alloc (Nat.le_refl _) _
  have hb := hB _ (h.grow hb0)
  have d0 : b0 < W.heap.size := World.block_lt_of_cell? W ⟨b0, 0, none⟩ c0
  have d1 : b1 < W.heap.size := World.block_lt_of_cell? W ⟨b1, 0, none⟩ c1
  have HB := Lib.hid hb0
  have HPP := Lib.hid hP
  have hPW : ¬ P = W.heap.size := Nat.ne_of_lt hP
  have hWP : ¬ W.heap.size = P := fun e => hPW e.symm
  clear h hB hb0 hP
  obtain ⟨Q, hQ⟩ : ∃ Q : Ending → World → Prop, Q = RuQ FVal W P n m (binC m i n ts) := ⟨_, rfl⟩
  rw [← hQ]
  cases hx : binC m i n ts with
  | ok a r =>
    rw [hx] at hb hQ
    have HQ := Lib.hid hQ
    clear hx hQ
    go_enter Tryd.func77, Tryd.ntmps77
    go_wp2_with fail
    refine hb.mono ?_
    rintro e w1 ⟨v, rfl, hv, hp1, hg1⟩
    have HV := Lib.hid hv
    obtain ⟨a2, k2, a3, k3, rfl, HREST⟩ := hv
    obtain ⟨r0, r1, r2, r3, q0, q1, q2, q3, hRz⟩ := box4 (P := P) HPP.out hg1
    have HP1 := Lib.hid hp1
    have HG1 := Lib.hid hg1
    clear hp1 hg1 HREST hb
    go_wp2_with fail
    refine bodyPost_ret (v := .agg #[.int .u8 a.op, .string a.n, .slice a2 a.args.length k2, .slice a3 a.sub.length k3]) (by simp [results, Tryd.results77, go_sem, r0, r1, r2, r3, hPW, hWP, hRz]) rfl ?_
    rw [HQ.out]
    obtain ⟨e1, e2, e3⟩ := put_res HV.out HP1.out ((GP.of HB.out).tr HG1.out) HPP.out (R := W.heap.size) (Nat.le_refl _) (by simp) (.int .u8 a.op) (.string a.n) (.slice a2 a.args.length k2) (.slice a3 a.sub.length k3)
    exact ⟨_, rfl, e1, e2, e3⟩
  | er a e0 =>
    rw [hx] at hb hQ
    have HQ := Lib.hid hQ
    clear hx hQ
    go_enter Tryd.func77, Tryd.ntmps77
    go_wp2_with fail
    refine hb.mono ?_
    rintro e w1 ⟨rfl, hg1⟩
    refine ⟨rfl, ?_⟩
    rw [HQ.out]
    exact ⟨rfl, (GP.of HB.out).tr hg1⟩
end Go.Proofs.YtggkehncpkfakaaDoor.Ps
