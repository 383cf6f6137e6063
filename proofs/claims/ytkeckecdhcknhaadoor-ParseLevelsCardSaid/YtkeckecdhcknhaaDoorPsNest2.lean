/-
  nested with one rule.
-/
import Derived.Test.YtkeckecdhcknhaaDoorPsNest
namespace Go.Proofs.YtkeckecdhcknhaaDoor.Ps
open Go Go.RowKit Go.Shelf Go.Proofs.YtkeckecdhcknhaaDoor.Fm Go.Proofs.YtkeckecdhcknhaaDoor.Lx
set_option linter.unusedVariables false
set_option linter.unusedSimpArgs false

set_option maxRecDepth 20000 in
set_option maxHeartbeats 1000000 in
/-- nested over UnP. -/
theorem nestUnP_c (P n : Nat) (m : Bool) (ts : List Tg) (x : R (Fo)) (W : World) (h : PSt W P m n ts) (hn : n + 1 + ts.length ≤ 30000) (hx : ∀ a r, x = .ok a r → r.length ≤ ts.length)
    (hr : ∀ W1, PSt W1 P m (n + 1) ts → GP P W W1 → Calls Tryd.prog 45 #[.pointer (some ⟨P, 0, none⟩)] W1 (RuQ FVal W1 P (n + 1) m x)) :
    Calls Tryd.prog 48 #[.pointer (some ⟨P, 0, none⟩), .func (.func 45) #[.pointer (some ⟨P, 0, none⟩)] #[]] W (RuQ FVal W P n m x) := by
  have h1 := h.ns
  have f1 := h.fz 1 (by decide)
  have H := Lib.hid h
  have hb := h.bd
  have hP := h.lt
  have n0 : (0 : Int) ≤ (n : Int) := by omega
  have n1 : (n : Int) ≤ 30000 := by omega
  have HR := Lib.hid hr
  have HN := Lib.hid hn
  have HX := Lib.hid hx
  have HBD := Lib.hid hb
  clear h hr hn hb hx
  cases x with
  | ok a r =>
    obtain ⟨Q, hQ⟩ : ∃ Q : Ending → World → Prop, Q = RuQ FVal W P n m (.ok a r) := ⟨_, rfl⟩
    rw [← hQ]
    have HQ := Lib.hid hQ
    clear hQ
    go_enter Tryd.func48, Tryd.ntmps48
    go_wp2_with fail
    have hg0 : GP P W ((W.setCell ⟨P, 1, none⟩ (.int .i64 ((n : Int) + 1))).alloc (.cells #[.int .u8 0, .string ⟨#[]⟩, .slice none 0 0, .slice none 0 0] 25)) := GP.tr (Grow.setCell (O := fun b => b = P) _ _ rfl) (GP.of ((Below.refl _ _).alloc (Nat.le_refl _) _))
    have hs0 : PSt ((W.setCell ⟨P, 1, none⟩ (.int .i64 ((n : Int) + 1))).alloc (.cells #[.int .u8 0, .string ⟨#[]⟩, .slice none 0 0, .slice none 0 0] 25)) P m (n + 1) ts := (H.out.setNest (n + 1) HN.out (by go_num)).grow ((Below.refl _ _).alloc (Nat.le_refl _) _)
    have hz0 : W.heap.size ≤ ((W.setCell ⟨P, 1, none⟩ (.int .i64 ((n : Int) + 1))).alloc (.cells #[.int .u8 0, .string ⟨#[]⟩, .slice none 0 0, .slice none 0 0] 25)).heap.size := hg0.size
    have hcall := HR.out _ hs0 hg0
    have HG0 := Lib.hid hg0
    have HZ0 := Lib.hid hz0
    clear hg0 hs0 hz0
    refine hcall.mono ?_
    rintro e w1 ⟨v, rfl, hv, hp1, hg1⟩
    clear hcall
    have HG1 := Lib.hid (HG0.out.tr hg1)
    have HV0 := Lib.hid hv
    obtain ⟨a2, k2, a3, k3, rfl, HREST⟩ := hv
    have HP1 := Lib.hid hp1
    have h1' := hp1.ns
    have f1' := hp1.fz 1 (by decide)
    have hP1 := hp1.lt
    have HPP := Lib.hid hP
    obtain ⟨r0, r1, r2, r3, q0, q1, q2, q3, hRz⟩ := box4 (W := W.setCell ⟨P, 1, none⟩ (.int .i64 ((n : Int) + 1))) (P := P) (by simpa using HPP.out) hg1
    rw [World.size_setCell] at r0 r1 r2 r3 q0 q1 q2 q3 hRz
    have n2 : ((n + 1 : Nat) : Int) = (n : Int) + 1 := by omega
    rw [n2] at h1'
    have hPW : ¬ P = W.heap.size := Nat.ne_of_lt hP
    have hWP : ¬ W.heap.size = P := fun e => hPW e.symm
    have HPL := Lib.hid hP
    clear hg1 hp1 HREST hP h1 f1
    go_wp2_with fail
    refine bodyPost_ret (v := .agg #[.int .u8 a.op, .string a.n, .slice a2 a.args.length k2, .slice a3 a.sub.length k3]) (by simp [results, Tryd.results48, go_sem, r0, r1, r2, r3, hPW, hWP, hRz]) rfl ?_
    have hs1 : PSt (w1.setCell ⟨P, 1, none⟩ (.int .i64 (n : Int))) P m n r := HP1.out.setNest n (by have := HX.out a r rfl; have := HN.out; omega) rfl
    have hg1 : GP P W (w1.setCell ⟨P, 1, none⟩ (.int .i64 (n : Int))) := HG1.out.tr (Grow.setCell (O := fun b => b = P) _ _ rfl)
    have hgx : GP P w1 (w1.setCell ⟨P, 1, none⟩ (.int .i64 (n : Int))) := Grow.setCell (O := fun b => b = P) _ _ rfl
    have hv1 := HV0.out.keep hgx (by simp; have := HPP.out; omega) (Nat.le_refl _)
    have hal : Below (put4 (w1.setCell ⟨P, 1, none⟩ (.int .i64 (n : Int))) W.heap.size (.int .u8 a.op) (.string a.n) (.slice a2 a.args.length k2) (.slice a3 a.sub.length k3)).heap.size _ _ := (Below.refl _ _).alloc (Nat.le_refl _) (.cells #[.int .u8 a.op, .string a.n, .slice a2 a.args.length k2, .slice a3 a.sub.length k3] 25)
    rw [HQ.out]
    exact ⟨_, rfl, ((hv1.put4 (R := W.heap.size) (by simp) _ _ _ _).keep (P := P) (GP.of hal) (by simp; have := HPP.out; omega) (by simp)), (hs1.put4 (R := W.heap.size) HPP.out _ _ _ _).grow hal, (put4_grow hg1 (Nat.le_refl _) _ _ _ _).tr (GP.of hal)⟩
  | er a e0 =>
    obtain ⟨Q, hQ⟩ : ∃ Q : Ending → World → Prop, Q = RuQ FVal W P n m (.er a e0) := ⟨_, rfl⟩
    rw [← hQ]
    have HQ := Lib.hid hQ
    clear hQ
    go_enter Tryd.func48, Tryd.ntmps48
    go_wp2_with fail
    have hg0 : GP P W ((W.setCell ⟨P, 1, none⟩ (.int .i64 ((n : Int) + 1))).alloc (.cells #[.int .u8 0, .string ⟨#[]⟩, .slice none 0 0, .slice none 0 0] 25)) := GP.tr (Grow.setCell (O := fun b => b = P) _ _ rfl) (GP.of ((Below.refl _ _).alloc (Nat.le_refl _) _))
    have hs0 : PSt ((W.setCell ⟨P, 1, none⟩ (.int .i64 ((n : Int) + 1))).alloc (.cells #[.int .u8 0, .string ⟨#[]⟩, .slice none 0 0, .slice none 0 0] 25)) P m (n + 1) ts := (H.out.setNest (n + 1) HN.out (by go_num)).grow ((Below.refl _ _).alloc (Nat.le_refl _) _)
    refine (HR.out _ hs0 hg0).mono ?_
    rintro e w1 ⟨rfl, hg1⟩
    refine ⟨rfl, ?_⟩
    rw [HQ.out]
    exact ⟨rfl, hg0.tr hg1⟩
end Go.Proofs.YtkeckecdhcknhaaDoor.Ps
