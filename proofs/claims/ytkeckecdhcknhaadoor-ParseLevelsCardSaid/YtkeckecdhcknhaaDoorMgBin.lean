/-
  Several texts in one: PsNest3, PsBin0, PsBinR, PsBinL.
-/
import Derived.Test.YtkeckecdhcknhaaDoorPsNest
import Derived.Test.YtkeckecdhcknhaaDoorPsUnary
import Derived.Test.YtkeckecdhcknhaaDoorFmRound
import Derived.Test.YtkeckecdhcknhaaDoorMgNest

/-
  nested with one rule.
-/
namespace Go.Proofs.YtkeckecdhcknhaaDoor.Ps
open Go Go.RowKit Go.Shelf Go.Proofs.YtkeckecdhcknhaaDoor.Fm Go.Proofs.YtkeckecdhcknhaaDoor.Lx
set_option linter.unusedVariables false
set_option linter.unusedSimpArgs false

set_option maxRecDepth 20000 in
set_option maxHeartbeats 1000000 in
/-- nested over BinP. -/
theorem nestBinP_c (P n : Nat) (m : Bool) (ts : List Tg) (x : R (Fo)) {b0 b1 : Nat} (W : World) (h : PSt W P m n ts) (hn : n + 1 + ts.length ≤ 30000) (hx : ∀ a r, x = .ok a r → r.length ≤ ts.length)
    (hr : ∀ W1, PSt W1 P m (n + 1) ts → GP P W W1 → Calls Tryd.prog 49 #[.pointer (some ⟨b0, 0, none⟩), .pointer (some ⟨b1, 0, none⟩)] W1 (RuQ FVal W1 P (n + 1) m x)) :
    Calls Tryd.prog 48 #[.pointer (some ⟨P, 0, none⟩), .func (.func 49) #[] #[.pointer (some ⟨b0, 0, none⟩), .pointer (some ⟨b1, 0, none⟩)]] W (RuQ FVal W P n m x) := by
  have h1 := h.ns
  have f1 := h.fz 1 (by decide)
  have H := Lib.hid h
  have hb := h.bd
  have hP := h.lt
  have n0 : (0 : Int) ≤ (n : Int) := by omega
  have n1 : (n : Int) ≤ 30000 := by omega
  have HR := Lib.hid hr
  have HN := Lib.hid hn
  have HX := Lib.hid hx
  have HBD := Lib.hid hb
  clear h hr hn hb hx
  cases x with
  | ok a r =>
    obtain ⟨Q, hQ⟩ : ∃ Q : Ending → World → Prop, Q = RuQ FVal W P n m (.ok a r) := ⟨_, rfl⟩
    rw [← hQ]
    have HQ := Lib.hid hQ
    clear hQ
    go_enter Tryd.func48, Tryd.ntmps48
    go_wp2_with fail
    have hg0 : GP P W ((W.setCell ⟨P, 1, none⟩ (.int .i64 ((n : Int) + 1))).alloc (.cells #[.int .u8 0, .string ⟨#[]⟩, .slice none 0 0, .slice none 0 0] 25)) := GP.tr (Grow.setCell (O := fun b => b = P) _ _ rfl) (GP.of ((Below.refl _ _).alloc (Nat.le_refl _) _))
    have hs0 : PSt ((W.setCell ⟨P, 1, none⟩ (.int .i64 ((n : Int) + 1))).alloc (.cells #[.int .u8 0, .string ⟨#[]⟩, .slice none 0 0, .slice none 0 0] 25)) P m (n + 1) ts := (H.out.setNest (n + 1) HN.out (by go_num)).grow ((Below.refl _ _).alloc (Nat.le_refl _) _)
    have hz0 : W.heap.size ≤ ((W.setCell ⟨P, 1, none⟩ (.int .i64 ((n : Int) + 1))).alloc (.cells #[.int .u8 0, .string ⟨#[]⟩, .slice none 0 0, .slice none 0 0] 25)).heap.size := hg0.size
    have hcall := HR.out _ hs0 hg0
    have HG0 := Lib.hid hg0
    have HZ0 := Lib.hid hz0
    clear hg0 hs0 hz0
    refine hcall.mono ?_
    rintro e w1 ⟨v, rfl, hv, hp1, hg1⟩
    clear hcall
    have HG1 := Lib.hid (HG0.out.tr hg1)
    have HV0 := Lib.hid hv
    obtain ⟨a2, k2, a3, k3, rfl, HREST⟩ := hv
    have HP1 := Lib.hid hp1
    have h1' := hp1.ns
    have f1' := hp1.fz 1 (by decide)
    have hP1 := hp1.lt
    have HPP := Lib.hid hP
    obtain ⟨r0, r1, r2, r3, q0, q1, q2, q3, hRz⟩ := box4 (W := W.setCell ⟨P, 1, none⟩ (.int .i64 ((n : Int) + 1))) (P := P) (by simpa using HPP.out) hg1
    rw [World.size_setCell] at r0 r1 r2 r3 q0 q1 q2 q3 hRz
    have n2 : ((n + 1 : Nat) : Int) = (n : Int) + 1 := by omega
    rw [n2] at h1'
    have hPW : ¬ P = W.heap.size := Nat.ne_of_lt hP
    have hWP : ¬ W.heap.size = P := fun e => hPW e.symm
    have HPL := Lib.hid hP
    clear hg1 hp1 HREST hP h1 f1
    go_wp2_with fail
    refine bodyPost_ret (v := .agg #[.int .u8 a.op, .string a.n, .slice a2 a.args.length k2, .slice a3 a.sub.length k3]) (by simp [results, Tryd.results48, go_sem, r0, r1, r2, r3, hPW, hWP, hRz]) rfl ?_
    have hs1 : PSt (w1.setCell ⟨P, 1, none⟩ (.int .i64 (n : Int))) P m n r := HP1.out.setNest n (by have := HX.out a r rfl; have := HN.out; omega) rfl
    have hg1 : GP P W (w1.setCell ⟨P, 1, none⟩ (.int .i64 (n : Int))) := HG1.out.tr (Grow.setCell (O := fun b => b = P) _ _ rfl)
    have hgx : GP P w1 (w1.setCell ⟨P, 1, none⟩ (.int .i64 (n : Int))) := Grow.setCell (O := fun b => b = P) _ _ rfl
    have hv1 := HV0.out.keep hgx (by simp; have := HPP.out; omega) (Nat.le_refl _)
    have hal : Below (put4 (w1.setCell ⟨P, 1, none⟩ (.int .i64 (n : Int))) W.heap.size (.int .u8 a.op) (.string a.n) (.slice a2 a.args.length k2) (.slice a3 a.sub.length k3)).heap.size _ _ := (Below.refl _ _).alloc (Nat.le_refl _) (.cells #[.int .u8 a.op, .string a.n, .slice a2 a.args.length k2, .slice a3 a.sub.length k3] 25)
    rw [HQ.out]
    exact ⟨_, rfl, ((hv1.put4 (R := W.heap.size) (by simp) _ _ _ _).keep (P := P) (GP.of hal) (by simp; have := HPP.out; omega) (by simp)), (hs1.put4 (R := W.heap.size) HPP.out _ _ _ _).grow hal, (put4_grow hg1 (Nat.le_refl _) _ _ _ _).tr (GP.of hal)⟩
  | er a e0 =>
    obtain ⟨Q, hQ⟩ : ∃ Q : Ending → World → Prop, Q = RuQ FVal W P n m (.er a e0) := ⟨_, rfl⟩
    rw [← hQ]
    have HQ := Lib.hid hQ
    clear hQ
    go_enter Tryd.func48, Tryd.ntmps48
    go_wp2_with fail
    have hg0 : GP P W ((W.setCell ⟨P, 1, none⟩ (.int .i64 ((n : Int) + 1))).alloc (.cells #[.int .u8 0, .string ⟨#[]⟩, .slice none 0 0, .slice none 0 0] 25)) := GP.tr (Grow.setCell (O := fun b => b = P) _ _ rfl) (GP.of ((Below.refl _ _).alloc (Nat.le_refl _) _))
    have hs0 : PSt ((W.setCell ⟨P, 1, none⟩ (.int .i64 ((n : Int) + 1))).alloc (.cells #[.int .u8 0, .string ⟨#[]⟩, .slice none 0 0, .slice none 0 0] 25)) P m (n + 1) ts := (H.out.setNest (n + 1) HN.out (by go_num)).grow ((Below.refl _ _).alloc (Nat.le_refl _) _)
    refine (HR.out _ hs0 hg0).mono ?_
    rintro e w1 ⟨rfl, hg1⟩
    refine ⟨rfl, ?_⟩
    rw [HQ.out]
    exact ⟨rfl, hg0.tr hg1⟩
end Go.Proofs.YtkeckecdhcknhaaDoor.Ps

/-
  What binary's contract needs: regions that draw their order and may end in a panic; its variables.
-/
namespace Go.Proofs.YtkeckecdhcknhaaDoor.Ps
open Go Go.RowKit Go.Shelf Go.Proofs.YtkeckecdhcknhaaDoor.Fm Go.Proofs.YtkeckecdhcknhaaDoor.Lx
set_option linter.unusedVariables false
set_option linter.unusedSimpArgs false
section
variable {P : Program} {Q : Exit → Act → World → Prop} {ops : Array Oper}
/-- Q at the normal way out, Rp at a panic, nothing else. -/
def Both (Q : Exit → Act → World → Prop) (Rp : List PanicEntry → World → Prop) : Exit → Act → World → Prop
  | .normal, a, w => Q .normal a w
  | .panic c, a, w => a.defers = [] ∧ Rp c w
  | _, _, _ => False
theorem Both.imp {Rp : List PanicEntry → World → Prop} (hp : ∀ c a w, a.defers = [] → Rp c w → Q (.panic c) a w) : ∀ (e : Exit) (a : Act) (w : World), Both Q Rp e a w → Q e a w := fun e a w h => by
  cases e with
  | normal => exact h
  | panic c => exact hp c a w h.1 h.2
  | _ => exact (h : False).elim
theorem Both.normal {Rp : List PanicEntry → World → Prop} {a : Act} {w : World} (h : Q .normal a w) : Both Q Rp .normal a w := h
theorem put_defers (a : Act) (d : Option Nat) (v : Value) : (a.put d v).defers = a.defers := by
  cases d <;> rfl
theorem Both.panic {Rp : List PanicEntry → World → Prop} {d : Option Nat} {v : Value} {a : Act} {w : World} {c : List PanicEntry} (h : Both Q Rp (.panic c) (a.put d v) w) : Both Q Rp (.panic c) a w :=
  ⟨by have := h.1; rwa [put_defers] at this, h.2⟩
theorem wp_region_SP {id : Nat} {a : Act} {w : World} (Rp : List PanicEntry → World → Prop) (hp : ∀ c a w, a.defers = [] → Rp c w → Q (.panic c) a w) (S : World → Prop) (L : List Nat) (fuel : Nat) (listed : Array Bool) (hm : P.follows .mixedOrders = true) (hf : ops.size = fuel) (hl : Array.replicate fuel false = listed) (hS : S w.drew)
    (h : S w.drew → Fm.wpAnyS P .any ops (Both Q Rp) S L fuel listed a w.drew) : (Code.region id ops true).wp P Q a w := by
  subst hf hl
  exact Code.wp_mono (Both.imp hp) (wp_region_any hm (wpAny_of_S _ _ _ _ (h hS)))
end
/-- binary's own variables: p, i, the result, the level. -/
structure Env (w : World) (A P i : Nat) : Prop where
  p : w.cell? ⟨A, 0, none⟩ = some (.pointer (some ⟨P, 0, none⟩))
  iv : w.cell? ⟨A + 1, 0, none⟩ = some (.int .i64 (i : Int))
  r : Bx4 w (A + 1 + 1) (.int .u8 0) (.string ⟨#[]⟩) (.slice none 0 0) (.slice none 0 0)
  s0 : w.cell? ⟨A + 1 + 1 + 1, 0, none⟩ = some (.string (lvS i))
  s1 : w.cell? ⟨A + 1 + 1 + 1, 1, none⟩ = some (.int .u8 (lvO i))
  s2 : w.cell? ⟨A + 1 + 1 + 1, 2, none⟩ = some (.bool (lvR i))
  z : A + 4 ≤ w.heap.size
theorem Env.heap {w w' : World} {A P i : Nat} (h : Env w A P i) (hb : ∀ b, A ≤ b → b < A + 4 → w'.heap[b]? = w.heap[b]?) (hz : w.heap.size ≤ w'.heap.size) : Env w' A P i where
  p := (World.cell?_of_block (a := ⟨A, 0, none⟩) (hb A (Nat.le_refl _) (by omega))).trans h.p
  iv := (World.cell?_of_block (a := ⟨A + 1, 0, none⟩) (hb (A + 1) (by omega) (by omega))).trans h.iv
  r := h.r.heap (hb (A + 1 + 1) (by omega) (by omega)) (Nat.lt_of_lt_of_le h.r.lt hz)
  s0 := (World.cell?_of_block (a := ⟨A + 1 + 1 + 1, 0, none⟩) (hb (A + 1 + 1 + 1) (by omega) (by omega))).trans h.s0
  s1 := (World.cell?_of_block (a := ⟨A + 1 + 1 + 1, 1, none⟩) (hb (A + 1 + 1 + 1) (by omega) (by omega))).trans h.s1
  s2 := (World.cell?_of_block (a := ⟨A + 1 + 1 + 1, 2, none⟩) (hb (A + 1 + 1 + 1) (by omega) (by omega))).trans h.s2
  z := Nat.le_trans h.z hz
theorem Env.go {w w' : World} {A P i : Nat} (h : Env w A P i) (hg : GP P w w') (hP : P < A) : Env w' A P i :=
  h.heap (fun b h1 h2 => hg.block b (by have := h.z; omega) (fun e => by have e : b = P := e; omega)) hg.size
theorem Env.new {w X : World} {A P i B : Nat} (h : Env w A P i) (hb : Below B w X) (hB : A + 4 ≤ B) : Env X A P i := h.heap (fun b h1 h2 => hb.block b (by omega)) hb.size
theorem env_start (W : World) (P i : Nat) (t1 t2 t3 t4 : TypeId) : Env ((((W.alloc (.cells #[.pointer (some ⟨P, 0, none⟩)] t1)).alloc (.cells #[.int .i64 (i : Int)] t2)).alloc (.cells #[.int .u8 0, .string ⟨#[]⟩, .slice none 0 0, .slice none 0 0] t3)).alloc (.cells #[.string (lvS i), .int .u8 (lvO i), .bool (lvR i)] t4)) W.heap.size P i := by
  have z1 : (W.alloc (.cells #[.pointer (some ⟨P, 0, none⟩)] t1)).heap.size = W.heap.size + 1 := by simp
  have z2 : ((W.alloc (.cells #[.pointer (some ⟨P, 0, none⟩)] t1)).alloc (.cells #[.int .i64 (i : Int)] t2)).heap.size = W.heap.size + 1 + 1 := by simp
  have z3 : (((W.alloc (.cells #[.pointer (some ⟨P, 0, none⟩)] t1)).alloc (.cells #[.int .i64 (i : Int)] t2)).alloc (.cells #[.int .u8 0, .string ⟨#[]⟩, .slice none 0 0, .slice none 0 0] t3)).heap.size = W.heap.size + 1 + 1 + 1 := by simp
  have al : ∀ (w : World) (o : Obj), Below w.heap.size w (w.alloc o) := fun w o => (Below.refl _ _).alloc (Nat.le_refl _) _
  refine ⟨?_, ?_, ?_, ?_, ?_, ?_, by simp⟩
  · rw [(al _ _).cell (by rw [z3]; show W.heap.size < _; omega), (al _ _).cell (by rw [z2]; show W.heap.size < _; omega), (al _ _).cell (by rw [z1]; show W.heap.size < _; omega), World.cell?_alloc_at _ _ _ _ rfl]; rfl
  · rw [(al _ _).cell (by rw [z3]; show W.heap.size + 1 < _; omega), (al _ _).cell (by rw [z2]; show W.heap.size + 1 < _; omega), World.cell?_alloc_at _ _ _ _ z1.symm]; rfl
  · refine Bx4.alloc ?_ _
    have := Bx4.new ((W.alloc (.cells #[.pointer (some ⟨P, 0, none⟩)] t1)).alloc (.cells #[.int .i64 (i : Int)] t2)) (.int .u8 0) (.string ⟨#[]⟩) (.slice none 0 0) (.slice none 0 0) t3
    rw [z2] at this
    exact this
  · rw [World.cell?_alloc_at _ _ _ _ z3.symm]; rfl
  · rw [World.cell?_alloc_at _ _ _ _ z3.symm]; rfl
  · rw [World.cell?_alloc_at _ _ _ _ z3.symm]; rfl
/-- A formula in memory that is new from lo on, but not in block F. -/
def FValX (F lo : Nat) (w : World) (v : Value) (t : Fo) : Prop := ∃ a c a' c', v = .agg #[.int .u8 t.op, .string t.n, .slice a t.args.length c, .slice a' t.sub.length c'] ∧ (0 ≤ t.op ∧ t.op ≤ 255) ∧ okStr t.n ∧
  SlTD (fun b => Own lo w b ∧ b ≠ F) w (.slice a t.args.length c) t.args ∧ SlFD (fun b => Own lo w b ∧ b ≠ F) w (.slice a' t.sub.length c') t.sub
theorem FValX.of {F lo : Nat} {w : World} {v : Value} {t : Fo} (h : FVal lo w v t) (hF : w.heap.size ≤ F ∨ F < lo) : FValX F lo w v t := by
  obtain ⟨a, c, a', c', h1, h2, h3, h4, h5⟩ := h
  have hk : ∀ b, Own lo w b → Own lo w b ∧ b ≠ F := fun b hb => ⟨hb, by have := hb.1; have := hb.2; omega⟩
  exact ⟨a, c, a', c', h1, h2, h3, h4.keep (fun _ _ _ => rfl) hk, h5.keep (fun _ _ _ => rfl) hk⟩
theorem FValX.val {F lo : Nat} {w : World} {v : Value} {t : Fo} (h : FValX F lo w v t) : FVal lo w v t := by
  obtain ⟨a, c, a', c', h1, h2, h3, h4, h5⟩ := h
  exact ⟨a, c, a', c', h1, h2, h3, h4.keep (fun _ _ _ => rfl) (fun _ h => h.1), h5.keep (fun _ _ _ => rfl) (fun _ h => h.1)⟩
theorem FValX.keep {P F lo lo' : Nat} {w w' : World} {v : Value} {t : Fo} (h : FValX F lo w v t) (hg : GP P w w') (hP : P < lo) (hl : lo' ≤ lo) : FValX F lo' w' v t := by
  obtain ⟨a, c, a', c', h1, h2, h3, h4, h5⟩ := h
  obtain ⟨k1, k2⟩ := own_keep hg hP hl
  exact ⟨a, c, a', c', h1, h2, h3, h4.keep (fun b hb => k1 b hb.1) (fun b hb => ⟨k2 b hb.1, hb.2⟩), h5.keep (fun b hb => k1 b hb.1) (fun b hb => ⟨k2 b hb.1, hb.2⟩)⟩
theorem FValX.put {F lo : Nat} {w : World} {v : Value} {t : Fo} (h : FValX F lo w v t) (x0 x1 x2 x3 : Value) : FValX F lo (put4 w F x0 x1 x2 x3) v t := by
  obtain ⟨a, c, a', c', h1, h2, h3, h4, h5⟩ := h
  have k1 : ∀ b, Own lo w b ∧ b ≠ F → ∀ q, (put4 w F x0 x1 x2 x3).cell? ⟨b, q, none⟩ = w.cell? ⟨b, q, none⟩ := fun b hb q => World.cell?_of_block (put4_heap _ _ _ _ _ _ b hb.2)
  have k2 : ∀ b, Own lo w b ∧ b ≠ F → Own lo (put4 w F x0 x1 x2 x3) b ∧ b ≠ F := fun b hb => ⟨⟨hb.1.1, by rw [put4_size]; exact hb.1.2⟩, hb.2⟩
  exact ⟨a, c, a', c', h1, h2, h3, h4.keep k1 k2, h5.keep k1 k2⟩
theorem fval_two {F lo g : Nat} {w : World} (o : Int) (ho : 0 ≤ o ∧ o ≤ 255) {f a : Fo} {x2 x3 a2 a3 : Option Addr} {c2 c3 k2 k3 : Nat} (hg : Own lo w g ∧ g ≠ F)
    (hf : FValX F lo w (.agg #[.int .u8 f.op, .string f.n, .slice x2 f.args.length c2, .slice x3 f.sub.length c3]) f) (ha : FValX F lo w (.agg #[.int .u8 a.op, .string a.n, .slice a2 a.args.length k2, .slice a3 a.sub.length k3]) a)
    (hc : ∀ j u, [Value.int .u8 f.op, .string f.n, .slice x2 f.args.length c2, .slice x3 f.sub.length c3, .int .u8 a.op, .string a.n, .slice a2 a.args.length k2, .slice a3 a.sub.length k3][j]? = some u → w.cell? ⟨g, j, none⟩ = some u) :
    FValX F lo w (.agg #[.int .u8 o, .string ⟨#[]⟩, .slice none 0 0, .slice (some ⟨g, 0, none⟩) 2 2]) (two o f a) := by
  obtain ⟨y2, d2, y3, d3, he', ho1, hn1, h21, h31⟩ := hf
  simp only [Value.agg.injEq, Array.mk.injEq, List.cons.injEq, Value.slice.injEq, true_and, and_true] at he'
  obtain ⟨⟨rfl, rfl⟩, rfl, rfl⟩ := he'
  obtain ⟨b2, e2, b3, e3, he, ho', hn', h2, h3⟩ := ha
  simp only [Value.agg.injEq, Array.mk.injEq, List.cons.injEq, Value.slice.injEq, true_and, and_true] at he
  obtain ⟨⟨rfl, rfl⟩, rfl, rfl⟩ := he
  refine ⟨none, 0, some ⟨g, 0, none⟩, 2, rfl, ho, (show okStr ⟨#[]⟩ from ok_str (by decide)), nil_ts _ _, ⟨some ⟨g, 0, none⟩, 2, g, 0, rfl, by simp [two, Fo.sub], .inr ⟨rfl, hg⟩, ?_⟩⟩
  exact RowF.fsD (RowF.snoc ho' hn' h2 h3 (RowF.snoc (l := []) ho1 hn1 h21 h31 rfl)) fun j u hj => by rw [Nat.zero_add]; exact hc j u hj
theorem lvO_rng (i : Nat) : 0 ≤ lvO i ∧ lvO i ≤ 255 := by
  match i with
  | 0 => decide
  | 1 => decide
  | 2 => decide
  | 3 => decide
  | _ + 4 => exact (by decide : 0 ≤ lvO 4 ∧ lvO 4 ≤ 255)
/-- The contract of binary at the last level. -/
theorem start_grow (W : World) {P : Nat} (o1 o2 o3 : Obj) : GP P W (((W.alloc o1).alloc o2).alloc o3) := GP.of ((((Below.refl _ _).alloc (Nat.le_refl _) _).alloc (by simp) _).alloc (by simp; omega) _)
set_option maxRecDepth 20000 in
set_option maxHeartbeats 2000000 in
theorem binary_five (P : Nat) (m : Bool) (n : Nat) (ts : List Tg) (hU : UnQ P m n ts) : BinQ P m 5 n ts := by
  intro W h
  have hP := h.lt
  rw [binC_un]
  have hg0 : GP P W (((W.alloc (.cells #[.pointer (some ⟨P, 0, none⟩)] 53)).alloc (.cells #[.int .i64 5] 3)).alloc (.cells #[.int .u8 0, .string ⟨#[]⟩, .slice none 0 0, .slice none 0 0] 25)) := start_grow W _ _ _
  have hun := hU _ (h.keep (W' := (((W.alloc (.cells #[.pointer (some ⟨P, 0, none⟩)] 53)).alloc (.cells #[.int .i64 5] 3)).alloc (.cells #[.int .u8 0, .string ⟨#[]⟩, .slice none 0 0, .slice none 0 0] 25))) (fun b hb => by
    have h1 : Below W.heap.size W (((W.alloc (.cells #[.pointer (some ⟨P, 0, none⟩)] 53)).alloc (.cells #[.int .i64 5] 3)).alloc (.cells #[.int .u8 0, .string ⟨#[]⟩, .slice none 0 0, .slice none 0 0] 25)) := (((Below.refl _ _).alloc (Nat.le_refl _) _).alloc (by simp) _).alloc (by simp; omega) _
    exact h1.block b (by omega)) (by simp; omega))
  have HR := Lib.hid (show Bx4 (((W.alloc (.cells #[.pointer (some ⟨P, 0, none⟩)] 53)).alloc (.cells #[.int .i64 5] 3)).alloc (.cells #[.int .u8 0, .string ⟨#[]⟩, .slice none 0 0, .slice none 0 0] 25)) (W.heap.size + 1 + 1) (.int .u8 0) (.string ⟨#[]⟩) (.slice none 0 0) (.slice none 0 0) from by
    have := Bx4.new ((W.alloc (.cells #[.pointer (some ⟨P, 0, none⟩)] 53)).alloc (.cells #[.int .i64 5] 3)) (.int .u8 0) (.string ⟨#[]⟩) (.slice none 0 0) (.slice none 0 0) 25
    simpa using this)
  have HG0 := Lib.hid hg0
  have HPP := Lib.hid hP
  obtain ⟨Q, hQ⟩ : ∃ Q : Ending → World → Prop, Q = RuQ FVal W P n m (unC m n ts) := ⟨_, rfl⟩
  rw [show ((5 : Nat) : Int) = 5 from rfl, ← hQ]
  clear h hU hg0 hP
  cases hx : unC m n ts with
  | er a e0 =>
    rw [hx] at hun hQ
    have HQ := Lib.hid hQ
    clear hx hQ
    go_enter Tryd.func35, Tryd.ntmps35
    go_wp2_with fail
    refine hun.mono ?_
    rintro e w1 ⟨rfl, hg1⟩
    refine ⟨rfl, ?_⟩
    rw [HQ.out]
    exact ⟨rfl, HG0.out.tr hg1⟩
  | ok a r =>
    rw [hx] at hun hQ
    have HQ := Lib.hid hQ
    clear hx hQ
    go_enter Tryd.func35, Tryd.ntmps35
    go_wp2_with fail
    refine hun.mono ?_
    rintro e w1 ⟨v, rfl, hv, hp1, hg1⟩
    have HV := Lib.hid hv
    obtain ⟨a2, k2, a3, k3, rfl, HREST⟩ := hv
    obtain ⟨r0, r1, r2, r3, q0, q1, q2, q3, hRz⟩ := HR.out.go hg1 (by have := HPP.out; omega)
    have HP1 := Lib.hid hp1
    have HG1 := Lib.hid (HG0.out.tr hg1)
    clear hp1 hg1 HREST hun
    go_wp2_with fail
    refine bodyPost_ret (v := .agg #[.int .u8 a.op, .string a.n, .slice a2 a.args.length k2, .slice a3 a.sub.length k3]) (by simp [results, Tryd.results35, go_sem, r0, r1, r2, r3, hRz]) rfl ?_
    rw [HQ.out]
    obtain ⟨e1, e2, e3⟩ := put_res HV.out HP1.out HG1.out HPP.out (R := W.heap.size + 1 + 1) (by omega) (by simp) (.int .u8 a.op) (.string a.n) (.slice a2 a.args.length k2) (.slice a3 a.sub.length k3)
    exact ⟨_, rfl, e1, e2, e3⟩
end Go.Proofs.YtkeckecdhcknhaaDoor.Ps

/-
  The contract of binary at a level that is grouped from the right.
-/
namespace Go.Proofs.YtkeckecdhcknhaaDoor.Ps
open Go Go.RowKit Go.Shelf Go.Proofs.YtkeckecdhcknhaaDoor.Fm Go.Proofs.YtkeckecdhcknhaaDoor.Lx
set_option linter.unusedVariables false
set_option linter.unusedSimpArgs false
set_option maxRecDepth 20000 in
set_option maxHeartbeats 2000000 in
theorem binary_right (P : Nat) (m : Bool) (i n : Nat) (ts : List Tg) (hi5 : i < 5) (hR : lvR i = true) (hB : BinQ P m (i + 1) n ts) (hN : ∀ r : List Tg, r.length < ts.length → BinQ P m i (n + 1) r) : BinQ P m i n ts := by
  intro W h
  have hP := h.lt
  have hbd := h.bd
  obtain ⟨hl0, hlv⟩ := h.lv
  obtain ⟨c0, c1, c2⟩ := hlv i hi5
  have hW0 : 0 < W.heap.size := Nat.lt_trans hl0 hP
  have HST := Lib.hid h
  obtain ⟨Q, hQ⟩ : ∃ Q : Ending → World → Prop, Q = RuQ FVal W P n m (binC m i n ts) := ⟨_, rfl⟩
  rw [← hQ]
  rw [binC_eq m i n ts hi5, hR] at hQ
  simp only [if_true] at hQ
  have HQ := Lib.hid hQ
  have HPP := Lib.hid hP
  have HB := Lib.hid hB
  have HN := Lib.hid hN
  have HBD := Lib.hid hbd
  have HI5 := Lib.hid hi5
  have n0 : (0 : Int) ≤ (i : Int) := by omega
  have n1 : (i : Int) < 5 := by omega
  have d5 : ((i : Int) == 5) = false := beq_eq_false_iff_ne.2 (by omega)
  have hie : ¬ i = 5 := by omega
  have hes := env_start W P i 53 3 25 91
  rw [hR] at c2 hes
  have HES := Lib.hid hes
  clear hes
  clear hl0 hlv hQ hP h hB hN hbd hi5
  go_enter Tryd.func35, Tryd.ntmps35
  go_upto_region 4 with fail
  generalize hw : ((((W.alloc (.cells #[.pointer (some ⟨P, 0, none⟩)] 53)).alloc (.cells #[.int .i64 (i : Int)] 3)).alloc (.cells #[.int .u8 0, .string ⟨#[]⟩, .slice none 0 0, .slice none 0 0] 25)).alloc (.cells #[.string (lvS i), .int .u8 (lvO i), .bool true] 91)) = w0
  have hbw : Below W.heap.size W w0 := by rw [← hw]; exact ((((Below.refl _ _).alloc (Nat.le_refl _) _).alloc (by simp) _).alloc (by simp; omega) _).alloc (by simp; omega) _
  have hes : Env w0 W.heap.size P i := by rw [← hw]; exact HES.out
  have hps := HST.out.grow hbw
  have hb := HB.out w0 hps
  have n2 : ((i + 1 : Nat) : Int) = (i : Int) + 1 := by omega
  rw [n2] at hb
  have e0 := hes.p
  have e1 := hes.iv
  have HE0 := Lib.hid hes
  have HG0 := Lib.hid (GP.of (P := P) hbw)
  have HTL := Lib.hid (binC_len m (i + 1) n ts)
  clear hw hbw hes hps HES HB HST n2
  cases hx : binC m (i + 1) n ts with
  | er a e0 =>
    rw [hx] at hb HQ
    clear hx
    go_wp2_with fail
    refine hb.mono ?_
    rintro e w1 ⟨rfl, hg1⟩
    refine ⟨rfl, ?_⟩
    rw [HQ.out]
    exact ⟨rfl, HG0.out.tr hg1⟩
  | ok f r =>
    have HRL := Lib.hid (HTL.out f r hx)
    rw [hx] at hb HQ
    simp only [R.bind] at HQ
    clear hx HTL
    go_wp2_with fail
    refine hb.mono ?_
    rintro e w1 ⟨v, rfl, hv, hp1, hg1⟩
    have HV1 := Lib.hid hv
    obtain ⟨a2, k2, a3, k3, rfl, HREST⟩ := hv
    have HP1 := Lib.hid hp1
    have HG1 := Lib.hid hg1
    clear hp1 hg1 HREST hb e0 e1
    go_upto_region 5 with fail
    generalize hX : w1.alloc (.cells #[.int .u8 f.op, .string f.n, .slice a2 f.args.length k2, .slice a3 f.sub.length k3] 25) = X
    have hal : Below w1.heap.size w1 X := by rw [← hX]; exact (Below.refl _ _).alloc (Nat.le_refl _) _
    have hbF : Bx4 X w1.heap.size (.int .u8 f.op) (.string f.n) (.slice a2 f.args.length k2) (.slice a3 f.sub.length k3) := by rw [← hX]; exact Bx4.new _ _ _ _ _ _
    have hzX : X.heap.size = w1.heap.size + 1 := by rw [← hX]; simp
    have hz01 := HG1.out.size
    have hz0 := HE0.out.z
    have hE1 := (HE0.out.go HG1.out HPP.out).go (GP.of hal) HPP.out
    have hpX := HP1.out.grow hal
    have HVF0 := Lib.hid ((FValX.of (F := w1.heap.size) HV1.out (.inl (Nat.le_refl _))).keep (P := P) (GP.of hal) (Nat.lt_of_lt_of_le HPP.out HG0.out.size) (Nat.le_refl _))
    have HVX := Lib.hid ((HV1.out.keep (P := P) (GP.of hal) (Nat.lt_of_lt_of_le HPP.out HG0.out.size) (Nat.le_refl _)))
    have hk := skip_c P n m r (lvS i) (lvS_ne i) X hpX
    unfold skT at hk
    have HBF := Lib.hid hbF
    have HE1 := Lib.hid hE1
    have HGX := Lib.hid ((HG0.out.tr HG1.out).tr (GP.of hal))
    have HAL := Lib.hid hal
    have t0 := hE1.p
    have t1 := hE1.s0
    have t2 := hE1.s2
    rw [hR] at t2
    clear hX hal hbF hpX hE1
    cases hi : is r (lvS i) with
    | false =>
      rw [hi] at hk HQ
      simp only [Bool.false_eq_true, if_false] at hk HQ
      clear hi
      go_wp2_with fail
      refine hk.mono ?_
      rintro e w2 ⟨rfl, hp2, hg2⟩
      have hE2 := HE1.out.go hg2 HPP.out
      have hF2 := HBF.out.go hg2 (by have := HPP.out; omega)
      have HP2 := Lib.hid hp2
      have HG2 := Lib.hid (HGX.out.tr hg2)
      have HV2 := Lib.hid (HVX.out.keep (P := P) hg2 (Nat.lt_of_lt_of_le HPP.out HG0.out.size) (Nat.le_refl _))
      obtain ⟨r0, r1, r2, r3, q0, q1, q2, q3, hRz⟩ := hE2.r
      obtain ⟨l0, l1, l2, l3, _, _, _, _, hLz⟩ := hF2
      clear hp2 hg2 hk t0 t1 t2 hE2
      go_wp2_with fail
      refine bodyPost_ret (v := .agg #[.int .u8 f.op, .string f.n, .slice a2 f.args.length k2, .slice a3 f.sub.length k3]) (by simp [results, Tryd.results35, go_sem, r0, r1, r2, r3, hRz]) rfl ?_
      rw [HQ.out]
      obtain ⟨e1, e2, e3⟩ := put_res HV2.out HP2.out HG2.out HPP.out (R := W.heap.size + 1 + 1) (by omega) (by omega) (.int .u8 f.op) (.string f.n) (.slice a2 f.args.length k2) (.slice a3 f.sub.length k3)
      exact ⟨_, rfl, e1, e2, e3⟩
    | true =>
      have hdl := drop_len hi (lvS_ne i)
      rw [hi] at hk HQ
      simp only [if_true] at hk HQ
      obtain ⟨r', hr'⟩ : ∃ r', r.drop 1 = r' := ⟨_, rfl⟩
      rw [hr'] at hk HQ hdl
      have HDL := Lib.hid hdl
      clear hi hr' hdl
      go_wp2_with fail
      refine hk.mono ?_
      rintro e w2 ⟨rfl, hp2, hg2⟩
      go_upto_region 7 with fail
      have hgd : GP P w2 w2.drew := GP.of (Below.drew (Below.refl _ _))
      have hE3 := (HE1.out.go hg2 HPP.out).go hgd HPP.out
      have hF3 := (HBF.out.go hg2 (by have := HPP.out; omega)).go hgd (by have := HPP.out; omega)
      have hp3 := hp2.grow (Below.drew (Below.refl _ _))
      have HV3 := Lib.hid ((HVF0.out.keep (P := P) hg2 (Nat.lt_of_lt_of_le HPP.out HG0.out.size) (Nat.le_refl _)).keep (P := P) hgd (Nat.lt_of_lt_of_le HPP.out HG0.out.size) (Nat.le_refl _))
      have HG3 := Lib.hid ((HGX.out.tr hg2).tr hgd)
      have HZ3 := Lib.hid (show w1.heap.size < w2.drew.heap.size from hF3.lt)
      clear hgd
      generalize hwd : w2.drew = wd at *
      have hn := nestBinP_c P n m r' (binC m i (n + 1) r') (b0 := W.heap.size) (b1 := W.heap.size + 1) wd hp3 (by have := HBD.out; have := HDL.out; have := HRL.out; omega) (fun a r2 e => Nat.le_of_lt (binC_len m i (n + 1) r' a r2 e))
        fun W1 h1 hg => bin1_of P m i (n + 1) r' (HN.out r' (by have := HDL.out; have := HRL.out; omega)) _ _ W1 h1 (hE3.go hg HPP.out).p (hE3.go hg HPP.out).iv
      have HE3 := Lib.hid hE3
      have HF3 := Lib.hid hF3
      clear hp2 hg2 hp3 hk t0 t1 t2
      have HS := Lib.hid (show ∀ w', Env w' W.heap.size P i → Bx4 w' w1.heap.size (.int .u8 f.op) (.string f.n) (.slice a2 f.args.length k2) (.slice a3 f.sub.length k3) → (w'.cell? ⟨W.heap.size + 1 + 1 + 1, 1, none⟩ = some (.int .u8 (lvO i)) ∧ w'.cell? ⟨W.heap.size, 0, none⟩ = some (.pointer (some ⟨P, 0, none⟩)) ∧ w'.cell? ⟨w1.heap.size, 0, none⟩ = some (.int .u8 f.op) ∧ w'.cell? ⟨w1.heap.size, 1, none⟩ = some (.string f.n) ∧ w'.cell? ⟨w1.heap.size, 2, none⟩ = some (.slice a2 f.args.length k2) ∧ w'.cell? ⟨w1.heap.size, 3, none⟩ = some (.slice a3 f.sub.length k3)) from fun w' he hf => ⟨he.s1, he.p, hf.c0, hf.c1, hf.c2, hf.c3⟩)
      clear hE3 hF3
      cases hx2 : binC m i (n + 1) r' with
      | er a e0 =>
        rw [hx2] at hn HQ
        clear hx2
        refine wp_region_SP (fun c w' => Ending.panicked c = wrongV a e0 ∧ GP P W w') (fun c a' w' hd h => ⟨hd, by rw [HQ.out, h.1]; exact ⟨rfl, h.2⟩⟩) (fun w' => w'.cell? ⟨W.heap.size + 1 + 1 + 1, 1, none⟩ = some (.int .u8 (lvO i)) ∧ w'.cell? ⟨W.heap.size, 0, none⟩ = some (.pointer (some ⟨P, 0, none⟩)) ∧ w'.cell? ⟨w1.heap.size, 0, none⟩ = some (.int .u8 f.op) ∧ w'.cell? ⟨w1.heap.size, 1, none⟩ = some (.string f.n) ∧ w'.cell? ⟨w1.heap.size, 2, none⟩ = some (.slice a2 f.args.length k2) ∧ w'.cell? ⟨w1.heap.size, 3, none⟩ = some (.slice a3 f.sub.length k3)) [7] 8 #[false, false, false, false, false, false, false, false] (by kernel_rfl) (by kernel_rfl) (by kernel_rfl) (by rw [hwd]; exact HS.out wd HE3.out HF3.out) (fun hHeld => ?_)
        rw [hwd] at hHeld ⊢
        refine wpAnyS_take (i := 0) (oi := ⟨some 24, _, _, _, _, _⟩) (v := .pointer (some ⟨W.heap.size + 1 + 1 + 1, 1, none⟩)) rfl (by kernel_rfl) (by kernel_rfl) (by kernel_rfl) (by kernel_rfl) (fun _ _ _ h => Both.panic h) (Or.inl ⟨by rfl, ?_⟩) (by assumption) ?_
        · intro w' hSw
          obtain ⟨k1', k2', k3', k4', k5', k6'⟩ := hSw
          go_simp
        simp only [Act.put, List.setIfInBounds_toArray, List.set_cons_zero, List.set_cons_succ]
        refine wpAnyS_take (i := 1) (oi := ⟨some 25, _, _, _, _, _⟩) (v := .int .u8 (lvO i)) rfl (by kernel_rfl) (by kernel_rfl) (by kernel_rfl) (by kernel_rfl) (fun _ _ _ h => Both.panic h) (Or.inl ⟨by rfl, ?_⟩) (by assumption) ?_
        · intro w' hSw
          obtain ⟨k1', k2', k3', k4', k5', k6'⟩ := hSw
          go_simp
        simp only [Act.put, List.setIfInBounds_toArray, List.set_cons_zero, List.set_cons_succ]
        refine wpAnyS_take (i := 2) (oi := ⟨some 26, _, _, _, _, _⟩) (v := .agg #[.int .u8 f.op, .string f.n, .slice a2 f.args.length k2, .slice a3 f.sub.length k3]) rfl (by kernel_rfl) (by kernel_rfl) (by kernel_rfl) (by kernel_rfl) (fun _ _ _ h => Both.panic h) (Or.inl ⟨by rfl, ?_⟩) (by assumption) ?_
        · intro w' hSw
          obtain ⟨k1', k2', k3', k4', k5', k6'⟩ := hSw
          go_simp
        simp only [Act.put, List.setIfInBounds_toArray, List.set_cons_zero, List.set_cons_succ]
        refine wpAnyS_take (i := 3) (oi := ⟨some 27, _, _, _, _, _⟩) (v := .pointer (some ⟨P, 0, none⟩)) rfl (by kernel_rfl) (by kernel_rfl) (by kernel_rfl) (by kernel_rfl) (fun _ _ _ h => Both.panic h) (Or.inl ⟨by rfl, ?_⟩) (by assumption) ?_
        · intro w' hSw
          obtain ⟨k1', k2', k3', k4', k5', k6'⟩ := hSw
          go_simp
        simp only [Act.put, List.setIfInBounds_toArray, List.set_cons_zero, List.set_cons_succ]
        refine wpAnyS_take (i := 4) (oi := ⟨some 28, _, _, _, _, _⟩) (v := .func (.func 49) #[] #[.pointer (some ⟨W.heap.size, 0, none⟩), .pointer (some ⟨W.heap.size + 1, 0, none⟩)]) rfl (by kernel_rfl) (by kernel_rfl) (by kernel_rfl) (by kernel_rfl) (fun _ _ _ h => Both.panic h) (Or.inl ⟨by rfl, ?_⟩) (by assumption) ?_
        · intro w' hSw
          obtain ⟨k1', k2', k3', k4', k5', k6'⟩ := hSw
          go_simp
        simp only [Act.put, List.setIfInBounds_toArray, List.set_cons_zero, List.set_cons_succ]
        refine wpAnyS_one (i := 5) (oi := ⟨some 29, _, _, _, _, _⟩) rfl (by kernel_rfl) (by rfl) (fun K hK => ?_)
        go_simp
        refine hn.mono ?_
        rintro e w3 ⟨rfl, hg3⟩
        exact ⟨rfl, rfl, HG3.out.tr hg3⟩
      | ok g r2 =>
        rw [hx2] at hn HQ
        clear hx2
        refine wp_region_SP (fun c w' => False) (fun c a' w' hd h => h.elim) (fun w' => w'.cell? ⟨W.heap.size + 1 + 1 + 1, 1, none⟩ = some (.int .u8 (lvO i)) ∧ w'.cell? ⟨W.heap.size, 0, none⟩ = some (.pointer (some ⟨P, 0, none⟩)) ∧ w'.cell? ⟨w1.heap.size, 0, none⟩ = some (.int .u8 f.op) ∧ w'.cell? ⟨w1.heap.size, 1, none⟩ = some (.string f.n) ∧ w'.cell? ⟨w1.heap.size, 2, none⟩ = some (.slice a2 f.args.length k2) ∧ w'.cell? ⟨w1.heap.size, 3, none⟩ = some (.slice a3 f.sub.length k3)) [7] 8 #[false, false, false, false, false, false, false, false] (by kernel_rfl) (by kernel_rfl) (by kernel_rfl) (by rw [hwd]; exact HS.out wd HE3.out HF3.out) (fun hHeld => ?_)
        rw [hwd] at hHeld ⊢
        refine wpAnyS_take (i := 0) (oi := ⟨some 24, _, _, _, _, _⟩) (v := .pointer (some ⟨W.heap.size + 1 + 1 + 1, 1, none⟩)) rfl (by kernel_rfl) (by kernel_rfl) (by kernel_rfl) (by kernel_rfl) (fun _ _ _ h => Both.panic h) (Or.inl ⟨by rfl, ?_⟩) (by assumption) ?_
        · intro w' hSw
          obtain ⟨k1', k2', k3', k4', k5', k6'⟩ := hSw
          go_simp
        simp only [Act.put, List.setIfInBounds_toArray, List.set_cons_zero, List.set_cons_succ]
        refine wpAnyS_take (i := 1) (oi := ⟨some 25, _, _, _, _, _⟩) (v := .int .u8 (lvO i)) rfl (by kernel_rfl) (by kernel_rfl) (by kernel_rfl) (by kernel_rfl) (fun _ _ _ h => Both.panic h) (Or.inl ⟨by rfl, ?_⟩) (by assumption) ?_
        · intro w' hSw
          obtain ⟨k1', k2', k3', k4', k5', k6'⟩ := hSw
          go_simp
        simp only [Act.put, List.setIfInBounds_toArray, List.set_cons_zero, List.set_cons_succ]
        refine wpAnyS_take (i := 2) (oi := ⟨some 26, _, _, _, _, _⟩) (v := .agg #[.int .u8 f.op, .string f.n, .slice a2 f.args.length k2, .slice a3 f.sub.length k3]) rfl (by kernel_rfl) (by kernel_rfl) (by kernel_rfl) (by kernel_rfl) (fun _ _ _ h => Both.panic h) (Or.inl ⟨by rfl, ?_⟩) (by assumption) ?_
        · intro w' hSw
          obtain ⟨k1', k2', k3', k4', k5', k6'⟩ := hSw
          go_simp
        simp only [Act.put, List.setIfInBounds_toArray, List.set_cons_zero, List.set_cons_succ]
        refine wpAnyS_take (i := 3) (oi := ⟨some 27, _, _, _, _, _⟩) (v := .pointer (some ⟨P, 0, none⟩)) rfl (by kernel_rfl) (by kernel_rfl) (by kernel_rfl) (by kernel_rfl) (fun _ _ _ h => Both.panic h) (Or.inl ⟨by rfl, ?_⟩) (by assumption) ?_
        · intro w' hSw
          obtain ⟨k1', k2', k3', k4', k5', k6'⟩ := hSw
          go_simp
        simp only [Act.put, List.setIfInBounds_toArray, List.set_cons_zero, List.set_cons_succ]
        refine wpAnyS_take (i := 4) (oi := ⟨some 28, _, _, _, _, _⟩) (v := .func (.func 49) #[] #[.pointer (some ⟨W.heap.size, 0, none⟩), .pointer (some ⟨W.heap.size + 1, 0, none⟩)]) rfl (by kernel_rfl) (by kernel_rfl) (by kernel_rfl) (by kernel_rfl) (fun _ _ _ h => Both.panic h) (Or.inl ⟨by rfl, ?_⟩) (by assumption) ?_
        · intro w' hSw
          obtain ⟨k1', k2', k3', k4', k5', k6'⟩ := hSw
          go_simp
        simp only [Act.put, List.setIfInBounds_toArray, List.set_cons_zero, List.set_cons_succ]
        refine wpAnyS_one (i := 5) (oi := ⟨some 29, _, _, _, _, _⟩) rfl (by kernel_rfl) (by rfl) (fun K hK => ?_)
        go_simp
        refine hn.mono ?_
        rintro e w3 ⟨v, rfl, hv, hp3, hg3⟩
        have HVG := Lib.hid hv
        obtain ⟨b2, j2, b3, j3, rfl, HREST⟩ := hv
        have HE4 := Lib.hid (HE3.out.go hg3 HPP.out)
        have HF4 := Lib.hid (HF3.out.go hg3 (by have := HPP.out; omega))
        have HV4 := Lib.hid (HV3.out.keep (P := P) hg3 (Nat.lt_of_lt_of_le HPP.out HG0.out.size) (Nat.le_refl _))
        have HP4 := Lib.hid hp3
        have HG4 := Lib.hid (HG3.out.tr hg3)
        have HZ4 := Lib.hid hg3.size
        have hHeld := HS.out w3 HE4.out HF4.out
        clear hp3 hg3 HREST hn HE3 HF3 HV3 HG3
        refine hK _ _ (fun _ => hHeld) ?_
        clear hK K
        simp only [Act.put, List.setIfInBounds_toArray, List.set_cons_zero, List.set_cons_succ]
        refine wpAnyS_one (i := 6) (oi := ⟨some 30, _, _, _, _, _⟩) rfl (by kernel_rfl) (by rfl) (fun K hK => ?_)
        go_simp
        refine (two_c (lvO i) _ _ _ _ _ _ _ _ w3).mono ?_
        rintro e w4 ⟨gg, rfl, hgg1, hgg2, hb4, hcells⟩
        have HE5 := Lib.hid (HE4.out.go (GP.of hb4) HPP.out)
        have hF5 := HF4.out.go (GP.of (P := P) hb4) (by have := HPP.out; omega)
        have hHeld := HS.out w4 HE5.out hF5
        have HVF := Lib.hid (HV4.out.keep (P := P) (GP.of hb4) (Nat.lt_of_lt_of_le HPP.out HG0.out.size) (Nat.le_refl _))
        have HVG5 := Lib.hid ((FValX.of (F := w1.heap.size) HVG.out (.inr HZ3.out)).keep (P := P) (GP.of hb4) (lo' := w0.heap.size) (by have := HPP.out; have := HG0.out.size; have := HZ3.out; have := HG1.out.size; omega) (by have := HZ3.out; have := HG1.out.size; omega))
        have HP5 := Lib.hid (HP4.out.grow hb4)
        have HG5 := Lib.hid (HG4.out.tr (GP.of hb4))
        have HF5 := Lib.hid hF5
        have HGG := Lib.hid (show w1.heap.size < gg by have := HZ3.out; have := HZ4.out; omega)
        have HGG2 := Lib.hid hgg2
        have HCE := Lib.hid hcells
        obtain ⟨l0, l1, l2, l3, p0, p1, p2, p3, hLz⟩ := hF5
        clear HE4 HF4 HV4 HP4 HG4 hgg1 hgg2 hb4 hcells
        refine hK _ _ (fun _ => hHeld) ?_
        clear hK K hHeld
        simp only [Act.put, List.setIfInBounds_toArray, List.set_cons_zero, List.set_cons_succ]
        refine wpAnyS_one (i := 7) (oi := ⟨none, _, _, _, _, _⟩) rfl (by kernel_rfl) (by rfl) (fun K hK => ?_)
        go_simp
        refine hK _ _ (fun h => absurd (by simp) h) ?_
        clear hK K
        refine wpAnyS_done (by kernel_rfl) ?_
        refine Both.normal ?_
        generalize hw5 : (((w4.setCell ⟨w1.heap.size, 0, none⟩ (.int .u8 (lvO i))).setCell ⟨w1.heap.size, 1, none⟩ (.string ⟨#[]⟩)).setCell ⟨w1.heap.size, 2, none⟩ (.slice none 0 0)).setCell ⟨w1.heap.size, 3, none⟩ (.slice (some ⟨gg, 0, none⟩) 2 2) = w5
        have hw5' : put4 w4 w1.heap.size (.int .u8 (lvO i)) (.string ⟨#[]⟩) (.slice none 0 0) (.slice (some ⟨gg, 0, none⟩) 2 2) = w5 := hw5
        have hv5 : FValX w1.heap.size w0.heap.size w5 (.agg #[.int .u8 (lvO i), .string ⟨#[]⟩, .slice none 0 0, .slice (some ⟨gg, 0, none⟩) 2 2]) (two (lvO i) f g) := by
          rw [← hw5']
          refine FValX.put ?_ _ _ _ _
          refine fval_two (lvO i) (lvO_rng i) ⟨⟨by have := HGG.out; have := HG1.out.size; omega, HGG2.out⟩, by have := HGG.out; omega⟩ HVF.out HVG5.out HCE.out
        have hE6 : Env w5 W.heap.size P i := by
          rw [← hw5']
          exact HE5.out.heap (fun b h1 h2 => put4_heap _ _ _ _ _ _ b (by have := HE0.out.z; have := HG1.out.size; omega)) (by rw [put4_size]; exact Nat.le_refl _)
        have hF6 : Bx4 w5 w1.heap.size (.int .u8 (lvO i)) (.string ⟨#[]⟩) (.slice none 0 0) (.slice (some ⟨gg, 0, none⟩) 2 2) := by rw [← hw5']; exact HF5.out.put _ _ _ _
        have hP6 : PSt w5 P m n r2 := by rw [← hw5']; exact HP5.out.put4 (by have := HPP.out; have := HE0.out.z; have := HG1.out.size; omega) _ _ _ _
        have hG6 : GP P W w5 := by rw [← hw5']; exact put4_grow HG5.out (by have := HE0.out.z; have := HG1.out.size; omega) _ _ _ _
        have HV6 := Lib.hid hv5
        have HP6 := Lib.hid hP6
        have HG6 := Lib.hid hG6
        obtain ⟨r0, r1, r2', r3', q0, q1, q2, q3, hRz⟩ := hE6.r
        obtain ⟨l0, l1, l2, l3, _, _, _, _, hLz⟩ := hF6
        clear hw5 hw5' hv5 hE6 hP6 hG6 p0 p1 p2 p3
        go_wp2_with fail
        refine bodyPost_ret (v := .agg #[.int .u8 (lvO i), .string ⟨#[]⟩, .slice none 0 0, .slice (some ⟨gg, 0, none⟩) 2 2]) (by simp [results, Tryd.results35, go_sem, r0, r1, r2', r3', hRz]) rfl ?_
        rw [HQ.out]
        obtain ⟨e1, e2, e3⟩ := put_res HV6.out.val HP6.out HG6.out HPP.out (R := W.heap.size + 1 + 1) (by omega) (by have := HE0.out.z; omega) (.int .u8 (lvO i)) (.string ⟨#[]⟩) (.slice none 0 0) (.slice (some ⟨gg, 0, none⟩) 2 2)
        exact ⟨_, rfl, e1, e2, e3⟩
end Go.Proofs.YtkeckecdhcknhaaDoor.Ps

/-
  The contract of binary at a level that is grouped from the left.
-/
namespace Go.Proofs.YtkeckecdhcknhaaDoor.Ps
open Go Go.RowKit Go.Shelf Go.Proofs.YtkeckecdhcknhaaDoor.Fm Go.Proofs.YtkeckecdhcknhaaDoor.Lx
set_option linter.unusedVariables false
set_option linter.unusedSimpArgs false
/-- The loop's state: the formula so far in its own variable. -/
def BlRel (P : Nat) (m : Bool) (i n : Nat) (X : R Fo) (W : World) (F lo N : Nat) (wr : World) : Prop := ∃ f r x2 c2 x3 c3, Env wr W.heap.size P i ∧ Bx4 wr F (.int .u8 f.op) (.string f.n) (.slice x2 f.args.length c2) (.slice x3 f.sub.length c3) ∧
  PSt wr P m n r ∧ GP P W wr ∧ FValX F lo wr (.agg #[.int .u8 f.op, .string f.n, .slice x2 f.args.length c2, .slice x3 f.sub.length c3]) f ∧ chC m i n f r = X ∧ r.length < N
set_option maxRecDepth 20000 in
set_option maxHeartbeats 2000000 in
theorem binary_left (P : Nat) (m : Bool) (i n : Nat) (ts : List Tg) (hi5 : i < 5) (hR : lvR i = false) (hB : BinQ P m (i + 1) n ts) (hN : ∀ r : List Tg, r.length < ts.length → BinQ P m (i + 1) n r) : BinQ P m i n ts := by
  intro W h
  have hP := h.lt
  have hbd := h.bd
  obtain ⟨hl0, hlv⟩ := h.lv
  obtain ⟨c0, c1, c2⟩ := hlv i hi5
  have hW0 : 0 < W.heap.size := Nat.lt_trans hl0 hP
  have HST := Lib.hid h
  obtain ⟨Q, hQ⟩ : ∃ Q : Ending → World → Prop, Q = RuQ FVal W P n m (binC m i n ts) := ⟨_, rfl⟩
  rw [← hQ]
  rw [binC_eq m i n ts hi5, hR] at hQ
  simp only [Bool.false_eq_true, if_false] at hQ
  have HQ := Lib.hid hQ
  have HPP := Lib.hid hP
  have HB := Lib.hid hB
  have HN := Lib.hid hN
  have HBD := Lib.hid hbd
  have HI5 := Lib.hid hi5
  have n0 : (0 : Int) ≤ (i : Int) := by omega
  have n1 : (i : Int) < 5 := by omega
  have d5 : ((i : Int) == 5) = false := beq_eq_false_iff_ne.2 (by omega)
  have hie : ¬ i = 5 := by omega
  have hes := env_start W P i 53 3 25 91
  rw [hR] at c2 hes
  have HES := Lib.hid hes
  clear hes
  clear hl0 hlv hQ hP h hB hN hbd hi5
  go_enter Tryd.func35, Tryd.ntmps35
  go_upto_region 4 with fail
  generalize hw : ((((W.alloc (.cells #[.pointer (some ⟨P, 0, none⟩)] 53)).alloc (.cells #[.int .i64 (i : Int)] 3)).alloc (.cells #[.int .u8 0, .string ⟨#[]⟩, .slice none 0 0, .slice none 0 0] 25)).alloc (.cells #[.string (lvS i), .int .u8 (lvO i), .bool false] 91)) = w0
  have hbw : Below W.heap.size W w0 := by rw [← hw]; exact ((((Below.refl _ _).alloc (Nat.le_refl _) _).alloc (by simp) _).alloc (by simp; omega) _).alloc (by simp; omega) _
  have hes : Env w0 W.heap.size P i := by rw [← hw]; exact HES.out
  have hps := HST.out.grow hbw
  have hb := HB.out w0 hps
  have n2 : ((i + 1 : Nat) : Int) = (i : Int) + 1 := by omega
  rw [n2] at hb
  have e0 := hes.p
  have e1 := hes.iv
  have HE0 := Lib.hid hes
  have HG0 := Lib.hid (GP.of (P := P) hbw)
  have HTL := Lib.hid (binC_len m (i + 1) n ts)
  clear hw hbw hes hps HES HB HST n2
  cases hx : binC m (i + 1) n ts with
  | er a e0 =>
    rw [hx] at hb HQ
    clear hx
    go_wp2_with fail
    refine hb.mono ?_
    rintro e w1 ⟨rfl, hg1⟩
    refine ⟨rfl, ?_⟩
    rw [HQ.out]
    exact ⟨rfl, HG0.out.tr hg1⟩
  | ok f r =>
    have HRL := Lib.hid (HTL.out f r hx)
    rw [hx] at hb HQ
    simp only [R.bind] at HQ
    clear hx HTL
    go_wp2_with fail
    refine hb.mono ?_
    rintro e w1 ⟨v, rfl, hv, hp1, hg1⟩
    have HV1 := Lib.hid hv
    obtain ⟨a2, k2, a3, k3, rfl, HREST⟩ := hv
    have HP1 := Lib.hid hp1
    have HG1 := Lib.hid hg1
    clear hp1 hg1 HREST hb e0 e1
    go_upto_region 5 with fail
    generalize hX : w1.alloc (.cells #[.int .u8 f.op, .string f.n, .slice a2 f.args.length k2, .slice a3 f.sub.length k3] 25) = X
    have hal : Below w1.heap.size w1 X := by rw [← hX]; exact (Below.refl _ _).alloc (Nat.le_refl _) _
    have hbF : Bx4 X w1.heap.size (.int .u8 f.op) (.string f.n) (.slice a2 f.args.length k2) (.slice a3 f.sub.length k3) := by rw [← hX]; exact Bx4.new _ _ _ _ _ _
    have hzX : X.heap.size = w1.heap.size + 1 := by rw [← hX]; simp
    have hz01 := HG1.out.size
    have hz0 := HE0.out.z
    have hE1 := (HE0.out.go HG1.out HPP.out).go (GP.of hal) HPP.out
    have hpX := HP1.out.grow hal
    have HVF0 := Lib.hid ((FValX.of (F := w1.heap.size) HV1.out (.inl (Nat.le_refl _))).keep (P := P) (GP.of hal) (Nat.lt_of_lt_of_le HPP.out HG0.out.size) (Nat.le_refl _))
    have HVX := Lib.hid ((HV1.out.keep (P := P) (GP.of hal) (Nat.lt_of_lt_of_le HPP.out HG0.out.size) (Nat.le_refl _)))
    have HVF := Lib.hid HVF0.out
    have HBF := Lib.hid hbF
    have HE1 := Lib.hid hE1
    have HPX := Lib.hid hpX
    have HGX := Lib.hid ((HG0.out.tr HG1.out).tr (GP.of hal))
    have t0 := hE1.p
    have t1 := hE1.s0
    have t2 := hE1.s2
    rw [hR] at t2
    generalize hXX : chC m i n f r = XX at HQ
    have HXX := Lib.hid hXX
    clear hX hal hbF hpX hE1 hXX
    have HZA := Lib.hid (show W.heap.size + 4 ≤ w1.heap.size by omega)
    go_wp2_with fail
    go_loopw [] (fun wr => BlRel P m i n XX W w1.heap.size w0.heap.size ts.length wr) (fun wr => tkM P wr)
    case atStart => exact ⟨f, r, a2, k2, a3, k3, HE1.out, HBF.out, HPX.out, HGX.out, by
      have hv := HVF.out
      exact hv, HXX.out, HRL.out⟩
    case round =>
      obtain ⟨f', r1, x2, c2, x3, c3, hE, hF, hp, hg, hv, hch, hlen⟩ := hrel
      have hk := skip_c P n m r1 (lvS i) (lvS_ne i) wr hp
      unfold skT at hk
      rw [chC_eq m i n f' r1 HI5.out] at hch
      have HTK := Lib.hid (tkM_eq hp)
      have HBD1 := Lib.hid hp.bd
      have HE := Lib.hid hE
      have HF := Lib.hid hF
      have HG := Lib.hid hg
      have HVR := Lib.hid hv
      have HLEN := Lib.hid hlen
      have t0 := hE.p
      have t1 := hE.s0
      clear hE hF hg hv hlen hp
      cases hi : is r1 (lvS i) with
      | false =>
        rw [hi] at hk hch
        simp only [Bool.false_eq_true, if_false] at hk hch
        subst hch
        clear hi
        go_wp2_with fail
        refine hk.mono ?_
        rintro e w2 ⟨rfl, hp2, hg2⟩
        have hE2 := HE.out.go hg2 HPP.out
        have hF2 := HF.out.go hg2 (by have := HPP.out; have := HZA.out; omega)
        have HP2 := Lib.hid hp2
        have HG2 := Lib.hid (HG.out.tr hg2)
        have HV2 := Lib.hid (HVR.out.keep (P := P) hg2 (Nat.lt_of_lt_of_le HPP.out HG0.out.size) (Nat.le_refl _))
        obtain ⟨r0, r1', r2', r3', q0, q1, q2, q3, hRz⟩ := hE2.r
        obtain ⟨l0, l1, l2, l3, _, _, _, _, hLz⟩ := hF2
        clear hp2 hg2 hk t0 t1 hE2
        go_wp2_with fail
        refine bodyPost_ret (v := .agg #[.int .u8 f'.op, .string f'.n, .slice x2 f'.args.length c2, .slice x3 f'.sub.length c3]) (by simp [results, Tryd.results35, go_sem, r0, r1', r2', r3', hRz]) rfl ?_
        rw [HQ.out]
        obtain ⟨e1, e2, e3⟩ := put_res HV2.out.val HP2.out HG2.out HPP.out (R := W.heap.size + 1 + 1) (by omega) (by have := HE0.out.z; omega) (.int .u8 f'.op) (.string f'.n) (.slice x2 f'.args.length c2) (.slice x3 f'.sub.length c3)
        exact ⟨_, rfl, e1, e2, e3⟩
      | true =>
        have hdl := drop_len hi (lvS_ne i)
        rw [hi] at hk hch
        simp only [if_true] at hk hch
        obtain ⟨r', hr'⟩ : ∃ r', r1.drop 1 = r' := ⟨_, rfl⟩
        rw [hr'] at hk hch hdl
        have HDL := Lib.hid hdl
        clear hi hr' hdl
        go_wp2_with fail
        refine hk.mono ?_
        rintro e w2 ⟨rfl, hp2, hg2⟩
        go_upto_region 10 with fail
        have hgd : GP P w2 w2.drew := GP.of (Below.drew (Below.refl _ _))
        have hE3 := (HE.out.go hg2 HPP.out).go hgd HPP.out
        have hF3 := (HF.out.go hg2 (by have := HPP.out; have := HZA.out; omega)).go hgd (by have := HPP.out; have := HZA.out; omega)
        have hp3 := hp2.grow (Below.drew (Below.refl _ _))
        have HV3 := Lib.hid ((HVR.out.keep (P := P) hg2 (Nat.lt_of_lt_of_le HPP.out HG0.out.size) (Nat.le_refl _)).keep (P := P) hgd (Nat.lt_of_lt_of_le HPP.out HG0.out.size) (Nat.le_refl _))
        have HG3 := Lib.hid ((HG.out.tr hg2).tr hgd)
        have HZ3 := Lib.hid (show w1.heap.size < w2.drew.heap.size from hF3.lt)
        clear hgd
        generalize hwd : w2.drew = wd at *
        have hn := HN.out r' (by have := HDL.out; have := HLEN.out; omega) wd hp3
        have n2 : ((i + 1 : Nat) : Int) = (i : Int) + 1 := by omega
        rw [n2] at hn
        have HE3 := Lib.hid hE3
        have HF3 := Lib.hid hF3
        clear hp2 hg2 hp3 hk t0 t1 n2
        have HS := Lib.hid (show ∀ w', Env w' W.heap.size P i → Bx4 w' w1.heap.size (.int .u8 f'.op) (.string f'.n) (.slice x2 f'.args.length c2) (.slice x3 f'.sub.length c3) → _ from fun w' he hf => And.intro he.s1 (And.intro he.p (And.intro he.iv (And.intro hf.c0 (And.intro hf.c1 (And.intro hf.c2 hf.c3))))))
        have HTL2 := Lib.hid (binC_len m (i + 1) n r')
        clear hE3 hF3
        cases hx2 : binC m (i + 1) n r' with
        | er a e0 =>
          rw [hx2] at hn hch
          simp only [R.bind] at hch
          subst hch
          clear hx2
          refine wp_region_SP (fun c w' => Ending.panicked c = wrongV a e0 ∧ GP P W w') (fun c a' w' hd h => ⟨hd, by rw [HQ.out, h.1]; exact ⟨rfl, h.2⟩⟩) (fun w' => w'.cell? ⟨W.heap.size + 1 + 1 + 1, 1, none⟩ = some (.int .u8 (lvO i)) ∧ w'.cell? ⟨W.heap.size, 0, none⟩ = some (.pointer (some ⟨P, 0, none⟩)) ∧ w'.cell? ⟨W.heap.size + 1, 0, none⟩ = some (.int .i64 (i : Int)) ∧ w'.cell? ⟨w1.heap.size, 0, none⟩ = some (.int .u8 f'.op) ∧ w'.cell? ⟨w1.heap.size, 1, none⟩ = some (.string f'.n) ∧ w'.cell? ⟨w1.heap.size, 2, none⟩ = some (.slice x2 f'.args.length c2) ∧ w'.cell? ⟨w1.heap.size, 3, none⟩ = some (.slice x3 f'.sub.length c3)) [8] 9 #[false, false, false, false, false, false, false, false, false] (by kernel_rfl) (by kernel_rfl) (by kernel_rfl) (by rw [hwd]; exact HS.out wd HE3.out HF3.out) (fun hHeld => ?_)
          rw [hwd] at hHeld ⊢
          refine wpAnyS_take (i := 0) (oi := ⟨some 36, _, _, _, _, _⟩) (v := .pointer (some ⟨W.heap.size + 1 + 1 + 1, 1, none⟩)) rfl (by kernel_rfl) (by kernel_rfl) (by kernel_rfl) (by kernel_rfl) (fun _ _ _ h => Both.panic h) (Or.inl ⟨by rfl, ?_⟩) (by assumption) ?_
          · intro w' hSw
            obtain ⟨k1', k2', k3', k4', k5', k6', k7'⟩ := hSw
            go_simp
          simp only [Act.put, List.setIfInBounds_toArray, List.set_cons_zero, List.set_cons_succ]
          refine wpAnyS_take (i := 1) (oi := ⟨some 37, _, _, _, _, _⟩) (v := .int .u8 (lvO i)) rfl (by kernel_rfl) (by kernel_rfl) (by kernel_rfl) (by kernel_rfl) (fun _ _ _ h => Both.panic h) (Or.inl ⟨by rfl, ?_⟩) (by assumption) ?_
          · intro w' hSw
            obtain ⟨k1', k2', k3', k4', k5', k6', k7'⟩ := hSw
            go_simp
          simp only [Act.put, List.setIfInBounds_toArray, List.set_cons_zero, List.set_cons_succ]
          refine wpAnyS_take (i := 2) (oi := ⟨some 38, _, _, _, _, _⟩) (v := .agg #[.int .u8 f'.op, .string f'.n, .slice x2 f'.args.length c2, .slice x3 f'.sub.length c3]) rfl (by kernel_rfl) (by kernel_rfl) (by kernel_rfl) (by kernel_rfl) (fun _ _ _ h => Both.panic h) (Or.inl ⟨by rfl, ?_⟩) (by assumption) ?_
          · intro w' hSw
            obtain ⟨k1', k2', k3', k4', k5', k6', k7'⟩ := hSw
            go_simp
          simp only [Act.put, List.setIfInBounds_toArray, List.set_cons_zero, List.set_cons_succ]
          refine wpAnyS_take (i := 3) (oi := ⟨some 39, _, _, _, _, _⟩) (v := .pointer (some ⟨P, 0, none⟩)) rfl (by kernel_rfl) (by kernel_rfl) (by kernel_rfl) (by kernel_rfl) (fun _ _ _ h => Both.panic h) (Or.inl ⟨by rfl, ?_⟩) (by assumption) ?_
          · intro w' hSw
            obtain ⟨k1', k2', k3', k4', k5', k6', k7'⟩ := hSw
            go_simp
          simp only [Act.put, List.setIfInBounds_toArray, List.set_cons_zero, List.set_cons_succ]
          refine wpAnyS_take (i := 4) (oi := ⟨some 40, _, _, _, _, _⟩) (v := .int .i64 (i : Int)) rfl (by kernel_rfl) (by kernel_rfl) (by kernel_rfl) (by kernel_rfl) (fun _ _ _ h => Both.panic h) (Or.inl ⟨by rfl, ?_⟩) (by assumption) ?_
          · intro w' hSw
            obtain ⟨k1', k2', k3', k4', k5', k6', k7'⟩ := hSw
            go_simp
          simp only [Act.put, List.setIfInBounds_toArray, List.set_cons_zero, List.set_cons_succ]
          refine wpAnyS_take (i := 5) (oi := ⟨some 41, _, _, _, _, _⟩) (v := .int .i64 ((i : Int) + 1)) rfl (by kernel_rfl) (by kernel_rfl) (by kernel_rfl) (by kernel_rfl) (fun _ _ _ h => Both.panic h) (Or.inl ⟨by rfl, ?_⟩) (by assumption) ?_
          · intro w' hSw
            obtain ⟨k1', k2', k3', k4', k5', k6', k7'⟩ := hSw
            go_simp
            exact IntWalk.i64_in _ (by omega)
          simp only [Act.put, List.setIfInBounds_toArray, List.set_cons_zero, List.set_cons_succ]
          refine wpAnyS_one (i := 6) (oi := ⟨some 42, _, _, _, _, _⟩) rfl (by kernel_rfl) (by rfl) (fun K hK => ?_)
          go_simp
          refine hn.mono ?_
          rintro e w3 ⟨rfl, hg3⟩
          exact ⟨rfl, rfl, HG3.out.tr hg3⟩
        | ok g r2 =>
          have HRL2 := Lib.hid (HTL2.out g r2 hx2)
          rw [hx2] at hn hch
          simp only [R.bind] at hch
          have HCH := Lib.hid hch
          clear hx2 hch HTL2
          refine wp_region_SP (fun c w' => False) (fun c a' w' hd h => h.elim) (fun w' => w'.cell? ⟨W.heap.size + 1 + 1 + 1, 1, none⟩ = some (.int .u8 (lvO i)) ∧ w'.cell? ⟨W.heap.size, 0, none⟩ = some (.pointer (some ⟨P, 0, none⟩)) ∧ w'.cell? ⟨W.heap.size + 1, 0, none⟩ = some (.int .i64 (i : Int)) ∧ w'.cell? ⟨w1.heap.size, 0, none⟩ = some (.int .u8 f'.op) ∧ w'.cell? ⟨w1.heap.size, 1, none⟩ = some (.string f'.n) ∧ w'.cell? ⟨w1.heap.size, 2, none⟩ = some (.slice x2 f'.args.length c2) ∧ w'.cell? ⟨w1.heap.size, 3, none⟩ = some (.slice x3 f'.sub.length c3)) [8] 9 #[false, false, false, false, false, false, false, false, false] (by kernel_rfl) (by kernel_rfl) (by kernel_rfl) (by rw [hwd]; exact HS.out wd HE3.out HF3.out) (fun hHeld => ?_)
          rw [hwd] at hHeld ⊢
          refine wpAnyS_take (i := 0) (oi := ⟨some 36, _, _, _, _, _⟩) (v := .pointer (some ⟨W.heap.size + 1 + 1 + 1, 1, none⟩)) rfl (by kernel_rfl) (by kernel_rfl) (by kernel_rfl) (by kernel_rfl) (fun _ _ _ h => Both.panic h) (Or.inl ⟨by rfl, ?_⟩) (by assumption) ?_
          · intro w' hSw
            obtain ⟨k1', k2', k3', k4', k5', k6', k7'⟩ := hSw
            go_simp
          simp only [Act.put, List.setIfInBounds_toArray, List.set_cons_zero, List.set_cons_succ]
          refine wpAnyS_take (i := 1) (oi := ⟨some 37, _, _, _, _, _⟩) (v := .int .u8 (lvO i)) rfl (by kernel_rfl) (by kernel_rfl) (by kernel_rfl) (by kernel_rfl) (fun _ _ _ h => Both.panic h) (Or.inl ⟨by rfl, ?_⟩) (by assumption) ?_
          · intro w' hSw
            obtain ⟨k1', k2', k3', k4', k5', k6', k7'⟩ := hSw
            go_simp
          simp only [Act.put, List.setIfInBounds_toArray, List.set_cons_zero, List.set_cons_succ]
          refine wpAnyS_take (i := 2) (oi := ⟨some 38, _, _, _, _, _⟩) (v := .agg #[.int .u8 f'.op, .string f'.n, .slice x2 f'.args.length c2, .slice x3 f'.sub.length c3]) rfl (by kernel_rfl) (by kernel_rfl) (by kernel_rfl) (by kernel_rfl) (fun _ _ _ h => Both.panic h) (Or.inl ⟨by rfl, ?_⟩) (by assumption) ?_
          · intro w' hSw
            obtain ⟨k1', k2', k3', k4', k5', k6', k7'⟩ := hSw
            go_simp
          simp only [Act.put, List.setIfInBounds_toArray, List.set_cons_zero, List.set_cons_succ]
          refine wpAnyS_take (i := 3) (oi := ⟨some 39, _, _, _, _, _⟩) (v := .pointer (some ⟨P, 0, none⟩)) rfl (by kernel_rfl) (by kernel_rfl) (by kernel_rfl) (by kernel_rfl) (fun _ _ _ h => Both.panic h) (Or.inl ⟨by rfl, ?_⟩) (by assumption) ?_
          · intro w' hSw
            obtain ⟨k1', k2', k3', k4', k5', k6', k7'⟩ := hSw
            go_simp
          simp only [Act.put, List.setIfInBounds_toArray, List.set_cons_zero, List.set_cons_succ]
          refine wpAnyS_take (i := 4) (oi := ⟨some 40, _, _, _, _, _⟩) (v := .int .i64 (i : Int)) rfl (by kernel_rfl) (by kernel_rfl) (by kernel_rfl) (by kernel_rfl) (fun _ _ _ h => Both.panic h) (Or.inl ⟨by rfl, ?_⟩) (by assumption) ?_
          · intro w' hSw
            obtain ⟨k1', k2', k3', k4', k5', k6', k7'⟩ := hSw
            go_simp
          simp only [Act.put, List.setIfInBounds_toArray, List.set_cons_zero, List.set_cons_succ]
          refine wpAnyS_take (i := 5) (oi := ⟨some 41, _, _, _, _, _⟩) (v := .int .i64 ((i : Int) + 1)) rfl (by kernel_rfl) (by kernel_rfl) (by kernel_rfl) (by kernel_rfl) (fun _ _ _ h => Both.panic h) (Or.inl ⟨by rfl, ?_⟩) (by assumption) ?_
          · intro w' hSw
            obtain ⟨k1', k2', k3', k4', k5', k6', k7'⟩ := hSw
            go_simp
            exact IntWalk.i64_in _ (by omega)
          simp only [Act.put, List.setIfInBounds_toArray, List.set_cons_zero, List.set_cons_succ]
          refine wpAnyS_one (i := 6) (oi := ⟨some 42, _, _, _, _, _⟩) rfl (by kernel_rfl) (by rfl) (fun K hK => ?_)
          go_simp
          refine hn.mono ?_
          rintro e w3 ⟨v, rfl, hv, hp3, hg3⟩
          have HVG := Lib.hid hv
          obtain ⟨b2, j2, b3, j3, rfl, HREST⟩ := hv
          have HE4 := Lib.hid (HE3.out.go hg3 HPP.out)
          have HF4 := Lib.hid (HF3.out.go hg3 (by have := HPP.out; have := HZA.out; omega))
          have HV4 := Lib.hid (HV3.out.keep (P := P) hg3 (Nat.lt_of_lt_of_le HPP.out HG0.out.size) (Nat.le_refl _))
          have HP4 := Lib.hid hp3
          have HG4 := Lib.hid (HG3.out.tr hg3)
          have HZ4 := Lib.hid hg3.size
          have hHeld := HS.out w3 HE4.out HF4.out
          clear hp3 hg3 HREST hn HE3 HF3 HV3 HG3
          refine hK _ _ (fun _ => hHeld) ?_
          clear hK K
          simp only [Act.put, List.setIfInBounds_toArray, List.set_cons_zero, List.set_cons_succ]
          refine wpAnyS_one (i := 7) (oi := ⟨some 43, _, _, _, _, _⟩) rfl (by kernel_rfl) (by rfl) (fun K hK => ?_)
          go_simp
          refine (two_c (lvO i) _ _ _ _ _ _ _ _ w3).mono ?_
          rintro e w4 ⟨gg, rfl, hgg1, hgg2, hb4, hcells⟩
          have HE5 := Lib.hid (HE4.out.go (GP.of hb4) HPP.out)
          have hF5 := HF4.out.go (GP.of (P := P) hb4) (by have := HPP.out; have := HZA.out; omega)
          have hHeld := HS.out w4 HE5.out hF5
          have HVF := Lib.hid (HV4.out.keep (P := P) (GP.of hb4) (Nat.lt_of_lt_of_le HPP.out HG0.out.size) (Nat.le_refl _))
          have HVG5 := Lib.hid ((FValX.of (F := w1.heap.size) HVG.out (.inr HZ3.out)).keep (P := P) (GP.of hb4) (lo' := w0.heap.size) (by have := HPP.out; have := HG0.out.size; have := HZ3.out; have := HG1.out.size; omega) (by have := HZ3.out; have := HG1.out.size; omega))
          have HP5 := Lib.hid (HP4.out.grow hb4)
          have HG5 := Lib.hid (HG4.out.tr (GP.of hb4))
          have HF5 := Lib.hid hF5
          have HGG := Lib.hid (show w1.heap.size < gg by have := HZ3.out; have := HZ4.out; omega)
          have HGG2 := Lib.hid hgg2
          have HCE := Lib.hid hcells
          obtain ⟨l0, l1, l2, l3, p0, p1, p2, p3, hLz⟩ := hF5
          clear HE4 HF4 HV4 HP4 HG4 hgg1 hgg2 hb4 hcells
          refine hK _ _ (fun _ => hHeld) ?_
          clear hK K hHeld
          simp only [Act.put, List.setIfInBounds_toArray, List.set_cons_zero, List.set_cons_succ]
          refine wpAnyS_one (i := 8) (oi := ⟨none, _, _, _, _, _⟩) rfl (by kernel_rfl) (by rfl) (fun K hK => ?_)
          go_simp
          refine hK _ _ (fun h => absurd (by simp) h) ?_
          clear hK K
          refine wpAnyS_done (by kernel_rfl) ?_
          refine Both.normal ?_
          generalize hw5 : (((w4.setCell ⟨w1.heap.size, 0, none⟩ (.int .u8 (lvO i))).setCell ⟨w1.heap.size, 1, none⟩ (.string ⟨#[]⟩)).setCell ⟨w1.heap.size, 2, none⟩ (.slice none 0 0)).setCell ⟨w1.heap.size, 3, none⟩ (.slice (some ⟨gg, 0, none⟩) 2 2) = w5
          have hw5' : put4 w4 w1.heap.size (.int .u8 (lvO i)) (.string ⟨#[]⟩) (.slice none 0 0) (.slice (some ⟨gg, 0, none⟩) 2 2) = w5 := hw5
          have hv5 : FValX w1.heap.size w0.heap.size w5 (.agg #[.int .u8 (lvO i), .string ⟨#[]⟩, .slice none 0 0, .slice (some ⟨gg, 0, none⟩) 2 2]) (two (lvO i) f' g) := by
            rw [← hw5']
            refine FValX.put ?_ _ _ _ _
            refine fval_two (lvO i) (lvO_rng i) ⟨⟨by have := HGG.out; have := HG1.out.size; omega, HGG2.out⟩, by have := HGG.out; omega⟩ HVF.out HVG5.out HCE.out
          have hE6 : Env w5 W.heap.size P i := by
            rw [← hw5']
            exact HE5.out.heap (fun b h1 h2 => put4_heap _ _ _ _ _ _ b (by have := HE0.out.z; have := HG1.out.size; omega)) (by rw [put4_size]; exact Nat.le_refl _)
          have hF6 : Bx4 w5 w1.heap.size (.int .u8 (lvO i)) (.string ⟨#[]⟩) (.slice none 0 0) (.slice (some ⟨gg, 0, none⟩) 2 2) := by rw [← hw5']; exact HF5.out.put _ _ _ _
          have hP6 : PSt w5 P m n r2 := by rw [← hw5']; exact HP5.out.put4 (by have := HPP.out; have := HE0.out.z; have := HG1.out.size; omega) _ _ _ _
          have hG6 : GP P W w5 := by rw [← hw5']; exact put4_grow HG5.out (by have := HE0.out.z; have := HG1.out.size; omega) _ _ _ _
          have HNEW := Lib.hid (show BlRel P m i n XX W w1.heap.size w0.heap.size ts.length w5 from ⟨two (lvO i) f' g, r2, none, 0, some ⟨gg, 0, none⟩, 2, hE6, hF6, hP6, hG6, hv5, HCH.out, by have := HRL2.out; have := HDL.out; have := HLEN.out; omega⟩)
          have HMS := Lib.hid (show tkM P w5 < tkM P wr by rw [tkM_eq hP6, HTK.out]; have := HRL2.out; have := HDL.out; omega)
          clear hw5 hw5' hv5 hE6 hF6 hP6 hG6 p0 p1 p2 p3 l0 l1 l2 l3
          go_wp2_with fail
          exact ⟨HNEW.out, HMS.out⟩
end Go.Proofs.YtkeckecdhcknhaaDoor.Ps
