/-
  The contracts of skipBlanks and next.
-/
import Derived.Test.YtkeckecdhcknhaaDoorLxTable
import Derived.Deep.QuietTactic
import Derived.BigQuiet
namespace Go.Proofs.YtkeckecdhcknhaaDoor.Lx
open Go Go.RowKit Go.Shelf Go.Proofs.YtkeckecdhcknhaaDoor.Fm
set_option linter.unusedVariables false
set_option linter.unusedSimpArgs false
/-- The scanner in block S. -/
structure Scn (W : World) (S lo hi : Nat) (s : ByteArray) (T : List Value) (at' : Nat) : Prop where
  a : W.cell? ⟨S, 0, none⟩ = some (.int .i64 (at' : Int))
  f : W.frozen? ⟨S, 0, none⟩ = false
  t : W.cell? ⟨S, 1, none⟩ = some (.string s)
  r : W.rangeAt S 2 T
  d : Rdr W lo hi T
  h : hi ≤ S ∨ S < lo
  hh : hi ≤ W.heap.size
  z : S < W.heap.size
  l : at' ≤ s.size
theorem Rdr.keep {W W' : World} {lo hi : Nat} {T : List Value} (h : Rdr W lo hi T) (hk : ∀ b o, lo ≤ b → b < hi → W'.cell? ⟨b, o, none⟩ = W.cell? ⟨b, o, none⟩) : Rdr W' lo hi T where
  n := h.n
  run j hj hl := by obtain ⟨B, h1, h2, h3, h4⟩ := h.run j hj hl; exact ⟨B, h1, h2, h3, by rw [hk _ _ h2 h3]; exact h4⟩
  mark := by obtain ⟨B, h1, h2, h3, h4⟩ := h.mark; exact ⟨B, h1, h2, h3, by rw [hk _ _ h2 h3]; exact h4⟩
  sign q hq := by
    obtain ⟨B, R, h1, h2, h3, h4, h5, h6, h7⟩ := h.sign q hq
    exact ⟨B, R, h1, h2, h3, h4, h5, by rw [hk _ _ h2 h3]; exact h6, fun k x hx => by rw [hk _ _ h4 h5]; exact h7 k x hx⟩
  nil := h.nil
/-- The scanner's place is set anew. -/
theorem Scn.set {W : World} {S lo hi : Nat} {s : ByteArray} {T : List Value} {p : Nat} (h : Scn W S lo hi s T p) (q : Nat) (hq : q ≤ s.size) : Scn (W.setCell ⟨S, 0, none⟩ (.int .i64 (q : Int))) S lo hi s T q where
  a := World.cell?_setCell_same _ _ _ h.a
  f := by rw [World.frozen?_setCell]; exact h.f
  t := by rw [World.cell?_setCell_other _ _ _ _ (fun e => by injection e with _ e2 _; exact absurd e2 (by decide))]; exact h.t
  r j v hv := by rw [World.cell?_setCell_other _ _ _ _ (fun e => by injection e with _ e2 _; omega)]; exact h.r j v hv
  d := h.d.keep fun b o h1 h2 => World.cell?_setCell_other _ _ _ _ (fun e => by injection e with e1 _ _; have := h.h; omega)
  h := h.h
  hh := by simpa using h.hh
  z := by simpa using h.z
  l := hq
theorem Scn.drewN {W : World} {S lo hi : Nat} {s : ByteArray} {T : List Value} {p : Nat} (h : Scn W S lo hi s T p) (n : Nat) : Scn (W.drewN n) S lo hi s T p where
  a := by rw [World.cell?_drewN]; exact h.a
  f := by rw [World.frozen?_drewN]; exact h.f
  t := by rw [World.cell?_drewN]; exact h.t
  r j v hv := by rw [World.cell?_drewN]; exact h.r j v hv
  d := h.d.keep fun b o _ _ => World.cell?_drewN _ _ _
  h := h.h
  hh := by simpa using h.hh
  z := by simpa using h.z
  l := h.l
/-- What does not touch the scanner keeps it. -/
theorem Scn.keep {W W' : World} {S lo hi : Nat} {s : ByteArray} {T : List Value} {p : Nat} (h : Scn W S lo hi s T p) (hk : ∀ b, b = S ∨ (lo ≤ b ∧ b < hi) → W'.heap[b]? = W.heap[b]?) (hz : W.heap.size ≤ W'.heap.size) : Scn W' S lo hi s T p where
  a := (World.cell?_of_block (a := ⟨S, 0, none⟩) (hk S (.inl rfl))).trans h.a
  f := (World.frozen?_of_block (a := ⟨S, 0, none⟩) (hk S (.inl rfl))).trans h.f
  t := (World.cell?_of_block (a := ⟨S, 1, none⟩) (hk S (.inl rfl))).trans h.t
  r j v hv := (World.cell?_of_block (a := ⟨S, 2 + j, none⟩) (hk S (.inl rfl))).trans (h.r j v hv)
  d := h.d.keep fun b o h1 h2 => World.cell?_of_block (a := ⟨b, o, none⟩) (hk b (.inr ⟨h1, h2⟩))
  h := h.h
  hh := by have := h.hh; omega
  z := by have := h.z; omega
  l := h.l
theorem Grow.drewN {O : Nat → Prop} {W W' : World} (h : Grow O W W') (n : Nat) : Grow O W (W'.drewN n) := by
  induction n with
  | zero => exact h
  | succ n ih => exact ⟨ih.os, ih.tape, ih.output, ih.size, ih.block⟩
def restL (s : ByteArray) (q : Nat) : Bs := s.data.toList.drop q
theorem restL_cons (s : ByteArray) (q : Nat) (h : q < s.size) : restL s q = s[q] :: restL s (q + 1) := by
  unfold restL
  have hl : q < s.data.toList.length := by simpa using h
  rw [List.drop_eq_getElem_cons hl]; rfl
theorem restL_nil (s : ByteArray) (q : Nat) (h : s.size ≤ q) : restL s q = [] := by unfold restL; rw [List.drop_eq_nil_iff]; simpa using h
/-- The relation of the loop. -/
def SkR (W : World) (S lo hi : Nat) (s : ByteArray) (T : List Value) (p : Nat) (wr : World) : Prop :=
  ∃ q, p ≤ q ∧ Scn wr S lo hi s T q ∧ Grow (fun b => b = S) W wr ∧ wr.heap.size ≤ W.heap.size ∧ (restL s p).dropWhile blk = (restL s q).dropWhile blk
def skM (s : ByteArray) (S : Nat) (wr : World) : Nat := s.size - (intOf ((wr.cell? ⟨S, 0, none⟩).getD undef)).toNat
def SkP (W : World) (S lo hi : Nat) (s : ByteArray) (T : List Value) (p : Nat) (e : Ending) (wr : World) : Prop :=
  e = .returned (.tuple #[]) ∧ ∃ q, p ≤ q ∧ Scn wr S lo hi s T q ∧ Grow (fun b => b = S) W wr ∧ wr.heap.size ≤ W.heap.size ∧ (restL s p).dropWhile blk = restL s q
set_option maxHeartbeats 1000000 in
theorem skip_c (W : World) (S lo hi : Nat) (s : ByteArray) (T : List Value) (p : Nat) (h : Scn W S lo hi s T p) (hs : s.size ≤ 9223372036854775806) :
    Calls Tryd.prog 61 #[.pointer (some ⟨S, 0, none⟩)] W (SkP W S lo hi s T p) := by
  have H := Lib.hid h
  clear h
  go_enter Tryd.func61, Tryd.ntmps61
  go_wp2_with fail
  go_loopw [] (fun wr => SkR W S lo hi s T p wr) (fun wr => skM s S wr)
  case atStart => exact ⟨p, Nat.le_refl _, H.out, Grow.refl _ _, Nat.le_refl _, rfl⟩
  case round =>
    clear H
    obtain ⟨q, hpq, hsc, hg, hz, hdw⟩ := hrel
    have HSC := Lib.hid hsc
    have HG := Lib.hid hg
    have HD := Lib.hid hdw
    have HZ := Lib.hid hz
    have c0 := hsc.a
    have c1 := hsc.t
    have f0 := hsc.f
    have hql := hsc.l
    have hm0 : skM s S wr = s.size - q := by unfold skM; rw [hsc.a]; simp [intOf]
    have HM := Lib.hid hm0
    clear hsc hg hdw hz hm0
    have n0 : (0 : Int) ≤ (q : Int) := by omega
    by_cases hlt : q < s.size
    · have n1 : (q : Int) < (s.size : Int) := by omega
      have d1 : decide ((q : Int) < (s.size : Int)) = true := decide_eq_true n1
      have hb := fun w => blank_c s[q] w
      have HR := Lib.hid (restL_cons s q hlt)
      cases hbl : blk s[q] with
      | true =>
        rw [hbl] at hb
        have HB := Lib.hid hb
        have HBL := Lib.hid hbl
        clear hb hbl
        go_wp2_with fail
        go_quiet ((exact Calls.quiet_of_same ((HB.out _).mono fun e w' h => ⟨h.1, h.2.symm⟩)))
        go_wp2_with fail
        refine ⟨⟨q + 1, by omega, ?_, ?_, ?_, ?_⟩, ?_⟩
        · have := (HSC.out.drewN nq).set (q + 1) hlt
          simpa using this
        · exact (Grow.drewN HG.out nq).trans (Grow.setCell (O := fun b => b = S) _ _ rfl) (Sub.refl _ _)
        · simpa using HZ.out
        · rw [HD.out, HR.out, dw_blk HBL.out]
        · rw [HM.out]
          have h2 := (HSC.out.drewN nq).set (q + 1) hlt
          have : skM s S ((wr.drewN nq).setCell ⟨S, 0, none⟩ (.int .i64 ((q + 1 : Nat) : Int))) = s.size - (q + 1) := by unfold skM; rw [h2.a]; simp [intOf]
          simp only [Int.natCast_add, Int.natCast_one] at this
          omega
      | false =>
        rw [hbl] at hb
        have HB := Lib.hid hb
        have HBL := Lib.hid hbl
        clear hb hbl
        go_wp2_with fail
        go_quiet ((exact Calls.quiet_of_same ((HB.out _).mono fun e w' h => ⟨h.1, h.2.symm⟩)))
        go_wp2_with fail
        refine bodyPost_end (results_none rfl _ _ _) rfl ?_
        exact ⟨rfl, q, hpq, HSC.out.drewN nq, Grow.drewN HG.out nq, by simpa using HZ.out, by rw [HD.out, HR.out, dw_not HBL.out]⟩
    · have d1 : decide ((q : Int) < (s.size : Int)) = false := decide_eq_false (by omega)
      have d2 : decide (q < s.size) = false := decide_eq_false hlt
      have HR := Lib.hid (restL_nil s q (by omega))
      clear hlt
      go_wp2_with fail
      go_quiet (fail)
      go_wp2_with fail
      refine bodyPost_end (results_none rfl _ _ _) rfl ?_
      exact ⟨rfl, q, hpq, HSC.out.drewN nq, Grow.drewN HG.out nq, by simpa using HZ.out, by rw [HD.out, HR.out]; rfl⟩
end Go.Proofs.YtkeckecdhcknhaaDoor.Lx
