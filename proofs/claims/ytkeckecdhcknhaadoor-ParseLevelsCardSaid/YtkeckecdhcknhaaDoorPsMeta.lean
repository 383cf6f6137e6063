/-
  Which tokens are metavariables; the map of the unary operators; two.
-/
import Derived.Test.YtkeckecdhcknhaaDoorPsOps
namespace Go.Proofs.YtkeckecdhcknhaaDoor.Ps
open Go Go.RowKit Go.Shelf Go.Proofs.YtkeckecdhcknhaaDoor.Fm Go.Proofs.YtkeckecdhcknhaaDoor.Lx
set_option linter.unusedVariables false
set_option linter.unusedSimpArgs false
theorem metaT_p (P n : Nat) (m : Bool) (ts : List Tg) (s : ByteArray) (hs : s.size ≤ 20000) (W : World) (h : PSt W P m n ts) :
    Calls Tryd.prog 94 #[.pointer (some ⟨P, 0, none⟩), .string s] W fun e w' => e = .returned (.bool (mtB m s)) ∧ Below W.heap.size W w' := by
  have hm := h.me
  have HB := Lib.hid (show mtB m s = (m && metB s && fnB (s.extract 1 s.size)) from rfl)
  clear h
  cases m with
  | false =>
    go_enter Tryd.func94, Tryd.ntmps94
    go_wp2_with fail
    go_ret
    exact ⟨by rw [HB.out]; rfl, Below.refl _ _⟩
  | true =>
    have h1 := fun w => meta_c s w (by omega)
    rw [show (metaB predB s || metaB fnB s) = metB s from rfl] at h1
    cases hmb : metB s with
    | false =>
      rw [hmb] at h1
      have HM := Lib.hid hmb
      clear hmb
      go_enter Tryd.func94, Tryd.ntmps94
      go_wp2_with fail
      refine (h1 _).mono ?_
      rintro e w1 ⟨rfl, hb1⟩
      go_wp2_with fail
      go_ret
      exact ⟨by rw [HB.out, HM.out]; rfl, hb1⟩
    | true =>
      rw [hmb] at h1
      have h2 := fun w => function_c (s.extract 1 s.size) w (by simp; omega)
      have hz : 1 ≤ (s.size : Int) := by
        have : s.size ≠ 0 := fun e => metB_ne hmb (by cases s with | mk d => cases d with | mk l => cases l with | nil => rfl | cons a r => simp [ByteArray.size] at e)
        omega
      have HM := Lib.hid hmb
      clear hmb hs
      generalize fnB (s.extract 1 s.size) = q at *
      go_enter Tryd.func94, Tryd.ntmps94
      go_wp2_with fail
      refine (h1 _).mono ?_
      rintro e w1 ⟨rfl, hb1⟩
      go_wp2_with fail
      refine (h2 _).mono ?_
      rintro e w2 ⟨rfl, hb2⟩
      have hb3 := hb1.trans (hb2.mono hb1.size)
      clear hb1 hb2
      go_wp2_with fail
      go_ret
      exact ⟨by rw [HB.out, HM.out]; rfl, hb3⟩
theorem metaF_p (P n : Nat) (m : Bool) (ts : List Tg) (s : ByteArray) (hs : s.size ≤ 20000) (W : World) (h : PSt W P m n ts) :
    Calls Tryd.prog 82 #[.pointer (some ⟨P, 0, none⟩), .string s] W fun e w' => e = .returned (.bool (mfB m s)) ∧ Below W.heap.size W w' := by
  have hm := h.me
  have HB := Lib.hid (show mfB m s = (m && metB s && predB (s.extract 1 s.size)) from rfl)
  clear h
  cases m with
  | false =>
    go_enter Tryd.func82, Tryd.ntmps82
    go_wp2_with fail
    go_ret
    exact ⟨by rw [HB.out]; rfl, Below.refl _ _⟩
  | true =>
    have h1 := fun w => meta_c s w (by omega)
    rw [show (metaB predB s || metaB fnB s) = metB s from rfl] at h1
    cases hmb : metB s with
    | false =>
      rw [hmb] at h1
      have HM := Lib.hid hmb
      clear hmb
      go_enter Tryd.func82, Tryd.ntmps82
      go_wp2_with fail
      refine (h1 _).mono ?_
      rintro e w1 ⟨rfl, hb1⟩
      go_wp2_with fail
      go_ret
      exact ⟨by rw [HB.out, HM.out]; rfl, hb1⟩
    | true =>
      rw [hmb] at h1
      have h2 := fun w => predicate_c (s.extract 1 s.size) w (by simp; omega)
      have hz : 1 ≤ (s.size : Int) := by
        have : s.size ≠ 0 := fun e => metB_ne hmb (by cases s with | mk d => cases d with | mk l => cases l with | nil => rfl | cons a r => simp [ByteArray.size] at e)
        omega
      have HM := Lib.hid hmb
      clear hmb hs
      generalize predB (s.extract 1 s.size) = q at *
      go_enter Tryd.func82, Tryd.ntmps82
      go_wp2_with fail
      refine (h1 _).mono ?_
      rintro e w1 ⟨rfl, hb1⟩
      go_wp2_with fail
      refine (h2 _).mono ?_
      rintro e w2 ⟨rfl, hb2⟩
      have hb3 := hb1.trans (hb2.mono hb1.size)
      clear hb1 hb2
      go_wp2_with fail
      go_ret
      exact ⟨by rw [HB.out, HM.out]; rfl, hb3⟩
theorem two_c (o : Int) (x0 x1 x2 x3 y0 y1 y2 y3 : Value) (W : World) :
    Calls Tryd.prog 47 #[.int .u8 o, .agg #[x0, x1, x2, x3], .agg #[y0, y1, y2, y3]] W fun e w' => ∃ g, e = .returned (.agg #[.int .u8 o, .string ⟨#[]⟩, .slice none 0 0, .slice (some ⟨g, 0, none⟩) 2 2]) ∧
      W.heap.size ≤ g ∧ g < w'.heap.size ∧ Below W.heap.size W w' ∧ ∀ j u, [x0, x1, x2, x3, y0, y1, y2, y3][j]? = some u → w'.cell? ⟨g, j, none⟩ = some u := by
  obtain ⟨Q, hQ⟩ : ∃ Q : Ending → World → Prop, Q = fun e w' => ∃ g, e = .returned (.agg #[.int .u8 o, .string ⟨#[]⟩, .slice none 0 0, .slice (some ⟨g, 0, none⟩) 2 2]) ∧
      W.heap.size ≤ g ∧ g < w'.heap.size ∧ Below W.heap.size W w' ∧ ∀ j u, [x0, x1, x2, x3, y0, y1, y2, y3][j]? = some u → w'.cell? ⟨g, j, none⟩ = some u := ⟨_, rfl⟩
  rw [← hQ]
  have HQ := Lib.hid hQ
  clear hQ
  go_enter Tryd.func47, Tryd.ntmps47
  go_wp2_with fail
  refine bodyPost_ret (v := .agg #[.int .u8 o, .string ⟨#[]⟩, .slice none 0 0, .slice (some ⟨W.heap.size + 1 + 1 + 1, 0, none⟩) 2 2]) (by simp [results, Tryd.results47, go_sem]) rfl ?_
  rw [HQ.out]
  refine ⟨W.heap.size + 1 + 1 + 1, rfl, by omega, by simp, ((((Below.refl _ _).alloc (Nat.le_refl _) _).alloc (by simp) _).alloc (by simp; omega) _).alloc (by simp; omega) _, fun j u hj => ?_⟩
  rw [World.cell?_alloc_at _ _ _ _ (by simp), ← hj]
  simp
theorem chk_str (b : Bool) (k : ByteArray) (w : World) : (Instr.checkKey b 10000 9 (.string k)).run Tryd.prog w = .ok () w := by
  obtain ⟨n, hn⟩ : ∃ n, 10000 = n + 1 := ⟨9999, rfl⟩
  rw [hn, Instr.checkKey]
  simp only [Sem.run_bind, run_underlying Tryd.underlying9, Result.andThen_ok]
  rfl
theorem find_str {es : List MapEntry} {k : ByteArray} {r : Option (Nat × Value)} (hf : Instr.findNow .string (.string k) es 0 = some r) (w : World) : (Instr.findKey 9 (.string k) es).run Tryd.prog w = .ok r w := by
  unfold Instr.findKey
  simp only [Sem.run_bind, run_underlying Tryd.underlying9, Result.andThen_ok, hf]
  rfl
/-- A string is put into the map. -/
theorem ins_step {w : World} {B n : Nat} {es : Array MapEntry} {c : Nat} {k : ByteArray} {v : Int} (hb : w.heap[B]? = some (.map es c)) (hf : Instr.findNow .string (.string k) es.toList 0 = some none) (hn : n ≤ B) :
    ∃ w', (Instr.mapUpdate 67 (.map (some B)) (.string k) (.int .u8 v)).run Tryd.prog w = .ok () w' ∧ w'.heap[B]? = some (.map (es.push ⟨.string k, .int .u8 v, c⟩) (c + 1)) ∧ Below n w w' := by
  refine ⟨w.putObj B (.map (es.push ⟨.string k, .int .u8 v, c⟩) (c + 1)), ?_, ?_, ?_⟩
  · simp [Instr.mapUpdate, run_underlying Tryd.underlying67, MapKept.run_getObj_map hb, chk_str, find_str hf, MapKept.run_setObj_map _ hb, Result.andThen]
    rfl
  · exact World.putObj_heap_same (lt_of_heap hb)
  · exact ⟨rfl, rfl, rfl, by simp [World.putObj], fun k' hk => World.putObj_heap_other (by omega)⟩
theorem unaries_c (W : World) : Calls Tryd.prog 32 #[] W fun e w' => ∃ B, e = .returned (.map (some B)) ∧ UMap w' B ∧ W.heap.size ≤ B ∧ Below W.heap.size W w' := by
  have hmk : ∀ w : World, (Instr.makeMap 67 none).run Tryd.prog w = .ok (.map (some w.heap.size)) (w.alloc (.map #[] 0)) := fun w => by
    simp [Instr.makeMap, go_sem]
  have m0 : (W.alloc (.map #[] 0)).heap[W.heap.size]? = some (.map #[] 0) := by show (W.heap.push _)[W.heap.size]? = _; simp
  obtain ⟨W1, r1, m1, b1⟩ := ins_step (k := ⟨#[126]⟩) (v := 3) m0 (by kernel_rfl) (Nat.le_refl _)
  obtain ⟨W2, r2, m2, b2⟩ := ins_step (k := ⟨#[91, 93]⟩) (v := 10) m1 (by kernel_rfl) (Nat.le_refl _)
  obtain ⟨W3, r3, m3, b3⟩ := ins_step (k := ⟨#[60, 62]⟩) (v := 11) m2 (by kernel_rfl) (Nat.le_refl _)
  obtain ⟨W4, r4, m4, b4⟩ := ins_step (k := ⟨#[110, 101, 120, 116]⟩) (v := 12) m3 (by kernel_rfl) (Nat.le_refl _)
  obtain ⟨W5, r5, m5, b5⟩ := ins_step (k := ⟨#[97, 108, 119, 97, 121, 115]⟩) (v := 13) m4 (by kernel_rfl) (Nat.le_refl _)
  obtain ⟨W6, r6, m6, b6⟩ := ins_step (k := ⟨#[97, 108, 108]⟩) (v := 8) m5 (by kernel_rfl) (Nat.le_refl _)
  obtain ⟨W7, r7, m7, b7⟩ := ins_step (k := ⟨#[115, 111, 109, 101]⟩) (v := 9) m6 (by kernel_rfl) (Nat.le_refl _)
  have HM := Lib.hid m7
  have HB := Lib.hid ((((((((Below.refl W.heap.size W).alloc (Nat.le_refl _) (.map #[] 0)).trans b1).trans b2).trans b3).trans b4).trans b5).trans b6 |>.trans b7)
  clear m0 m1 m2 m3 m4 m5 m6 m7 b1 b2 b3 b4 b5 b6 b7
  go_enter Tryd.func32, Tryd.ntmps32
  go_wp2_with fail
  go_ret
  exact ⟨_, rfl, HM.out, Nat.le_refl _, HB.out⟩
theorem beq_bs (a b : ByteArray) : (a == b) = eqB a b := by
  rw [beq_toListBytes, ByteArray.toList_eq, ByteArray.toList_eq]
  rfl
theorem find_step {k x : ByteArray} {v : Value} {c i : Nat} {es : List MapEntry} : Instr.findNow .string (.string k) (⟨.string x, v, c⟩ :: es) i = if eqB k x then some (some (i, v)) else Instr.findNow .string (.string k) es (i + 1) := by
  rw [Instr.findNow]
  simp only [Instr.sameNow]
  rw [beq_bs]
  cases eqB k x <;> rfl
/-- What the map answers. -/
theorem map_look {W : World} {B : Nat} (h : UMap W B) (s : ByteArray) : (Instr.lookup 67 (.map (some B)) (.string s) true).run Tryd.prog W = .ok (.tuple #[.int .u8 (unOp s), .bool (unOp s != 0)]) W := by
  have hf : ∃ r, Instr.findNow .string (.string s) [⟨.string ⟨#[126]⟩, .int .u8 3, 0⟩, ⟨.string ⟨#[91, 93]⟩, .int .u8 10, 1⟩, ⟨.string ⟨#[60, 62]⟩, .int .u8 11, 2⟩, ⟨.string ⟨#[110, 101, 120, 116]⟩, .int .u8 12, 3⟩,
      ⟨.string ⟨#[97, 108, 119, 97, 121, 115]⟩, .int .u8 13, 4⟩, ⟨.string ⟨#[97, 108, 108]⟩, .int .u8 8, 5⟩, ⟨.string ⟨#[115, 111, 109, 101]⟩, .int .u8 9, 6⟩] 0 = some r ∧ ((r = none ∧ unOp s = 0) ∨ ∃ i, r = some (i, .int .u8 (unOp s)) ∧ (unOp s != 0) = true) := by
    unfold unOp
    repeat rw [find_step]
    rw [Instr.findNow]
    split; · exact ⟨_, rfl, .inr ⟨_, rfl, rfl⟩⟩
    split; · exact ⟨_, rfl, .inr ⟨_, rfl, rfl⟩⟩
    split; · exact ⟨_, rfl, .inr ⟨_, rfl, rfl⟩⟩
    split; · exact ⟨_, rfl, .inr ⟨_, rfl, rfl⟩⟩
    split; · exact ⟨_, rfl, .inr ⟨_, rfl, rfl⟩⟩
    split; · exact ⟨_, rfl, .inr ⟨_, rfl, rfl⟩⟩
    split; · exact ⟨_, rfl, .inr ⟨_, rfl, rfl⟩⟩
    exact ⟨_, rfl, .inl ⟨rfl, rfl⟩⟩
  obtain ⟨r, hf, hr⟩ := hf
  have hz : ∀ w, (zeroValue 5).run Tryd.prog w = .ok (.int .u8 0) w := fun w => Tryd.zeroValue5 w
  unfold UMap at h
  rcases hr with ⟨rfl, h0⟩ | ⟨i, rfl, h0⟩
  · simp [Instr.lookup, run_underlying Tryd.underlying67, MapKept.run_getObj_map h, chk_str, find_str hf, hz, Result.andThen, h0]
  · simp [Instr.lookup, run_underlying Tryd.underlying67, MapKept.run_getObj_map h, chk_str, find_str hf, Result.andThen, h0]
end Go.Proofs.YtkeckecdhcknhaaDoor.Ps
