/-
  The contract of Lex.
-/
import Derived.Test.YteoaglhdandhkaaLxRow
namespace Go.Proofs.Yteoaglhdandhkaa.Lx
open Go Go.RowKit Go.Shelf Go.Proofs.Yteoaglhdandhkaa.Fm
set_option linter.unusedVariables false
set_option linter.unusedSimpArgs false
attribute [local go_sem] Oper.semAt_some
def tksL (s : ByteArray) : List Tk := (ysL s).map (·.1)
/-- What Lex gives, of a text that is not too long. -/
def LexQ (s : ByteArray) (w : World) (e : Ending) (w' : World) : Prop := Below w.heap.size w w' ∧
  ((errs (ysL s) = true ∧ ∃ y, y ∈ ysL s ∧ y.2 ≠ 0 ∧ e = .returned (.tuple #[.slice none 0 0, .int .i64 (y.1.a : Int), .int .i64 (y.2 : Int)])) ∨
   (errs (ysL s) = false ∧ ∃ g cap, e = .returned (.tuple #[.slice (some ⟨g, 0, none⟩) (tksL s).length cap, .int .i64 0, .int .i64 0]) ∧ w.heap.size ≤ g ∧ g < w'.heap.size ∧ ∀ j u, (flat (tksL s))[j]? = some u → w'.cell? ⟨g, j, none⟩ = some u))
theorem lex_start (s : ByteArray) (w : World) :
    LJ s w.heap.size 0 (fun b => w.heap.size ≤ b ∧ b ≤ w.heap.size + 3) (((((w.alloc (.cells #[.slice none 0 0] 22)).alloc (.cells #[.int .i64 0] 3)).alloc (.cells #[.int .i64 0] 32)).alloc (.cells #[.slice none 0 0] 22)).alloc (.cells #[.string s] 9)) ∧
    (((((w.alloc (.cells #[.slice none 0 0] 22)).alloc (.cells #[.int .i64 0] 3)).alloc (.cells #[.int .i64 0] 32)).alloc (.cells #[.slice none 0 0] 22)).alloc (.cells #[.string s] 9)).cell? ⟨w.heap.size + 4, 0, none⟩ = some (.string s) := by
  obtain ⟨A, hA⟩ : ∃ A, w.alloc (.cells #[.slice none 0 0] 22) = A := ⟨_, rfl⟩
  obtain ⟨B, hB⟩ : ∃ B, A.alloc (.cells #[.int .i64 0] 3) = B := ⟨_, rfl⟩
  obtain ⟨C, hC⟩ : ∃ C, B.alloc (.cells #[.int .i64 0] 32) = C := ⟨_, rfl⟩
  obtain ⟨D, hD⟩ : ∃ D, C.alloc (.cells #[.slice none 0 0] 22) = D := ⟨_, rfl⟩
  have zA : A.heap.size = w.heap.size + 1 := by rw [← hA]; simp
  have zB : B.heap.size = w.heap.size + 2 := by rw [← hB]; simp [zA]
  have zC : C.heap.size = w.heap.size + 3 := by rw [← hC]; simp [zB]
  have zD : D.heap.size = w.heap.size + 4 := by rw [← hD]; simp [zC]
  rw [hA, hB, hC, hD]
  have hE : ∀ p : Addr, p.block < w.heap.size + 4 → (D.alloc (.cells #[.string s] 9)).cell? p = D.cell? p ∧ (D.alloc (.cells #[.string s] 9)).frozen? p = D.frozen? p := fun p hp => ⟨World.cell?_alloc_lt _ _ _ (by show p.block < _; omega), World.frozen?_alloc_past _ _ _ (by show p.block < _; omega)⟩
  have hd : ∀ p : Addr, p.block < w.heap.size + 3 → D.cell? p = C.cell? p ∧ D.frozen? p = C.frozen? p := fun p hp => by rw [← hD]; exact ⟨World.cell?_alloc_lt _ _ _ (by show p.block < _; omega), World.frozen?_alloc_past _ _ _ (by show p.block < _; omega)⟩
  have hc : ∀ p : Addr, p.block < w.heap.size + 2 → C.cell? p = B.cell? p ∧ C.frozen? p = B.frozen? p := fun p hp => by rw [← hC]; exact ⟨World.cell?_alloc_lt _ _ _ (by show p.block < _; omega), World.frozen?_alloc_past _ _ _ (by show p.block < _; omega)⟩
  have hb : ∀ p : Addr, p.block < w.heap.size + 1 → B.cell? p = A.cell? p ∧ B.frozen? p = A.frozen? p := fun p hp => by rw [← hB]; exact ⟨World.cell?_alloc_lt _ _ _ (by show p.block < _; omega), World.frozen?_alloc_past _ _ _ (by show p.block < _; omega)⟩
  have a0 : A.cell? ⟨w.heap.size, 0, none⟩ = some (.slice none 0 0) ∧ A.frozen? ⟨w.heap.size, 0, none⟩ = false := by rw [← hA]; exact ⟨World.cell?_alloc_at _ _ _ _ rfl, World.frozen?_alloc_at _ _ _ _ rfl⟩
  have b0 : B.cell? ⟨w.heap.size + 1, 0, none⟩ = some (.int .i64 0) ∧ B.frozen? ⟨w.heap.size + 1, 0, none⟩ = false := by rw [← hB]; exact ⟨World.cell?_alloc_at _ _ _ _ zA.symm, World.frozen?_alloc_at _ _ _ _ zA.symm⟩
  have c0 : C.cell? ⟨w.heap.size + 2, 0, none⟩ = some (.int .i64 0) ∧ C.frozen? ⟨w.heap.size + 2, 0, none⟩ = false := by rw [← hC]; exact ⟨World.cell?_alloc_at _ _ _ _ zB.symm, World.frozen?_alloc_at _ _ _ _ zB.symm⟩
  have d0 : D.cell? ⟨w.heap.size + 3, 0, none⟩ = some (.slice none 0 0) ∧ D.frozen? ⟨w.heap.size + 3, 0, none⟩ = false := by rw [← hD]; exact ⟨World.cell?_alloc_at _ _ _ _ zC.symm, World.frozen?_alloc_at _ _ _ _ zC.symm⟩
  have lt : ∀ k m : Nat, k < m → (⟨w.heap.size + k, 0, none⟩ : Addr).block < w.heap.size + m := fun k m h => by show w.heap.size + k < _; omega
  refine ⟨⟨⟨.slice none 0 0, fun b => by simp [Value.ownBlock], (hE _ (lt 3 4 (by omega))).1.trans d0.1, by simp [flat, World.ownsRow_nil]⟩, rfl, ?_, ?_, ?_, ?_, by simp [zD]⟩, World.cell?_alloc_at _ _ _ _ zD.symm⟩
  · exact (((hE _ (lt 0 4 (by omega))).1.trans (hd _ (lt 0 3 (by omega))).1).trans (hc _ (lt 0 2 (by omega))).1).trans ((hb _ (lt 0 1 (by omega))).1.trans a0.1)
  · exact (((hE _ (lt 1 4 (by omega))).1.trans (hd _ (lt 1 3 (by omega))).1).trans (hc _ (lt 1 2 (by omega))).1).trans b0.1
  · exact ((hE _ (lt 2 4 (by omega))).1.trans (hd _ (lt 2 3 (by omega))).1).trans c0.1
  · intro b h1 h2
    have : b = w.heap.size + 0 ∨ b = w.heap.size + 1 ∨ b = w.heap.size + 2 ∨ b = w.heap.size + 3 := by omega
    rcases this with rfl | rfl | rfl | rfl
    · exact (((hE _ (lt 0 4 (by omega))).2.trans (hd _ (lt 0 3 (by omega))).2).trans (hc _ (lt 0 2 (by omega))).2).trans ((hb _ (lt 0 1 (by omega))).2.trans a0.2)
    · exact (((hE _ (lt 1 4 (by omega))).2.trans (hd _ (lt 1 3 (by omega))).2).trans (hc _ (lt 1 2 (by omega))).2).trans b0.2
    · exact ((hE _ (lt 2 4 (by omega))).2.trans (hd _ (lt 2 3 (by omega))).2).trans c0.2
    · exact (hE _ (lt 3 4 (by omega))).2.trans d0.2
theorem LJ.step {s : ByteArray} {n k : Nat} {O : Nat → Prop} {W w' : World} {v v' : Value} {x : Tk × Nat} {o : Obj} (h : LJ s n k O W) (hO : ∀ b, O b ↔ (n ≤ b ∧ b ≤ n + 3) ∨ v.ownBlock = some b) (hown : W.ownsRow (n + 4) 26 3 v k (flat (((ysL s).take k).map (·.1))))
    (hc : W.cell? ⟨n + 3, 0, none⟩ = some v) (hst : flat (((ysL s).take (k + 1)).map (·.1)) = flat (((ysL s).take k).map (·.1)) ++ encTk x.1) (herr : errs ((ysL s).take (k + 1)) = false)
    (hown' : w'.ownsRow (n + 4) 26 3 v' (k + 1) (flat (((ysL s).take k).map (·.1)) ++ encTk x.1)) (hg : (W.alloc o).grownBy w' v.ownBlock) (hat : v'.ownBlock = v.ownBlock ∨ v'.ownBlock = some (W.heap.size + 1)) :
    w'.cell? ⟨n + 3, 0, none⟩ = some v ∧ w'.frozen? ⟨n + 3, 0, none⟩ = false ∧ ∃ O', Sub O W.heap.size O' ∧ Grow O W (w'.setCell ⟨n + 3, 0, none⟩ v') ∧ LJ s n (k + 1) O' (w'.setCell ⟨n + 3, 0, none⟩ v') := by
  have hG : Grow O W w' := grow_of_grown hg fun g h => (hO g).2 (.inr h)
  have hC : ∀ g, v'.ownBlock = some g → n + 4 ≤ g := fun g h => (hown'.lt g h).1
  have hCv : ∀ g, v.ownBlock = some g → n + 4 ≤ g := fun g h => (hown.lt g h).1
  have hlt := h.lt
  have hblk : ∀ b, b ≤ n + 3 → w'.heap[b]? = W.heap[b]? := fun b hb => (hg.block b (by rw [World.size_alloc]; omega) fun e => by have := hCv b e.symm; omega).trans (((Below.refl _ _).alloc (Nat.le_refl _) o).block b (by omega))
  have hcell : ∀ b, b ≤ n + 3 → w'.cell? ⟨b, 0, none⟩ = W.cell? ⟨b, 0, none⟩ := fun b hb => World.cell?_of_block (a := ⟨b, 0, none⟩) (hblk b hb)
  have hfro : ∀ b, b ≤ n + 3 → w'.frozen? ⟨b, 0, none⟩ = W.frozen? ⟨b, 0, none⟩ := fun b hb => World.frozen?_of_block (a := ⟨b, 0, none⟩) (hblk b hb)
  have hset : ∀ b, b ≤ n + 2 → (w'.setCell ⟨n + 3, 0, none⟩ v').cell? ⟨b, 0, none⟩ = W.cell? ⟨b, 0, none⟩ := fun b hb => by
    rw [World.cell?_setCell_other _ _ _ _ (fun e => by injection e with e1 _ _; omega), hcell b (by omega)]
  refine ⟨(hcell _ (Nat.le_refl _)).trans hc, (hfro _ (Nat.le_refl _)).trans (h.f _ (by omega) (Nat.le_refl _)), fun b => (n ≤ b ∧ b ≤ n + 3) ∨ v'.ownBlock = some b, ?_, ?_, ⟨⟨v', fun _ => Iff.rfl, ?_, ?_⟩, herr, ?_, ?_, ?_, ?_, ?_⟩⟩
  · rintro b (h1 | h1)
    · exact .inl ((hO _).2 (.inl h1))
    · rcases hat with e | e
      · exact .inl ((hO _).2 (.inr (e ▸ h1)))
      · have h2 := e.symm.trans h1
        injection h2 with h2
        exact .inr (by omega)
  · exact hG.trans (Grow.setCell (O := O) w' (p := ⟨n + 3, 0, none⟩) v' ((hO _).2 (.inl ⟨by show n ≤ n + 3; omega, Nat.le_refl _⟩))) (Sub.refl _ _)
  · exact World.cell?_setCell_same' w' ⟨n + 3, 0, none⟩ v' (by rw [hcell _ (Nat.le_refl _), hc]; rfl)
  · rw [hst]
    exact own_heap hown' fun g hg' => Below.heap_setCell w' ⟨n + 3, 0, none⟩ v' g (by have := hC g hg'; show g ≠ n + 3; omega)
  · rw [hset _ (by omega)]; exact h.r0
  · rw [hset _ (by omega)]; exact h.r1
  · rw [hset _ (by omega)]; exact h.r2
  · intro b h1 h2; rw [World.frozen?_setCell, hfro b h2]; exact h.f b h1 h2
  · have := hG.size; simp; omega
theorem lx_end {s : ByteArray} {n k : Nat} {O : Nat → Prop} {W : World} {x : Tk × Nat} (h : LJ s n k O W) (hx : x ∈ ysL s) (he : x.2 ≠ 0) :
    Grow O W (((W.setCell ⟨n, 0, none⟩ (.slice none 0 0)).setCell ⟨n + 1, 0, none⟩ (.int .i64 (x.1.a : Int))).setCell ⟨n + 2, 0, none⟩ (.int .i64 (x.2 : Int))).drew ∧
    LX s n .ret O (((W.setCell ⟨n, 0, none⟩ (.slice none 0 0)).setCell ⟨n + 1, 0, none⟩ (.int .i64 (x.1.a : Int))).setCell ⟨n + 2, 0, none⟩ (.int .i64 (x.2 : Int))).drew := by
  have hlt := LJ.fram (m := 0).lt h
  have r0 := h.r0
  have r1 := h.r1
  have r2 := h.r2
  obtain ⟨v, hO, _, _⟩ := h.v
  have ho : ∀ b, n ≤ b → b ≤ n + 2 → O b := fun b h1 h2 => (hO b).2 (.inl ⟨h1, by omega⟩)
  refine ⟨Grow.drewN (((Grow.setCell (O := O) W (p := ⟨n, 0, none⟩) _ (ho n (by omega) (by omega))).trans (Grow.setCell (O := O) _ (p := ⟨n + 1, 0, none⟩) _ (ho (n + 1) (by omega) (by omega))) (Sub.refl _ _)).trans (Grow.setCell (O := O) _ (p := ⟨n + 2, 0, none⟩) _ (ho (n + 2) (by omega) (by omega))) (Sub.refl _ _)) 1, rfl, ho, fun b hb => by have := hlt b hb; simpa using this, x, hx, he, ?_, ?_, ?_⟩
  · rw [World.cell?_drew, World.cell?_setCell_other _ _ _ _ (fun e => by injection e with e1 _ _; omega), World.cell?_setCell_other _ _ _ _ (fun e => by injection e with e1 _ _; omega)]
    exact World.cell?_setCell_same _ _ _ r0
  · rw [World.cell?_drew, World.cell?_setCell_other _ _ _ _ (fun e => by injection e with e1 _ _; omega)]
    exact World.cell?_setCell_same _ _ _ (by rw [World.cell?_setCell_other _ _ _ _ (fun e => by injection e with e1 _ _; omega)]; exact r1)
  · rw [World.cell?_drew]
    exact World.cell?_setCell_same _ _ _ (by rw [World.cell?_setCell_other _ _ _ _ (fun e => by injection e with e1 _ _; omega), World.cell?_setCell_other _ _ _ _ (fun e => by injection e with e1 _ _; omega)]; exact r2)
theorem errs_mem {ys : List (Tk × Nat)} {y : Tk × Nat} (h : y ∈ ys) (h0 : y.2 ≠ 0) : errs ys = true := by
  unfold errs
  rw [List.any_eq_true]
  exact ⟨y, h, by simpa using h0⟩
theorem res_lex {tmps : Array Value} {W : World} {b0 b1 b2 : Nat} {v0 v1 v2 : Value} (h2 : tmps.getD 2 undef = .pointer (some ⟨b0, 0, none⟩)) (h3 : tmps.getD 3 undef = .pointer (some ⟨b1, 0, none⟩)) (h4 : tmps.getD 4 undef = .pointer (some ⟨b2, 0, none⟩))
    (c0 : W.cell? ⟨b0, 0, none⟩ = some v0) (c1 : W.cell? ⟨b1, 0, none⟩ = some v1) (c2 : W.cell? ⟨b2, 0, none⟩ = some v2) : (results Try.f13 tmps).run Try.prog W = .ok (.tuple #[v0, v1, v2]) W := by
  rw [Array.getD_eq_getD_getElem?] at h2 h3 h4
  simp only [results, Try.results13]
  simp [h2, h3, h4, asAddr, loadVar, Try.isAgg22, Try.isAgg3, Try.isAgg32, c0, c1, c2]
set_option maxHeartbeats 1000000 in
set_option maxRecDepth 20000 in
theorem lex_any (s : ByteArray) (w : World) (hs : s.size ≤ 16384) : CallsIn Fence.wide 0 Try.prog 13 #[.string s] w (LexQ s w) := by
  have htk := Lib.hid (fun w => (callsIn_wide.2 (tokens_c s w) : CallsIn Fence.wide 0 Try.prog _ _ _ _))
  refine callsIn_of_wp_marks Try.func13 rfl trivial ?_ rfl
  simp only [Try.ntmps13, List.size_toArray, List.length_cons, List.length_nil, Nat.reduceAdd, Nat.reduceSub, Array.replicate_succ, Array.replicate_zero, List.push_toArray, List.append_toArray, List.nil_append, List.cons_append]
  have d0 : decide (16384 < (s.size : Int)) = false := decide_eq_false (by omega)
  have d1 : decide (16384 < s.size) = false := decide_eq_false (by omega)
  gi_wp2_with fail
  refine ⟨trivial, rfl, (htk.out _).mono ?_⟩
  clear htk d0 d1
  rintro e W1 ⟨rfl, hw1⟩
  have hsz : (((((w.alloc (.cells #[.slice none 0 0] 22)).alloc (.cells #[.int .i64 0] 3)).alloc (.cells #[.int .i64 0] 32)).alloc (.cells #[.slice none 0 0] 22)).heap.size) = w.heap.size + 4 := by simp
  rw [hsz]
  have hb1 : Below w.heap.size w W1 := by
    rw [hw1]
    exact (((((Below.refl _ w).alloc (Nat.le_refl _) _).alloc (by simp) _).alloc (by simp; omega) _).alloc (by simp; omega) _).alloc (by simp; omega) _
  have hz1 : W1.heap.size ≤ w.heap.size + 5 ∧ w.heap.size + 5 ≤ W1.heap.size := by rw [hw1]; simp
  have hJ0 := (lex_start s w).1
  have hB := (lex_start s w).2
  rw [← hw1] at hJ0 hB
  clear hsz hw1
  gi_wp2_with fail
  refine range_law (gf := 21) (lb := #[.pointer (some ⟨w.heap.size + 4, 0, none⟩)]) rfl (enters_of Try.func21 (by kernel_rfl) rfl) (tokens_iter s (w.heap.size + 4) (by omega))
    (by rintro W x args rfl; rfl) (LJ s w.heap.size) (LX s w.heap.size) (fun b => w.heap.size ≤ b ∧ b ≤ w.heap.size + 3) LJ.fram LX.fram hJ0
    (fun O' W' hb' hs' => ⟨(hb'.cell (p := ⟨w.heap.size + 4, 0, none⟩) (by simp only; omega)).trans hB, by have := hb'.size; omega, fun h => (hs' _ h).elim (fun h => by omega) fun h => by omega⟩)
    (fun k x args W2 a1 W3 => W3 = W2.alloc (.cells #[.int .u8 (x.1.k : Int), .string (bs x.1.t), .int .i64 (x.1.a : Int)] 26) ∧ ∃ u8 u9 u10 u11 u12 u13 u14, a1 = { tmps := #[.string s, undef, .pointer (some ⟨w.heap.size, 0, none⟩), .pointer (some ⟨w.heap.size + 1, 0, none⟩), .pointer (some ⟨w.heap.size + 2, 0, none⟩), .pointer (some ⟨w.heap.size + 3, 0, none⟩), .pointer (some ⟨W2.heap.size, 0, none⟩), .int .i64 (x.2 : Int), u8, u9, u10, u11, u12, u13, u14, undef, undef, undef, undef, undef, undef, undef, undef, undef, undef], defers := [] }) ?assign ?body ?done ?stop
  case assign =>
    rintro l2 k x O2 W2 args hj hx rfl
    clear hj
    unfold tokA
    gi_wp2
    exact ⟨(Below.refl _ _).alloc (Nat.le_refl _) _, trivial, _, _, _, _, _, _, _, rfl⟩
  case body =>
    rintro l2 k x O2 W3 args _ _ W4 ⟨rfl, u8, u9, u10, u11, u12, u13, u14, rfl⟩ hj hx hrep hbb hbl hz3 hne hl2 hl3 hol
    rw [World.size_alloc] at hz3
    have hcc : ∀ q, W4.cell? ⟨W3.heap.size, q, none⟩ = (#[.int .u8 (x.1.k : Int), .string (bs x.1.t), .int .i64 (x.1.a : Int)] : Array Value)[q]? := fun q => by
      rw [World.cell?_of_block (w := W3.alloc (.cells #[.int .u8 (x.1.k : Int), .string (bs x.1.t), .int .i64 (x.1.a : Int)] 26)) (hne _ (by show W3.heap.size ≠ l2; omega)), World.cell?_alloc_at _ _ _ _ rfl]
    have e0 := hcc 0
    have e1 := hcc 1
    have e2 := hcc 2
    simp only [List.getElem?_toArray, List.getElem?_cons_zero, List.getElem?_cons_succ] at e0 e1 e2
    have HJ := Lib.hid hj
    have HX := Lib.hid hx
    have hmem : x ∈ ysL s := List.mem_of_getElem? hx
    have HL := LJ.fram (m := 0).lt hj
    have hf := hj.f
    have f0 := hf w.heap.size (by omega) (by omega)
    have f1 := hf (w.heap.size + 1) (by omega) (by omega)
    have f2 := hf (w.heap.size + 2) (by omega) (by omega)
    have f3 := hf (w.heap.size + 3) (by omega) (by omega)
    have r0 := hj.r0
    have r1 := hj.r1
    have r2 := hj.r2
    have hlt := hj.lt
    have hz4 : W4.heap.size ≤ W3.heap.size + 1 ∧ W3.heap.size + 1 ≤ W4.heap.size := by omega
    clear hcc hne hbl hbb hrep hz3 hf hx
    by_cases hxe : x.2 = 0
    · have hxe' : (x.2 : Int) = 0 := by omega
      have hxt : x = (x.1, 0) := by rw [← hxe]
      obtain ⟨⟨v, ho, hc, hown⟩, herr, _, _, _, _, _⟩ := hj
      obtain ⟨hk, hxk⟩ := List.getElem?_eq_some_iff.1 HX.out
      have hkl : k < 16385 := by have := (toks_len KK 0 s.data.toList).2; have h2 : s.data.toList.length = s.size := by simp
                                 have h3 : k < (toks KK 0 s.data.toList).length := hk
                                 omega
      have hstep : flat (((ysL s).take (k + 1)).map (·.1)) = flat (((ysL s).take k).map (·.1)) ++ encTk x.1 := by
        rw [List.take_succ_eq_append_getElem hk, List.map_append, hxk]; simp [flat]
      have herr2 : errs ((ysL s).take (k + 1)) = false := by
        rw [List.take_succ_eq_append_getElem hk, hxk]
        unfold errs at herr ⊢
        rw [List.any_append, herr]; simp [hxe]
      have HST := Lib.hid hstep
      have HER := Lib.hid herr2
      have HO := Lib.hid ho
      have HW := Lib.hid hown
      obtain ⟨d, hd⟩ : ∃ d, flat (((ysL s).take k).map (·.1)) = d := ⟨_, rfl⟩
      obtain ⟨i0, hi, hz0, hz1, hz2⟩ := info_parts infoK
      have hdl : d.length = k * 3 := by rw [← hd, flat_len, List.length_map, List.length_take]; omega
      have HD := Lib.hid hd
      clear hstep herr2 herr ho hown hd hxk hk hxt
      gi_wp2_with ((gi_at_builtin; refine wpListIn_append_own_at _ rfl _ _ 22 rfl (w.heap.size + 3 + 1) 26 i0 (.agg #[.int .u8 0, .string ByteArray.empty, .int .i64 0]) 3 32 Try.underlying22 hi hz0 hz1 hz2 rfl (by decide) v k d rfl (own_below (HD.out ▸ HW.out) ((Below.refl _ _).alloc (Nat.le_refl _) _)) ⟨W4.heap.size, 0, none⟩ 1 1 [.int .u8 (x.1.k : Int), .string (bs x.1.t), .int .i64 (x.1.a : Int)] rfl rfl (new_three _ _ _ _ _) (by simp [Value.oneCell']) (by unfold maxLen; omega) (by omega) (by simp; omega) ?_))
      intro v' w' hown' hgrow hnil hat
      obtain ⟨a9, k9, rfl⟩ : ∃ a c, v' = .slice a (k + 1) c := by
        rcases own_cells hown' with ⟨_, h0, _⟩ | ⟨g, cap, h0, _⟩
        · omega
        · exact ⟨_, _, h0⟩
      rw [← HD.out] at hown'
      obtain ⟨q1, q2, O', h1', h2', h3'⟩ := LJ.step HJ.out HO.out HW.out hc HST.out HER.out hown' hgrow hat
      have H1 := Lib.hid h1'
      have H2 := Lib.hid h2'
      have H3 := Lib.hid h3'
      clear h1' h2' h3' hown' hgrow hnil hat hc f3
      gi_wp2
      exact ⟨O', H1.out, H2.out, H3.out⟩
    · have de : ((x.2 : Int) != 0) = true := by simp; omega
      have de2 : ((x.2 : Int) == 0) = false := by simp; omega
      have HO : ∀ b, w.heap.size ≤ b → b ≤ w.heap.size + 2 → O2 b := by
        obtain ⟨v, ho, _, _⟩ := hj.v
        exact fun b h1 h2 => (ho b).2 (.inl ⟨h1, by omega⟩)
      gi_wp2_with fail
      refine wpIn_region_held (fun w' => w'.cell? ⟨W3.heap.size, 2, none⟩ = some (.int .i64 (x.1.a : Int))) [] 6 #[false, false, false, false, false, false] (by kernel_rfl) (by kernel_rfl) (by kernel_rfl) (by kernel_rfl) (by rw [World.cell?_drew]; exact e2) (fun hHeld => ?_)
      refine wpAnyS_take (i := 0) (oi := ⟨some 17, _, _, _, _, _⟩) (v := .pointer (some ⟨W3.heap.size, 2, none⟩)) rfl (by kernel_rfl) (by kernel_rfl) (by kernel_rfl) (by kernel_rfl) (fun _ _ _ h => Norm.panic h) (Or.inl ⟨by rfl, ?_⟩) (by assumption) ?_
      · intro w' hSw
        have hS1 : w'.cell? ⟨W3.heap.size, 2, none⟩ = some (.int .i64 (x.1.a : Int)) := hSw
        go_simp
      simp only [Act.put, List.setIfInBounds_toArray, List.set_cons_zero, List.set_cons_succ]
      refine wpAnyS_take (i := 1) (oi := ⟨some 18, _, _, _, _, _⟩) (v := .int .i64 (x.1.a : Int)) rfl (by kernel_rfl) (by kernel_rfl) (by kernel_rfl) (by kernel_rfl) (fun _ _ _ h => Norm.panic h) (Or.inl ⟨by rfl, ?_⟩) (by assumption) ?_
      · intro w' hSw
        have hS1 : w'.cell? ⟨W3.heap.size, 2, none⟩ = some (.int .i64 (x.1.a : Int)) := hSw
        go_simp
      simp only [Act.put, List.setIfInBounds_toArray, List.set_cons_zero, List.set_cons_succ]
      refine wpAnyS_take (i := 2) (oi := ⟨some 19, _, _, _, _, _⟩) (v := .int .i64 (x.2 : Int)) rfl (by kernel_rfl) (by kernel_rfl) (by kernel_rfl) (by kernel_rfl) (fun _ _ _ h => Norm.panic h) (Or.inl ⟨by rfl, ?_⟩) (by assumption) ?_
      · intro w' hSw
        have hS1 : w'.cell? ⟨W3.heap.size, 2, none⟩ = some (.int .i64 (x.1.a : Int)) := hSw
        go_simp
      simp only [Act.put, List.setIfInBounds_toArray, List.set_cons_zero, List.set_cons_succ]
      refine wpAnyS_one (i := 3) (oi := ⟨none, _, _, _, _, _⟩) rfl (by kernel_rfl) (by rfl) (fun K hK => ?_)
      go_simp
      refine hK _ _ (fun _ => ?_) ?_
      · show World.cell? _ _ = _
        rw [World.cell?_drew, World.cell?_setCell_other _ _ _ _ (fun h => by injection h with _ h2 _; exact absurd h2 (by decide))]; exact e2
      clear hK K
      simp only [Act.put, List.setIfInBounds_toArray, List.set_cons_zero, List.set_cons_succ]
      refine wpAnyS_one (i := 4) (oi := ⟨none, _, _, _, _, _⟩) rfl (by kernel_rfl) (by rfl) (fun K hK => ?_)
      go_simp
      refine hK _ _ (fun _ => ?_) ?_
      · show World.cell? _ _ = _
        rw [World.cell?_drew, World.cell?_setCell_other _ _ _ _ (fun h => by injection h with _ h2 _; exact absurd h2 (by decide)), World.cell?_setCell_other _ _ _ _ (fun h => by injection h with _ h2 _; exact absurd h2 (by decide))]; exact e2
      clear hK K
      simp only [Act.put, List.setIfInBounds_toArray, List.set_cons_zero, List.set_cons_succ]
      refine wpAnyS_one (i := 5) (oi := ⟨none, _, _, _, _, _⟩) rfl (by kernel_rfl) (by rfl) (fun K hK => ?_)
      go_simp
      refine hK _ _ (fun _ => ?_) ?_
      · show World.cell? _ _ = _
        rw [World.cell?_drew, World.cell?_setCell_other _ _ _ _ (fun h => by injection h with _ h2 _; exact absurd h2 (by decide)), World.cell?_setCell_other _ _ _ _ (fun h => by injection h with _ h2 _; exact absurd h2 (by decide)), World.cell?_setCell_other _ _ _ _ (fun h => by injection h with _ h2 _; exact absurd h2 (by decide))]; exact e2
      clear hK K
      simp only [Act.put, List.setIfInBounds_toArray, List.set_cons_zero, List.set_cons_succ]
      refine wpAnyS_done (by kernel_rfl) ?_
      refine Norm.normal ?_
      obtain ⟨g1, g2⟩ := lx_end HJ.out hmem hxe
      have G1 := Lib.hid g1
      have G2 := Lib.hid g2
      clear g1 g2
      gi_wp2_with fail
      exact ⟨O2, Sub.refl _ _, G1.out, G2.out⟩
  case stop =>
    rintro c O2 W2 hx hs2 nD hg2 hK
    obtain rfl := hx.c
    obtain ⟨y, hy, hy0, c0, c1, c2⟩ := hx.y
    have hF := (LX.fram (m := 0) (.ret)).taken (k := 0) hx (D := W1.heap.size) (by omega) nD (.deferred none)
    have hG := ((Grow.of_below (O := fun b => w.heap.size ≤ b ∧ b ≤ w.heap.size + 3) hb1).trans hg2 (Sub.refl _ _)).taken (D := W1.heap.size) (by omega) (.deferred none)
    have hM := Lib.hid (errs_mem hy hy0)
    have HF := Lib.hid hF
    have HG := Lib.hid hG
    have HK := Lib.hid hK
    have HY := Lib.hid (show y ∈ ysL s ∧ y.2 ≠ 0 from ⟨hy, hy0⟩)
    have C0 := Lib.hid (show (W2.putObj W1.heap.size (.deferred none)).cell? ⟨w.heap.size, 0, none⟩ = some (.slice none 0 0) from (World.cell?_of_block (a := ⟨w.heap.size, 0, none⟩) (World.putObj_heap_other (by simp only; omega))).trans c0)
    have C1 := Lib.hid (show (W2.putObj W1.heap.size (.deferred none)).cell? ⟨w.heap.size + 1, 0, none⟩ = some (.int .i64 (y.1.a : Int)) from (World.cell?_of_block (a := ⟨w.heap.size + 1, 0, none⟩) (World.putObj_heap_other (by simp only; omega))).trans c1)
    have C2 := Lib.hid (show (W2.putObj W1.heap.size (.deferred none)).cell? ⟨w.heap.size + 2, 0, none⟩ = some (.int .i64 (y.2 : Int)) from (World.cell?_of_block (a := ⟨w.heap.size + 2, 0, none⟩) (World.putObj_heap_other (by simp only; omega))).trans c2)
    clear hF hG hK hy hy0 c0 c1 c2 hx hg2 hB hJ0 hb1 hs2
    gi_wp2
    refine ⟨by simp, .inl ⟨_, _, rfl, run_takeDeferred HK.out, ?_⟩⟩
    exact ⟨_, res_lex rfl rfl rfl C0.out C1.out C2.out, HG.out.below (Nat.le_refl _) (fun b hb => hb.1), .inl ⟨hM.out, y, HY.out.1, HY.out.2, rfl⟩⟩
  case done =>
    rintro O2 W2 hj hs2 nD hg2 hK
    have hf := hj.f
    have f0 := hf w.heap.size (by omega) (by omega)
    have f1 := hf (w.heap.size + 1) (by omega) (by omega)
    have f2 := hf (w.heap.size + 2) (by omega) (by omega)
    have r0 := hj.r0
    have r1 := hj.r1
    have r2 := hj.r2
    obtain ⟨⟨v, ho, hc, hown⟩, herr, _, _, _, _, hlt⟩ := hj
    rw [List.take_length] at hown herr
    have hlD : W1.heap.size < W2.heap.size := lt_of_heap hK
    have hlen : (tksL s).length = (ysL s).length := by unfold tksL; simp
    have HG := Lib.hid ((Grow.of_below (O := fun b => w.heap.size ≤ b ∧ b ≤ w.heap.size + 3) hb1).trans hg2 (Sub.refl _ _))
    have hpos : 0 < (ysL s).length := by
      obtain ⟨zs, y, h1, _⟩ := toks_ends KK 0 s.data.toList
      show 0 < (toks KK 0 s.data.toList).length
      rw [h1]; simp
    rcases own_cells hown with ⟨_, h0, _⟩ | ⟨g, cap, rfl, hob, hg1, hg3, hcells⟩
    · omega
    · have hgD : g ≠ W1.heap.size := fun e => nD ((ho _).2 (.inr (by rw [← e]; exact hob)))
      have HC := Lib.hid (show ∀ j u, (flat (tksL s))[j]? = some u → W2.cell? ⟨g, j, none⟩ = some u from hcells)
      have HE := Lib.hid herr
      have HK := Lib.hid hK
      have HL := Lib.hid hlen
      clear hown herr ho hg2 hs2 nD hcells hK hf hB hJ0 hlen hob
      gi_wp2
      obtain ⟨F, hF⟩ : ∃ F, ((W2.setCell ⟨w.heap.size, 0, none⟩ (.slice (some ⟨g, 0, none⟩) (ysL s).length cap)).setCell ⟨w.heap.size + 1, 0, none⟩ (.int .i64 0)).setCell ⟨w.heap.size + 1 + 1, 0, none⟩ (.int .i64 0) = F := ⟨_, rfl⟩
      rw [hF]
      have hblk : ∀ b, w.heap.size + 2 < b → F.heap[b]? = W2.heap[b]? := fun b hb => by
        rw [← hF, Below.heap_setCell _ _ _ _ (by show b ≠ w.heap.size + 1 + 1; omega), Below.heap_setCell _ _ _ _ (by show b ≠ w.heap.size + 1; omega), Below.heap_setCell _ _ _ _ (by show b ≠ w.heap.size; omega)]
      have c0 : F.cell? ⟨w.heap.size, 0, none⟩ = some (.slice (some ⟨g, 0, none⟩) (ysL s).length cap) := by
        rw [← hF, World.cell?_setCell_other _ _ _ _ (fun e => by injection e with e1 _ _; omega), World.cell?_setCell_other _ _ _ _ (fun e => by injection e with e1 _ _; omega)]
        exact World.cell?_setCell_same _ _ _ r0
      have c1 : F.cell? ⟨w.heap.size + 1, 0, none⟩ = some (.int .i64 0) := by
        rw [← hF, World.cell?_setCell_other _ _ _ _ (fun e => by injection e with e1 _ _; omega)]
        exact World.cell?_setCell_same _ _ _ (by rw [World.cell?_setCell_other _ _ _ _ (fun e => by injection e with e1 _ _; omega)]; exact r1)
      have c2 : F.cell? ⟨w.heap.size + 1 + 1, 0, none⟩ = some (.int .i64 0) := by
        rw [← hF]
        exact World.cell?_setCell_same _ _ _ (by rw [World.cell?_setCell_other _ _ _ _ (fun e => by injection e with e1 _ _; omega), World.cell?_setCell_other _ _ _ _ (fun e => by injection e with e1 _ _; omega)]; exact r2)
      have hsz : F.heap.size = W2.heap.size := by rw [← hF]; simp
      have hGF : Below w.heap.size w F := by
        rw [← hF]
        exact (((HG.out.below (Nat.le_refl _) fun b hb => hb.1).setCell (Nat.le_refl _) _).setCell (by show w.heap.size ≤ w.heap.size + 1; omega) _).setCell (by show w.heap.size ≤ w.heap.size + 1 + 1; omega) _
      have hPO : ∀ b, b ≠ W1.heap.size → (F.putObj W1.heap.size (.deferred none)).heap[b]? = F.heap[b]? := fun b hb => World.putObj_heap_other hb
      refine ⟨by simp, .inl ⟨_, _, rfl, run_takeDeferred ((hblk _ (by omega)).trans HK.out), ?_⟩⟩
      refine ⟨_, res_lex rfl rfl rfl ((World.cell?_of_block (a := ⟨w.heap.size, 0, none⟩) (hPO _ (by simp only; omega))).trans c0) ((World.cell?_of_block (a := ⟨w.heap.size + 1, 0, none⟩) (hPO _ (by simp only; omega))).trans c1)
        ((World.cell?_of_block (a := ⟨w.heap.size + 1 + 1, 0, none⟩) (hPO _ (by simp only; omega))).trans c2), ?_, .inr ⟨HE.out, g, cap, by rw [HL.out], by omega, ?_, ?_⟩⟩
      · exact ⟨hGF.os, hGF.tape, hGF.output, by simp [World.putObj]; omega, fun k hk => (hPO k (by omega)).trans (hGF.block k hk)⟩
      · simp [World.putObj]; omega
      · intro j u hj
        have hb : (F.putObj W1.heap.size (.deferred none)).heap[g]? = W2.heap[g]? := (hPO g hgD).trans (hblk g (by omega))
        exact (World.cell?_of_block (a := ⟨g, j, none⟩) hb).trans (HC.out j u hj)
theorem lex_c (s : ByteArray) (w : World) (hs : s.size ≤ 16384) : Calls Try.prog 13 #[.string s] w (LexQ s w) := callsIn_wide.1 (lex_any s w hs)
end Go.Proofs.Yteoaglhdandhkaa.Lx
