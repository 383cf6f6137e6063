/-
  Several texts in one: PsForms, LxLex, LxCap, PsLex, PsCatch, PsCatchFi, PsCatchFp, PsRes, PsReadF, PsReadS, PsApi.
-/
import Derived.Test.YtkeckecdhcknhaaDoorMgBin
import Derived.Test.YtkeckecdhcknhaaDoorLxRow
import Derived.Tactics
import Derived.Tactics2
import Derived.Defers
import Derived.Recover
import Derived.Laws.Pointers
import Derived.Test.YtkeckecdhcknhaaDoorFmRight

/-
  The contracts of binary, unary, basic and formula.
-/
namespace Go.Proofs.YtkeckecdhcknhaaDoor.Ps
open Go Go.RowKit Go.Shelf Go.Proofs.YtkeckecdhcknhaaDoor.Fm Go.Proofs.YtkeckecdhcknhaaDoor.Lx
set_option linter.unusedVariables false
set_option linter.unusedSimpArgs false
theorem forms_all (P : Nat) (m : Bool) : ∀ N (ts : List Tg), ts.length ≤ N → (∀ d i n, i + d = 5 → BinQ P m i n ts) ∧ ∀ n, UnQ P m n ts := by
  intro N
  induction N using Nat.strongRecOn with
  | _ N ih =>
  intro ts hN
  have hb : ∀ (r : List Tg), r.length < ts.length → ∀ i n, i ≤ 5 → BinQ P m i n r := fun r hr i n hi => (ih r.length (by omega) r (Nat.le_refl _)).1 (5 - i) i n (by omega)
  have hu : ∀ n, UnQ P m n ts := fun n => unary_of P m n ts (basic_of P m n ts fun hi => hb _ (drop_len hi (by decide)) 0 (n + 1) (by omega)) fun r hr => (ih r.length (by omega) r (Nat.le_refl _)).2 (n + 1)
  refine ⟨fun d => ?_, hu⟩
  induction d with
  | zero => intro i n hi; obtain rfl : i = 5 := by omega
            exact binary_five P m n ts (hu n)
  | succ d ihd =>
    intro i n hi
    cases hR : lvR i with
    | true => exact binary_right P m i n ts (by omega) hR (ihd (i + 1) n (by omega)) fun r hr => hb r hr i (n + 1) (by omega)
    | false => exact binary_left P m i n ts (by omega) hR (ihd (i + 1) n (by omega)) fun r hr => hb r hr (i + 1) n (by omega)
theorem formula_c (P : Nat) (m : Bool) (n : Nat) (ts : List Tg) (W : World) (h : PSt W P m n ts) : Calls Tryd.prog 22 #[.pointer (some ⟨P, 0, none⟩)] W (RuQ FVal W P n m (binC m 0 n ts)) :=
  formula_of P m n ts ((forms_all P m _ ts (Nat.le_refl _)).1 5 0 n rfl) W h
end Go.Proofs.YtkeckecdhcknhaaDoor.Ps

/-
  The contract of Lex.
-/
namespace Go.Proofs.YtkeckecdhcknhaaDoor.Lx
open Go Go.RowKit Go.Shelf Go.Proofs.YtkeckecdhcknhaaDoor.Fm
set_option linter.unusedVariables false
set_option linter.unusedSimpArgs false
attribute [local go_sem] Oper.semAt_some
def tksL (s : ByteArray) : List Tk := (ysL s).map (·.1)
/-- What Lex gives, of a text that is not too long. -/
def LexQ (s : ByteArray) (w : World) (e : Ending) (w' : World) : Prop := Below w.heap.size w w' ∧
  ((errs (ysL s) = true ∧ ∃ y, y ∈ ysL s ∧ y.2 ≠ 0 ∧ e = .returned (.tuple #[.slice none 0 0, .int .i64 (y.1.a : Int), .int .i64 (y.2 : Int)])) ∨
   (errs (ysL s) = false ∧ ∃ g cap, e = .returned (.tuple #[.slice (some ⟨g, 0, none⟩) (tksL s).length cap, .int .i64 0, .int .i64 0]) ∧ w.heap.size ≤ g ∧ g < w'.heap.size ∧ ∀ j u, (flat (tksL s))[j]? = some u → w'.cell? ⟨g, j, none⟩ = some u))
theorem lex_start (s : ByteArray) (w : World) :
    LJ s w.heap.size 0 (fun b => w.heap.size ≤ b ∧ b ≤ w.heap.size + 3) (((((w.alloc (.cells #[.slice none 0 0] 61)).alloc (.cells #[.int .i64 0] 3)).alloc (.cells #[.int .i64 0] 30)).alloc (.cells #[.slice none 0 0] 61)).alloc (.cells #[.string s] 9)) ∧
    (((((w.alloc (.cells #[.slice none 0 0] 61)).alloc (.cells #[.int .i64 0] 3)).alloc (.cells #[.int .i64 0] 30)).alloc (.cells #[.slice none 0 0] 61)).alloc (.cells #[.string s] 9)).cell? ⟨w.heap.size + 4, 0, none⟩ = some (.string s) := by
  obtain ⟨A, hA⟩ : ∃ A, w.alloc (.cells #[.slice none 0 0] 61) = A := ⟨_, rfl⟩
  obtain ⟨B, hB⟩ : ∃ B, A.alloc (.cells #[.int .i64 0] 3) = B := ⟨_, rfl⟩
  obtain ⟨C, hC⟩ : ∃ C, B.alloc (.cells #[.int .i64 0] 30) = C := ⟨_, rfl⟩
  obtain ⟨D, hD⟩ : ∃ D, C.alloc (.cells #[.slice none 0 0] 61) = D := ⟨_, rfl⟩
  have zA : A.heap.size = w.heap.size + 1 := by rw [← hA]; simp
  have zB : B.heap.size = w.heap.size + 2 := by rw [← hB]; simp [zA]
  have zC : C.heap.size = w.heap.size + 3 := by rw [← hC]; simp [zB]
  have zD : D.heap.size = w.heap.size + 4 := by rw [← hD]; simp [zC]
  rw [hA, hB, hC, hD]
  have hE : ∀ p : Addr, p.block < w.heap.size + 4 → (D.alloc (.cells #[.string s] 9)).cell? p = D.cell? p ∧ (D.alloc (.cells #[.string s] 9)).frozen? p = D.frozen? p := fun p hp => ⟨World.cell?_alloc_lt _ _ _ (by show p.block < _; omega), World.frozen?_alloc_past _ _ _ (by show p.block < _; omega)⟩
  have hd : ∀ p : Addr, p.block < w.heap.size + 3 → D.cell? p = C.cell? p ∧ D.frozen? p = C.frozen? p := fun p hp => by rw [← hD]; exact ⟨World.cell?_alloc_lt _ _ _ (by show p.block < _; omega), World.frozen?_alloc_past _ _ _ (by show p.block < _; omega)⟩
  have hc : ∀ p : Addr, p.block < w.heap.size + 2 → C.cell? p = B.cell? p ∧ C.frozen? p = B.frozen? p := fun p hp => by rw [← hC]; exact ⟨World.cell?_alloc_lt _ _ _ (by show p.block < _; omega), World.frozen?_alloc_past _ _ _ (by show p.block < _; omega)⟩
  have hb : ∀ p : Addr, p.block < w.heap.size + 1 → B.cell? p = A.cell? p ∧ B.frozen? p = A.frozen? p := fun p hp => by rw [← hB]; exact ⟨World.cell?_alloc_lt _ _ _ (by show p.block < _; omega), World.frozen?_alloc_past _ _ _ (by show p.block < _; omega)⟩
  have a0 : A.cell? ⟨w.heap.size, 0, none⟩ = some (.slice none 0 0) ∧ A.frozen? ⟨w.heap.size, 0, none⟩ = false := by rw [← hA]; exact ⟨World.cell?_alloc_at _ _ _ _ rfl, World.frozen?_alloc_at _ _ _ _ rfl⟩
  have b0 : B.cell? ⟨w.heap.size + 1, 0, none⟩ = some (.int .i64 0) ∧ B.frozen? ⟨w.heap.size + 1, 0, none⟩ = false := by rw [← hB]; exact ⟨World.cell?_alloc_at _ _ _ _ zA.symm, World.frozen?_alloc_at _ _ _ _ zA.symm⟩
  have c0 : C.cell? ⟨w.heap.size + 2, 0, none⟩ = some (.int .i64 0) ∧ C.frozen? ⟨w.heap.size + 2, 0, none⟩ = false := by rw [← hC]; exact ⟨World.cell?_alloc_at _ _ _ _ zB.symm, World.frozen?_alloc_at _ _ _ _ zB.symm⟩
  have d0 : D.cell? ⟨w.heap.size + 3, 0, none⟩ = some (.slice none 0 0) ∧ D.frozen? ⟨w.heap.size + 3, 0, none⟩ = false := by rw [← hD]; exact ⟨World.cell?_alloc_at _ _ _ _ zC.symm, World.frozen?_alloc_at _ _ _ _ zC.symm⟩
  have lt : ∀ k m : Nat, k < m → (⟨w.heap.size + k, 0, none⟩ : Addr).block < w.heap.size + m := fun k m h => by show w.heap.size + k < _; omega
  refine ⟨⟨⟨.slice none 0 0, fun b => by simp [Value.ownBlock], (hE _ (lt 3 4 (by omega))).1.trans d0.1, by simp [flat, World.ownsRow_nil]⟩, rfl, ?_, ?_, ?_, ?_, by simp [zD]⟩, World.cell?_alloc_at _ _ _ _ zD.symm⟩
  · exact (((hE _ (lt 0 4 (by omega))).1.trans (hd _ (lt 0 3 (by omega))).1).trans (hc _ (lt 0 2 (by omega))).1).trans ((hb _ (lt 0 1 (by omega))).1.trans a0.1)
  · exact (((hE _ (lt 1 4 (by omega))).1.trans (hd _ (lt 1 3 (by omega))).1).trans (hc _ (lt 1 2 (by omega))).1).trans b0.1
  · exact ((hE _ (lt 2 4 (by omega))).1.trans (hd _ (lt 2 3 (by omega))).1).trans c0.1
  · intro b h1 h2
    have : b = w.heap.size + 0 ∨ b = w.heap.size + 1 ∨ b = w.heap.size + 2 ∨ b = w.heap.size + 3 := by omega
    rcases this with rfl | rfl | rfl | rfl
    · exact (((hE _ (lt 0 4 (by omega))).2.trans (hd _ (lt 0 3 (by omega))).2).trans (hc _ (lt 0 2 (by omega))).2).trans ((hb _ (lt 0 1 (by omega))).2.trans a0.2)
    · exact (((hE _ (lt 1 4 (by omega))).2.trans (hd _ (lt 1 3 (by omega))).2).trans (hc _ (lt 1 2 (by omega))).2).trans b0.2
    · exact ((hE _ (lt 2 4 (by omega))).2.trans (hd _ (lt 2 3 (by omega))).2).trans c0.2
    · exact (hE _ (lt 3 4 (by omega))).2.trans d0.2
theorem LJ.step {s : ByteArray} {n k : Nat} {O : Nat → Prop} {W w' : World} {v v' : Value} {x : Tk × Nat} {o : Obj} (h : LJ s n k O W) (hO : ∀ b, O b ↔ (n ≤ b ∧ b ≤ n + 3) ∨ v.ownBlock = some b) (hown : W.ownsRow (n + 4) 89 3 v k (flat (((ysL s).take k).map (·.1))))
    (hc : W.cell? ⟨n + 3, 0, none⟩ = some v) (hst : flat (((ysL s).take (k + 1)).map (·.1)) = flat (((ysL s).take k).map (·.1)) ++ encTk x.1) (herr : errs ((ysL s).take (k + 1)) = false)
    (hown' : w'.ownsRow (n + 4) 89 3 v' (k + 1) (flat (((ysL s).take k).map (·.1)) ++ encTk x.1)) (hg : (W.alloc o).grownBy w' v.ownBlock) (hat : v'.ownBlock = v.ownBlock ∨ v'.ownBlock = some (W.heap.size + 1)) :
    w'.cell? ⟨n + 3, 0, none⟩ = some v ∧ w'.frozen? ⟨n + 3, 0, none⟩ = false ∧ ∃ O', Sub O W.heap.size O' ∧ Grow O W (w'.setCell ⟨n + 3, 0, none⟩ v') ∧ LJ s n (k + 1) O' (w'.setCell ⟨n + 3, 0, none⟩ v') := by
  have hG : Grow O W w' := grow_of_grown hg fun g h => (hO g).2 (.inr h)
  have hC : ∀ g, v'.ownBlock = some g → n + 4 ≤ g := fun g h => (hown'.lt g h).1
  have hCv : ∀ g, v.ownBlock = some g → n + 4 ≤ g := fun g h => (hown.lt g h).1
  have hlt := h.lt
  have hblk : ∀ b, b ≤ n + 3 → w'.heap[b]? = W.heap[b]? := fun b hb => (hg.block b (by rw [World.size_alloc]; omega) fun e => by have := hCv b e.symm; omega).trans (((Below.refl _ _).alloc (Nat.le_refl _) o).block b (by omega))
  have hcell : ∀ b, b ≤ n + 3 → w'.cell? ⟨b, 0, none⟩ = W.cell? ⟨b, 0, none⟩ := fun b hb => World.cell?_of_block (a := ⟨b, 0, none⟩) (hblk b hb)
  have hfro : ∀ b, b ≤ n + 3 → w'.frozen? ⟨b, 0, none⟩ = W.frozen? ⟨b, 0, none⟩ := fun b hb => World.frozen?_of_block (a := ⟨b, 0, none⟩) (hblk b hb)
  have hset : ∀ b, b ≤ n + 2 → (w'.setCell ⟨n + 3, 0, none⟩ v').cell? ⟨b, 0, none⟩ = W.cell? ⟨b, 0, none⟩ := fun b hb => by
    rw [World.cell?_setCell_other _ _ _ _ (fun e => by injection e with e1 _ _; omega), hcell b (by omega)]
  refine ⟨(hcell _ (Nat.le_refl _)).trans hc, (hfro _ (Nat.le_refl _)).trans (h.f _ (by omega) (Nat.le_refl _)), fun b => (n ≤ b ∧ b ≤ n + 3) ∨ v'.ownBlock = some b, ?_, ?_, ⟨⟨v', fun _ => Iff.rfl, ?_, ?_⟩, herr, ?_, ?_, ?_, ?_, ?_⟩⟩
  · rintro b (h1 | h1)
    · exact .inl ((hO _).2 (.inl h1))
    · rcases hat with e | e
      · exact .inl ((hO _).2 (.inr (e ▸ h1)))
      · have h2 := e.symm.trans h1
        injection h2 with h2
        exact .inr (by omega)
  · exact hG.trans (Grow.setCell (O := O) w' (p := ⟨n + 3, 0, none⟩) v' ((hO _).2 (.inl ⟨by show n ≤ n + 3; omega, Nat.le_refl _⟩))) (Sub.refl _ _)
  · exact World.cell?_setCell_same' w' ⟨n + 3, 0, none⟩ v' (by rw [hcell _ (Nat.le_refl _), hc]; rfl)
  · rw [hst]
    exact own_heap hown' fun g hg' => Below.heap_setCell w' ⟨n + 3, 0, none⟩ v' g (by have := hC g hg'; show g ≠ n + 3; omega)
  · rw [hset _ (by omega)]; exact h.r0
  · rw [hset _ (by omega)]; exact h.r1
  · rw [hset _ (by omega)]; exact h.r2
  · intro b h1 h2; rw [World.frozen?_setCell, hfro b h2]; exact h.f b h1 h2
  · have := hG.size; simp; omega
theorem lx_end {s : ByteArray} {n k : Nat} {O : Nat → Prop} {W : World} {x : Tk × Nat} (h : LJ s n k O W) (hx : x ∈ ysL s) (he : x.2 ≠ 0) :
    Grow O W (((W.setCell ⟨n, 0, none⟩ (.slice none 0 0)).setCell ⟨n + 1, 0, none⟩ (.int .i64 (x.1.a : Int))).setCell ⟨n + 2, 0, none⟩ (.int .i64 (x.2 : Int))).drew ∧
    LX s n .ret O (((W.setCell ⟨n, 0, none⟩ (.slice none 0 0)).setCell ⟨n + 1, 0, none⟩ (.int .i64 (x.1.a : Int))).setCell ⟨n + 2, 0, none⟩ (.int .i64 (x.2 : Int))).drew := by
  have hlt := LJ.fram (m := 0).lt h
  have r0 := h.r0
  have r1 := h.r1
  have r2 := h.r2
  obtain ⟨v, hO, _, _⟩ := h.v
  have ho : ∀ b, n ≤ b → b ≤ n + 2 → O b := fun b h1 h2 => (hO b).2 (.inl ⟨h1, by omega⟩)
  refine ⟨Grow.drewN (((Grow.setCell (O := O) W (p := ⟨n, 0, none⟩) _ (ho n (by omega) (by omega))).trans (Grow.setCell (O := O) _ (p := ⟨n + 1, 0, none⟩) _ (ho (n + 1) (by omega) (by omega))) (Sub.refl _ _)).trans (Grow.setCell (O := O) _ (p := ⟨n + 2, 0, none⟩) _ (ho (n + 2) (by omega) (by omega))) (Sub.refl _ _)) 1, rfl, ho, fun b hb => by have := hlt b hb; simpa using this, x, hx, he, ?_, ?_, ?_⟩
  · rw [World.cell?_drew, World.cell?_setCell_other _ _ _ _ (fun e => by injection e with e1 _ _; omega), World.cell?_setCell_other _ _ _ _ (fun e => by injection e with e1 _ _; omega)]
    exact World.cell?_setCell_same _ _ _ r0
  · rw [World.cell?_drew, World.cell?_setCell_other _ _ _ _ (fun e => by injection e with e1 _ _; omega)]
    exact World.cell?_setCell_same _ _ _ (by rw [World.cell?_setCell_other _ _ _ _ (fun e => by injection e with e1 _ _; omega)]; exact r1)
  · rw [World.cell?_drew]
    exact World.cell?_setCell_same _ _ _ (by rw [World.cell?_setCell_other _ _ _ _ (fun e => by injection e with e1 _ _; omega), World.cell?_setCell_other _ _ _ _ (fun e => by injection e with e1 _ _; omega)]; exact r2)
theorem errs_mem {ys : List (Tk × Nat)} {y : Tk × Nat} (h : y ∈ ys) (h0 : y.2 ≠ 0) : errs ys = true := by
  unfold errs
  rw [List.any_eq_true]
  exact ⟨y, h, by simpa using h0⟩
theorem res_lex {tmps : Array Value} {W : World} {b0 b1 b2 : Nat} {v0 v1 v2 : Value} (h2 : tmps.getD 2 undef = .pointer (some ⟨b0, 0, none⟩)) (h3 : tmps.getD 3 undef = .pointer (some ⟨b1, 0, none⟩)) (h4 : tmps.getD 4 undef = .pointer (some ⟨b2, 0, none⟩))
    (c0 : W.cell? ⟨b0, 0, none⟩ = some v0) (c1 : W.cell? ⟨b1, 0, none⟩ = some v1) (c2 : W.cell? ⟨b2, 0, none⟩ = some v2) : (results Tryd.f30 tmps).run Tryd.prog W = .ok (.tuple #[v0, v1, v2]) W := by
  rw [Array.getD_eq_getD_getElem?] at h2 h3 h4
  simp only [results, Tryd.results30]
  simp [h2, h3, h4, asAddr, loadVar, Tryd.isAgg61, Tryd.isAgg3, Tryd.isAgg30, c0, c1, c2]
set_option maxHeartbeats 1000000 in
set_option maxRecDepth 20000 in
theorem lex_any (s : ByteArray) (w : World) (hs : s.size ≤ 16384) : CallsIn Fence.wide 0 Tryd.prog 30 #[.string s] w (LexQ s w) := by
  have htk := Lib.hid (fun w => (callsIn_wide.2 (tokens_c s w) : CallsIn Fence.wide 0 Tryd.prog _ _ _ _))
  refine callsIn_of_wp_marks Tryd.func30 rfl trivial ?_ rfl
  simp only [Tryd.ntmps30, List.size_toArray, List.length_cons, List.length_nil, Nat.reduceAdd, Nat.reduceSub, Array.replicate_succ, Array.replicate_zero, List.push_toArray, List.append_toArray, List.nil_append, List.cons_append]
  have d0 : decide (16384 < (s.size : Int)) = false := decide_eq_false (by omega)
  have d1 : decide (16384 < s.size) = false := decide_eq_false (by omega)
  gi_wp2_with fail
  refine ⟨trivial, rfl, (htk.out _).mono ?_⟩
  clear htk d0 d1
  rintro e W1 ⟨rfl, hw1⟩
  have hsz : (((((w.alloc (.cells #[.slice none 0 0] 61)).alloc (.cells #[.int .i64 0] 3)).alloc (.cells #[.int .i64 0] 30)).alloc (.cells #[.slice none 0 0] 61)).heap.size) = w.heap.size + 4 := by simp
  rw [hsz]
  have hb1 : Below w.heap.size w W1 := by
    rw [hw1]
    exact (((((Below.refl _ w).alloc (Nat.le_refl _) _).alloc (by simp) _).alloc (by simp; omega) _).alloc (by simp; omega) _).alloc (by simp; omega) _
  have hz1 : W1.heap.size ≤ w.heap.size + 5 ∧ w.heap.size + 5 ≤ W1.heap.size := by rw [hw1]; simp
  have hJ0 := (lex_start s w).1
  have hB := (lex_start s w).2
  rw [← hw1] at hJ0 hB
  clear hsz hw1
  gi_wp2_with fail
  refine range_law (gf := 59) (lb := #[.pointer (some ⟨w.heap.size + 4, 0, none⟩)]) rfl (enters_of Tryd.func59 (by kernel_rfl) rfl) (tokens_iter s (w.heap.size + 4) (by omega))
    (by rintro W x args rfl; rfl) (LJ s w.heap.size) (LX s w.heap.size) (fun b => w.heap.size ≤ b ∧ b ≤ w.heap.size + 3) LJ.fram LX.fram hJ0
    (fun O' W' hb' hs' => ⟨(hb'.cell (p := ⟨w.heap.size + 4, 0, none⟩) (by simp only; omega)).trans hB, by have := hb'.size; omega, fun h => (hs' _ h).elim (fun h => by omega) fun h => by omega⟩)
    (fun k x args W2 a1 W3 => W3 = W2.alloc (.cells #[.int .u8 (x.1.k : Int), .string (bs x.1.t), .int .i64 (x.1.a : Int)] 89) ∧ ∃ u8 u9 u10 u11 u12 u13 u14, a1 = { tmps := #[.string s, undef, .pointer (some ⟨w.heap.size, 0, none⟩), .pointer (some ⟨w.heap.size + 1, 0, none⟩), .pointer (some ⟨w.heap.size + 2, 0, none⟩), .pointer (some ⟨w.heap.size + 3, 0, none⟩), .pointer (some ⟨W2.heap.size, 0, none⟩), .int .i64 (x.2 : Int), u8, u9, u10, u11, u12, u13, u14, undef, undef, undef, undef, undef, undef, undef, undef, undef, undef], defers := [] }) ?assign ?body ?done ?stop
  case assign =>
    rintro l2 k x O2 W2 args hj hx rfl
    clear hj
    unfold tokA
    gi_wp2
    exact ⟨(Below.refl _ _).alloc (Nat.le_refl _) _, trivial, _, _, _, _, _, _, _, rfl⟩
  case body =>
    rintro l2 k x O2 W3 args _ _ W4 ⟨rfl, u8, u9, u10, u11, u12, u13, u14, rfl⟩ hj hx hrep hbb hbl hz3 hne hl2 hl3 hol
    rw [World.size_alloc] at hz3
    have hcc : ∀ q, W4.cell? ⟨W3.heap.size, q, none⟩ = (#[.int .u8 (x.1.k : Int), .string (bs x.1.t), .int .i64 (x.1.a : Int)] : Array Value)[q]? := fun q => by
      rw [World.cell?_of_block (w := W3.alloc (.cells #[.int .u8 (x.1.k : Int), .string (bs x.1.t), .int .i64 (x.1.a : Int)] 89)) (hne _ (by show W3.heap.size ≠ l2; omega)), World.cell?_alloc_at _ _ _ _ rfl]
    have e0 := hcc 0
    have e1 := hcc 1
    have e2 := hcc 2
    simp only [List.getElem?_toArray, List.getElem?_cons_zero, List.getElem?_cons_succ] at e0 e1 e2
    have HJ := Lib.hid hj
    have HX := Lib.hid hx
    have hmem : x ∈ ysL s := List.mem_of_getElem? hx
    have HL := LJ.fram (m := 0).lt hj
    have hf := hj.f
    have f0 := hf w.heap.size (by omega) (by omega)
    have f1 := hf (w.heap.size + 1) (by omega) (by omega)
    have f2 := hf (w.heap.size + 2) (by omega) (by omega)
    have f3 := hf (w.heap.size + 3) (by omega) (by omega)
    have r0 := hj.r0
    have r1 := hj.r1
    have r2 := hj.r2
    have hlt := hj.lt
    have hz4 : W4.heap.size ≤ W3.heap.size + 1 ∧ W3.heap.size + 1 ≤ W4.heap.size := by omega
    clear hcc hne hbl hbb hrep hz3 hf hx
    by_cases hxe : x.2 = 0
    · have hxe' : (x.2 : Int) = 0 := by omega
      have hxt : x = (x.1, 0) := by rw [← hxe]
      obtain ⟨⟨v, ho, hc, hown⟩, herr, _, _, _, _, _⟩ := hj
      obtain ⟨hk, hxk⟩ := List.getElem?_eq_some_iff.1 HX.out
      have hkl : k < 16385 := by have := (toks_len KK 0 s.data.toList).2; have h2 : s.data.toList.length = s.size := by simp
                                 have h3 : k < (toks KK 0 s.data.toList).length := hk
                                 omega
      have hstep : flat (((ysL s).take (k + 1)).map (·.1)) = flat (((ysL s).take k).map (·.1)) ++ encTk x.1 := by
        rw [List.take_succ_eq_append_getElem hk, List.map_append, hxk]; simp [flat]
      have herr2 : errs ((ysL s).take (k + 1)) = false := by
        rw [List.take_succ_eq_append_getElem hk, hxk]
        unfold errs at herr ⊢
        rw [List.any_append, herr]; simp [hxe]
      have HST := Lib.hid hstep
      have HER := Lib.hid herr2
      have HO := Lib.hid ho
      have HW := Lib.hid hown
      obtain ⟨d, hd⟩ : ∃ d, flat (((ysL s).take k).map (·.1)) = d := ⟨_, rfl⟩
      obtain ⟨i0, hi, hz0, hz1, hz2⟩ := info_parts infoK
      have hdl : d.length = k * 3 := by rw [← hd, flat_len, List.length_map, List.length_take]; omega
      have HD := Lib.hid hd
      clear hstep herr2 herr ho hown hd hxk hk hxt
      gi_wp2_with ((gi_at_builtin; refine wpListIn_append_own_at _ rfl _ _ 61 rfl (w.heap.size + 3 + 1) 89 i0 (.agg #[.int .u8 0, .string ByteArray.empty, .int .i64 0]) 3 32 Tryd.underlying61 hi hz0 hz1 hz2 rfl (by decide) v k d rfl (own_below (HD.out ▸ HW.out) ((Below.refl _ _).alloc (Nat.le_refl _) _)) ⟨W4.heap.size, 0, none⟩ 1 1 [.int .u8 (x.1.k : Int), .string (bs x.1.t), .int .i64 (x.1.a : Int)] rfl rfl (new_three _ _ _ _ _) (by simp [Value.oneCell']) (by unfold maxLen; omega) (by omega) (by simp; omega) ?_))
      intro v' w' hown' hgrow hnil hat
      obtain ⟨a9, k9, rfl⟩ : ∃ a c, v' = .slice a (k + 1) c := by
        rcases own_cells hown' with ⟨_, h0, _⟩ | ⟨g, cap, h0, _⟩
        · omega
        · exact ⟨_, _, h0⟩
      rw [← HD.out] at hown'
      obtain ⟨q1, q2, O', h1', h2', h3'⟩ := LJ.step HJ.out HO.out HW.out hc HST.out HER.out hown' hgrow hat
      have H1 := Lib.hid h1'
      have H2 := Lib.hid h2'
      have H3 := Lib.hid h3'
      clear h1' h2' h3' hown' hgrow hnil hat hc f3
      gi_wp2
      exact ⟨O', H1.out, H2.out, H3.out⟩
    · have de : ((x.2 : Int) != 0) = true := by simp; omega
      have de2 : ((x.2 : Int) == 0) = false := by simp; omega
      have HO : ∀ b, w.heap.size ≤ b → b ≤ w.heap.size + 2 → O2 b := by
        obtain ⟨v, ho, _, _⟩ := hj.v
        exact fun b h1 h2 => (ho b).2 (.inl ⟨h1, by omega⟩)
      gi_wp2_with fail
      refine wpIn_region_held (fun w' => w'.cell? ⟨W3.heap.size, 2, none⟩ = some (.int .i64 (x.1.a : Int))) [] 6 #[false, false, false, false, false, false] (by kernel_rfl) (by kernel_rfl) (by kernel_rfl) (by kernel_rfl) (by rw [World.cell?_drew]; exact e2) (fun hHeld => ?_)
      refine wpAnyS_take (i := 0) (oi := ⟨some 17, _, _, _, _, _⟩) (v := .pointer (some ⟨W3.heap.size, 2, none⟩)) rfl (by kernel_rfl) (by kernel_rfl) (by kernel_rfl) (by kernel_rfl) (fun _ _ _ h => Norm.panic h) (Or.inl ⟨by rfl, ?_⟩) (by assumption) ?_
      · intro w' hSw
        have hS1 : w'.cell? ⟨W3.heap.size, 2, none⟩ = some (.int .i64 (x.1.a : Int)) := hSw
        go_simp
      simp only [Act.put, List.setIfInBounds_toArray, List.set_cons_zero, List.set_cons_succ]
      refine wpAnyS_take (i := 1) (oi := ⟨some 18, _, _, _, _, _⟩) (v := .int .i64 (x.1.a : Int)) rfl (by kernel_rfl) (by kernel_rfl) (by kernel_rfl) (by kernel_rfl) (fun _ _ _ h => Norm.panic h) (Or.inl ⟨by rfl, ?_⟩) (by assumption) ?_
      · intro w' hSw
        have hS1 : w'.cell? ⟨W3.heap.size, 2, none⟩ = some (.int .i64 (x.1.a : Int)) := hSw
        go_simp
      simp only [Act.put, List.setIfInBounds_toArray, List.set_cons_zero, List.set_cons_succ]
      refine wpAnyS_take (i := 2) (oi := ⟨some 19, _, _, _, _, _⟩) (v := .int .i64 (x.2 : Int)) rfl (by kernel_rfl) (by kernel_rfl) (by kernel_rfl) (by kernel_rfl) (fun _ _ _ h => Norm.panic h) (Or.inl ⟨by rfl, ?_⟩) (by assumption) ?_
      · intro w' hSw
        have hS1 : w'.cell? ⟨W3.heap.size, 2, none⟩ = some (.int .i64 (x.1.a : Int)) := hSw
        go_simp
      simp only [Act.put, List.setIfInBounds_toArray, List.set_cons_zero, List.set_cons_succ]
      refine wpAnyS_one (i := 3) (oi := ⟨none, _, _, _, _, _⟩) rfl (by kernel_rfl) (by rfl) (fun K hK => ?_)
      go_simp
      refine hK _ _ (fun _ => ?_) ?_
      · show World.cell? _ _ = _
        rw [World.cell?_drew, World.cell?_setCell_other _ _ _ _ (fun h => by injection h with _ h2 _; exact absurd h2 (by decide))]; exact e2
      clear hK K
      simp only [Act.put, List.setIfInBounds_toArray, List.set_cons_zero, List.set_cons_succ]
      refine wpAnyS_one (i := 4) (oi := ⟨none, _, _, _, _, _⟩) rfl (by kernel_rfl) (by rfl) (fun K hK => ?_)
      go_simp
      refine hK _ _ (fun _ => ?_) ?_
      · show World.cell? _ _ = _
        rw [World.cell?_drew, World.cell?_setCell_other _ _ _ _ (fun h => by injection h with _ h2 _; exact absurd h2 (by decide)), World.cell?_setCell_other _ _ _ _ (fun h => by injection h with _ h2 _; exact absurd h2 (by decide))]; exact e2
      clear hK K
      simp only [Act.put, List.setIfInBounds_toArray, List.set_cons_zero, List.set_cons_succ]
      refine wpAnyS_one (i := 5) (oi := ⟨none, _, _, _, _, _⟩) rfl (by kernel_rfl) (by rfl) (fun K hK => ?_)
      go_simp
      refine hK _ _ (fun _ => ?_) ?_
      · show World.cell? _ _ = _
        rw [World.cell?_drew, World.cell?_setCell_other _ _ _ _ (fun h => by injection h with _ h2 _; exact absurd h2 (by decide)), World.cell?_setCell_other _ _ _ _ (fun h => by injection h with _ h2 _; exact absurd h2 (by decide)), World.cell?_setCell_other _ _ _ _ (fun h => by injection h with _ h2 _; exact absurd h2 (by decide))]; exact e2
      clear hK K
      simp only [Act.put, List.setIfInBounds_toArray, List.set_cons_zero, List.set_cons_succ]
      refine wpAnyS_done (by kernel_rfl) ?_
      refine Norm.normal ?_
      obtain ⟨g1, g2⟩ := lx_end HJ.out hmem hxe
      have G1 := Lib.hid g1
      have G2 := Lib.hid g2
      clear g1 g2
      gi_wp2_with fail
      exact ⟨O2, Sub.refl _ _, G1.out, G2.out⟩
  case stop =>
    rintro c O2 W2 hx hs2 nD hg2 hK
    obtain rfl := hx.c
    obtain ⟨y, hy, hy0, c0, c1, c2⟩ := hx.y
    have hF := (LX.fram (m := 0) (.ret)).taken (k := 0) hx (D := W1.heap.size) (by omega) nD (.deferred none)
    have hG := ((Grow.of_below (O := fun b => w.heap.size ≤ b ∧ b ≤ w.heap.size + 3) hb1).trans hg2 (Sub.refl _ _)).taken (D := W1.heap.size) (by omega) (.deferred none)
    have hM := Lib.hid (errs_mem hy hy0)
    have HF := Lib.hid hF
    have HG := Lib.hid hG
    have HK := Lib.hid hK
    have HY := Lib.hid (show y ∈ ysL s ∧ y.2 ≠ 0 from ⟨hy, hy0⟩)
    have C0 := Lib.hid (show (W2.putObj W1.heap.size (.deferred none)).cell? ⟨w.heap.size, 0, none⟩ = some (.slice none 0 0) from (World.cell?_of_block (a := ⟨w.heap.size, 0, none⟩) (World.putObj_heap_other (by simp only; omega))).trans c0)
    have C1 := Lib.hid (show (W2.putObj W1.heap.size (.deferred none)).cell? ⟨w.heap.size + 1, 0, none⟩ = some (.int .i64 (y.1.a : Int)) from (World.cell?_of_block (a := ⟨w.heap.size + 1, 0, none⟩) (World.putObj_heap_other (by simp only; omega))).trans c1)
    have C2 := Lib.hid (show (W2.putObj W1.heap.size (.deferred none)).cell? ⟨w.heap.size + 2, 0, none⟩ = some (.int .i64 (y.2 : Int)) from (World.cell?_of_block (a := ⟨w.heap.size + 2, 0, none⟩) (World.putObj_heap_other (by simp only; omega))).trans c2)
    clear hF hG hK hy hy0 c0 c1 c2 hx hg2 hB hJ0 hb1 hs2
    gi_wp2
    refine ⟨by simp, .inl ⟨_, _, rfl, run_takeDeferred HK.out, ?_⟩⟩
    exact ⟨_, res_lex rfl rfl rfl C0.out C1.out C2.out, HG.out.below (Nat.le_refl _) (fun b hb => hb.1), .inl ⟨hM.out, y, HY.out.1, HY.out.2, rfl⟩⟩
  case done =>
    rintro O2 W2 hj hs2 nD hg2 hK
    have hf := hj.f
    have f0 := hf w.heap.size (by omega) (by omega)
    have f1 := hf (w.heap.size + 1) (by omega) (by omega)
    have f2 := hf (w.heap.size + 2) (by omega) (by omega)
    have r0 := hj.r0
    have r1 := hj.r1
    have r2 := hj.r2
    obtain ⟨⟨v, ho, hc, hown⟩, herr, _, _, _, _, hlt⟩ := hj
    rw [List.take_length] at hown herr
    have hlD : W1.heap.size < W2.heap.size := lt_of_heap hK
    have hlen : (tksL s).length = (ysL s).length := by unfold tksL; simp
    have HG := Lib.hid ((Grow.of_below (O := fun b => w.heap.size ≤ b ∧ b ≤ w.heap.size + 3) hb1).trans hg2 (Sub.refl _ _))
    have hpos : 0 < (ysL s).length := by
      obtain ⟨zs, y, h1, _⟩ := toks_ends KK 0 s.data.toList
      show 0 < (toks KK 0 s.data.toList).length
      rw [h1]; simp
    rcases own_cells hown with ⟨_, h0, _⟩ | ⟨g, cap, rfl, hob, hg1, hg3, hcells⟩
    · omega
    · have hgD : g ≠ W1.heap.size := fun e => nD ((ho _).2 (.inr (by rw [← e]; exact hob)))
      have HC := Lib.hid (show ∀ j u, (flat (tksL s))[j]? = some u → W2.cell? ⟨g, j, none⟩ = some u from hcells)
      have HE := Lib.hid herr
      have HK := Lib.hid hK
      have HL := Lib.hid hlen
      clear hown herr ho hg2 hs2 nD hcells hK hf hB hJ0 hlen hob
      gi_wp2
      obtain ⟨F, hF⟩ : ∃ F, ((W2.setCell ⟨w.heap.size, 0, none⟩ (.slice (some ⟨g, 0, none⟩) (ysL s).length cap)).setCell ⟨w.heap.size + 1, 0, none⟩ (.int .i64 0)).setCell ⟨w.heap.size + 1 + 1, 0, none⟩ (.int .i64 0) = F := ⟨_, rfl⟩
      rw [hF]
      have hblk : ∀ b, w.heap.size + 2 < b → F.heap[b]? = W2.heap[b]? := fun b hb => by
        rw [← hF, Below.heap_setCell _ _ _ _ (by show b ≠ w.heap.size + 1 + 1; omega), Below.heap_setCell _ _ _ _ (by show b ≠ w.heap.size + 1; omega), Below.heap_setCell _ _ _ _ (by show b ≠ w.heap.size; omega)]
      have c0 : F.cell? ⟨w.heap.size, 0, none⟩ = some (.slice (some ⟨g, 0, none⟩) (ysL s).length cap) := by
        rw [← hF, World.cell?_setCell_other _ _ _ _ (fun e => by injection e with e1 _ _; omega), World.cell?_setCell_other _ _ _ _ (fun e => by injection e with e1 _ _; omega)]
        exact World.cell?_setCell_same _ _ _ r0
      have c1 : F.cell? ⟨w.heap.size + 1, 0, none⟩ = some (.int .i64 0) := by
        rw [← hF, World.cell?_setCell_other _ _ _ _ (fun e => by injection e with e1 _ _; omega)]
        exact World.cell?_setCell_same _ _ _ (by rw [World.cell?_setCell_other _ _ _ _ (fun e => by injection e with e1 _ _; omega)]; exact r1)
      have c2 : F.cell? ⟨w.heap.size + 1 + 1, 0, none⟩ = some (.int .i64 0) := by
        rw [← hF]
        exact World.cell?_setCell_same _ _ _ (by rw [World.cell?_setCell_other _ _ _ _ (fun e => by injection e with e1 _ _; omega), World.cell?_setCell_other _ _ _ _ (fun e => by injection e with e1 _ _; omega)]; exact r2)
      have hsz : F.heap.size = W2.heap.size := by rw [← hF]; simp
      have hGF : Below w.heap.size w F := by
        rw [← hF]
        exact (((HG.out.below (Nat.le_refl _) fun b hb => hb.1).setCell (Nat.le_refl _) _).setCell (by show w.heap.size ≤ w.heap.size + 1; omega) _).setCell (by show w.heap.size ≤ w.heap.size + 1 + 1; omega) _
      have hPO : ∀ b, b ≠ W1.heap.size → (F.putObj W1.heap.size (.deferred none)).heap[b]? = F.heap[b]? := fun b hb => World.putObj_heap_other hb
      refine ⟨by simp, .inl ⟨_, _, rfl, run_takeDeferred ((hblk _ (by omega)).trans HK.out), ?_⟩⟩
      refine ⟨_, res_lex rfl rfl rfl ((World.cell?_of_block (a := ⟨w.heap.size, 0, none⟩) (hPO _ (by simp only; omega))).trans c0) ((World.cell?_of_block (a := ⟨w.heap.size + 1, 0, none⟩) (hPO _ (by simp only; omega))).trans c1)
        ((World.cell?_of_block (a := ⟨w.heap.size + 1 + 1, 0, none⟩) (hPO _ (by simp only; omega))).trans c2), ?_, .inr ⟨HE.out, g, cap, by rw [HL.out], by omega, ?_, ?_⟩⟩
      · exact ⟨hGF.os, hGF.tape, hGF.output, by simp [World.putObj]; omega, fun k hk => (hPO k (by omega)).trans (hGF.block k hk)⟩
      · simp [World.putObj]; omega
      · intro j u hj
        have hb : (F.putObj W1.heap.size (.deferred none)).heap[g]? = W2.heap[g]? := (hPO g hgD).trans (hblk g (by omega))
        exact (World.cell?_of_block (a := ⟨g, j, none⟩) hb).trans (HC.out j u hj)
theorem lex_c (s : ByteArray) (w : World) (hs : s.size ≤ 16384) : Calls Tryd.prog 30 #[.string s] w (LexQ s w) := callsIn_wide.1 (lex_any s w hs)
end Go.Proofs.YtkeckecdhcknhaaDoor.Lx

/-
  What Lex gives, with what fits into the row it gives.
-/
namespace Go.Proofs.YtkeckecdhcknhaaDoor.Lx
open Go Go.RowKit Go.Shelf Go.Proofs.YtkeckecdhcknhaaDoor.Fm
set_option linter.unusedVariables false
set_option linter.unusedSimpArgs false
attribute [local go_sem] Oper.semAt_some
def LexQC (s : ByteArray) (w : World) (e : Ending) (w' : World) : Prop := Below w.heap.size w w' ∧
  ((errs (ysL s) = true ∧ ∃ y, y ∈ ysL s ∧ y.2 ≠ 0 ∧ e = .returned (.tuple #[.slice none 0 0, .int .i64 (y.1.a : Int), .int .i64 (y.2 : Int)])) ∨
   (errs (ysL s) = false ∧ ∃ g cap, e = .returned (.tuple #[.slice (some ⟨g, 0, none⟩) (tksL s).length cap, .int .i64 0, .int .i64 0]) ∧ (tksL s).length ≤ cap ∧ w.heap.size ≤ g ∧ g < w'.heap.size ∧ ∀ j u, (flat (tksL s))[j]? = some u → w'.cell? ⟨g, j, none⟩ = some u))
theorem own_cellsC {w : World} {base n size : Nat} {e : TypeId} {v : Value} {xs : List Value} (h : w.ownsRow base e size v n xs) :
    (v = .slice none 0 0 ∧ n = 0 ∧ xs = []) ∨ ∃ g cap, v = .slice (some ⟨g, 0, none⟩) n cap ∧ v.ownBlock = some g ∧ base ≤ g ∧ g < w.heap.size ∧ n ≤ cap ∧ ∀ j u, xs[j]? = some u → w.cell? ⟨g, j, none⟩ = some u := by
  have h2 := h.2
  rcases own_cells h with h0 | ⟨g, cap, rfl, h3, h4, h5, h6⟩
  · exact .inl h0
  · refine .inr ⟨g, cap, rfl, h3, h4, h5, ?_, h6⟩
    rcases h2 with ⟨h2, _⟩ | ⟨g', cap', cur, h7, _, _, h8, _⟩
    · simp at h2
    · injection h7 with _ _ h9
      rw [h9]; exact h8
set_option maxHeartbeats 1000000 in
set_option maxRecDepth 20000 in
theorem lex_any_cap (s : ByteArray) (w : World) (hs : s.size ≤ 16384) : CallsIn Fence.wide 0 Tryd.prog 30 #[.string s] w (LexQC s w) := by
  have htk := Lib.hid (fun w => (callsIn_wide.2 (tokens_c s w) : CallsIn Fence.wide 0 Tryd.prog _ _ _ _))
  refine callsIn_of_wp_marks Tryd.func30 rfl trivial ?_ rfl
  simp only [Tryd.ntmps30, List.size_toArray, List.length_cons, List.length_nil, Nat.reduceAdd, Nat.reduceSub, Array.replicate_succ, Array.replicate_zero, List.push_toArray, List.append_toArray, List.nil_append, List.cons_append]
  have d0 : decide (16384 < (s.size : Int)) = false := decide_eq_false (by omega)
  have d1 : decide (16384 < s.size) = false := decide_eq_false (by omega)
  gi_wp2_with fail
  refine ⟨trivial, rfl, (htk.out _).mono ?_⟩
  clear htk d0 d1
  rintro e W1 ⟨rfl, hw1⟩
  have hsz : (((((w.alloc (.cells #[.slice none 0 0] 61)).alloc (.cells #[.int .i64 0] 3)).alloc (.cells #[.int .i64 0] 30)).alloc (.cells #[.slice none 0 0] 61)).heap.size) = w.heap.size + 4 := by simp
  rw [hsz]
  have hb1 : Below w.heap.size w W1 := by
    rw [hw1]
    exact (((((Below.refl _ w).alloc (Nat.le_refl _) _).alloc (by simp) _).alloc (by simp; omega) _).alloc (by simp; omega) _).alloc (by simp; omega) _
  have hz1 : W1.heap.size ≤ w.heap.size + 5 ∧ w.heap.size + 5 ≤ W1.heap.size := by rw [hw1]; simp
  have hJ0 := (lex_start s w).1
  have hB := (lex_start s w).2
  rw [← hw1] at hJ0 hB
  clear hsz hw1
  gi_wp2_with fail
  refine range_law (gf := 59) (lb := #[.pointer (some ⟨w.heap.size + 4, 0, none⟩)]) rfl (enters_of Tryd.func59 (by kernel_rfl) rfl) (tokens_iter s (w.heap.size + 4) (by omega))
    (by rintro W x args rfl; rfl) (LJ s w.heap.size) (LX s w.heap.size) (fun b => w.heap.size ≤ b ∧ b ≤ w.heap.size + 3) LJ.fram LX.fram hJ0
    (fun O' W' hb' hs' => ⟨(hb'.cell (p := ⟨w.heap.size + 4, 0, none⟩) (by simp only; omega)).trans hB, by have := hb'.size; omega, fun h => (hs' _ h).elim (fun h => by omega) fun h => by omega⟩)
    (fun k x args W2 a1 W3 => W3 = W2.alloc (.cells #[.int .u8 (x.1.k : Int), .string (bs x.1.t), .int .i64 (x.1.a : Int)] 89) ∧ ∃ u8 u9 u10 u11 u12 u13 u14, a1 = { tmps := #[.string s, undef, .pointer (some ⟨w.heap.size, 0, none⟩), .pointer (some ⟨w.heap.size + 1, 0, none⟩), .pointer (some ⟨w.heap.size + 2, 0, none⟩), .pointer (some ⟨w.heap.size + 3, 0, none⟩), .pointer (some ⟨W2.heap.size, 0, none⟩), .int .i64 (x.2 : Int), u8, u9, u10, u11, u12, u13, u14, undef, undef, undef, undef, undef, undef, undef, undef, undef, undef], defers := [] }) ?assign ?body ?done ?stop
  case assign =>
    rintro l2 k x O2 W2 args hj hx rfl
    clear hj
    unfold tokA
    gi_wp2
    exact ⟨(Below.refl _ _).alloc (Nat.le_refl _) _, trivial, _, _, _, _, _, _, _, rfl⟩
  case body =>
    rintro l2 k x O2 W3 args _ _ W4 ⟨rfl, u8, u9, u10, u11, u12, u13, u14, rfl⟩ hj hx hrep hbb hbl hz3 hne hl2 hl3 hol
    rw [World.size_alloc] at hz3
    have hcc : ∀ q, W4.cell? ⟨W3.heap.size, q, none⟩ = (#[.int .u8 (x.1.k : Int), .string (bs x.1.t), .int .i64 (x.1.a : Int)] : Array Value)[q]? := fun q => by
      rw [World.cell?_of_block (w := W3.alloc (.cells #[.int .u8 (x.1.k : Int), .string (bs x.1.t), .int .i64 (x.1.a : Int)] 89)) (hne _ (by show W3.heap.size ≠ l2; omega)), World.cell?_alloc_at _ _ _ _ rfl]
    have e0 := hcc 0
    have e1 := hcc 1
    have e2 := hcc 2
    simp only [List.getElem?_toArray, List.getElem?_cons_zero, List.getElem?_cons_succ] at e0 e1 e2
    have HJ := Lib.hid hj
    have HX := Lib.hid hx
    have hmem : x ∈ ysL s := List.mem_of_getElem? hx
    have HL := LJ.fram (m := 0).lt hj
    have hf := hj.f
    have f0 := hf w.heap.size (by omega) (by omega)
    have f1 := hf (w.heap.size + 1) (by omega) (by omega)
    have f2 := hf (w.heap.size + 2) (by omega) (by omega)
    have f3 := hf (w.heap.size + 3) (by omega) (by omega)
    have r0 := hj.r0
    have r1 := hj.r1
    have r2 := hj.r2
    have hlt := hj.lt
    have hz4 : W4.heap.size ≤ W3.heap.size + 1 ∧ W3.heap.size + 1 ≤ W4.heap.size := by omega
    clear hcc hne hbl hbb hrep hz3 hf hx
    by_cases hxe : x.2 = 0
    · have hxe' : (x.2 : Int) = 0 := by omega
      have hxt : x = (x.1, 0) := by rw [← hxe]
      obtain ⟨⟨v, ho, hc, hown⟩, herr, _, _, _, _, _⟩ := hj
      obtain ⟨hk, hxk⟩ := List.getElem?_eq_some_iff.1 HX.out
      have hkl : k < 16385 := by have := (toks_len KK 0 s.data.toList).2; have h2 : s.data.toList.length = s.size := by simp
                                 have h3 : k < (toks KK 0 s.data.toList).length := hk
                                 omega
      have hstep : flat (((ysL s).take (k + 1)).map (·.1)) = flat (((ysL s).take k).map (·.1)) ++ encTk x.1 := by
        rw [List.take_succ_eq_append_getElem hk, List.map_append, hxk]; simp [flat]
      have herr2 : errs ((ysL s).take (k + 1)) = false := by
        rw [List.take_succ_eq_append_getElem hk, hxk]
        unfold errs at herr ⊢
        rw [List.any_append, herr]; simp [hxe]
      have HST := Lib.hid hstep
      have HER := Lib.hid herr2
      have HO := Lib.hid ho
      have HW := Lib.hid hown
      obtain ⟨d, hd⟩ : ∃ d, flat (((ysL s).take k).map (·.1)) = d := ⟨_, rfl⟩
      obtain ⟨i0, hi, hz0, hz1, hz2⟩ := info_parts infoK
      have hdl : d.length = k * 3 := by rw [← hd, flat_len, List.length_map, List.length_take]; omega
      have HD := Lib.hid hd
      clear hstep herr2 herr ho hown hd hxk hk hxt
      gi_wp2_with ((gi_at_builtin; refine wpListIn_append_own_at _ rfl _ _ 61 rfl (w.heap.size + 3 + 1) 89 i0 (.agg #[.int .u8 0, .string ByteArray.empty, .int .i64 0]) 3 32 Tryd.underlying61 hi hz0 hz1 hz2 rfl (by decide) v k d rfl (own_below (HD.out ▸ HW.out) ((Below.refl _ _).alloc (Nat.le_refl _) _)) ⟨W4.heap.size, 0, none⟩ 1 1 [.int .u8 (x.1.k : Int), .string (bs x.1.t), .int .i64 (x.1.a : Int)] rfl rfl (new_three _ _ _ _ _) (by simp [Value.oneCell']) (by unfold maxLen; omega) (by omega) (by simp; omega) ?_))
      intro v' w' hown' hgrow hnil hat
      obtain ⟨a9, k9, rfl⟩ : ∃ a c, v' = .slice a (k + 1) c := by
        rcases own_cells hown' with ⟨_, h0, _⟩ | ⟨g, cap, h0, _⟩
        · omega
        · exact ⟨_, _, h0⟩
      rw [← HD.out] at hown'
      obtain ⟨q1, q2, O', h1', h2', h3'⟩ := LJ.step HJ.out HO.out HW.out hc HST.out HER.out hown' hgrow hat
      have H1 := Lib.hid h1'
      have H2 := Lib.hid h2'
      have H3 := Lib.hid h3'
      clear h1' h2' h3' hown' hgrow hnil hat hc f3
      gi_wp2
      exact ⟨O', H1.out, H2.out, H3.out⟩
    · have de : ((x.2 : Int) != 0) = true := by simp; omega
      have de2 : ((x.2 : Int) == 0) = false := by simp; omega
      have HO : ∀ b, w.heap.size ≤ b → b ≤ w.heap.size + 2 → O2 b := by
        obtain ⟨v, ho, _, _⟩ := hj.v
        exact fun b h1 h2 => (ho b).2 (.inl ⟨h1, by omega⟩)
      gi_wp2_with fail
      refine wpIn_region_held (fun w' => w'.cell? ⟨W3.heap.size, 2, none⟩ = some (.int .i64 (x.1.a : Int))) [] 6 #[false, false, false, false, false, false] (by kernel_rfl) (by kernel_rfl) (by kernel_rfl) (by kernel_rfl) (by rw [World.cell?_drew]; exact e2) (fun hHeld => ?_)
      refine wpAnyS_take (i := 0) (oi := ⟨some 17, _, _, _, _, _⟩) (v := .pointer (some ⟨W3.heap.size, 2, none⟩)) rfl (by kernel_rfl) (by kernel_rfl) (by kernel_rfl) (by kernel_rfl) (fun _ _ _ h => Norm.panic h) (Or.inl ⟨by rfl, ?_⟩) (by assumption) ?_
      · intro w' hSw
        have hS1 : w'.cell? ⟨W3.heap.size, 2, none⟩ = some (.int .i64 (x.1.a : Int)) := hSw
        go_simp
      simp only [Act.put, List.setIfInBounds_toArray, List.set_cons_zero, List.set_cons_succ]
      refine wpAnyS_take (i := 1) (oi := ⟨some 18, _, _, _, _, _⟩) (v := .int .i64 (x.1.a : Int)) rfl (by kernel_rfl) (by kernel_rfl) (by kernel_rfl) (by kernel_rfl) (fun _ _ _ h => Norm.panic h) (Or.inl ⟨by rfl, ?_⟩) (by assumption) ?_
      · intro w' hSw
        have hS1 : w'.cell? ⟨W3.heap.size, 2, none⟩ = some (.int .i64 (x.1.a : Int)) := hSw
        go_simp
      simp only [Act.put, List.setIfInBounds_toArray, List.set_cons_zero, List.set_cons_succ]
      refine wpAnyS_take (i := 2) (oi := ⟨some 19, _, _, _, _, _⟩) (v := .int .i64 (x.2 : Int)) rfl (by kernel_rfl) (by kernel_rfl) (by kernel_rfl) (by kernel_rfl) (fun _ _ _ h => Norm.panic h) (Or.inl ⟨by rfl, ?_⟩) (by assumption) ?_
      · intro w' hSw
        have hS1 : w'.cell? ⟨W3.heap.size, 2, none⟩ = some (.int .i64 (x.1.a : Int)) := hSw
        go_simp
      simp only [Act.put, List.setIfInBounds_toArray, List.set_cons_zero, List.set_cons_succ]
      refine wpAnyS_one (i := 3) (oi := ⟨none, _, _, _, _, _⟩) rfl (by kernel_rfl) (by rfl) (fun K hK => ?_)
      go_simp
      refine hK _ _ (fun _ => ?_) ?_
      · show World.cell? _ _ = _
        rw [World.cell?_drew, World.cell?_setCell_other _ _ _ _ (fun h => by injection h with _ h2 _; exact absurd h2 (by decide))]; exact e2
      clear hK K
      simp only [Act.put, List.setIfInBounds_toArray, List.set_cons_zero, List.set_cons_succ]
      refine wpAnyS_one (i := 4) (oi := ⟨none, _, _, _, _, _⟩) rfl (by kernel_rfl) (by rfl) (fun K hK => ?_)
      go_simp
      refine hK _ _ (fun _ => ?_) ?_
      · show World.cell? _ _ = _
        rw [World.cell?_drew, World.cell?_setCell_other _ _ _ _ (fun h => by injection h with _ h2 _; exact absurd h2 (by decide)), World.cell?_setCell_other _ _ _ _ (fun h => by injection h with _ h2 _; exact absurd h2 (by decide))]; exact e2
      clear hK K
      simp only [Act.put, List.setIfInBounds_toArray, List.set_cons_zero, List.set_cons_succ]
      refine wpAnyS_one (i := 5) (oi := ⟨none, _, _, _, _, _⟩) rfl (by kernel_rfl) (by rfl) (fun K hK => ?_)
      go_simp
      refine hK _ _ (fun _ => ?_) ?_
      · show World.cell? _ _ = _
        rw [World.cell?_drew, World.cell?_setCell_other _ _ _ _ (fun h => by injection h with _ h2 _; exact absurd h2 (by decide)), World.cell?_setCell_other _ _ _ _ (fun h => by injection h with _ h2 _; exact absurd h2 (by decide)), World.cell?_setCell_other _ _ _ _ (fun h => by injection h with _ h2 _; exact absurd h2 (by decide))]; exact e2
      clear hK K
      simp only [Act.put, List.setIfInBounds_toArray, List.set_cons_zero, List.set_cons_succ]
      refine wpAnyS_done (by kernel_rfl) ?_
      refine Norm.normal ?_
      obtain ⟨g1, g2⟩ := lx_end HJ.out hmem hxe
      have G1 := Lib.hid g1
      have G2 := Lib.hid g2
      clear g1 g2
      gi_wp2_with fail
      exact ⟨O2, Sub.refl _ _, G1.out, G2.out⟩
  case stop =>
    rintro c O2 W2 hx hs2 nD hg2 hK
    obtain rfl := hx.c
    obtain ⟨y, hy, hy0, c0, c1, c2⟩ := hx.y
    have hF := (LX.fram (m := 0) (.ret)).taken (k := 0) hx (D := W1.heap.size) (by omega) nD (.deferred none)
    have hG := ((Grow.of_below (O := fun b => w.heap.size ≤ b ∧ b ≤ w.heap.size + 3) hb1).trans hg2 (Sub.refl _ _)).taken (D := W1.heap.size) (by omega) (.deferred none)
    have hM := Lib.hid (errs_mem hy hy0)
    have HF := Lib.hid hF
    have HG := Lib.hid hG
    have HK := Lib.hid hK
    have HY := Lib.hid (show y ∈ ysL s ∧ y.2 ≠ 0 from ⟨hy, hy0⟩)
    have C0 := Lib.hid (show (W2.putObj W1.heap.size (.deferred none)).cell? ⟨w.heap.size, 0, none⟩ = some (.slice none 0 0) from (World.cell?_of_block (a := ⟨w.heap.size, 0, none⟩) (World.putObj_heap_other (by simp only; omega))).trans c0)
    have C1 := Lib.hid (show (W2.putObj W1.heap.size (.deferred none)).cell? ⟨w.heap.size + 1, 0, none⟩ = some (.int .i64 (y.1.a : Int)) from (World.cell?_of_block (a := ⟨w.heap.size + 1, 0, none⟩) (World.putObj_heap_other (by simp only; omega))).trans c1)
    have C2 := Lib.hid (show (W2.putObj W1.heap.size (.deferred none)).cell? ⟨w.heap.size + 2, 0, none⟩ = some (.int .i64 (y.2 : Int)) from (World.cell?_of_block (a := ⟨w.heap.size + 2, 0, none⟩) (World.putObj_heap_other (by simp only; omega))).trans c2)
    clear hF hG hK hy hy0 c0 c1 c2 hx hg2 hB hJ0 hb1 hs2
    gi_wp2
    refine ⟨by simp, .inl ⟨_, _, rfl, run_takeDeferred HK.out, ?_⟩⟩
    exact ⟨_, res_lex rfl rfl rfl C0.out C1.out C2.out, HG.out.below (Nat.le_refl _) (fun b hb => hb.1), .inl ⟨hM.out, y, HY.out.1, HY.out.2, rfl⟩⟩
  case done =>
    rintro O2 W2 hj hs2 nD hg2 hK
    have hf := hj.f
    have f0 := hf w.heap.size (by omega) (by omega)
    have f1 := hf (w.heap.size + 1) (by omega) (by omega)
    have f2 := hf (w.heap.size + 2) (by omega) (by omega)
    have r0 := hj.r0
    have r1 := hj.r1
    have r2 := hj.r2
    obtain ⟨⟨v, ho, hc, hown⟩, herr, _, _, _, _, hlt⟩ := hj
    rw [List.take_length] at hown herr
    have hlD : W1.heap.size < W2.heap.size := lt_of_heap hK
    have hlen : (tksL s).length = (ysL s).length := by unfold tksL; simp
    have HG := Lib.hid ((Grow.of_below (O := fun b => w.heap.size ≤ b ∧ b ≤ w.heap.size + 3) hb1).trans hg2 (Sub.refl _ _))
    have hpos : 0 < (ysL s).length := by
      obtain ⟨zs, y, h1, _⟩ := toks_ends KK 0 s.data.toList
      show 0 < (toks KK 0 s.data.toList).length
      rw [h1]; simp
    rcases own_cellsC hown with ⟨_, h0, _⟩ | ⟨g, cap, rfl, hob, hg1, hg3, hcap, hcells⟩
    · omega
    · have hgD : g ≠ W1.heap.size := fun e => nD ((ho _).2 (.inr (by rw [← e]; exact hob)))
      have HC := Lib.hid (show ∀ j u, (flat (tksL s))[j]? = some u → W2.cell? ⟨g, j, none⟩ = some u from hcells)
      have HE := Lib.hid herr
      have HCP := Lib.hid (show (ysL s).length ≤ cap from hcap)
      have HK := Lib.hid hK
      have HL := Lib.hid hlen
      clear hcap hown herr ho hg2 hs2 nD hcells hK hf hB hJ0 hlen hob
      gi_wp2
      obtain ⟨F, hF⟩ : ∃ F, ((W2.setCell ⟨w.heap.size, 0, none⟩ (.slice (some ⟨g, 0, none⟩) (ysL s).length cap)).setCell ⟨w.heap.size + 1, 0, none⟩ (.int .i64 0)).setCell ⟨w.heap.size + 1 + 1, 0, none⟩ (.int .i64 0) = F := ⟨_, rfl⟩
      rw [hF]
      have hblk : ∀ b, w.heap.size + 2 < b → F.heap[b]? = W2.heap[b]? := fun b hb => by
        rw [← hF, Below.heap_setCell _ _ _ _ (by show b ≠ w.heap.size + 1 + 1; omega), Below.heap_setCell _ _ _ _ (by show b ≠ w.heap.size + 1; omega), Below.heap_setCell _ _ _ _ (by show b ≠ w.heap.size; omega)]
      have c0 : F.cell? ⟨w.heap.size, 0, none⟩ = some (.slice (some ⟨g, 0, none⟩) (ysL s).length cap) := by
        rw [← hF, World.cell?_setCell_other _ _ _ _ (fun e => by injection e with e1 _ _; omega), World.cell?_setCell_other _ _ _ _ (fun e => by injection e with e1 _ _; omega)]
        exact World.cell?_setCell_same _ _ _ r0
      have c1 : F.cell? ⟨w.heap.size + 1, 0, none⟩ = some (.int .i64 0) := by
        rw [← hF, World.cell?_setCell_other _ _ _ _ (fun e => by injection e with e1 _ _; omega)]
        exact World.cell?_setCell_same _ _ _ (by rw [World.cell?_setCell_other _ _ _ _ (fun e => by injection e with e1 _ _; omega)]; exact r1)
      have c2 : F.cell? ⟨w.heap.size + 1 + 1, 0, none⟩ = some (.int .i64 0) := by
        rw [← hF]
        exact World.cell?_setCell_same _ _ _ (by rw [World.cell?_setCell_other _ _ _ _ (fun e => by injection e with e1 _ _; omega), World.cell?_setCell_other _ _ _ _ (fun e => by injection e with e1 _ _; omega)]; exact r2)
      have hsz : F.heap.size = W2.heap.size := by rw [← hF]; simp
      have hGF : Below w.heap.size w F := by
        rw [← hF]
        exact (((HG.out.below (Nat.le_refl _) fun b hb => hb.1).setCell (Nat.le_refl _) _).setCell (by show w.heap.size ≤ w.heap.size + 1; omega) _).setCell (by show w.heap.size ≤ w.heap.size + 1 + 1; omega) _
      have hPO : ∀ b, b ≠ W1.heap.size → (F.putObj W1.heap.size (.deferred none)).heap[b]? = F.heap[b]? := fun b hb => World.putObj_heap_other hb
      refine ⟨by simp, .inl ⟨_, _, rfl, run_takeDeferred ((hblk _ (by omega)).trans HK.out), ?_⟩⟩
      refine ⟨_, res_lex rfl rfl rfl ((World.cell?_of_block (a := ⟨w.heap.size, 0, none⟩) (hPO _ (by simp only; omega))).trans c0) ((World.cell?_of_block (a := ⟨w.heap.size + 1, 0, none⟩) (hPO _ (by simp only; omega))).trans c1)
        ((World.cell?_of_block (a := ⟨w.heap.size + 1 + 1, 0, none⟩) (hPO _ (by simp only; omega))).trans c2), ?_, .inr ⟨HE.out, g, cap, by rw [HL.out], by rw [HL.out]; exact HCP.out, by omega, ?_, ?_⟩⟩
      · exact ⟨hGF.os, hGF.tape, hGF.output, by simp [World.putObj]; omega, fun k hk => (hPO k (by omega)).trans (hGF.block k hk)⟩
      · simp [World.putObj]; omega
      · intro j u hj
        have hb : (F.putObj W1.heap.size (.deferred none)).heap[g]? = W2.heap[g]? := (hPO g hgD).trans (hblk g (by omega))
        exact (World.cell?_of_block (a := ⟨g, j, none⟩) hb).trans (HC.out j u hj)
end Go.Proofs.YtkeckecdhcknhaaDoor.Lx

/-
  What Lex gives to the parser.
-/
namespace Go.Proofs.YtkeckecdhcknhaaDoor.Ps
open Go Go.RowKit Go.Shelf Go.Proofs.YtkeckecdhcknhaaDoor.Fm Go.Proofs.YtkeckecdhcknhaaDoor.Lx
set_option linter.unusedVariables false
set_option linter.unusedSimpArgs false
def tgL (s : ByteArray) : List Tg := (tksL s).map toG
theorem flatG_toG' (ts : List Tk) : flatG (ts.map toG) = flat ts := by
  unfold flatG flat; rw [List.flatMap_map]; rfl
/-- The error of a text that Lex does not read: its place, its number. -/
def lexErr (s : ByteArray) : Option (Int × Int) := if errs (ysL s) then (ysL s).getLast?.map fun z => ((z.1.a : Int), (z.2 : Int)) else none
theorem last_err' (s : ByteArray) (y z : Tk × Nat) (hy : y ∈ ysL s) (h0 : y.2 ≠ 0) (hz : (ysL s).getLast? = some z) : y = z := by
  obtain ⟨zs, x, e1, e2, _⟩ := toks_ends KK 0 s.data.toList
  have e1 : ysL s = zs ++ [x] := e1
  rw [e1] at hy hz
  rw [List.getLast?_concat] at hz
  rcases List.mem_append.1 hy with h | h
  · exact absurd (e2 y h).1 h0
  · rw [List.mem_singleton.1 h]; exact Option.some.inj hz
/-- Lex: an error, or the tokens. -/
def LxP (s : ByteArray) (w : World) (e : Ending) (w' : World) : Prop := match lexErr s with
  | some (a, n) => e = .returned (.tuple #[.slice none 0 0, .int .i64 a, .int .i64 n]) ∧ Below w.heap.size w w'
  | none => ∃ g cap, e = .returned (.tuple #[.slice (some ⟨g, 0, none⟩) (tgL s).length cap, .int .i64 0, .int .i64 0]) ∧ Below w.heap.size w w' ∧ (tgL s).length ≤ cap ∧ w.heap.size ≤ g ∧ g < w'.heap.size ∧ ∀ j u, (flatG (tgL s))[j]? = some u → w'.cell? ⟨g, j, none⟩ = some u
theorem lexp_c (s : ByteArray) (w : World) (hs : s.size ≤ 16384) : Calls Tryd.prog 30 #[.string s] w (LxP s w) := by
  refine (callsIn_wide.1 (lex_any_cap s w hs)).mono ?_
  rintro e w' ⟨hb, ⟨h0, y, h1, h2, rfl⟩ | ⟨h0, g, cap, rfl, h1, h2, h3, h4⟩⟩
  · unfold LxP lexErr
    rw [h0]
    obtain ⟨zs, x, e1, _, _⟩ := toks_ends KK 0 s.data.toList
    have e1 : ysL s = zs ++ [x] := e1
    have hl : (ysL s).getLast? = some x := by rw [e1, List.getLast?_concat]
    rw [hl]
    rw [last_err' s y x h1 h2 hl]
    exact ⟨rfl, hb⟩
  · unfold LxP lexErr
    rw [h0]
    refine ⟨g, cap, by unfold tgL; rw [List.length_map], hb, by unfold tgL; rw [List.length_map]; exact h1, h2, h3, fun j u hj => h4 j u ?_⟩
    unfold tgL at hj
    rwa [flatG_toG'] at hj
theorem lexErr_ne {s : ByteArray} {a n : Int} (h : lexErr s = some (a, n)) : n ≠ 0 := by
  unfold lexErr at h
  split at h
  · next he =>
    obtain ⟨zs, x, e1, e2, e3⟩ := toks_ends KK 0 s.data.toList
    have e1 : ysL s = zs ++ [x] := e1
    rw [e1, List.getLast?_concat] at h
    simp only [Option.map_some, Option.some.injEq, Prod.mk.injEq] at h
    obtain ⟨rfl, rfl⟩ := h
    rcases e3 with ⟨h0, _⟩ | ⟨h0, _⟩
    · unfold errs at he
      rw [e1, List.any_append, List.any_cons, h0] at he
      simp only [bne_self_eq_false, List.any_nil, Bool.or_false] at he
      obtain ⟨z, hz, hz2⟩ := List.any_eq_true.1 he
      have := (e2 z hz).1
      rw [this] at hz2
      exact absurd hz2 (by decide)
    · omega
  · cases h
theorem le_sum {x : Nat} : ∀ {l : List Nat}, x ∈ l → x ≤ l.sum
  | [], h => by cases h
  | y :: r, h => by
    rw [List.sum_cons]
    rcases List.mem_cons.1 h with rfl | h
    · omega
    · have := le_sum h; omega
theorem tok_tgL {s : ByteArray} (hs : s.size ≤ 16384) (h : lexErr s = none) : TOK (tgL s) ∧ (tgL s).length ≤ 16385 := by
  obtain ⟨zs, x, e1, e2, e3⟩ := toks_ends KK 0 s.data.toList
  have e1 : ysL s = zs ++ [x] := e1
  have hE : errs (ysL s) = false := by
    unfold lexErr at h
    cases he : errs (ysL s) with
    | false => rfl
    | true => rw [he, e1, List.getLast?_concat] at h; simp at h
  obtain ⟨l1, l2⟩ := toks_len KK 0 s.data.toList
  have hsz : s.data.toList.length = s.size := rfl
  have hx0 : x.2 = 0 := errs_all hE x (by rw [e1]; simp)
  have hx : x.1 = ⟨5, [], 0 + s.data.toList.length⟩ := by
    rcases e3 with ⟨_, h2⟩ | ⟨h2, _⟩
    · exact h2
    · omega
  have hmap : tgL s = zs.map (fun z => toG z.1) ++ [⟨5, ⟨#[]⟩, ((0 + s.data.toList.length : Nat) : Int)⟩] := by
    unfold tgL tksL
    rw [e1, List.map_append, List.map_append, List.map_cons, List.map_nil, List.map_cons, List.map_nil, hx, List.map_map]
    rfl
  refine ⟨⟨⟨_, _, hmap, ?_⟩, ?_⟩, ?_⟩
  · intro t ht
    obtain ⟨z, hz, rfl⟩ := List.mem_map.1 ht
    obtain ⟨_, h5, _, h0⟩ := e2 z hz
    refine ⟨fun e => h0 ?_, fun e => h5 (by have e : ((z.1.k : Nat) : Int) = 5 := e; omega)⟩
    have e : bs z.1.t = ⟨#[]⟩ := e
    have := congrArg (fun b : ByteArray => b.data.toList) e
    simpa [bs] using this
  · intro t ht
    unfold tgL tksL at ht
    rw [List.map_map] at ht
    obtain ⟨y, hy, rfl⟩ := List.mem_map.1 ht
    have h1 : y.1.t.length ≤ ((toks KK 0 s.data.toList).map fun y => y.1.t.length).sum := by
      have hm : y.1.t.length ∈ (toks KK 0 s.data.toList).map fun y => y.1.t.length := List.mem_map.2 ⟨y, hy, rfl⟩
      exact le_sum hm
    show (bs y.1.t).size ≤ 20000
    have : (bs y.1.t).size = y.1.t.length := by simp [bs, ByteArray.size]
    omega
  · unfold tgL tksL
    rw [List.length_map, List.length_map]
    have : (ysL s).length ≤ s.data.toList.length + 1 := l2
    omega
/-- What is read of a whole text: a value, or a place and an error. -/
def endC {α : Type} (rt : α → Bool) : R α → Option α × Int × Int
  | .er a e => (none, a, e)
  | .ok v r => if (hd r).k == 5 then if rt v then (some v, 0, 0) else (none, 0, 3) else (none, (hd r).a, 50)
def zeroF : Fo := .mk 0 ⟨#[]⟩ [] []
def formRes (m : Bool) (rt : Fo → Bool) (s : ByteArray) : Option Fo × Int × Int := match lexErr s with
  | some (a, n) => (none, a, n)
  | none => endC rt (binC m 0 0 (tgL s))
/-- What is returned: the value (or nothing), the place, the error. -/
def FormQ (x : Option Fo × Int × Int) (W : World) (e : Ending) (w' : World) : Prop := ∃ v, e = .returned (.tuple #[v, .int .i64 x.2.1, .int .i64 x.2.2]) ∧ FVal W.heap.size w' v (x.1.getD zeroF) ∧ Below W.heap.size W w'
/-- A check of what was read. -/
def FChk (k : Nat) (rt : Fo → Bool) (lo : Nat) : Prop := ∀ (W : World) (x0 x1 x2 x3 : Value) (f : Fo), FoV W.heap.size W x0 x1 x2 x3 f → lo ≤ W.heap.size → RTab W → Calls Tryd.prog k #[.agg #[x0, x1, x2, x3]] W fun e w' => e = .returned (.bool (rt f)) ∧ Below W.heap.size W w'
end Go.Proofs.YtkeckecdhcknhaaDoor.Ps

/-
  The deferred function of read.
-/
namespace Go.Proofs.YtkeckecdhcknhaaDoor.Ps
open Go Go.RowKit Go.Shelf Go.Proofs.YtkeckecdhcknhaaDoor.Fm Go.Proofs.YtkeckecdhcknhaaDoor.Lx
set_option linter.unusedVariables false
set_option linter.unusedSimpArgs false
section
variable {P : Program} {ops : Array Oper} {Q : Exit → Act → List Frame → World → Prop}
theorem opsS_val {i : Nat} {rest : List Nat} {o : Oper} {a : Act} {cs : List Frame} {w w' : World} {v : Value} (ho : ops[i]? = some o) (hg : Region.wanted o (yielded ops a.tmps) = true) (hr : (execOp a.eval o).run P w = .ok (.value v) w')
    (h : wpOpsS P ops Q rest (a.put o.dst v) cs w') : wpOpsS P ops Q (i :: rest) a cs w := by
  rw [wpOpsS, ho]
  simp only [hg, if_true, hr]
  exact h
theorem opsS_skip {i : Nat} {rest : List Nat} {o : Oper} {a : Act} {cs : List Frame} {w w' : World} (ho : ops[i]? = some o) (hg : Region.wanted o (yielded ops a.tmps) = true) (hr : (execOp a.eval o).run P w = .ok .skip w')
    (h : wpOpsS P ops Q rest (a.put o.dst undef) cs w') : wpOpsS P ops Q (i :: rest) a cs w := by
  rw [wpOpsS, ho]
  simp only [hg, if_true, hr]
  exact h
theorem opsS_rec {i : Nat} {rest : List Nat} {o : Oper} {a : Act} {cs cs' : List Frame} {w w' : World} {v : Value} (ho : ops[i]? = some o) (hg : Region.wanted o (yielded ops a.tmps) = true) (hr : (execOp a.eval o).run P w = .ok .recover w')
    (hc : recoverD cs = some (v, cs')) (h : wpOpsS P ops Q rest (a.put o.dst v) cs' w') : wpOpsS P ops Q (i :: rest) a cs w := by
  rw [wpOpsS, ho]
  simp only [hg, if_true, hr, hc]
  exact h
theorem opsS_nil {i : Nat} {rest : List Nat} {o : Oper} {a : Act} {cs : List Frame} {w w' : World} (ho : ops[i]? = some o) (hg : Region.wanted o (yielded ops a.tmps) = true) (hr : (execOp a.eval o).run P w = .ok .recover w')
    (hc : recoverD cs = none) (h : wpOpsS P ops Q rest (a.put o.dst .nilIface) cs w') : wpOpsS P ops Q (i :: rest) a cs w := by
  rw [wpOpsS, ho]
  simp only [hg, if_true, hr, hc]
  exact h
theorem opsS_open {l : List Nat} {a : Act} {cs : List Frame} {w : World} (h : ∀ QS : Exit → Act → List Frame → World → Prop, (∀ a' cs' w', Q .normal a' cs' w' → QS .normal a' cs' w') → wpOpsS P ops QS l a cs w) : wpOpsS P ops Q l a cs w := h Q fun _ _ _ h => h
end
theorem ta_nil (W : World) : (Instr.typeAssert .nilIface 20 65 true).run Tryd.prog W = .ok (.tuple #[.agg #[.int .i64 0, .int .i64 0], .bool false]) W := by
  simp [Instr.typeAssert, run_underlying Tryd.underlying65, Tryd.zeroValue65, Result.andThen]
theorem ta_wrong (a e : Int) (W : World) : (Instr.typeAssert (.iface 65 (.agg #[.int .i64 a, .int .i64 e])) 20 65 true).run Tryd.prog W = .ok (.tuple #[.agg #[.int .i64 a, .int .i64 e], .bool true]) W := by
  simp [Instr.typeAssert, run_underlying Tryd.underlying65, Result.andThen]
end Go.Proofs.YtkeckecdhcknhaaDoor.Ps

/-
  A deferred function of read.
-/
namespace Go.Proofs.YtkeckecdhcknhaaDoor.Ps
open Go Go.RowKit Go.Shelf Go.Proofs.YtkeckecdhcknhaaDoor.Fm Go.Proofs.YtkeckecdhcknhaaDoor.Lx
set_option linter.unusedVariables false
set_option linter.unusedSimpArgs false
set_option maxRecDepth 20000 in
set_option maxHeartbeats 8000000 in
theorem catch_idle (pa pe : Addr) (W : World) :
    CallsD Tryd.prog 31 #[.pointer (some pa), .pointer (some pe)] .returning W fun e u' w' => e = .returned (.tuple #[]) ∧ u' = .returning ∧ Below W.heap.size W w' := by
  refine callsD_of_wpS Tryd.func31 rfl fun c₀ cs hu => ?_
  have hta := ta_nil
  have hrec : recoverD (c₀ :: cs) = none := by simp [recoverD, hu]
  simp only [Tryd.ntmps31, List.size_toArray, List.length_cons, List.length_nil, Nat.reduceAdd, Nat.reduceSub, Array.replicate_succ, Array.replicate_zero, List.push_toArray, List.append_toArray, List.nil_append, List.cons_append]
  apply wpS_seq
  apply wpS_region
  rw [show List.range _ = [0, 1, 2, 3, 4, 5, 6, 7] from rfl]
  refine opsS_open fun QS hQS => ?_
  refine opsS_nil (o := ⟨some 5, _, _, _, _, _⟩) (w' := W) rfl ?_ ?_ hrec ?_
  · rfl
  · go_simp
  simp only [Act.put, List.setIfInBounds_toArray, List.set_cons_zero, List.set_cons_succ]
  refine opsS_val (o := ⟨some 6, _, _, _, _, _⟩) (v := .tuple #[.agg #[.int .i64 0, .int .i64 0], .bool false]) (w' := W) rfl ?_ ?_ ?_
  · rfl
  · go_simp
  simp only [Act.put, List.setIfInBounds_toArray, List.set_cons_zero, List.set_cons_succ]
  refine opsS_val (o := ⟨some 4, _, _, _, _, _⟩) (v := .tuple #[.agg #[.int .i64 0, .int .i64 0], .bool false]) (w' := W) rfl ?_ ?_ ?_
  · rfl
  · go_simp
  simp only [Act.put, List.setIfInBounds_toArray, List.set_cons_zero, List.set_cons_succ]
  refine opsS_val (o := ⟨some 7, _, _, _, _, _⟩) (v := .agg #[.int .i64 0, .int .i64 0]) (w' := W) rfl ?_ ?_ ?_
  · rfl
  · go_simp
  simp only [Act.put, List.setIfInBounds_toArray, List.set_cons_zero, List.set_cons_succ]
  refine opsS_val (o := ⟨some 8, _, _, _, _, _⟩) (v := .bool false) (w' := W) rfl ?_ ?_ ?_
  · rfl
  · go_simp
  simp only [Act.put, List.setIfInBounds_toArray, List.set_cons_zero, List.set_cons_succ]
  refine opsS_val (o := ⟨some 2, _, _, _, _, _⟩) (v := .pointer (some ⟨W.heap.size, 0, none⟩)) (w' := W.alloc (.cells #[.int .i64 0, .int .i64 0] 65)) rfl ?_ ?_ ?_
  · rfl
  · go_simp
  simp only [Act.put, List.setIfInBounds_toArray, List.set_cons_zero, List.set_cons_succ]
  refine opsS_skip (o := ⟨none, _, _, _, _, _⟩) (w' := W.alloc (.cells #[.int .i64 0, .int .i64 0] 65)) rfl ?_ ?_ ?_
  · rfl
  · go_simp
  simp only [Act.put, List.setIfInBounds_toArray, List.set_cons_zero, List.set_cons_succ]
  refine opsS_val (o := ⟨some 3, _, _, _, _, _⟩) (v := .bool false) (w' := W.alloc (.cells #[.int .i64 0, .int .i64 0] 65)) rfl ?_ ?_ ?_
  · rfl
  · go_simp
  simp only [Act.put, List.setIfInBounds_toArray, List.set_cons_zero, List.set_cons_succ]
  refine hQS _ _ _ ?_
  simp only [Exit.thenS]
  apply wpS_seq
  apply wpS_region
  rw [show List.range _ = [0] from rfl]
  refine opsS_val (o := ⟨some 9, _, _, _, _, _⟩) (v := .bool false) (w' := W.alloc (.cells #[.int .i64 0, .int .i64 0] 65)) rfl ?_ ?_ ?_
  · rfl
  · go_simp
  simp only [Act.put, List.setIfInBounds_toArray, List.set_cons_zero, List.set_cons_succ]
  show Exit.thenS _ _ .normal _ _ _
  simp only [Exit.thenS]
  refine wpS_cond (t := false) rfl ?_
  simp only [Bool.false_eq_true, if_false]
  refine wpS_of_wp (wp_skip ?_)
  cases c₀
  simp only at hu
  subst hu
  simp [bodyPostS, results, Tryd.results31]
  exact (Below.refl _ _).alloc (Nat.le_refl _) _
end Go.Proofs.YtkeckecdhcknhaaDoor.Ps

/-
  A deferred function of read.
-/
namespace Go.Proofs.YtkeckecdhcknhaaDoor.Ps
open Go Go.RowKit Go.Shelf Go.Proofs.YtkeckecdhcknhaaDoor.Fm Go.Proofs.YtkeckecdhcknhaaDoor.Lx
set_option linter.unusedVariables false
set_option linter.unusedSimpArgs false
set_option maxRecDepth 20000 in
set_option maxHeartbeats 8000000 in
theorem catch_panic (A E : Nat) (x y : Value) (a0 e0 : Int) (older : List PanicEntry) (W : World) (cA : W.cell? ⟨A, 0, none⟩ = some x) (cE : W.cell? ⟨E, 0, none⟩ = some y) (fA : W.frozen? ⟨A, 0, none⟩ = false) (fE : W.frozen? ⟨E, 0, none⟩ = false) (hAE : A ≠ E) :
    CallsD Tryd.prog 31 #[.pointer (some ⟨A, 0, none⟩), .pointer (some ⟨E, 0, none⟩)] (.panicking ({ v := .iface 65 (.agg #[.int .i64 a0, .int .i64 e0]), recovered := false } :: older)) W fun e u' w' =>
      e = .returned (.tuple #[]) ∧ u' = .panicking ({ v := .iface 65 (.agg #[.int .i64 a0, .int .i64 e0]), recovered := true } :: older) ∧ Grow (fun b => b = A ∨ b = E) W w' ∧ w'.cell? ⟨A, 0, none⟩ = some (.int .i64 a0) ∧ w'.cell? ⟨E, 0, none⟩ = some (.int .i64 e0) := by
  refine callsD_of_wpS Tryd.func31 rfl fun c₀ cs hu => ?_
  have hta := ta_wrong a0 e0
  have hA : A < W.heap.size := World.block_lt_of_cell? W ⟨A, 0, none⟩ cA
  have hE : E < W.heap.size := World.block_lt_of_cell? W ⟨E, 0, none⟩ cE
  have hrec : recoverD (c₀ :: cs) = some (.iface 65 (.agg #[.int .i64 a0, .int .i64 e0]), { c₀ with mode := .panicking ({ v := .iface 65 (.agg #[.int .i64 a0, .int .i64 e0]), recovered := true } :: older) } :: cs) := by simp [recoverD, hu]
  simp only [Tryd.ntmps31, List.size_toArray, List.length_cons, List.length_nil, Nat.reduceAdd, Nat.reduceSub, Array.replicate_succ, Array.replicate_zero, List.push_toArray, List.append_toArray, List.nil_append, List.cons_append]
  apply wpS_seq
  apply wpS_region
  rw [show List.range _ = [0, 1, 2, 3, 4, 5, 6, 7] from rfl]
  refine opsS_open fun QS hQS => ?_
  refine opsS_rec (o := ⟨some 5, _, _, _, _, _⟩) (w' := W) rfl ?_ ?_ hrec ?_
  · rfl
  · go_simp
  simp only [Act.put, List.setIfInBounds_toArray, List.set_cons_zero, List.set_cons_succ]
  refine opsS_val (o := ⟨some 6, _, _, _, _, _⟩) (v := .tuple #[.agg #[.int .i64 a0, .int .i64 e0], .bool true]) (w' := W) rfl ?_ ?_ ?_
  · rfl
  · go_simp
  simp only [Act.put, List.setIfInBounds_toArray, List.set_cons_zero, List.set_cons_succ]
  refine opsS_val (o := ⟨some 4, _, _, _, _, _⟩) (v := .tuple #[.agg #[.int .i64 a0, .int .i64 e0], .bool true]) (w' := W) rfl ?_ ?_ ?_
  · rfl
  · go_simp
  simp only [Act.put, List.setIfInBounds_toArray, List.set_cons_zero, List.set_cons_succ]
  refine opsS_val (o := ⟨some 7, _, _, _, _, _⟩) (v := .agg #[.int .i64 a0, .int .i64 e0]) (w' := W) rfl ?_ ?_ ?_
  · rfl
  · go_simp
  simp only [Act.put, List.setIfInBounds_toArray, List.set_cons_zero, List.set_cons_succ]
  refine opsS_val (o := ⟨some 8, _, _, _, _, _⟩) (v := .bool true) (w' := W) rfl ?_ ?_ ?_
  · rfl
  · go_simp
  simp only [Act.put, List.setIfInBounds_toArray, List.set_cons_zero, List.set_cons_succ]
  refine opsS_val (o := ⟨some 2, _, _, _, _, _⟩) (v := .pointer (some ⟨W.heap.size, 0, none⟩)) (w' := W.alloc (.cells #[.int .i64 0, .int .i64 0] 65)) rfl ?_ ?_ ?_
  · rfl
  · go_simp
  simp only [Act.put, List.setIfInBounds_toArray, List.set_cons_zero, List.set_cons_succ]
  refine opsS_skip (o := ⟨none, _, _, _, _, _⟩) (w' := W.alloc (.cells #[.int .i64 a0, .int .i64 e0] 65)) rfl ?_ ?_ ?_
  · rfl
  · go_simp
  simp only [Act.put, List.setIfInBounds_toArray, List.set_cons_zero, List.set_cons_succ]
  refine opsS_val (o := ⟨some 3, _, _, _, _, _⟩) (v := .bool true) (w' := W.alloc (.cells #[.int .i64 a0, .int .i64 e0] 65)) rfl ?_ ?_ ?_
  · rfl
  · go_simp
  simp only [Act.put, List.setIfInBounds_toArray, List.set_cons_zero, List.set_cons_succ]
  refine hQS _ _ _ ?_
  simp only [Exit.thenS]
  apply wpS_seq
  apply wpS_region
  rw [show List.range _ = [0] from rfl]
  refine opsS_val (o := ⟨some 9, _, _, _, _, _⟩) (v := .bool true) (w' := W.alloc (.cells #[.int .i64 a0, .int .i64 e0] 65)) rfl ?_ ?_ ?_
  · rfl
  · go_simp
  simp only [Act.put, List.setIfInBounds_toArray, List.set_cons_zero, List.set_cons_succ]
  show Exit.thenS _ _ .normal _ _ _
  simp only [Exit.thenS]
  refine wpS_cond (t := true) rfl ?_
  simp only [if_true]
  refine wpS_of_wp ?_
  have al : Below W.heap.size W (W.alloc (.cells #[.int .i64 a0, .int .i64 e0] 65)).drew := Below.drew ((Below.refl _ _).alloc (Nat.le_refl _) _)
  have h0 : (W.alloc (.cells #[.int .i64 a0, .int .i64 e0] 65)).drew.cell? ⟨W.heap.size, 0, none⟩ = some (.int .i64 a0) := by
    show (W.alloc (.cells #[.int .i64 a0, .int .i64 e0] 65)).cell? _ = _
    rw [World.cell?_alloc_at _ _ _ _ rfl]; rfl
  have h1 : (W.alloc (.cells #[.int .i64 a0, .int .i64 e0] 65)).drew.cell? ⟨W.heap.size, 1, none⟩ = some (.int .i64 e0) := by
    show (W.alloc (.cells #[.int .i64 a0, .int .i64 e0] 65)).cell? _ = _
    rw [World.cell?_alloc_at _ _ _ _ rfl]; rfl
  refine wp_region_SP (fun c w' => False) (fun c a' w' hd h => h.elim) (fun w' => w'.cell? ⟨W.heap.size, 0, none⟩ = some (.int .i64 a0) ∧ w'.cell? ⟨W.heap.size, 1, none⟩ = some (.int .i64 e0)) [5] 6 #[false, false, false, false, false, false] (by kernel_rfl) (by kernel_rfl) (by kernel_rfl) ⟨h0, h1⟩ (fun hHeld => ?_)
  have bA := (al.cell (p := ⟨A, 0, none⟩) hA).trans cA
  have bE := (al.cell (p := ⟨E, 0, none⟩) hE).trans cE
  have gA := (al.frozen (p := ⟨A, 0, none⟩) hA).trans fA
  have gE := (al.frozen (p := ⟨E, 0, none⟩) hE).trans fE
  generalize hX : (W.alloc (.cells #[.int .i64 a0, .int .i64 e0] 65)).drew = X at *
  have HAL := Lib.hid al
  have hEA : ¬ E = A := fun e => hAE e.symm
  clear al hX h0 h1
  refine wpAnyS_take (i := 0) (oi := ⟨some 10, _, _, _, _, _⟩) (v := .pointer (some ⟨W.heap.size, 0, none⟩)) rfl (by kernel_rfl) (by kernel_rfl) (by kernel_rfl) (by kernel_rfl) (fun _ _ _ h => Both.panic h) (Or.inl ⟨by rfl, ?_⟩) (by assumption) ?_
  · intro w' hSw
    obtain ⟨k1', k2'⟩ := hSw
    go_simp
  simp only [Act.put, List.setIfInBounds_toArray, List.set_cons_zero, List.set_cons_succ]
  refine wpAnyS_take (i := 1) (oi := ⟨some 11, _, _, _, _, _⟩) (v := .int .i64 a0) rfl (by kernel_rfl) (by kernel_rfl) (by kernel_rfl) (by kernel_rfl) (fun _ _ _ h => Both.panic h) (Or.inl ⟨by rfl, ?_⟩) (by assumption) ?_
  · intro w' hSw
    obtain ⟨k1', k2'⟩ := hSw
    go_simp
  simp only [Act.put, List.setIfInBounds_toArray, List.set_cons_zero, List.set_cons_succ]
  refine wpAnyS_take (i := 2) (oi := ⟨some 12, _, _, _, _, _⟩) (v := .pointer (some ⟨W.heap.size, 1, none⟩)) rfl (by kernel_rfl) (by kernel_rfl) (by kernel_rfl) (by kernel_rfl) (fun _ _ _ h => Both.panic h) (Or.inl ⟨by rfl, ?_⟩) (by assumption) ?_
  · intro w' hSw
    obtain ⟨k1', k2'⟩ := hSw
    go_simp
  simp only [Act.put, List.setIfInBounds_toArray, List.set_cons_zero, List.set_cons_succ]
  refine wpAnyS_take (i := 3) (oi := ⟨some 13, _, _, _, _, _⟩) (v := .int .i64 e0) rfl (by kernel_rfl) (by kernel_rfl) (by kernel_rfl) (by kernel_rfl) (fun _ _ _ h => Both.panic h) (Or.inl ⟨by rfl, ?_⟩) (by assumption) ?_
  · intro w' hSw
    obtain ⟨k1', k2'⟩ := hSw
    go_simp
  simp only [Act.put, List.setIfInBounds_toArray, List.set_cons_zero, List.set_cons_succ]
  refine wpAnyS_one (i := 4) (oi := ⟨none, _, _, _, _, _⟩) rfl (by kernel_rfl) (by rfl) (fun K hK => ?_)
  go_simp
  refine hK _ _ (fun _ => ⟨(World.cell?_setCell_other _ _ _ _ (fun e => by injection e with e1 _ _; omega)).trans hHeld.1, (World.cell?_setCell_other _ _ _ _ (fun e => by injection e with e1 _ _; omega)).trans hHeld.2⟩) ?_
  clear hK K
  simp only [Act.put, List.setIfInBounds_toArray, List.set_cons_zero, List.set_cons_succ]
  refine wpAnyS_one (i := 5) (oi := ⟨none, _, _, _, _, _⟩) rfl (by kernel_rfl) (by rfl) (fun K hK => ?_)
  go_simp
  refine hK _ _ (fun h => absurd (by simp) h) ?_
  clear hK K
  refine wpAnyS_done (by kernel_rfl) ?_
  refine Both.normal ?_
  cases c₀
  simp only at hu
  subst hu
  simp [bodyPostS, results, Tryd.results31]
  have hg : Grow (fun b => b = A ∨ b = E) W ((X.setCell ⟨A, 0, none⟩ (.int .i64 a0)).setCell ⟨E, 0, none⟩ (.int .i64 e0)) :=
    (Grow.of_below HAL.out).trans ((Grow.setCell (O := fun b => b = A ∨ b = E) _ _ (.inl rfl)).trans (Grow.setCell (O := fun b => b = A ∨ b = E) _ _ (.inr rfl)) (Sub.refl _ _)) (Sub.refl _ _)
  refine ⟨hg, ?_, World.cell?_setCell_same _ _ _ (by rw [World.cell?_setCell_other _ _ _ _ (fun e => by injection e with e1 _ _; exact hAE e1)]; exact bE)⟩
  rw [World.cell?_setCell_other _ _ _ _ (fun e => by injection e with e1 _ _; exact hEA e1)]
  exact World.cell?_setCell_same _ _ _ bA
end Go.Proofs.YtkeckecdhcknhaaDoor.Ps

/-
  The results' own variables in read.
-/
namespace Go.Proofs.YtkeckecdhcknhaaDoor.Ps
open Go Go.RowKit Go.Shelf Go.Proofs.YtkeckecdhcknhaaDoor.Fm Go.Proofs.YtkeckecdhcknhaaDoor.Lx
set_option linter.unusedVariables false
set_option linter.unusedSimpArgs false
/-- The results' own variables, and what is there behind a call. -/
structure Res3 (w : World) (A : Nat) (x0 x1 x2 x3 a e : Value) : Prop where
  r : Bx4 w A x0 x1 x2 x3
  a : w.cell? ⟨A + 1, 0, none⟩ = some a
  e : w.cell? ⟨A + 1 + 1, 0, none⟩ = some e
  fa : w.frozen? ⟨A + 1, 0, none⟩ = false
  fe : w.frozen? ⟨A + 1 + 1, 0, none⟩ = false
  z : A + 3 ≤ w.heap.size
theorem Res3.heap {w w' : World} {A : Nat} {x0 x1 x2 x3 a e : Value} (h : Res3 w A x0 x1 x2 x3 a e) (hb : ∀ b, A ≤ b → b < A + 3 → w'.heap[b]? = w.heap[b]?) (hz : w.heap.size ≤ w'.heap.size) : Res3 w' A x0 x1 x2 x3 a e where
  r := h.r.heap (hb A (Nat.le_refl _) (by omega)) (Nat.lt_of_lt_of_le h.r.lt hz)
  a := (World.cell?_of_block (a := ⟨A + 1, 0, none⟩) (hb (A + 1) (by omega) (by omega))).trans h.a
  e := (World.cell?_of_block (a := ⟨A + 1 + 1, 0, none⟩) (hb (A + 1 + 1) (by omega) (by omega))).trans h.e
  fa := (World.frozen?_of_block (a := ⟨A + 1, 0, none⟩) (hb (A + 1) (by omega) (by omega))).trans h.fa
  fe := (World.frozen?_of_block (a := ⟨A + 1 + 1, 0, none⟩) (hb (A + 1 + 1) (by omega) (by omega))).trans h.fe
  z := Nat.le_trans h.z hz
theorem Res3.below {w w' : World} {A B : Nat} {x0 x1 x2 x3 a e : Value} (h : Res3 w A x0 x1 x2 x3 a e) (hb : Below B w w') (hB : A + 3 ≤ B) : Res3 w' A x0 x1 x2 x3 a e := h.heap (fun b h1 h2 => hb.block b (by omega)) hb.size
theorem Res3.go {P : Nat} {w w' : World} {A : Nat} {x0 x1 x2 x3 a e : Value} (h : Res3 w A x0 x1 x2 x3 a e) (hg : GP P w w') (hP : A + 3 ≤ P) : Res3 w' A x0 x1 x2 x3 a e := h.heap (fun b h1 h2 => hg.block b (by have := h.z; omega) (fun e => by have e : b = P := e; omega)) hg.size
theorem res3_new (W : World) (x0 x1 x2 x3 a e : Value) (t1 t2 t3 : TypeId) : Res3 (((W.alloc (.cells #[x0, x1, x2, x3] t1)).alloc (.cells #[a] t2)).alloc (.cells #[e] t3)) W.heap.size x0 x1 x2 x3 a e := by
  have z1 : (W.alloc (.cells #[x0, x1, x2, x3] t1)).heap.size = W.heap.size + 1 := by simp
  have z2 : ((W.alloc (.cells #[x0, x1, x2, x3] t1)).alloc (.cells #[a] t2)).heap.size = W.heap.size + 1 + 1 := by simp
  have al : ∀ (w : World) (o : Obj), Below w.heap.size w (w.alloc o) := fun w o => (Below.refl _ _).alloc (Nat.le_refl _) _
  refine ⟨((Bx4.new W x0 x1 x2 x3 t1).alloc _).alloc _, ?_, ?_, ?_, ?_, by simp⟩
  · rw [(al _ _).cell (by rw [z2]; show W.heap.size + 1 < _; omega), World.cell?_alloc_at _ _ _ _ z1.symm]; rfl
  · rw [World.cell?_alloc_at _ _ _ _ z2.symm]; rfl
  · rw [(al _ _).frozen (by rw [z2]; show W.heap.size + 1 < _; omega), World.frozen?_alloc_at _ _ _ _ z1.symm]
  · rw [World.frozen?_alloc_at _ _ _ _ z2.symm]
theorem Res3.setA {w : World} {A : Nat} {x0 x1 x2 x3 a e : Value} (h : Res3 w A x0 x1 x2 x3 a e) (y : Value) : Res3 (w.setCell ⟨A + 1, 0, none⟩ y) A x0 x1 x2 x3 y e where
  r := h.r.other ⟨A + 1, 0, none⟩ y (by show A ≠ A + 1; omega)
  a := World.cell?_setCell_same _ _ _ h.a
  e := by rw [World.cell?_setCell_other _ _ _ _ (fun e => by injection e with e1 _ _; omega)]; exact h.e
  fa := by rw [World.frozen?_setCell]; exact h.fa
  fe := by rw [World.frozen?_setCell]; exact h.fe
  z := by simpa using h.z
theorem Res3.setE {w : World} {A : Nat} {x0 x1 x2 x3 a e : Value} (h : Res3 w A x0 x1 x2 x3 a e) (y : Value) : Res3 (w.setCell ⟨A + 1 + 1, 0, none⟩ y) A x0 x1 x2 x3 a y where
  r := h.r.other ⟨A + 1 + 1, 0, none⟩ y (by show A ≠ A + 1 + 1; omega)
  a := by rw [World.cell?_setCell_other _ _ _ _ (fun e => by injection e with e1 _ _; omega)]; exact h.a
  e := World.cell?_setCell_same _ _ _ h.e
  fa := by rw [World.frozen?_setCell]; exact h.fa
  fe := by rw [World.frozen?_setCell]; exact h.fe
  z := by simpa using h.z
theorem Res3.put {w : World} {A : Nat} {x0 x1 x2 x3 a e : Value} (h : Res3 w A x0 x1 x2 x3 a e) (y0 y1 y2 y3 : Value) : Res3 (put4 w A y0 y1 y2 y3) A y0 y1 y2 y3 a e where
  r := h.r.put y0 y1 y2 y3
  a := (World.cell?_of_block (a := ⟨A + 1, 0, none⟩) (put4_heap _ _ _ _ _ _ (A + 1) (by omega))).trans h.a
  e := (World.cell?_of_block (a := ⟨A + 1 + 1, 0, none⟩) (put4_heap _ _ _ _ _ _ (A + 1 + 1) (by omega))).trans h.e
  fa := (World.frozen?_of_block (a := ⟨A + 1, 0, none⟩) (put4_heap _ _ _ _ _ _ (A + 1) (by omega))).trans h.fa
  fe := (World.frozen?_of_block (a := ⟨A + 1 + 1, 0, none⟩) (put4_heap _ _ _ _ _ _ (A + 1 + 1) (by omega))).trans h.fe
  z := by rw [put4_size]; exact h.z
theorem put4_below {B : Nat} {W w : World} (h : Below B W w) {R : Nat} (hR : B ≤ R) (x0 x1 x2 x3 : Value) : Below B W (put4 w R x0 x1 x2 x3) :=
  h.trans (((((Below.refl _ w).setCell (p := ⟨R, 0, none⟩) hR x0).setCell (p := ⟨R, 1, none⟩) hR x1).setCell (p := ⟨R, 2, none⟩) hR x2).setCell (p := ⟨R, 3, none⟩) hR x3)
end Go.Proofs.YtkeckecdhcknhaaDoor.Ps

/-
  The contract of read, for formulas.
-/
namespace Go.Proofs.YtkeckecdhcknhaaDoor.Ps
open Go Go.RowKit Go.Shelf Go.Proofs.YtkeckecdhcknhaaDoor.Fm Go.Proofs.YtkeckecdhcknhaaDoor.Lx
set_option linter.unusedVariables false
set_option linter.unusedSimpArgs false
set_option maxRecDepth 20000 in
set_option maxHeartbeats 4000000 in
theorem readF_Right (s : ByteArray) (m : Bool) (W : World) (hs : s.size ≤ 16384) (hT : RTab W) (hL : LTab W W.heap.size) :
    Calls Tryd.prog 21 #[.string s, .bool m, .func (.func 22) #[] #[], .func (.func 11) #[] #[]] W (FormQ (formRes m (rightB false) s) W) := by
  have hlex := fun w => lexp_c s w hs
  have hmf : ∀ (fn : Fn) (first cap : Array Value) (w : World), (Instr.makeFunc fn first cap).run Tryd.prog w = .ok (.func fn first cap) w := fun _ _ _ _ => rfl
  obtain ⟨Q, hQ⟩ : ∃ Q : Ending → World → Prop, Q = FormQ (formRes m (rightB false) s) W := ⟨_, rfl⟩
  rw [← hQ]
  unfold formRes at hQ
  unfold LxP at hlex
  cases hle : lexErr s with
  | some an =>
    obtain ⟨a, n⟩ := an
    have hn0 : (n != 0) = true := bne_iff_ne.2 (lexErr_ne hle)
    rw [hle] at hlex hQ
    simp only at hlex hQ
    have HQ := Lib.hid hQ
    clear hQ hle
    go_enter_defers Tryd.func21, Tryd.ntmps21
    go_wp2_with fail
    refine (hlex _).mono ?_
    rintro e w1 ⟨rfl, hb1⟩
    have h3 := (res3_new W (.int .u8 0) (.string ⟨#[]⟩) (.slice none 0 0) (.slice none 0 0) (.int .i64 0) (.int .i64 0) 25 3 30).below hb1 (by simp)
    have hz1 := hb1.size
    simp only [World.size_alloc] at hz1
    have c1 := h3.a
    have c2 := h3.e
    have c3 := h3.fa
    have c4 := h3.fe
    have hz2 : W.heap.size + 1 < w1.heap.size := by omega
    have hz3 : W.heap.size + 1 + 1 < w1.heap.size := by omega
    have H3 := Lib.hid ((h3.setA (.int .i64 a)).setE (.int .i64 n))
    have HB1 := Lib.hid ((((((Below.refl W.heap.size W).alloc (Nat.le_refl _) (.cells #[.int .u8 0, .string ⟨#[]⟩, .slice none 0 0, .slice none 0 0] 25)).alloc (by simp) (.cells #[.int .i64 0] 3)).alloc (by simp; omega) (.cells #[.int .i64 0] 30)).trans (hb1.mono (by simp; omega))).setCell (p := ⟨W.heap.size + 1, 0, none⟩) (Nat.le_succ _) (.int .i64 a) |>.setCell (p := ⟨W.heap.size + 1 + 1, 0, none⟩) (by show W.heap.size ≤ W.heap.size + 1 + 1; omega) (.int .i64 n))
    clear h3 hb1 hlex
    go_upto_region 3 with fail
    generalize hX : (w1.setCell ⟨W.heap.size + 1, 0, none⟩ (.int .i64 a)).setCell ⟨W.heap.size + 1 + 1, 0, none⟩ (.int .i64 n) = X at *
    have HS := Lib.hid (show ∀ w', Res3 w' W.heap.size (.int .u8 0) (.string ⟨#[]⟩) (.slice none 0 0) (.slice none 0 0) (.int .i64 a) (.int .i64 n) → _ from fun w' h => And.intro h.r.c0 (And.intro h.r.c1 (And.intro h.r.c2 (And.intro h.r.c3 (And.intro h.a h.e)))))
    have h4 := H3.out.below (Below.drew (Below.refl X.heap.size X)) H3.out.z
    have hb4 := Below.drew HB1.out
    clear c1 c2 c3 c4 hz2 hz3 hX H3
    refine wp_region_SP (fun c w' => False) (fun c a' w' hd h => h.elim) (fun w' => w'.cell? ⟨W.heap.size, 0, none⟩ = some (.int .u8 0) ∧ w'.cell? ⟨W.heap.size, 1, none⟩ = some (.string ⟨#[]⟩) ∧ w'.cell? ⟨W.heap.size, 2, none⟩ = some (.slice none 0 0) ∧ w'.cell? ⟨W.heap.size, 3, none⟩ = some (.slice none 0 0) ∧ w'.cell? ⟨W.heap.size + 1, 0, none⟩ = some (.int .i64 a) ∧ w'.cell? ⟨W.heap.size + 1 + 1, 0, none⟩ = some (.int .i64 n)) [] 6 #[false, false, false, false, false, false] (by kernel_rfl) (by kernel_rfl) (by kernel_rfl) (HS.out _ h4) (fun hHeld => ?_)
    generalize X.drew = Y at *
    refine wpAnyS_take (i := 0) (oi := ⟨some 22, _, _, _, _, _⟩) (v := .agg #[.int .u8 0, .string ⟨#[]⟩, .slice none 0 0, .slice none 0 0]) rfl (by kernel_rfl) (by kernel_rfl) (by kernel_rfl) (by kernel_rfl) (fun _ _ _ h => Both.panic h) (Or.inl ⟨by rfl, ?_⟩) (by assumption) ?_
    · intro w' hSw
      obtain ⟨k1', k2', k3', k4', k5', k6'⟩ := hSw
      go_simp
    simp only [Act.put, List.setIfInBounds_toArray, List.set_cons_zero, List.set_cons_succ]
    refine wpAnyS_take (i := 1) (oi := ⟨some 23, _, _, _, _, _⟩) (v := .int .i64 a) rfl (by kernel_rfl) (by kernel_rfl) (by kernel_rfl) (by kernel_rfl) (fun _ _ _ h => Both.panic h) (Or.inl ⟨by rfl, ?_⟩) (by assumption) ?_
    · intro w' hSw
      obtain ⟨k1', k2', k3', k4', k5', k6'⟩ := hSw
      go_simp
    simp only [Act.put, List.setIfInBounds_toArray, List.set_cons_zero, List.set_cons_succ]
    refine wpAnyS_take (i := 2) (oi := ⟨some 24, _, _, _, _, _⟩) (v := .int .i64 n) rfl (by kernel_rfl) (by kernel_rfl) (by kernel_rfl) (by kernel_rfl) (fun _ _ _ h => Both.panic h) (Or.inl ⟨by rfl, ?_⟩) (by assumption) ?_
    · intro w' hSw
      obtain ⟨k1', k2', k3', k4', k5', k6'⟩ := hSw
      go_simp
    simp only [Act.put, List.setIfInBounds_toArray, List.set_cons_zero, List.set_cons_succ]
    obtain ⟨⟨c0, c1, c2, c3, f0, f1, f2, f3, hlt⟩, ca, ce, fa, fe, hz⟩ := id h4
    have H4 := Lib.hid h4
    have HB4 := Lib.hid hb4
    clear h4 hb4
    refine wpAnyS_one (i := 3) (oi := ⟨none, _, _, _, _, _⟩) rfl (by kernel_rfl) (by rfl) (fun K hK => ?_)
    go_simp
    have h5 := H4.out.put (.int .u8 0) (.string ⟨#[]⟩) (.slice none 0 0) (.slice none 0 0)
    have hb5 := put4_below HB4.out (Nat.le_refl _) (.int .u8 0) (.string ⟨#[]⟩) (.slice none 0 0) (.slice none 0 0)
    change K _ (put4 Y W.heap.size (.int .u8 0) (.string ⟨#[]⟩) (.slice none 0 0) (.slice none 0 0))
    generalize put4 Y W.heap.size (.int .u8 0) (.string ⟨#[]⟩) (.slice none 0 0) (.slice none 0 0) = Z at *
    clear c0 c1 c2 c3 f0 f1 f2 f3 hlt ca ce fa fe hz H4 HB4 hHeld
    have hHeld := HS.out _ h5
    refine hK _ _ (fun _ => hHeld) ?_
    clear hK K
    simp only [Act.put, List.setIfInBounds_toArray, List.set_cons_zero, List.set_cons_succ]
    refine wpAnyS_one (i := 4) (oi := ⟨none, _, _, _, _, _⟩) rfl (by kernel_rfl) (by rfl) (fun K hK => ?_)
    have ca := h5.a
    have fa := h5.fa
    go_simp
    have h6 := h5.setA (.int .i64 a)
    have hb6 := hb5.setCell (p := ⟨W.heap.size + 1, 0, none⟩) (Nat.le_succ _) (.int .i64 a)
    generalize Z.setCell ⟨W.heap.size + 1, 0, none⟩ (.int .i64 a) = Z1 at *
    clear ca fa h5 hb5 hHeld
    have hHeld := HS.out _ h6
    refine hK _ _ (fun _ => hHeld) ?_
    clear hK K
    simp only [Act.put, List.setIfInBounds_toArray, List.set_cons_zero, List.set_cons_succ]
    refine wpAnyS_one (i := 5) (oi := ⟨none, _, _, _, _, _⟩) rfl (by kernel_rfl) (by rfl) (fun K hK => ?_)
    have ca := h6.e
    have fa := h6.fe
    go_simp
    have h7 := h6.setE (.int .i64 n)
    have hb7 := hb6.setCell (p := ⟨W.heap.size + 1 + 1, 0, none⟩) (by show W.heap.size ≤ W.heap.size + 1 + 1; omega) (.int .i64 n)
    generalize Z1.setCell ⟨W.heap.size + 1 + 1, 0, none⟩ (.int .i64 n) = Z2 at *
    clear ca fa h6 hb6 hHeld
    have hHeld := HS.out _ h7
    refine hK _ _ (fun _ => hHeld) ?_
    clear hK K
    refine wpAnyS_done (by kernel_rfl) ?_
    refine Both.normal ?_
    clear hHeld HS
    go_wp2_with fail
    obtain ⟨⟨c0, c1, c2, c3, _, _, _, _, _⟩, ca, ce, _, _, _⟩ := id h7
    simp [bodyPostD, Leaves, settle, results, Tryd.results21, go_sem, c0, c1, c2, c3, ca, ce]
    rw [HQ.out]
    exact ⟨_, rfl, fval_leaf 0 ⟨#[]⟩ (by omega) (ok_str (by decide)), hb7⟩
  | none =>
    obtain ⟨htok, hlen⟩ := tok_tgL hs hle
    rw [hle] at hlex hQ
    simp only at hlex hQ
    have HQ := Lib.hid hQ
    have HTOK := Lib.hid htok
    have HLEN := Lib.hid hlen
    have HT := Lib.hid hT
    have HL := Lib.hid hL
    clear hQ hle htok hlen hT hL
    go_enter_defers Tryd.func21, Tryd.ntmps21
    go_wp2_with fail
    refine (hlex _).mono ?_
    rintro e w1 ⟨g, cap, rfl, hb1, hcap, hg1, hg2, hrow⟩
    have h3 := (res3_new W (.int .u8 0) (.string ⟨#[]⟩) (.slice none 0 0) (.slice none 0 0) (.int .i64 0) (.int .i64 0) 25 3 30).below hb1 (by simp)
    have hz1 := hb1.size
    simp only [World.size_alloc] at hz1 hg1
    have c1 := h3.a
    have c2 := h3.e
    have c3 := h3.fa
    have c4 := h3.fe
    have hz2 : W.heap.size + 1 < w1.heap.size := by omega
    have hz3 : W.heap.size + 1 + 1 < w1.heap.size := by omega
    have H3 := Lib.hid ((h3.setA (.int .i64 0)).setE (.int .i64 0))
    have HB1 := Lib.hid ((((((Below.refl W.heap.size W).alloc (Nat.le_refl _) (.cells #[.int .u8 0, .string ⟨#[]⟩, .slice none 0 0, .slice none 0 0] 25)).alloc (by simp) (.cells #[.int .i64 0] 3)).alloc (by simp; omega) (.cells #[.int .i64 0] 30)).trans (hb1.mono (by simp; omega))).setCell (p := ⟨W.heap.size + 1, 0, none⟩) (Nat.le_succ _) (.int .i64 0) |>.setCell (p := ⟨W.heap.size + 1 + 1, 0, none⟩) (by show W.heap.size ≤ W.heap.size + 1 + 1; omega) (.int .i64 0))
    have HROW := Lib.hid (show ∀ j u, (flatG (tgL s))[j]? = some u → ((w1.setCell ⟨W.heap.size + 1, 0, none⟩ (.int .i64 0)).setCell ⟨W.heap.size + 1 + 1, 0, none⟩ (.int .i64 0)).cell? ⟨g, j, none⟩ = some u from fun j u hj => by
      rw [World.cell?_setCell_other _ _ _ _ (fun e => by injection e with e1 _ _; omega), World.cell?_setCell_other _ _ _ _ (fun e => by injection e with e1 _ _; omega)]
      exact hrow j u hj)
    have HG2 := Lib.hid (show g < ((w1.setCell ⟨W.heap.size + 1, 0, none⟩ (.int .i64 0)).setCell ⟨W.heap.size + 1 + 1, 0, none⟩ (.int .i64 0)).heap.size by simpa using hg2)
    have HCAP := Lib.hid hcap
    clear h3 hb1 hlex hrow hg2 hcap
    go_upto_region 5 with fail
    generalize hX : (w1.setCell ⟨W.heap.size + 1, 0, none⟩ (.int .i64 0)).setCell ⟨W.heap.size + 1 + 1, 0, none⟩ (.int .i64 0) = X at *
    have hun := unaries_c X
    clear c1 c2 c3 c4 hX hz1 hz2 hz3
    go_wp2_with fail
    refine hun.mono ?_
    rintro e w2 ⟨B, rfl, hU, hB0, hb2⟩
    have HB2 := Lib.hid hb2
    have HU := Lib.hid hU
    clear hun hb2 hU
    go_upto_region 6 with fail
    generalize hw3 : w2.alloc (.cells #[.slice (some ⟨g, 0, none⟩) (tgL s).length cap, .int .i64 0, .bool m, .map (some B)] 70) = w3
    have hb3 : Below w2.heap.size w2 w3 := by rw [← hw3]; exact (Below.refl _ _).alloc (Nat.le_refl _) _
    have hzX := HB1.out.size
    have hzX2 := HB2.out.size
    have hR3 : Res3 w3 W.heap.size (.int .u8 0) (.string ⟨#[]⟩) (.slice none 0 0) (.slice none 0 0) (.int .i64 0) (.int .i64 0) := (H3.out.below HB2.out H3.out.z).below hb3 (Nat.le_trans H3.out.z hzX2)
    have hBW : Below W.heap.size W w3 := (HB1.out.trans (HB2.out.mono hzX)).trans (hb3.mono (Nat.le_trans hzX hzX2))
    have hbx := Bx4.new w2 (.slice (some ⟨g, 0, none⟩) (tgL s).length cap) (.int .i64 0) (.bool m) (.map (some B)) 70
    rw [hw3] at hbx
    have hX3 := HB2.out.trans (hb3.mono hzX2)
    have hps : PSt w3 w2.heap.size m 0 (tgL s) := by
      refine ⟨⟨g, 0, cap, hbx.c0, HCAP.out, Nat.lt_of_lt_of_le HG2.out hzX2, fun j u hj => ?_⟩, hbx.c1, hbx.c2, ⟨B, hbx.c3, HU.out.lt, ?_⟩, ?_, hbx.lt, HTOK.out, by have := HLEN.out; omega, ?_⟩
      · rw [Nat.zero_add]
        exact (hX3.cell (p := ⟨g, j, none⟩) HG2.out).trans (HROW.out j u hj)
      · exact (hb3.block B HU.out.lt).trans HU.out
      · intro i hi
        have h4 : i = 0 ∨ i = 1 ∨ i = 2 ∨ i = 3 := by omega
        rcases h4 with rfl | rfl | rfl | rfl
        · exact hbx.f0
        · exact hbx.f1
        · exact hbx.f2
        · exact hbx.f3
      · exact ⟨Nat.lt_of_lt_of_le HL.out.1 (Nat.le_trans hzX hzX2), (HL.out.keep (hBW.block _ HL.out.1)).2⟩
    have hform := formula_c w2.heap.size m 0 (tgL s) w3 hps
    have HP3 := Lib.hid hbx.lt
    have HR3 := Lib.hid hR3
    have HBW := Lib.hid hBW
    have HZ2 := Lib.hid (show W.heap.size + 3 ≤ w2.heap.size from Nat.le_trans H3.out.z hzX2)
    clear hw3 hb3 hzX hzX2 hR3 hBW hbx hX3 hps
    cases hx : binC m 0 0 (tgL s) with
    | er a0 e0 =>
      rw [hx] at hform HQ
      simp only [endC] at HQ
      clear hx
      go_wp2_with fail
      refine hform.mono ?_
      rintro e w4 ⟨rfl, hg4⟩
      have hR4 := HR3.out.go hg4 HZ2.out
      refine leaves_cons (f := 31) (args := #[.pointer (some ⟨W.heap.size + 1, 0, none⟩), .pointer (some ⟨W.heap.size + 1 + 1, 0, none⟩)]) (by simp) (by simp [go_sem]) ?_
      refine (catch_panic (W.heap.size + 1) (W.heap.size + 1 + 1) _ _ a0 e0 [] w4 hR4.a hR4.e hR4.fa hR4.fe (by omega)).mono ?_
      rintro e u' w5 ⟨rfl, rfl, hg5, ca, ce⟩
      have hr5 : Bx4 w5 W.heap.size _ _ _ _ := hR4.r.heap (hg5.block _ hR4.r.lt (by omega)) (Nat.lt_of_lt_of_le hR4.r.lt hg5.size)
      have hb5 : Below W.heap.size W w5 := by
        have h4 := HBW.out.trans (Grow.below hg4 HBW.out.size (fun b hb => by have hb : b = w2.heap.size := hb; have := HZ2.out; omega))
        exact h4.trans (Grow.below hg5 h4.size (fun b hb => by rcases hb with hb | hb <;> (have hb : b = _ := hb; omega)))
      obtain ⟨c0, c1, c2, c3, _, _, _, _, _⟩ := hr5
      simp [Leaves, settle, results, Tryd.results21, go_sem, c0, c1, c2, c3, ca, ce]
      rw [HQ.out]
      exact ⟨_, rfl, fval_leaf 0 ⟨#[]⟩ (by omega) (ok_str (by decide)), hb5⟩
    | ok f r =>
      rw [hx] at hform HQ
      simp only [endC] at HQ
      clear hx
      go_wp2_with fail
      refine hform.mono ?_
      rintro e w4 ⟨v, rfl, hv, hp4, hg4⟩
      have HV4 := Lib.hid hv
      obtain ⟨a2, k2, a3, k3, rfl, HREST⟩ := hv
      have HP4 := Lib.hid hp4
      have HG4 := Lib.hid hg4
      clear hp4 hg4 HREST hform
      go_upto_region 7 with fail
      generalize hw5 : w4.alloc (.cells #[.int .u8 f.op, .string f.n, .slice a2 f.args.length k2, .slice a3 f.sub.length k3] 25) = w5
      have hb5 : Below w4.heap.size w4 w5 := by rw [← hw5]; exact (Below.refl _ _).alloc (Nat.le_refl _) _
      have hbT := Bx4.new w4 (.int .u8 f.op) (.string f.n) (.slice a2 f.args.length k2) (.slice a3 f.sub.length k3) 25
      rw [hw5] at hbT
      have hp5 := HP4.out.grow hb5
      have hR5 := (HR3.out.go HG4.out HZ2.out).below hb5 (HR3.out.go HG4.out HZ2.out).z
      have hv5 := HV4.out.keep (P := w2.heap.size) (GP.of hb5) HP3.out (Nat.le_refl _)
      have hB5 : Below W.heap.size W w5 := by
        have h4 := HBW.out.trans (Grow.below HG4.out HBW.out.size (fun b hb => by have hb : b = w2.heap.size := hb; have := HZ2.out; omega))
        exact h4.trans (hb5.mono h4.size)
      have hat := atEnd_c w2.heap.size 0 m r w5 hp5
      have HP5 := Lib.hid hp5
      have HR5 := Lib.hid hR5
      have HV5 := Lib.hid hv5
      have HB5 := Lib.hid hB5
      have HBT := Lib.hid hbT
      have HZ4 := Lib.hid HG4.out.size
      clear hw5 hb5 hbT hp5 hR5 hv5 hB5
      cases hend : ((hd r).k == 5) with
      | false =>
        rw [hend] at hat HQ
        simp only [Bool.false_eq_true, if_false] at HQ
        have hfl := fail_c w2.heap.size 0 m r w5 HP5.out 50
        clear hend
        go_wp2_with fail
        refine hat.mono ?_
        rintro e w6 ⟨rfl, rfl⟩
        go_wp2_with fail
        refine hfl.mono ?_
        rintro e w6 ⟨rfl, rfl⟩
        refine leaves_cons (f := 31) (args := #[.pointer (some ⟨W.heap.size + 1, 0, none⟩), .pointer (some ⟨W.heap.size + 1 + 1, 0, none⟩)]) (by simp) (by simp [go_sem]) ?_
        refine (catch_panic (W.heap.size + 1) (W.heap.size + 1 + 1) _ _ _ 50 [] _ HR5.out.a HR5.out.e HR5.out.fa HR5.out.fe (by omega)).mono ?_
        rintro e u' w7 ⟨rfl, rfl, hg7, ca, ce⟩
        have hr7 : Bx4 w7 W.heap.size _ _ _ _ := HR5.out.r.heap (hg7.block _ HR5.out.r.lt (by omega)) (Nat.lt_of_lt_of_le HR5.out.r.lt hg7.size)
        have hb7 : Below W.heap.size W w7 := HB5.out.trans (Grow.below hg7 HB5.out.size (fun b hb => by rcases hb with hb | hb <;> (have hb : b = _ := hb; omega)))
        obtain ⟨c0, c1, c2, c3, _, _, _, _, _⟩ := hr7
        simp [Leaves, settle, results, Tryd.results21, go_sem, c0, c1, c2, c3, ca, ce]
        rw [HQ.out]
        exact ⟨_, rfl, fval_leaf 0 ⟨#[]⟩ (by omega) (ok_str (by decide)), hb7⟩
      | true =>
        rw [hend] at hat HQ
        simp only [if_true] at HQ
        clear hend
        obtain ⟨b2, j2, b3, j3, he, hop, hnm, htd, hfd⟩ := id HV5.out
        simp only [Value.agg.injEq, Array.mk.injEq, List.cons.injEq, Value.slice.injEq, true_and, and_true] at he
        obtain ⟨⟨rfl, rfl⟩, rfl, rfl⟩ := he
        have hrt := right_c _ _ _ _ f w5.heap.size w5 ⟨rfl, hop, rfl, hnm, htd.slT (fun b hb => hb.2), hfd.slF (fun b hb => hb.2)⟩ (Nat.le_refl _) (HT.out.below HB5.out HT.out.1)
        obtain ⟨t0, t1, t2, t3, _, _, _, _, hTz⟩ := id HBT.out
        clear hop hnm htd hfd
        cases hrb : rightB false f with
        | false =>
          rw [hrb] at hrt HQ
          simp only [Bool.false_eq_true, if_false] at HQ
          clear hrb
          go_wp2_with fail
          refine hat.mono ?_
          rintro e w6 ⟨rfl, rfl⟩
          go_wp2_with fail
          refine hrt.mono ?_
          rintro e w7 ⟨rfl, hb7⟩
          have hR7 := HR5.out.below hb7 HR5.out.z
          have HB7 := Lib.hid (HB5.out.trans (hb7.mono HB5.out.size))
          have HR7 := Lib.hid hR7
          obtain ⟨⟨c0, c1, c2, c3, f0, f1, f2, f3, hlt⟩, ca, ce, fa, fe, hz⟩ := id hR7
          clear hb7 hR7 hrt hat t0 t1 t2 t3 hTz
          go_upto_region 10 with fail
          go_wp2_with fail
          refine leaves_cons (f := 31) (args := #[.pointer (some ⟨W.heap.size + 1, 0, none⟩), .pointer (some ⟨W.heap.size + 1 + 1, 0, none⟩)]) (by simp) (by simp [go_sem]) ?_
          refine (catch_idle ⟨W.heap.size + 1, 0, none⟩ ⟨W.heap.size + 1 + 1, 0, none⟩ _).mono ?_
          rintro e u' w8 ⟨rfl, rfl, hb8⟩
          have hY : Res3 (((put4 w7 W.heap.size (.int .u8 0) (.string ⟨#[]⟩) (.slice none 0 0) (.slice none 0 0)).setCell ⟨W.heap.size + 1, 0, none⟩ (.int .i64 0)).setCell ⟨W.heap.size + 1 + 1, 0, none⟩ (.int .i64 3)) W.heap.size (.int .u8 0) (.string ⟨#[]⟩) (.slice none 0 0) (.slice none 0 0) (.int .i64 0) (.int .i64 3) :=
            ((HR7.out.put _ _ _ _).setA _).setE _
          have hbY : Below W.heap.size W (((put4 w7 W.heap.size (.int .u8 0) (.string ⟨#[]⟩) (.slice none 0 0) (.slice none 0 0)).setCell ⟨W.heap.size + 1, 0, none⟩ (.int .i64 0)).setCell ⟨W.heap.size + 1 + 1, 0, none⟩ (.int .i64 3)) :=
            ((put4_below HB7.out (Nat.le_refl _) _ _ _ _).setCell (p := ⟨W.heap.size + 1, 0, none⟩) (Nat.le_succ _) _).setCell (p := ⟨W.heap.size + 1 + 1, 0, none⟩) (by show W.heap.size ≤ W.heap.size + 1 + 1; omega) _
          have hb8' : Below (((put4 w7 W.heap.size (.int .u8 0) (.string ⟨#[]⟩) (.slice none 0 0) (.slice none 0 0)).setCell ⟨W.heap.size + 1, 0, none⟩ (.int .i64 0)).setCell ⟨W.heap.size + 1 + 1, 0, none⟩ (.int .i64 3)).heap.size (((put4 w7 W.heap.size (.int .u8 0) (.string ⟨#[]⟩) (.slice none 0 0) (.slice none 0 0)).setCell ⟨W.heap.size + 1, 0, none⟩ (.int .i64 0)).setCell ⟨W.heap.size + 1 + 1, 0, none⟩ (.int .i64 3)) w8 := hb8
          obtain ⟨⟨d0, d1, d2, d3, _, _, _, _, _⟩, da, de, _, _, _⟩ := hY.below hb8' hY.z
          have hbF := hbY.trans (hb8'.mono hbY.size)
          clear hb8 hY hbY c0 c1 c2 c3 ca ce
          simp [Leaves, settle, results, Tryd.results21, go_sem, d0, d1, d2, d3, da, de]
          rw [HQ.out]
          exact ⟨_, rfl, fval_leaf 0 ⟨#[]⟩ (by omega) (ok_str (by decide)), hbF⟩
        | true =>
          rw [hrb] at hrt HQ
          simp only [if_true] at HQ
          clear hrb
          go_wp2_with fail
          refine hat.mono ?_
          rintro e w6 ⟨rfl, rfl⟩
          go_wp2_with fail
          refine hrt.mono ?_
          rintro e w7 ⟨rfl, hb7⟩
          have hR7 := HR5.out.below hb7 HR5.out.z
          have HB7 := Lib.hid (HB5.out.trans (hb7.mono HB5.out.size))
          have HR7 := Lib.hid hR7
          have hT7 := HBT.out.heap (hb7.block _ HBT.out.lt) (Nat.lt_of_lt_of_le HBT.out.lt hb7.size)
          have HV7 := Lib.hid (HV5.out.keep (P := w2.heap.size) (GP.of hb7) HP3.out (Nat.le_refl _))
          obtain ⟨t0, t1, t2, t3, _, _, _, _, hTz⟩ := id hT7
          obtain ⟨⟨c0, c1, c2, c3, f0, f1, f2, f3, hlt⟩, ca, ce, fa, fe, hz⟩ := id hR7
          clear hb7 hR7 hrt hat hT7
          go_upto_region 11 with fail
          go_wp2_with fail
          refine leaves_cons (f := 31) (args := #[.pointer (some ⟨W.heap.size + 1, 0, none⟩), .pointer (some ⟨W.heap.size + 1 + 1, 0, none⟩)]) (by simp) (by simp [go_sem]) ?_
          refine (catch_idle ⟨W.heap.size + 1, 0, none⟩ ⟨W.heap.size + 1 + 1, 0, none⟩ _).mono ?_
          rintro e u' w8 ⟨rfl, rfl, hb8⟩
          have hY : Res3 (((put4 w7 W.heap.size (.int .u8 f.op) (.string f.n) (.slice a2 f.args.length k2) (.slice a3 f.sub.length k3)).setCell ⟨W.heap.size + 1, 0, none⟩ (.int .i64 0)).setCell ⟨W.heap.size + 1 + 1, 0, none⟩ (.int .i64 0)) W.heap.size (.int .u8 f.op) (.string f.n) (.slice a2 f.args.length k2) (.slice a3 f.sub.length k3) (.int .i64 0) (.int .i64 0) :=
            ((HR7.out.put _ _ _ _).setA _).setE _
          have hbY : Below W.heap.size W (((put4 w7 W.heap.size (.int .u8 f.op) (.string f.n) (.slice a2 f.args.length k2) (.slice a3 f.sub.length k3)).setCell ⟨W.heap.size + 1, 0, none⟩ (.int .i64 0)).setCell ⟨W.heap.size + 1 + 1, 0, none⟩ (.int .i64 0)) :=
            ((put4_below HB7.out (Nat.le_refl _) _ _ _ _).setCell (p := ⟨W.heap.size + 1, 0, none⟩) (Nat.le_succ _) _).setCell (p := ⟨W.heap.size + 1 + 1, 0, none⟩) (by show W.heap.size ≤ W.heap.size + 1 + 1; omega) _
          have hb8' : Below (((put4 w7 W.heap.size (.int .u8 f.op) (.string f.n) (.slice a2 f.args.length k2) (.slice a3 f.sub.length k3)).setCell ⟨W.heap.size + 1, 0, none⟩ (.int .i64 0)).setCell ⟨W.heap.size + 1 + 1, 0, none⟩ (.int .i64 0)).heap.size (((put4 w7 W.heap.size (.int .u8 f.op) (.string f.n) (.slice a2 f.args.length k2) (.slice a3 f.sub.length k3)).setCell ⟨W.heap.size + 1, 0, none⟩ (.int .i64 0)).setCell ⟨W.heap.size + 1 + 1, 0, none⟩ (.int .i64 0)) w8 := hb8
          obtain ⟨⟨d0, d1, d2, d3, _, _, _, _, _⟩, da, de, _, _, _⟩ := hY.below hb8' hY.z
          have hbF := hbY.trans (hb8'.mono hbY.size)
          have hvF : FVal W.heap.size w8 (.agg #[.int .u8 f.op, .string f.n, .slice a2 f.args.length k2, .slice a3 f.sub.length k3]) f := by
            have hz3 : W.heap.size < w3.heap.size := by have := HZ2.out; have := HP3.out; omega
            have h1 := (HV7.out.put4 (R := W.heap.size) hz3 (.int .u8 f.op) (.string f.n) (.slice a2 f.args.length k2) (.slice a3 f.sub.length k3))
            have hg1 : Grow (fun b => b = W.heap.size + 1 ∨ b = W.heap.size + 1 + 1) (put4 w7 W.heap.size (.int .u8 f.op) (.string f.n) (.slice a2 f.args.length k2) (.slice a3 f.sub.length k3)) w8 :=
              ((Grow.setCell (O := fun b => b = W.heap.size + 1 ∨ b = W.heap.size + 1 + 1) _ _ (.inl rfl)).trans (Grow.setCell (O := fun b => b = W.heap.size + 1 ∨ b = W.heap.size + 1 + 1) _ _ (.inr rfl)) (Sub.refl _ _)).trans (Grow.of_below hb8') (Sub.refl _ _)
            obtain ⟨e2, i2, e3, i3, he, hop, hnm, htd, hfd⟩ := h1
            have hz3' : W.heap.size + 4 ≤ w3.heap.size := by have := HZ2.out; have := HP3.out; omega
            have q1 : ∀ b, Own w3.heap.size (put4 w7 W.heap.size (.int .u8 f.op) (.string f.n) (.slice a2 f.args.length k2) (.slice a3 f.sub.length k3)) b → ∀ q, w8.cell? ⟨b, q, none⟩ = (put4 w7 W.heap.size (.int .u8 f.op) (.string f.n) (.slice a2 f.args.length k2) (.slice a3 f.sub.length k3)).cell? ⟨b, q, none⟩ := fun b hb q => hg1.cell (p := ⟨b, q, none⟩) hb.2 (fun e => by have := hb.1; rcases e with e | e <;> (have e : b = _ := e; omega))
            have q2 : ∀ b, Own w3.heap.size (put4 w7 W.heap.size (.int .u8 f.op) (.string f.n) (.slice a2 f.args.length k2) (.slice a3 f.sub.length k3)) b → Own W.heap.size w8 b := fun b hb => ⟨by have := hb.1; omega, Nat.lt_of_lt_of_le hb.2 hg1.size⟩
            exact ⟨e2, i2, e3, i3, he, hop, hnm, htd.keep q1 q2, hfd.keep q1 q2⟩
          clear hb8 hY hbY c0 c1 c2 c3 ca ce
          simp [Leaves, settle, results, Tryd.results21, go_sem, d0, d1, d2, d3, da, de]
          rw [HQ.out]
          exact ⟨_, rfl, hvF, hbF⟩
end Go.Proofs.YtkeckecdhcknhaaDoor.Ps

/-
  The contract of read, for schemas.
-/
namespace Go.Proofs.YtkeckecdhcknhaaDoor.Ps
open Go Go.RowKit Go.Shelf Go.Proofs.YtkeckecdhcknhaaDoor.Fm Go.Proofs.YtkeckecdhcknhaaDoor.Lx
set_option linter.unusedVariables false
set_option linter.unusedSimpArgs false
set_option maxRecDepth 20000 in
set_option maxHeartbeats 4000000 in
theorem readF_Schema (s : ByteArray) (m : Bool) (W : World) (hs : s.size ≤ 16384) (hT : RTab W) (hL : LTab W W.heap.size) :
    Calls Tryd.prog 21 #[.string s, .bool m, .func (.func 22) #[] #[], .func (.func 7) #[] #[]] W (FormQ (formRes m (rightB true) s) W) := by
  have hlex := fun w => lexp_c s w hs
  have hmf : ∀ (fn : Fn) (first cap : Array Value) (w : World), (Instr.makeFunc fn first cap).run Tryd.prog w = .ok (.func fn first cap) w := fun _ _ _ _ => rfl
  obtain ⟨Q, hQ⟩ : ∃ Q : Ending → World → Prop, Q = FormQ (formRes m (rightB true) s) W := ⟨_, rfl⟩
  rw [← hQ]
  unfold formRes at hQ
  unfold LxP at hlex
  cases hle : lexErr s with
  | some an =>
    obtain ⟨a, n⟩ := an
    have hn0 : (n != 0) = true := bne_iff_ne.2 (lexErr_ne hle)
    rw [hle] at hlex hQ
    simp only at hlex hQ
    have HQ := Lib.hid hQ
    clear hQ hle
    go_enter_defers Tryd.func21, Tryd.ntmps21
    go_wp2_with fail
    refine (hlex _).mono ?_
    rintro e w1 ⟨rfl, hb1⟩
    have h3 := (res3_new W (.int .u8 0) (.string ⟨#[]⟩) (.slice none 0 0) (.slice none 0 0) (.int .i64 0) (.int .i64 0) 25 3 30).below hb1 (by simp)
    have hz1 := hb1.size
    simp only [World.size_alloc] at hz1
    have c1 := h3.a
    have c2 := h3.e
    have c3 := h3.fa
    have c4 := h3.fe
    have hz2 : W.heap.size + 1 < w1.heap.size := by omega
    have hz3 : W.heap.size + 1 + 1 < w1.heap.size := by omega
    have H3 := Lib.hid ((h3.setA (.int .i64 a)).setE (.int .i64 n))
    have HB1 := Lib.hid ((((((Below.refl W.heap.size W).alloc (Nat.le_refl _) (.cells #[.int .u8 0, .string ⟨#[]⟩, .slice none 0 0, .slice none 0 0] 25)).alloc (by simp) (.cells #[.int .i64 0] 3)).alloc (by simp; omega) (.cells #[.int .i64 0] 30)).trans (hb1.mono (by simp; omega))).setCell (p := ⟨W.heap.size + 1, 0, none⟩) (Nat.le_succ _) (.int .i64 a) |>.setCell (p := ⟨W.heap.size + 1 + 1, 0, none⟩) (by show W.heap.size ≤ W.heap.size + 1 + 1; omega) (.int .i64 n))
    clear h3 hb1 hlex
    go_upto_region 3 with fail
    generalize hX : (w1.setCell ⟨W.heap.size + 1, 0, none⟩ (.int .i64 a)).setCell ⟨W.heap.size + 1 + 1, 0, none⟩ (.int .i64 n) = X at *
    have HS := Lib.hid (show ∀ w', Res3 w' W.heap.size (.int .u8 0) (.string ⟨#[]⟩) (.slice none 0 0) (.slice none 0 0) (.int .i64 a) (.int .i64 n) → _ from fun w' h => And.intro h.r.c0 (And.intro h.r.c1 (And.intro h.r.c2 (And.intro h.r.c3 (And.intro h.a h.e)))))
    have h4 := H3.out.below (Below.drew (Below.refl X.heap.size X)) H3.out.z
    have hb4 := Below.drew HB1.out
    clear c1 c2 c3 c4 hz2 hz3 hX H3
    refine wp_region_SP (fun c w' => False) (fun c a' w' hd h => h.elim) (fun w' => w'.cell? ⟨W.heap.size, 0, none⟩ = some (.int .u8 0) ∧ w'.cell? ⟨W.heap.size, 1, none⟩ = some (.string ⟨#[]⟩) ∧ w'.cell? ⟨W.heap.size, 2, none⟩ = some (.slice none 0 0) ∧ w'.cell? ⟨W.heap.size, 3, none⟩ = some (.slice none 0 0) ∧ w'.cell? ⟨W.heap.size + 1, 0, none⟩ = some (.int .i64 a) ∧ w'.cell? ⟨W.heap.size + 1 + 1, 0, none⟩ = some (.int .i64 n)) [] 6 #[false, false, false, false, false, false] (by kernel_rfl) (by kernel_rfl) (by kernel_rfl) (HS.out _ h4) (fun hHeld => ?_)
    generalize X.drew = Y at *
    refine wpAnyS_take (i := 0) (oi := ⟨some 22, _, _, _, _, _⟩) (v := .agg #[.int .u8 0, .string ⟨#[]⟩, .slice none 0 0, .slice none 0 0]) rfl (by kernel_rfl) (by kernel_rfl) (by kernel_rfl) (by kernel_rfl) (fun _ _ _ h => Both.panic h) (Or.inl ⟨by rfl, ?_⟩) (by assumption) ?_
    · intro w' hSw
      obtain ⟨k1', k2', k3', k4', k5', k6'⟩ := hSw
      go_simp
    simp only [Act.put, List.setIfInBounds_toArray, List.set_cons_zero, List.set_cons_succ]
    refine wpAnyS_take (i := 1) (oi := ⟨some 23, _, _, _, _, _⟩) (v := .int .i64 a) rfl (by kernel_rfl) (by kernel_rfl) (by kernel_rfl) (by kernel_rfl) (fun _ _ _ h => Both.panic h) (Or.inl ⟨by rfl, ?_⟩) (by assumption) ?_
    · intro w' hSw
      obtain ⟨k1', k2', k3', k4', k5', k6'⟩ := hSw
      go_simp
    simp only [Act.put, List.setIfInBounds_toArray, List.set_cons_zero, List.set_cons_succ]
    refine wpAnyS_take (i := 2) (oi := ⟨some 24, _, _, _, _, _⟩) (v := .int .i64 n) rfl (by kernel_rfl) (by kernel_rfl) (by kernel_rfl) (by kernel_rfl) (fun _ _ _ h => Both.panic h) (Or.inl ⟨by rfl, ?_⟩) (by assumption) ?_
    · intro w' hSw
      obtain ⟨k1', k2', k3', k4', k5', k6'⟩ := hSw
      go_simp
    simp only [Act.put, List.setIfInBounds_toArray, List.set_cons_zero, List.set_cons_succ]
    obtain ⟨⟨c0, c1, c2, c3, f0, f1, f2, f3, hlt⟩, ca, ce, fa, fe, hz⟩ := id h4
    have H4 := Lib.hid h4
    have HB4 := Lib.hid hb4
    clear h4 hb4
    refine wpAnyS_one (i := 3) (oi := ⟨none, _, _, _, _, _⟩) rfl (by kernel_rfl) (by rfl) (fun K hK => ?_)
    go_simp
    have h5 := H4.out.put (.int .u8 0) (.string ⟨#[]⟩) (.slice none 0 0) (.slice none 0 0)
    have hb5 := put4_below HB4.out (Nat.le_refl _) (.int .u8 0) (.string ⟨#[]⟩) (.slice none 0 0) (.slice none 0 0)
    change K _ (put4 Y W.heap.size (.int .u8 0) (.string ⟨#[]⟩) (.slice none 0 0) (.slice none 0 0))
    generalize put4 Y W.heap.size (.int .u8 0) (.string ⟨#[]⟩) (.slice none 0 0) (.slice none 0 0) = Z at *
    clear c0 c1 c2 c3 f0 f1 f2 f3 hlt ca ce fa fe hz H4 HB4 hHeld
    have hHeld := HS.out _ h5
    refine hK _ _ (fun _ => hHeld) ?_
    clear hK K
    simp only [Act.put, List.setIfInBounds_toArray, List.set_cons_zero, List.set_cons_succ]
    refine wpAnyS_one (i := 4) (oi := ⟨none, _, _, _, _, _⟩) rfl (by kernel_rfl) (by rfl) (fun K hK => ?_)
    have ca := h5.a
    have fa := h5.fa
    go_simp
    have h6 := h5.setA (.int .i64 a)
    have hb6 := hb5.setCell (p := ⟨W.heap.size + 1, 0, none⟩) (Nat.le_succ _) (.int .i64 a)
    generalize Z.setCell ⟨W.heap.size + 1, 0, none⟩ (.int .i64 a) = Z1 at *
    clear ca fa h5 hb5 hHeld
    have hHeld := HS.out _ h6
    refine hK _ _ (fun _ => hHeld) ?_
    clear hK K
    simp only [Act.put, List.setIfInBounds_toArray, List.set_cons_zero, List.set_cons_succ]
    refine wpAnyS_one (i := 5) (oi := ⟨none, _, _, _, _, _⟩) rfl (by kernel_rfl) (by rfl) (fun K hK => ?_)
    have ca := h6.e
    have fa := h6.fe
    go_simp
    have h7 := h6.setE (.int .i64 n)
    have hb7 := hb6.setCell (p := ⟨W.heap.size + 1 + 1, 0, none⟩) (by show W.heap.size ≤ W.heap.size + 1 + 1; omega) (.int .i64 n)
    generalize Z1.setCell ⟨W.heap.size + 1 + 1, 0, none⟩ (.int .i64 n) = Z2 at *
    clear ca fa h6 hb6 hHeld
    have hHeld := HS.out _ h7
    refine hK _ _ (fun _ => hHeld) ?_
    clear hK K
    refine wpAnyS_done (by kernel_rfl) ?_
    refine Both.normal ?_
    clear hHeld HS
    go_wp2_with fail
    obtain ⟨⟨c0, c1, c2, c3, _, _, _, _, _⟩, ca, ce, _, _, _⟩ := id h7
    simp [bodyPostD, Leaves, settle, results, Tryd.results21, go_sem, c0, c1, c2, c3, ca, ce]
    rw [HQ.out]
    exact ⟨_, rfl, fval_leaf 0 ⟨#[]⟩ (by omega) (ok_str (by decide)), hb7⟩
  | none =>
    obtain ⟨htok, hlen⟩ := tok_tgL hs hle
    rw [hle] at hlex hQ
    simp only at hlex hQ
    have HQ := Lib.hid hQ
    have HTOK := Lib.hid htok
    have HLEN := Lib.hid hlen
    have HT := Lib.hid hT
    have HL := Lib.hid hL
    clear hQ hle htok hlen hT hL
    go_enter_defers Tryd.func21, Tryd.ntmps21
    go_wp2_with fail
    refine (hlex _).mono ?_
    rintro e w1 ⟨g, cap, rfl, hb1, hcap, hg1, hg2, hrow⟩
    have h3 := (res3_new W (.int .u8 0) (.string ⟨#[]⟩) (.slice none 0 0) (.slice none 0 0) (.int .i64 0) (.int .i64 0) 25 3 30).below hb1 (by simp)
    have hz1 := hb1.size
    simp only [World.size_alloc] at hz1 hg1
    have c1 := h3.a
    have c2 := h3.e
    have c3 := h3.fa
    have c4 := h3.fe
    have hz2 : W.heap.size + 1 < w1.heap.size := by omega
    have hz3 : W.heap.size + 1 + 1 < w1.heap.size := by omega
    have H3 := Lib.hid ((h3.setA (.int .i64 0)).setE (.int .i64 0))
    have HB1 := Lib.hid ((((((Below.refl W.heap.size W).alloc (Nat.le_refl _) (.cells #[.int .u8 0, .string ⟨#[]⟩, .slice none 0 0, .slice none 0 0] 25)).alloc (by simp) (.cells #[.int .i64 0] 3)).alloc (by simp; omega) (.cells #[.int .i64 0] 30)).trans (hb1.mono (by simp; omega))).setCell (p := ⟨W.heap.size + 1, 0, none⟩) (Nat.le_succ _) (.int .i64 0) |>.setCell (p := ⟨W.heap.size + 1 + 1, 0, none⟩) (by show W.heap.size ≤ W.heap.size + 1 + 1; omega) (.int .i64 0))
    have HROW := Lib.hid (show ∀ j u, (flatG (tgL s))[j]? = some u → ((w1.setCell ⟨W.heap.size + 1, 0, none⟩ (.int .i64 0)).setCell ⟨W.heap.size + 1 + 1, 0, none⟩ (.int .i64 0)).cell? ⟨g, j, none⟩ = some u from fun j u hj => by
      rw [World.cell?_setCell_other _ _ _ _ (fun e => by injection e with e1 _ _; omega), World.cell?_setCell_other _ _ _ _ (fun e => by injection e with e1 _ _; omega)]
      exact hrow j u hj)
    have HG2 := Lib.hid (show g < ((w1.setCell ⟨W.heap.size + 1, 0, none⟩ (.int .i64 0)).setCell ⟨W.heap.size + 1 + 1, 0, none⟩ (.int .i64 0)).heap.size by simpa using hg2)
    have HCAP := Lib.hid hcap
    clear h3 hb1 hlex hrow hg2 hcap
    go_upto_region 5 with fail
    generalize hX : (w1.setCell ⟨W.heap.size + 1, 0, none⟩ (.int .i64 0)).setCell ⟨W.heap.size + 1 + 1, 0, none⟩ (.int .i64 0) = X at *
    have hun := unaries_c X
    clear c1 c2 c3 c4 hX hz1 hz2 hz3
    go_wp2_with fail
    refine hun.mono ?_
    rintro e w2 ⟨B, rfl, hU, hB0, hb2⟩
    have HB2 := Lib.hid hb2
    have HU := Lib.hid hU
    clear hun hb2 hU
    go_upto_region 6 with fail
    generalize hw3 : w2.alloc (.cells #[.slice (some ⟨g, 0, none⟩) (tgL s).length cap, .int .i64 0, .bool m, .map (some B)] 70) = w3
    have hb3 : Below w2.heap.size w2 w3 := by rw [← hw3]; exact (Below.refl _ _).alloc (Nat.le_refl _) _
    have hzX := HB1.out.size
    have hzX2 := HB2.out.size
    have hR3 : Res3 w3 W.heap.size (.int .u8 0) (.string ⟨#[]⟩) (.slice none 0 0) (.slice none 0 0) (.int .i64 0) (.int .i64 0) := (H3.out.below HB2.out H3.out.z).below hb3 (Nat.le_trans H3.out.z hzX2)
    have hBW : Below W.heap.size W w3 := (HB1.out.trans (HB2.out.mono hzX)).trans (hb3.mono (Nat.le_trans hzX hzX2))
    have hbx := Bx4.new w2 (.slice (some ⟨g, 0, none⟩) (tgL s).length cap) (.int .i64 0) (.bool m) (.map (some B)) 70
    rw [hw3] at hbx
    have hX3 := HB2.out.trans (hb3.mono hzX2)
    have hps : PSt w3 w2.heap.size m 0 (tgL s) := by
      refine ⟨⟨g, 0, cap, hbx.c0, HCAP.out, Nat.lt_of_lt_of_le HG2.out hzX2, fun j u hj => ?_⟩, hbx.c1, hbx.c2, ⟨B, hbx.c3, HU.out.lt, ?_⟩, ?_, hbx.lt, HTOK.out, by have := HLEN.out; omega, ?_⟩
      · rw [Nat.zero_add]
        exact (hX3.cell (p := ⟨g, j, none⟩) HG2.out).trans (HROW.out j u hj)
      · exact (hb3.block B HU.out.lt).trans HU.out
      · intro i hi
        have h4 : i = 0 ∨ i = 1 ∨ i = 2 ∨ i = 3 := by omega
        rcases h4 with rfl | rfl | rfl | rfl
        · exact hbx.f0
        · exact hbx.f1
        · exact hbx.f2
        · exact hbx.f3
      · exact ⟨Nat.lt_of_lt_of_le HL.out.1 (Nat.le_trans hzX hzX2), (HL.out.keep (hBW.block _ HL.out.1)).2⟩
    have hform := formula_c w2.heap.size m 0 (tgL s) w3 hps
    have HP3 := Lib.hid hbx.lt
    have HR3 := Lib.hid hR3
    have HBW := Lib.hid hBW
    have HZ2 := Lib.hid (show W.heap.size + 3 ≤ w2.heap.size from Nat.le_trans H3.out.z hzX2)
    clear hw3 hb3 hzX hzX2 hR3 hBW hbx hX3 hps
    cases hx : binC m 0 0 (tgL s) with
    | er a0 e0 =>
      rw [hx] at hform HQ
      simp only [endC] at HQ
      clear hx
      go_wp2_with fail
      refine hform.mono ?_
      rintro e w4 ⟨rfl, hg4⟩
      have hR4 := HR3.out.go hg4 HZ2.out
      refine leaves_cons (f := 31) (args := #[.pointer (some ⟨W.heap.size + 1, 0, none⟩), .pointer (some ⟨W.heap.size + 1 + 1, 0, none⟩)]) (by simp) (by simp [go_sem]) ?_
      refine (catch_panic (W.heap.size + 1) (W.heap.size + 1 + 1) _ _ a0 e0 [] w4 hR4.a hR4.e hR4.fa hR4.fe (by omega)).mono ?_
      rintro e u' w5 ⟨rfl, rfl, hg5, ca, ce⟩
      have hr5 : Bx4 w5 W.heap.size _ _ _ _ := hR4.r.heap (hg5.block _ hR4.r.lt (by omega)) (Nat.lt_of_lt_of_le hR4.r.lt hg5.size)
      have hb5 : Below W.heap.size W w5 := by
        have h4 := HBW.out.trans (Grow.below hg4 HBW.out.size (fun b hb => by have hb : b = w2.heap.size := hb; have := HZ2.out; omega))
        exact h4.trans (Grow.below hg5 h4.size (fun b hb => by rcases hb with hb | hb <;> (have hb : b = _ := hb; omega)))
      obtain ⟨c0, c1, c2, c3, _, _, _, _, _⟩ := hr5
      simp [Leaves, settle, results, Tryd.results21, go_sem, c0, c1, c2, c3, ca, ce]
      rw [HQ.out]
      exact ⟨_, rfl, fval_leaf 0 ⟨#[]⟩ (by omega) (ok_str (by decide)), hb5⟩
    | ok f r =>
      rw [hx] at hform HQ
      simp only [endC] at HQ
      clear hx
      go_wp2_with fail
      refine hform.mono ?_
      rintro e w4 ⟨v, rfl, hv, hp4, hg4⟩
      have HV4 := Lib.hid hv
      obtain ⟨a2, k2, a3, k3, rfl, HREST⟩ := hv
      have HP4 := Lib.hid hp4
      have HG4 := Lib.hid hg4
      clear hp4 hg4 HREST hform
      go_upto_region 7 with fail
      generalize hw5 : w4.alloc (.cells #[.int .u8 f.op, .string f.n, .slice a2 f.args.length k2, .slice a3 f.sub.length k3] 25) = w5
      have hb5 : Below w4.heap.size w4 w5 := by rw [← hw5]; exact (Below.refl _ _).alloc (Nat.le_refl _) _
      have hbT := Bx4.new w4 (.int .u8 f.op) (.string f.n) (.slice a2 f.args.length k2) (.slice a3 f.sub.length k3) 25
      rw [hw5] at hbT
      have hp5 := HP4.out.grow hb5
      have hR5 := (HR3.out.go HG4.out HZ2.out).below hb5 (HR3.out.go HG4.out HZ2.out).z
      have hv5 := HV4.out.keep (P := w2.heap.size) (GP.of hb5) HP3.out (Nat.le_refl _)
      have hB5 : Below W.heap.size W w5 := by
        have h4 := HBW.out.trans (Grow.below HG4.out HBW.out.size (fun b hb => by have hb : b = w2.heap.size := hb; have := HZ2.out; omega))
        exact h4.trans (hb5.mono h4.size)
      have hat := atEnd_c w2.heap.size 0 m r w5 hp5
      have HP5 := Lib.hid hp5
      have HR5 := Lib.hid hR5
      have HV5 := Lib.hid hv5
      have HB5 := Lib.hid hB5
      have HBT := Lib.hid hbT
      have HZ4 := Lib.hid HG4.out.size
      clear hw5 hb5 hbT hp5 hR5 hv5 hB5
      cases hend : ((hd r).k == 5) with
      | false =>
        rw [hend] at hat HQ
        simp only [Bool.false_eq_true, if_false] at HQ
        have hfl := fail_c w2.heap.size 0 m r w5 HP5.out 50
        clear hend
        go_wp2_with fail
        refine hat.mono ?_
        rintro e w6 ⟨rfl, rfl⟩
        go_wp2_with fail
        refine hfl.mono ?_
        rintro e w6 ⟨rfl, rfl⟩
        refine leaves_cons (f := 31) (args := #[.pointer (some ⟨W.heap.size + 1, 0, none⟩), .pointer (some ⟨W.heap.size + 1 + 1, 0, none⟩)]) (by simp) (by simp [go_sem]) ?_
        refine (catch_panic (W.heap.size + 1) (W.heap.size + 1 + 1) _ _ _ 50 [] _ HR5.out.a HR5.out.e HR5.out.fa HR5.out.fe (by omega)).mono ?_
        rintro e u' w7 ⟨rfl, rfl, hg7, ca, ce⟩
        have hr7 : Bx4 w7 W.heap.size _ _ _ _ := HR5.out.r.heap (hg7.block _ HR5.out.r.lt (by omega)) (Nat.lt_of_lt_of_le HR5.out.r.lt hg7.size)
        have hb7 : Below W.heap.size W w7 := HB5.out.trans (Grow.below hg7 HB5.out.size (fun b hb => by rcases hb with hb | hb <;> (have hb : b = _ := hb; omega)))
        obtain ⟨c0, c1, c2, c3, _, _, _, _, _⟩ := hr7
        simp [Leaves, settle, results, Tryd.results21, go_sem, c0, c1, c2, c3, ca, ce]
        rw [HQ.out]
        exact ⟨_, rfl, fval_leaf 0 ⟨#[]⟩ (by omega) (ok_str (by decide)), hb7⟩
      | true =>
        rw [hend] at hat HQ
        simp only [if_true] at HQ
        clear hend
        obtain ⟨b2, j2, b3, j3, he, hop, hnm, htd, hfd⟩ := id HV5.out
        simp only [Value.agg.injEq, Array.mk.injEq, List.cons.injEq, Value.slice.injEq, true_and, and_true] at he
        obtain ⟨⟨rfl, rfl⟩, rfl, rfl⟩ := he
        have hrt := schema_c _ _ _ _ f w5.heap.size w5 ⟨rfl, hop, rfl, hnm, htd.slT (fun b hb => hb.2), hfd.slF (fun b hb => hb.2)⟩ (Nat.le_refl _) (HT.out.below HB5.out HT.out.1)
        obtain ⟨t0, t1, t2, t3, _, _, _, _, hTz⟩ := id HBT.out
        clear hop hnm htd hfd
        cases hrb : rightB true f with
        | false =>
          rw [hrb] at hrt HQ
          simp only [Bool.false_eq_true, if_false] at HQ
          clear hrb
          go_wp2_with fail
          refine hat.mono ?_
          rintro e w6 ⟨rfl, rfl⟩
          go_wp2_with fail
          refine hrt.mono ?_
          rintro e w7 ⟨rfl, hb7⟩
          have hR7 := HR5.out.below hb7 HR5.out.z
          have HB7 := Lib.hid (HB5.out.trans (hb7.mono HB5.out.size))
          have HR7 := Lib.hid hR7
          obtain ⟨⟨c0, c1, c2, c3, f0, f1, f2, f3, hlt⟩, ca, ce, fa, fe, hz⟩ := id hR7
          clear hb7 hR7 hrt hat t0 t1 t2 t3 hTz
          go_upto_region 10 with fail
          go_wp2_with fail
          refine leaves_cons (f := 31) (args := #[.pointer (some ⟨W.heap.size + 1, 0, none⟩), .pointer (some ⟨W.heap.size + 1 + 1, 0, none⟩)]) (by simp) (by simp [go_sem]) ?_
          refine (catch_idle ⟨W.heap.size + 1, 0, none⟩ ⟨W.heap.size + 1 + 1, 0, none⟩ _).mono ?_
          rintro e u' w8 ⟨rfl, rfl, hb8⟩
          have hY : Res3 (((put4 w7 W.heap.size (.int .u8 0) (.string ⟨#[]⟩) (.slice none 0 0) (.slice none 0 0)).setCell ⟨W.heap.size + 1, 0, none⟩ (.int .i64 0)).setCell ⟨W.heap.size + 1 + 1, 0, none⟩ (.int .i64 3)) W.heap.size (.int .u8 0) (.string ⟨#[]⟩) (.slice none 0 0) (.slice none 0 0) (.int .i64 0) (.int .i64 3) :=
            ((HR7.out.put _ _ _ _).setA _).setE _
          have hbY : Below W.heap.size W (((put4 w7 W.heap.size (.int .u8 0) (.string ⟨#[]⟩) (.slice none 0 0) (.slice none 0 0)).setCell ⟨W.heap.size + 1, 0, none⟩ (.int .i64 0)).setCell ⟨W.heap.size + 1 + 1, 0, none⟩ (.int .i64 3)) :=
            ((put4_below HB7.out (Nat.le_refl _) _ _ _ _).setCell (p := ⟨W.heap.size + 1, 0, none⟩) (Nat.le_succ _) _).setCell (p := ⟨W.heap.size + 1 + 1, 0, none⟩) (by show W.heap.size ≤ W.heap.size + 1 + 1; omega) _
          have hb8' : Below (((put4 w7 W.heap.size (.int .u8 0) (.string ⟨#[]⟩) (.slice none 0 0) (.slice none 0 0)).setCell ⟨W.heap.size + 1, 0, none⟩ (.int .i64 0)).setCell ⟨W.heap.size + 1 + 1, 0, none⟩ (.int .i64 3)).heap.size (((put4 w7 W.heap.size (.int .u8 0) (.string ⟨#[]⟩) (.slice none 0 0) (.slice none 0 0)).setCell ⟨W.heap.size + 1, 0, none⟩ (.int .i64 0)).setCell ⟨W.heap.size + 1 + 1, 0, none⟩ (.int .i64 3)) w8 := hb8
          obtain ⟨⟨d0, d1, d2, d3, _, _, _, _, _⟩, da, de, _, _, _⟩ := hY.below hb8' hY.z
          have hbF := hbY.trans (hb8'.mono hbY.size)
          clear hb8 hY hbY c0 c1 c2 c3 ca ce
          simp [Leaves, settle, results, Tryd.results21, go_sem, d0, d1, d2, d3, da, de]
          rw [HQ.out]
          exact ⟨_, rfl, fval_leaf 0 ⟨#[]⟩ (by omega) (ok_str (by decide)), hbF⟩
        | true =>
          rw [hrb] at hrt HQ
          simp only [if_true] at HQ
          clear hrb
          go_wp2_with fail
          refine hat.mono ?_
          rintro e w6 ⟨rfl, rfl⟩
          go_wp2_with fail
          refine hrt.mono ?_
          rintro e w7 ⟨rfl, hb7⟩
          have hR7 := HR5.out.below hb7 HR5.out.z
          have HB7 := Lib.hid (HB5.out.trans (hb7.mono HB5.out.size))
          have HR7 := Lib.hid hR7
          have hT7 := HBT.out.heap (hb7.block _ HBT.out.lt) (Nat.lt_of_lt_of_le HBT.out.lt hb7.size)
          have HV7 := Lib.hid (HV5.out.keep (P := w2.heap.size) (GP.of hb7) HP3.out (Nat.le_refl _))
          obtain ⟨t0, t1, t2, t3, _, _, _, _, hTz⟩ := id hT7
          obtain ⟨⟨c0, c1, c2, c3, f0, f1, f2, f3, hlt⟩, ca, ce, fa, fe, hz⟩ := id hR7
          clear hb7 hR7 hrt hat hT7
          go_upto_region 11 with fail
          go_wp2_with fail
          refine leaves_cons (f := 31) (args := #[.pointer (some ⟨W.heap.size + 1, 0, none⟩), .pointer (some ⟨W.heap.size + 1 + 1, 0, none⟩)]) (by simp) (by simp [go_sem]) ?_
          refine (catch_idle ⟨W.heap.size + 1, 0, none⟩ ⟨W.heap.size + 1 + 1, 0, none⟩ _).mono ?_
          rintro e u' w8 ⟨rfl, rfl, hb8⟩
          have hY : Res3 (((put4 w7 W.heap.size (.int .u8 f.op) (.string f.n) (.slice a2 f.args.length k2) (.slice a3 f.sub.length k3)).setCell ⟨W.heap.size + 1, 0, none⟩ (.int .i64 0)).setCell ⟨W.heap.size + 1 + 1, 0, none⟩ (.int .i64 0)) W.heap.size (.int .u8 f.op) (.string f.n) (.slice a2 f.args.length k2) (.slice a3 f.sub.length k3) (.int .i64 0) (.int .i64 0) :=
            ((HR7.out.put _ _ _ _).setA _).setE _
          have hbY : Below W.heap.size W (((put4 w7 W.heap.size (.int .u8 f.op) (.string f.n) (.slice a2 f.args.length k2) (.slice a3 f.sub.length k3)).setCell ⟨W.heap.size + 1, 0, none⟩ (.int .i64 0)).setCell ⟨W.heap.size + 1 + 1, 0, none⟩ (.int .i64 0)) :=
            ((put4_below HB7.out (Nat.le_refl _) _ _ _ _).setCell (p := ⟨W.heap.size + 1, 0, none⟩) (Nat.le_succ _) _).setCell (p := ⟨W.heap.size + 1 + 1, 0, none⟩) (by show W.heap.size ≤ W.heap.size + 1 + 1; omega) _
          have hb8' : Below (((put4 w7 W.heap.size (.int .u8 f.op) (.string f.n) (.slice a2 f.args.length k2) (.slice a3 f.sub.length k3)).setCell ⟨W.heap.size + 1, 0, none⟩ (.int .i64 0)).setCell ⟨W.heap.size + 1 + 1, 0, none⟩ (.int .i64 0)).heap.size (((put4 w7 W.heap.size (.int .u8 f.op) (.string f.n) (.slice a2 f.args.length k2) (.slice a3 f.sub.length k3)).setCell ⟨W.heap.size + 1, 0, none⟩ (.int .i64 0)).setCell ⟨W.heap.size + 1 + 1, 0, none⟩ (.int .i64 0)) w8 := hb8
          obtain ⟨⟨d0, d1, d2, d3, _, _, _, _, _⟩, da, de, _, _, _⟩ := hY.below hb8' hY.z
          have hbF := hbY.trans (hb8'.mono hbY.size)
          have hvF : FVal W.heap.size w8 (.agg #[.int .u8 f.op, .string f.n, .slice a2 f.args.length k2, .slice a3 f.sub.length k3]) f := by
            have hz3 : W.heap.size < w3.heap.size := by have := HZ2.out; have := HP3.out; omega
            have h1 := (HV7.out.put4 (R := W.heap.size) hz3 (.int .u8 f.op) (.string f.n) (.slice a2 f.args.length k2) (.slice a3 f.sub.length k3))
            have hg1 : Grow (fun b => b = W.heap.size + 1 ∨ b = W.heap.size + 1 + 1) (put4 w7 W.heap.size (.int .u8 f.op) (.string f.n) (.slice a2 f.args.length k2) (.slice a3 f.sub.length k3)) w8 :=
              ((Grow.setCell (O := fun b => b = W.heap.size + 1 ∨ b = W.heap.size + 1 + 1) _ _ (.inl rfl)).trans (Grow.setCell (O := fun b => b = W.heap.size + 1 ∨ b = W.heap.size + 1 + 1) _ _ (.inr rfl)) (Sub.refl _ _)).trans (Grow.of_below hb8') (Sub.refl _ _)
            obtain ⟨e2, i2, e3, i3, he, hop, hnm, htd, hfd⟩ := h1
            have hz3' : W.heap.size + 4 ≤ w3.heap.size := by have := HZ2.out; have := HP3.out; omega
            have q1 : ∀ b, Own w3.heap.size (put4 w7 W.heap.size (.int .u8 f.op) (.string f.n) (.slice a2 f.args.length k2) (.slice a3 f.sub.length k3)) b → ∀ q, w8.cell? ⟨b, q, none⟩ = (put4 w7 W.heap.size (.int .u8 f.op) (.string f.n) (.slice a2 f.args.length k2) (.slice a3 f.sub.length k3)).cell? ⟨b, q, none⟩ := fun b hb q => hg1.cell (p := ⟨b, q, none⟩) hb.2 (fun e => by have := hb.1; rcases e with e | e <;> (have e : b = _ := e; omega))
            have q2 : ∀ b, Own w3.heap.size (put4 w7 W.heap.size (.int .u8 f.op) (.string f.n) (.slice a2 f.args.length k2) (.slice a3 f.sub.length k3)) b → Own W.heap.size w8 b := fun b hb => ⟨by have := hb.1; omega, Nat.lt_of_lt_of_le hb.2 hg1.size⟩
            exact ⟨e2, i2, e3, i3, he, hop, hnm, htd.keep q1 q2, hfd.keep q1 q2⟩
          clear hb8 hY hbY c0 c1 c2 c3 ca ce
          simp [Leaves, settle, results, Tryd.results21, go_sem, d0, d1, d2, d3, da, de]
          rw [HQ.out]
          exact ⟨_, rfl, hvF, hbF⟩
end Go.Proofs.YtkeckecdhcknhaaDoor.Ps

/-
  The contracts of Form and Schema.
-/
namespace Go.Proofs.YtkeckecdhcknhaaDoor.Ps
open Go Go.RowKit Go.Shelf Go.Proofs.YtkeckecdhcknhaaDoor.Fm Go.Proofs.YtkeckecdhcknhaaDoor.Lx
set_option linter.unusedVariables false
set_option linter.unusedSimpArgs false
set_option maxRecDepth 20000 in
theorem form_c (s : ByteArray) (W : World) (hs : s.size ≤ 16384) (hT : RTab W) (hL : LTab W W.heap.size) :
    Calls Tryd.prog 9 #[.string s] W (FormQ (formRes false (rightB false) s) W) := by
  have hb0 : Below W.heap.size W (W.alloc (.cells #[.int .u8 0, .string ⟨#[]⟩, .slice none 0 0, .slice none 0 0] 25)) := (Below.refl _ _).alloc (Nat.le_refl _) _
  have hr := readF_Right s false _ hs (hT.below hb0 hT.1) ⟨Nat.lt_of_lt_of_le hL.1 hb0.size, (hL.keep (hb0.block _ hL.1)).2⟩
  generalize formRes false (rightB false) s = x at *
  have HB := Lib.hid hb0
  clear hb0 hT hL
  go_enter Tryd.func9, Tryd.ntmps9
  go_wp2_with fail
  refine hr.mono ?_
  rintro e w1 ⟨v, rfl, hv, hb1⟩
  obtain ⟨f, hf⟩ : ∃ f, x.1.getD zeroF = f := ⟨_, rfl⟩
  rw [hf] at hv
  have HF := Lib.hid hf
  clear hf
  have HV := Lib.hid hv
  obtain ⟨a2, k2, a3, k3, rfl, HREST⟩ := hv
  obtain ⟨r0, r1, r2, r3, q0, q1, q2, q3, hRz⟩ := (Bx4.new W (.int .u8 0) (.string ⟨#[]⟩) (.slice none 0 0) (.slice none 0 0) 25).heap (hb1.block W.heap.size (by simp)) (Nat.lt_of_lt_of_le (by simp) hb1.size)
  have HB1 := Lib.hid (HB.out.trans (hb1.mono HB.out.size))
  clear hb1 HREST hr
  go_wp2_with fail
  refine bodyPost_ret (v := .tuple #[.agg #[.int .u8 f.op, .string f.n, .slice a2 f.args.length k2, .slice a3 f.sub.length k3], .int .i64 x.2.1, .int .i64 x.2.2]) (by simp [results, Tryd.results9, go_sem, r0, r1, r2, r3, hRz]) rfl ?_
  refine ⟨_, rfl, ?_, put4_below HB1.out (Nat.le_refl _) (.int .u8 f.op) (.string f.n) (.slice a2 f.args.length k2) (.slice a3 f.sub.length k3)⟩
  rw [HF.out]
  have h1 := HV.out.put4 (R := W.heap.size) (by simp) (.int .u8 f.op) (.string f.n) (.slice a2 f.args.length k2) (.slice a3 f.sub.length k3)
  exact h1.keep (P := W.heap.size) (lo' := W.heap.size) (Grow.refl _ _) (by simp) (by simp)
set_option maxRecDepth 20000 in
theorem schema_p (s : ByteArray) (W : World) (hs : s.size ≤ 16384) (hT : RTab W) (hL : LTab W W.heap.size) :
    Calls Tryd.prog 23 #[.string s] W (FormQ (formRes true (rightB true) s) W) := by
  have hb0 : Below W.heap.size W (W.alloc (.cells #[.int .u8 0, .string ⟨#[]⟩, .slice none 0 0, .slice none 0 0] 25)) := (Below.refl _ _).alloc (Nat.le_refl _) _
  have hr := readF_Schema s true _ hs (hT.below hb0 hT.1) ⟨Nat.lt_of_lt_of_le hL.1 hb0.size, (hL.keep (hb0.block _ hL.1)).2⟩
  generalize formRes true (rightB true) s = x at *
  have HB := Lib.hid hb0
  clear hb0 hT hL
  go_enter Tryd.func23, Tryd.ntmps23
  go_wp2_with fail
  refine hr.mono ?_
  rintro e w1 ⟨v, rfl, hv, hb1⟩
  obtain ⟨f, hf⟩ : ∃ f, x.1.getD zeroF = f := ⟨_, rfl⟩
  rw [hf] at hv
  have HF := Lib.hid hf
  clear hf
  have HV := Lib.hid hv
  obtain ⟨a2, k2, a3, k3, rfl, HREST⟩ := hv
  obtain ⟨r0, r1, r2, r3, q0, q1, q2, q3, hRz⟩ := (Bx4.new W (.int .u8 0) (.string ⟨#[]⟩) (.slice none 0 0) (.slice none 0 0) 25).heap (hb1.block W.heap.size (by simp)) (Nat.lt_of_lt_of_le (by simp) hb1.size)
  have HB1 := Lib.hid (HB.out.trans (hb1.mono HB.out.size))
  clear hb1 HREST hr
  go_wp2_with fail
  refine bodyPost_ret (v := .tuple #[.agg #[.int .u8 f.op, .string f.n, .slice a2 f.args.length k2, .slice a3 f.sub.length k3], .int .i64 x.2.1, .int .i64 x.2.2]) (by simp [results, Tryd.results23, go_sem, r0, r1, r2, r3, hRz]) rfl ?_
  refine ⟨_, rfl, ?_, put4_below HB1.out (Nat.le_refl _) (.int .u8 f.op) (.string f.n) (.slice a2 f.args.length k2) (.slice a3 f.sub.length k3)⟩
  rw [HF.out]
  have h1 := HV.out.put4 (R := W.heap.size) (by simp) (.int .u8 f.op) (.string f.n) (.slice a2 f.args.length k2) (.slice a3 f.sub.length k3)
  exact h1.keep (P := W.heap.size) (lo' := W.heap.size) (Grow.refl _ _) (by simp) (by simp)
end Go.Proofs.YtkeckecdhcknhaaDoor.Ps
