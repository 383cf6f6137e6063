/-
  A range over a function: a law for iterators that range over other iterators, in which each side says which blocks it owns.
-/
import Derived.RangeFuncNested
import Derived.RangeFuncBound
import Derived.RangeFuncCalls
import Derived.RangeFuncLeaves
import Derived.WalkKit
namespace Go.Proofs.YtdapnjnmhkdnpaaDoor.Fm
open Go Go.RowKit
set_option linter.unusedVariables false
set_option linter.unusedSimpArgs false
variable {P : Program}
/-- W' is W, but for new blocks and the blocks of O. -/
structure Grow (O : Nat → Prop) (W W' : World) : Prop where
  os : W'.os = W.os
  tape : W'.tape = W.tape
  output : W'.output = W.output
  size : W.heap.size ≤ W'.heap.size
  block : ∀ k, k < W.heap.size → ¬ O k → W'.heap[k]? = W.heap[k]?
/-- No more is owned than O and what is new. -/
def Sub (O : Nat → Prop) (n : Nat) (O' : Nat → Prop) : Prop := ∀ b, O' b → O b ∨ n ≤ b
theorem Sub.refl (O : Nat → Prop) (n : Nat) : Sub O n O := fun _ h => .inl h
theorem Sub.trans {O O1 O2 : Nat → Prop} {n m : Nat} (h : Sub O n O1) (k : Sub O1 m O2) (hm : n ≤ m) : Sub O n O2 := fun b hb => (k b hb).elim (h b) fun h => .inr (by omega)
theorem Grow.refl (O : Nat → Prop) (W : World) : Grow O W W := ⟨rfl, rfl, rfl, Nat.le_refl _, fun _ _ _ => rfl⟩
theorem Grow.of_below {O : Nat → Prop} {W W' : World} (h : Below W.heap.size W W') : Grow O W W' := ⟨h.os, h.tape, h.output, h.size, fun k hk _ => h.block k hk⟩
theorem Grow.trans {O O1 : Nat → Prop} {A B C : World} (h : Grow O A B) (k : Grow O1 B C) (hs : Sub O A.heap.size O1) : Grow O A C :=
  ⟨k.os.trans h.os, k.tape.trans h.tape, k.output.trans h.output, Nat.le_trans h.size k.size, fun i hi ho =>
    (k.block i (by have := h.size; omega) (fun h1 => (hs i h1).elim ho (by omega))).trans (h.block i hi ho)⟩
theorem Grow.cell {O : Nat → Prop} {W W' : World} (h : Grow O W W') {p : Addr} (hp : p.block < W.heap.size) (ho : ¬ O p.block) : W'.cell? p = W.cell? p := World.cell?_of_block (h.block _ hp ho)
theorem Grow.frozen {O : Nat → Prop} {W W' : World} (h : Grow O W W') {p : Addr} (hp : p.block < W.heap.size) (ho : ¬ O p.block) : W'.frozen? p = W.frozen? p := World.frozen?_of_block (h.block _ hp ho)
theorem Grow.mono {O O' : Nat → Prop} {W W' : World} (h : Grow O W W') (ho : ∀ b, b < W.heap.size → O b → O' b) : Grow O' W W' := ⟨h.os, h.tape, h.output, h.size, fun k hk hn => h.block k hk fun h1 => hn (ho k hk h1)⟩
theorem Grow.below {O : Nat → Prop} {W W' : World} (h : Grow O W W') {n : Nat} (hn : n ≤ W.heap.size) (ho : ∀ b, O b → n ≤ b) : Below n W W' := ⟨h.os, h.tape, h.output, h.size, fun k hk => h.block k (by omega) fun h1 => by have := ho k h1; omega⟩
theorem Grow.putObj {O : Nat → Prop} (W : World) {l : Nat} (o : Obj) (h : O l) : Grow O W (W.putObj l o) := ⟨rfl, rfl, rfl, by simp [World.putObj], fun k _ hk => World.putObj_heap_other fun e => hk (e ▸ h)⟩
/-- What a loop's state is: it speaks of the blocks that it owns, and of what lay below n. -/
structure Fr (n : Nat) (J : Nat → (Nat → Prop) → World → Prop) : Prop where
  lt : ∀ {k O W}, J k O W → ∀ b, O b → b < W.heap.size
  keep : ∀ {k O W W'}, J k O W → Below n W W' → (∀ b, O b → W'.heap[b]? = W.heap[b]?) → J k O W'
theorem Fr.below {n : Nat} {J : Nat → (Nat → Prop) → World → Prop} (hJ : Fr n J) {k : Nat} {O : Nat → Prop} {W W' : World} (h : J k O W) (hb : Below W.heap.size W W') (hn : n ≤ W.heap.size) : J k O W' :=
  hJ.keep h (hb.mono hn) fun b ho => hb.block b (hJ.lt h b ho)
/-- What a round gives. -/
def Round (J : Nat → (Nat → Prop) → World → Prop) (Jx : (Nat → Prop) → World → Prop) (k : Nat) (O : Nat → Prop) (W : World) (e : Ending) (W' : World) : Prop :=
  ∃ O', Sub O W.heap.size O' ∧ Grow O W W' ∧ ((e = .returned (.bool true) ∧ J (k + 1) O' W') ∨ (e = .returned (.bool false) ∧ Jx O' W'))
def Rounds {α : Type} (P : Program) (l : Nat) (Rep : World → α → Array Value → Prop) (xs : List α) (J : Nat → (Nat → Prop) → World → Prop) (Jx : (Nat → Prop) → World → Prop) : Prop :=
  ∀ k x O W args, J k O W → xs[k]? = some x → Rep W x args → YieldAt Fence.wide 0 P l args W (Round J Jx k O W)
/-- What an iterator's call gives. -/
def IterEnd (J : Nat → (Nat → Prop) → World → Prop) (Jx : (Nat → Prop) → World → Prop) (m : Nat) (O : Nat → Prop) (W : World) (e : Ending) (W' : World) : Prop :=
  (∃ v, e = .returned v) ∧ ∃ O', Sub O W.heap.size O' ∧ Grow O W W' ∧ (J m O' W' ∨ Jx O' W')
/-- The function gf (with what it has captured) yields xs, one after the other. -/
def IterOf {α : Type} (P : Program) (gf : Nat) (lb : Array Value) (Rep : World → α → Array Value → Prop) (xs : List α) (Res : (Nat → Prop) → World → Prop) : Prop :=
  ∀ (l n : Nat) (J : Nat → (Nat → Prop) → World → Prop) (Jx : (Nat → Prop) → World → Prop) (O : Nat → Prop) (W : World), Fr n J → Fr n (fun _ => Jx) → n ≤ W.heap.size →
    Rounds P l Rep xs J Jx → J 0 O W → Res O W → CallsIn Fence.wide 0 P gf (#[.func (.yield l) #[] #[]] ++ lb) W (IterEnd J Jx xs.length O W)
/-- How a round's body may be left. -/
def bpost (J : Nat → (Nat → Prop) → World → Prop) (Jx : Code → (Nat → Prop) → World → Prop) (k : Nat) (O : Nat → Prop) (W : World) : Exit → Act → World → Prop
  | .normal, _, W' => ∃ O', Sub O W.heap.size O' ∧ Grow O W W' ∧ J (k + 1) O' W'
  | .ret, _, W' => ∃ O', Sub O W.heap.size O' ∧ Grow O W W' ∧ Jx .ret O' W'
  | .exit id, _, W' => ∃ O', Sub O W.heap.size O' ∧ Grow O W W' ∧ Jx (.exit id) O' W'
  | .goto t, _, W' => ∃ O', Sub O W.heap.size O' ∧ Grow O W W' ∧ Jx (.goto t) O' W'
  | .panic _, _, _ => False
  | .outgrown, _, _ => False
/-- The caller's state with the loop's record and the block for deferred calls. -/
def Held (D : Nat) (o : Obj) (Z : (Nat → Prop) → World → Prop) (O' : Nat → Prop) (W : World) : Prop :=
  ∃ O : Nat → Prop, (∀ b, O' b ↔ O b ∨ b = D ∨ b = D + 1) ∧ ¬ O D ∧ ¬ O (D + 1) ∧ Z O W ∧ W.heap[D + 1]? = some o ∧ W.heap[D]? = some (.deferred (some []))
theorem lt_of_heap {W : World} {b : Nat} {o : Obj} (h : W.heap[b]? = some o) : b < W.heap.size := (Array.getElem?_eq_some_iff.1 h).1
theorem held_fr {D n : Nat} {o : Nat → Obj} {J : Nat → (Nat → Prop) → World → Prop} (hJ : Fr n J) : Fr n (fun k => Held D (o k) (J k)) where
  lt := by
    rintro k O' W ⟨O, he, _, _, hz, hl, hk⟩ b hb
    rcases (he b).1 hb with h | rfl | rfl
    · exact hJ.lt hz b h
    · exact lt_of_heap hk
    · exact lt_of_heap hl
  keep := by
    rintro k O' W W' ⟨O, he, n1, n2, hz, hl, hk⟩ hb ho
    exact ⟨O, he, n1, n2, hJ.keep hz hb fun b h => ho b ((he b).2 (.inl h)), (ho _ ((he _).2 (.inr (.inr rfl)))).trans hl, (ho _ ((he _).2 (.inr (.inl rfl)))).trans hk⟩
theorem heldx_fr {D n : Nat} {o : Code → Obj} {Jx : Code → (Nat → Prop) → World → Prop} (hJ : ∀ c, Fr n (fun _ => Jx c)) : Fr n (fun _ O' W => ∃ c, Held D (o c) (Jx c) O' W) where
  lt := by
    rintro k O' W ⟨c, h⟩
    exact (held_fr (D := D) (o := fun _ => o c) (hJ c)).lt (k := 0) h
  keep := by
    rintro k O' W W' ⟨c, h⟩ hb ho
    exact ⟨c, (held_fr (D := D) (o := fun _ => o c) (hJ c)).keep (k := 0) h hb ho⟩
theorem range_law {α : Type} {g : Operand} {ps : Array Tmp} {assign body : Code} {Q : Exit → Act → World → Prop} {a : Act} {w : World}
    {gf : Nat} {lb : Array Value} (hg : a.eval g = .func (.func gf) #[] lb) (eg : ∀ args w, (callFunc gf args).run P w = .ok (.enter gf args) w)
    {Rep : World → α → Array Value → Prop} {xs : List α} {Res : (Nat → Prop) → World → Prop} (hseq : IterOf P gf lb Rep xs Res) (hps : ∀ W x args, Rep W x args → args.size = ps.size)
    (J : Nat → (Nat → Prop) → World → Prop) (Jx : Code → (Nat → Prop) → World → Prop) (O : Nat → Prop) (hJ : Fr w.heap.size J) (hJx : ∀ c, Fr w.heap.size (fun _ => Jx c)) (h0 : J 0 O w)
    (hres : ∀ O' W, Below w.heap.size w W → (∀ b, O' b → O b ∨ w.heap.size ≤ b) → Res O' W)
    (A : Nat → α → Array Value → World → Act → World → Prop)
    (hassign : ∀ l k x O' W args, J k O' W → xs[k]? = some x → Rep W x args → assign.wpIn (Fence.wide.inRound l) 0 P (Exit.then (fun a1 W1 => Below W.heap.size W W1 ∧ A k x args W a1 W1) (fun _ _ _ => False))
      { tmps := (ps.zip args).foldl (fun t (p, v) => t.setIfInBounds p v) a.tmps, defers := [] } W)
    (hbody : ∀ l k x O' W args a1 W1 W2, A k x args W a1 W1 → J k O' W2 → xs[k]? = some x → Rep W x args → Below W.heap.size W W1 → Below l W1 W2 → W2.heap.size = W1.heap.size → (∀ b, b ≠ l → W2.heap[b]? = W1.heap[b]?) → w.heap.size < l → l < W.heap.size → ¬ O' l →
      body.wpIn (Fence.wide.inRound l) 0 P (bpost J Jx k O' W2) a1 W2)
    (hdone : ∀ O' W, J xs.length O' W → Sub O w.heap.size O' → ¬ O' w.heap.size → Grow O w W → W.heap[w.heap.size]? = some (.deferred (some [])) → Q .normal { a with defers := { target := .collected w.heap.size, args := #[] } :: a.defers } W)
    (hstop : ∀ c O' W, Jx c O' W → Sub O w.heap.size O' → ¬ O' w.heap.size → Grow O w W → W.heap[w.heap.size]? = some (.deferred (some [])) → c.wpIn Fence.wide 0 P Q { a with defers := { target := .collected w.heap.size, args := #[] } :: a.defers } W) :
    (Code.rangeFunc g ps assign body).wpIn Fence.wide 0 P Q a w := by
  refine wpIn_rangeFunc ?_
  intro fn hfn
  obtain ⟨rec, hrec⟩ : ∃ rec : LoopState → Option Code → Loop, rec = fun st pe => { state := st, pending := pe, fn, tmps := a.tmps, params := ps, assign, body, defers := w.heap.size } := ⟨_, rfl⟩
  obtain ⟨W1, hW1⟩ : ∃ W1, (w.alloc (.deferred (some []))).alloc (.loop (rec .ready none)) = W1 := ⟨_, rfl⟩
  have hz1 : W1.heap.size = w.heap.size + 2 := by rw [← hW1]; simp
  have hb1 : Below w.heap.size w W1 := by rw [← hW1]; exact ((Below.refl _ w).alloc (Nat.le_refl _) _).alloc (by simp) _
  have hL1 : W1.heap[w.heap.size + 1]? = some (.loop (rec .ready none)) := by
    rw [← hW1]; have := World.alloc_heap_new (w.alloc (.deferred (some []))) (.loop (rec .ready none)); rwa [World.size_alloc] at this
  have hK1 : W1.heap[w.heap.size]? = some (.deferred (some [])) := by
    rw [← hW1]; exact (Below.heap_alloc _ _ _ (by simp)).trans (World.alloc_heap_new w _)
  have hO : ∀ b, O b → b < w.heap.size := hJ.lt h0
  have hJ1 : J 0 O W1 := hJ.below h0 hb1 (Nat.le_refl _)
  refine ⟨w.heap.size + 1, [{ target := .collected w.heap.size, args := #[] }], W1, { target := .fn (.func gf) lb, args := #[.func (.yield (w.heap.size + 1)) #[] #[]] }, W1, gf,
    #[.func (.yield (w.heap.size + 1)) #[] #[]] ++ lb, W1, ?_, ?_, fun _ _ => trivial, ?_, (fun h => by cases h), ?_⟩
  · rw [← hW1, hrec]; exact run_enterLoop_outer _ _ _ _ _
  · simp only [resolve, hg]
    simp [go_sem]
  · simp [invoke, go_sem, eg]
  · have hend := hseq (w.heap.size + 1) w.heap.size (fun k => Held w.heap.size (.loop (rec .ready none)) (J k)) (fun O' W => ∃ c, Held w.heap.size (.loop (rec .done (some c))) (Jx c) O' W)
      (fun b => O b ∨ b = w.heap.size ∨ b = w.heap.size + 1) W1 (held_fr (o := fun _ => .loop (rec .ready none)) hJ) (heldx_fr (o := fun c => .loop (rec .done (some c))) hJx) hb1.size ?_
      ⟨O, fun _ => Iff.rfl, fun h => by have := hO _ h; omega, fun h => by have := hO _ h; omega, hJ1, hL1, hK1⟩ (hres _ _ hb1 fun b h => by rcases h with h | rfl | rfl <;> first | exact .inl h | exact .inr (by omega))
    · refine hend.mono ?_
      rintro e W2 ⟨⟨v, rfl⟩, O2, hs2, hg2, h2⟩
      have hg : Grow O w W2 := (Grow.of_below hb1).trans hg2 fun b h => by rcases h with h | rfl | rfl <;> first | exact .inl h | exact .inr (by omega)
      have sub : ∀ O3 : Nat → Prop, (∀ b, O2 b ↔ O3 b ∨ b = w.heap.size ∨ b = w.heap.size + 1) → ¬ O3 w.heap.size → ¬ O3 (w.heap.size + 1) → Sub O w.heap.size O3 := fun O3 he n1 n2 b hb => by
        rcases hs2 b ((he b).2 (.inl hb)) with (h | rfl | rfl) | h
        · exact .inl h
        · exact absurd hb n1
        · exact absurd hb n2
        · exact .inr (by omega)
      have fin : ∀ (Z : (Nat → Prop) → World → Prop) (o : Obj) (o' : Obj), Fr w.heap.size (fun _ => Z) → Held w.heap.size o Z O2 W2 → ∃ O3, Z O3 (W2.putObj (w.heap.size + 1) o') ∧ Sub O w.heap.size O3 ∧ ¬ O3 w.heap.size ∧ Grow O w (W2.putObj (w.heap.size + 1) o') ∧ (W2.putObj (w.heap.size + 1) o').heap[w.heap.size]? = some (.deferred (some [])) := by
        rintro Z o o' hZ ⟨O3, he, n1, n2, hz, hl, hk⟩
        refine ⟨O3, hZ.keep (k := 0) hz ⟨rfl, rfl, rfl, by simp [World.putObj], fun k hk => World.putObj_heap_other (by omega)⟩ (fun b hb => World.putObj_heap_other fun e => n2 (e ▸ hb)), sub O3 he n1 n2, n1, ?_, (World.putObj_heap_other (by omega)).trans hk⟩
        exact hg.trans (Grow.putObj (O := fun b => b = w.heap.size + 1) W2 o' rfl) fun b hb => .inr (by omega)
      rcases h2 with h2 | ⟨c, h2⟩
      · obtain ⟨_, _, _, _, _, hl, _⟩ := id h2
        obtain ⟨O3, h3, s3, m3, g3, k3⟩ := fin _ _ (.loop (rec .exhausted none)) ⟨fun h => hJ.lt h, fun h => hJ.keep h⟩ h2
        exact ⟨none, _, by have := run_endLoop (P := P) hl (by rw [hrec]; simp); rw [hrec] at this ⊢; exact this, hdone O3 _ h3 s3 m3 g3 k3⟩
      · obtain ⟨_, _, _, _, _, hl, _⟩ := id h2
        obtain ⟨O3, h3, s3, m3, g3, k3⟩ := fin _ _ (.loop (rec .exhausted (some c))) (hJx c) h2
        exact ⟨some c, _, by have := run_endLoop (P := P) hl (by rw [hrec]; simp); rw [hrec] at this ⊢; exact this, hstop c O3 _ h3 s3 m3 g3 k3⟩
    · rintro k x O' W args ⟨O3, he, n1, n2, hz, hl, hk⟩ hx hrep
      have hlt := lt_of_heap hl
      have hO3 : ∀ b, O3 b → b < W.heap.size := hJ.lt hz
      have hy := run_yield (P := P) (args := args) hl (by rw [hrec]; exact hps W x args hrep)
      rw [hrec] at hy
      refine ⟨fn, _, assign, body, hy, roundIn_of_wpIn hfn ?_⟩
      refine wpIn_mono (hassign (w.heap.size + 1) k x O3 W args hz hx hrep) ?_
      rintro e a1 W2 hp
      cases e with
      | normal =>
        obtain ⟨hb2, hA⟩ := hp
        have hl2 : W2.heap[w.heap.size + 1]? = some (.loop (rec .ready none)) := (hb2.block _ hlt).trans hl
        have hk2 : W2.heap[w.heap.size]? = some (.deferred (some [])) := (hb2.block _ (by omega)).trans hk
        obtain ⟨B, hB⟩ : ∃ B : Obj, B = .loop { rec .ready none with state := .busy } := ⟨_, rfl⟩
        refine ⟨W2.putObj (w.heap.size + 1) B, by rw [hB]; exact run_beginRound hl2 (by rw [hrec]), ?_⟩
        have hz2 : W2.heap.size = (W2.putObj (w.heap.size + 1) B).heap.size := by simp [World.putObj]
        have hne : ∀ b, b ≠ w.heap.size + 1 → (W2.putObj (w.heap.size + 1) B).heap[b]? = W2.heap[b]? := fun b hb => World.putObj_heap_other hb
        have hl3 : (W2.putObj (w.heap.size + 1) B).heap[w.heap.size + 1]? = some B := World.putObj_heap_same (by have := hb2.size; omega)
        have hk3 : (W2.putObj (w.heap.size + 1) B).heap[w.heap.size]? = some (.deferred (some [])) := (hne _ (by omega)).trans hk2
        have hgb : Grow (fun b => b = w.heap.size + 1) W2 (W2.putObj (w.heap.size + 1) B) := Grow.putObj W2 B rfl
        have hJ3 : J k O3 (W2.putObj (w.heap.size + 1) B) := hJ.keep hz ⟨hb2.os, hb2.tape, hb2.output, by rw [← hz2]; exact hb2.size, fun b hb => (hne b (by omega)).trans (hb2.block b (by omega))⟩
          fun b hb => (hne b (fun e => n2 (e ▸ hb))).trans (hb2.block b (hO3 b hb))
        have hbl : Below (w.heap.size + 1) W2 (W2.putObj (w.heap.size + 1) B) := ⟨rfl, rfl, rfl, by omega, fun b hb => hne b (by omega)⟩
        generalize W2.putObj (w.heap.size + 1) B = W3 at *
        refine wpIn_mono (hbody (w.heap.size + 1) k x O3 W args a1 W2 W3 hA hJ3 hx hrep hb2 hbl hz2.symm hne (by omega) hlt n2) ?_
        have hzz := hb2.size
        have hG : Grow O' W W3 := (Grow.of_below hb2).trans hgb fun b hb => .inl ((he b).2 (.inr (.inr hb)))
        have fin : ∀ (jump : Option Code) (W4 : World) (O4 : Nat → Prop) (Z : (Nat → Prop) → World → Prop), Fr w.heap.size (fun _ => Z) → Sub O3 W3.heap.size O4 → Grow O3 W3 W4 → Z O4 W4 →
            ∃ w', (Instr.endRound (w.heap.size + 1) jump).run P W4 = .ok (.bool jump.isNone) w' ∧ ∃ O5 : Nat → Prop, Sub O' W.heap.size O5 ∧ Grow O' W w' ∧ Held w.heap.size (.loop (rec (if jump.isNone then .ready else .done) jump)) Z O5 w' := by
          intro jump W4 O4 Z hZ hs4 hg4 h4
          have hl4 : W4.heap[w.heap.size + 1]? = some B := (hg4.block _ (lt_of_heap hl3) n2).trans hl3
          have hk4 : W4.heap[w.heap.size]? = some (.deferred (some [])) := (hg4.block _ (lt_of_heap hk3) n1).trans hk3
          have hr := run_endRound (P := P) jump (by rw [hB] at hl4; exact hl4)
          rw [hrec] at hr ⊢
          refine ⟨_, hr, fun b => O4 b ∨ b = w.heap.size ∨ b = w.heap.size + 1, ?_, ?_, O4, fun _ => Iff.rfl, ?_, ?_, ?_, World.putObj_heap_same (lt_of_heap hl4), (World.putObj_heap_other (by omega)).trans hk4⟩
          · rintro b (h | h | h)
            · rcases hs4 b h with h | h
              · exact .inl ((he b).2 (.inl h))
              · exact .inr (by have := hb2.size; omega)
            · exact .inl ((he b).2 (.inr (.inl h)))
            · exact .inl ((he b).2 (.inr (.inr h)))
          · refine (hG.trans (O1 := O') (hg4.mono fun b _ h => (he b).2 (.inl h)) (Sub.refl _ _)).trans (Grow.putObj (O := fun b => b = w.heap.size + 1) W4 _ rfl) fun b hb => .inl ((he b).2 (.inr (.inr hb)))
          · exact fun h => (hs4 _ h).elim n1 fun h => by omega
          · exact fun h => (hs4 _ h).elim n2 fun h => by omega
          · refine hZ.keep (k := 0) h4 ⟨rfl, rfl, rfl, by simp [World.putObj], fun k hk => World.putObj_heap_other (by omega)⟩ fun b hb => World.putObj_heap_other fun e => ?_
            subst e
            exact (hs4 _ hb).elim n2 fun h => by omega
        rintro e a3 W4 hp
        cases e with
        | normal =>
          obtain ⟨O4, hs4, hg4, h4⟩ := hp
          obtain ⟨w', hr, O5, hs5, hg5, h5⟩ := fin none W4 O4 (J (k + 1)) ⟨fun h => hJ.lt h, fun h => hJ.keep h⟩ hs4 hg4 h4
          exact ⟨_, _, hr, O5, hs5, hg5, .inl ⟨rfl, h5⟩⟩
        | ret =>
          obtain ⟨O4, hs4, hg4, h4⟩ := hp
          obtain ⟨w', hr, O5, hs5, hg5, h5⟩ := fin (some .ret) W4 O4 (Jx .ret) (hJx _) hs4 hg4 h4
          exact ⟨_, _, hr, O5, hs5, hg5, .inr ⟨rfl, .ret, h5⟩⟩
        | exit id =>
          obtain ⟨O4, hs4, hg4, h4⟩ := hp
          obtain ⟨w', hr, O5, hs5, hg5, h5⟩ := fin (some (.exit id)) W4 O4 (Jx (.exit id)) (hJx _) hs4 hg4 h4
          exact ⟨_, _, hr, O5, hs5, hg5, .inr ⟨rfl, .exit id, h5⟩⟩
        | goto t =>
          obtain ⟨O4, hs4, hg4, h4⟩ := hp
          obtain ⟨w', hr, O5, hs5, hg5, h5⟩ := fin (some (.goto t)) W4 O4 (Jx (.goto t)) (hJx _) hs4 hg4 h4
          exact ⟨_, _, hr, O5, hs5, hg5, .inr ⟨rfl, .goto t, h5⟩⟩
        | panic ch => exact hp.elim
        | outgrown => exact hp.elim
      | exit id => exact hp.elim
      | goto t => exact hp.elim
      | ret => exact hp.elim
      | panic ch => exact hp.elim
      | outgrown => exact hp.elim
theorem Grow.setCell {O : Nat → Prop} (W : World) {p : Addr} (v : Value) (h : O p.block) : Grow O W (W.setCell p v) := by
  have hb : Below p.block W (W.setCell p v) := (Below.refl _ _).setCell (Nat.le_refl _) v
  exact ⟨hb.os, hb.tape, hb.output, hb.size, fun k _ hk => Below.heap_setCell W p v k fun e => hk (e ▸ h)⟩
/-- The block for deferred calls is given back. -/
theorem Fr.taken {n D : Nat} {J : Nat → (Nat → Prop) → World → Prop} (hJ : Fr n J) {k : Nat} {O : Nat → Prop} {W : World} (h : J k O W) (hD : n ≤ D) (nD : ¬ O D) (o : Obj) : J k O (W.putObj D o) :=
  hJ.keep h ⟨rfl, rfl, rfl, by simp [World.putObj], fun b hb => World.putObj_heap_other (by omega)⟩ fun b hb => World.putObj_heap_other fun e => nD (e ▸ hb)
theorem Grow.taken {O : Nat → Prop} {W W' : World} (h : Grow O W W') {D : Nat} (hD : W.heap.size ≤ D) (o : Obj) : Grow O W (W'.putObj D o) :=
  h.trans (Grow.putObj (O := fun b => b = D) W' o rfl) fun b hb => .inr (by omega)
end Go.Proofs.YtdapnjnmhkdnpaaDoor.Fm
