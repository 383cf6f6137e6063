/-
  The contract of Parts where all parts have different numbers of nodes: how many there are.
-/
import Derived.Test.YtnadjkofjgpabaaDoorFmPred
import Derived.Test.YtnadjkofjgpabaaDoorFmRound
import Derived.Test.YtnadjkofjgpabaaDoorFmAppF
import Derived.Test.YtnadjkofjgpabaaDoorFmFits
import Derived.Maps.OwnIn
import Derived.Maps.Views
namespace Go.Proofs.YtnadjkofjgpabaaDoor.Fm
open Go Go.RowKit Go.Shelf
set_option linter.unusedVariables false
set_option linter.unusedSimpArgs false
attribute [local go_sem] Oper.semAt_some
theorem index_none (w : World) (fv : Value) : Calls Tryd.prog 68 #[.slice none 0 0, fv] w fun e w' => e = .returned (.int .i64 (-1)) ∧ w = w' := by
  go_enter Tryd.func68, Tryd.ntmps68
  go_wp2
  refine wp_loop_rounds 1 ?_
  rw [rounds_succ]
  go_wp2
  go_ret
  exact ⟨rfl, rfl⟩
theorem contains_none (w : World) (fv : Value) : Calls Tryd.prog 46 #[.slice none 0 0, fv] w fun e w' => e = .returned (.bool false) ∧ w = w' := by
  go_enter Tryd.func46, Tryd.ntmps46
  go_wp2_with (go_at_call 68; refine (index_none _ _).mono ?_; rintro e w' ⟨rfl, rfl⟩)
  go_ret
  exact ⟨rfl, rfl⟩
def heldE (v : Value) : Option (DataW Value × List MemPlace) := some (.held v, [])
theorem law_int : Maps.Keyed Tryd.prog 3 := Maps.int_keyed Tryd.underlying3
theorem map_heap {w w' : World} {b n : Nat} {D : DataW Value} (h : w.ownsMap Tryd.prog 3 heldE b n D) (hb : w'.heap[b]? = w.heap[b]?) : w'.ownsMap Tryd.prog 3 heldE b n D := by
  obtain ⟨es, clock, h1, h2⟩ := h
  exact ⟨es, clock, hb.trans h1, h2⟩
def cnt (f : Fo) : Int := ((levelsL f).length : Int)
structure PJ (f : Fo) (C : Nat) (k : Nat) (O : Nat → Prop) (W : World) : Prop where
  v : ∃ v xs, (∀ b, O b ↔ b = C ∨ b = C + 1 ∨ v.ownBlock = some b) ∧ W.cell? ⟨C, 0, none⟩ = some v ∧ W.ownsRow (C + 3) 25 4 v k xs
  fr : W.frozen? ⟨C, 0, none⟩ = false
  m : W.cell? ⟨C + 2, 0, none⟩ = some (.map (some (C + 1)))
  d : ∃ D : DataW Value, W.ownsMap Tryd.prog 3 heldE (C + 1) k D ∧ ∀ n : Int, (∀ x ∈ (f.all 1).take k, cnt x.2 ≠ n) → D.atKey (.int .i64 n) (.held (.slice none 0 0)) = .held (.slice none 0 0)
  lt : C + 2 < W.heap.size
theorem PJ.fram {f : Fo} {C n : Nat} (hn : C + 2 < n) : Fr n (PJ f C) where
  lt h b hb := by
    obtain ⟨v, xs, ho, _, hr⟩ := h.v
    have := h.lt
    rcases (ho b).1 hb with rfl | rfl | hb
    · omega
    · omega
    · exact (hr.lt b hb).2
  keep h hb ho := by
    obtain ⟨v, xs, hO, hc, hr⟩ := h.v
    obtain ⟨D, hD, hk⟩ := h.d
    have e := ho C ((hO C).2 (.inl rfl))
    refine ⟨⟨v, xs, hO, (World.cell?_of_block e).trans hc, own_heap hr fun g hg => ho g ((hO g).2 (.inr (.inr hg)))⟩, (World.frozen?_of_block e).trans h.fr, (hb.cell (p := ⟨C + 2, 0, none⟩) hn).trans h.m,
      ⟨D, map_heap hD (ho _ ((hO _).2 (.inr (.inl rfl)))), hk⟩, Nat.lt_of_lt_of_le h.lt hb.size⟩
/-- Four cells of a row are written. -/
def set4w (W : World) (g j : Nat) (x0 x1 x2 x3 : Value) : World := (((W.setCell ⟨g, j, none⟩ x0).setCell ⟨g, j + 1, none⟩ x1).setCell ⟨g, j + 2, none⟩ x2).setCell ⟨g, j + 3, none⟩ x3
theorem grown_trans {A B D : World} {row : Option Nat} (h : A.grownBy B row) (k : B.grownBy D row) : A.grownBy D row :=
  ⟨k.os.trans h.os, k.tape.trans h.tape, k.output.trans h.output, Nat.le_trans h.size k.size, fun i hi hne => (k.block i (Nat.lt_of_lt_of_le hi h.size) hne).trans (h.block i hi hne)⟩
theorem set4_own {W : World} {B g n cap j : Nat} {xs : List Value} {x0 x1 x2 x3 : Value} (h : W.ownsRow B 25 4 (.slice (some ⟨g, 0, none⟩) n cap) n xs) :
    (∃ ys, (set4w W g j x0 x1 x2 x3).ownsRow B 25 4 (.slice (some ⟨g, 0, none⟩) n cap) n ys) ∧ W.grownBy (set4w W g j x0 x1 x2 x3) (some g) ∧ (set4w W g j x0 x1 x2 x3).heap.size = W.heap.size := by
  obtain ⟨h1, g1⟩ := h.stored j x0
  obtain ⟨h2, g2⟩ := h1.stored (j + 1) x1
  obtain ⟨h3, g3⟩ := h2.stored (j + 2) x2
  obtain ⟨h4, g4⟩ := h3.stored (j + 3) x3
  exact ⟨⟨_, h4⟩, grown_trans (grown_trans (grown_trans g1 g2) g3) g4, by simp [set4w]⟩
theorem grown_set (W : World) (p : Addr) (v : Value) : W.grownBy (W.setCell p v) (some p.block) ∧ (W.setCell p v).heap.size = W.heap.size :=
  ⟨⟨rfl, rfl, rfl, by simp, fun k _ hk => heap_setCell_other W p k v fun e => hk (by simp [e])⟩, by simp⟩
/-- Ahead of the stores of a round. -/
structure Pre (f : Fo) (C k g cap : Nat) (av : Option Addr) (cv : Nat) (O : Nat → Prop) (W W' : World) : Prop where
  o : ∀ b, O b ↔ b = C ∨ b = C + 1 ∨ (Value.slice av k cv).ownBlock = some b
  gw : Grow O W W'
  c : (W'.cell? ⟨C, 0, none⟩).isSome = true
  fr : W'.frozen? ⟨C, 0, none⟩ = false
  m : W'.cell? ⟨C + 2, 0, none⟩ = some (.map (some (C + 1)))
  d : ∃ D : DataW Value, W'.ownsMap Tryd.prog 3 heldE (C + 1) (k + 1) D ∧ ∀ n : Int, (∀ x ∈ (f.all 1).take (k + 1), cnt x.2 ≠ n) → D.atKey (.int .i64 n) (.held (.slice none 0 0)) = .held (.slice none 0 0)
  own : ∃ xs, W'.ownsRow (C + 3) 25 4 (.slice (some ⟨g, 0, none⟩) (k + 1) cap) (k + 1) xs
  at_ : (Value.slice av k cv).ownBlock = some g ∨ W.heap.size ≤ g
theorem Pre.fin {f : Fo} {C k g cap : Nat} {av : Option Addr} {cv : Nat} {O : Nat → Prop} {W W' W'' : World} (h : Pre f C k g cap av cv O W W') (hr : W''.os = W'.os ∧ W''.tape = W'.tape ∧ W''.output = W'.output) (hz : W''.heap.size = W'.heap.size)
    (hb : ∀ b, b < W'.heap.size → b ≠ C → b ≠ g → W''.heap[b]? = W'.heap[b]?) (hown : ∃ xs, W''.ownsRow (C + 3) 25 4 (.slice (some ⟨g, 0, none⟩) (k + 1) cap) (k + 1) xs)
    (hc : W''.cell? ⟨C, 0, none⟩ = some (.slice (some ⟨g, 0, none⟩) (k + 1) cap)) (hf : W''.frozen? ⟨C, 0, none⟩ = false) (hlt : C + 2 < W'.heap.size) :
    ∃ O', Sub O W.heap.size O' ∧ Grow O W W'' ∧ PJ f C (k + 1) O' W'' := by
  obtain ⟨xs, hx⟩ := h.own
  have hg : C + 3 ≤ g := (hx.lt g rfl).1
  obtain ⟨D, hD, hk⟩ := h.d
  obtain ⟨ys, hy⟩ := hown
  refine ⟨fun b => b = C ∨ b = C + 1 ∨ b = g, ?_, ?_, ⟨⟨_, ys, fun b => by simp [Value.ownBlock, eq_comm], hc, hy⟩, hf, (World.cell?_of_block (a := ⟨C + 2, 0, none⟩) (hb (C + 2) hlt (by omega) (by omega))).trans h.m, ⟨D, map_heap hD (hb (C + 1) (by omega) (by omega) (by omega)), hk⟩, by omega⟩⟩
  · rintro b (rfl | rfl | rfl)
    · exact .inl ((h.o _).2 (.inl rfl))
    · exact .inl ((h.o _).2 (.inr (.inl rfl)))
    · exact h.at_.imp (fun e => (h.o _).2 (.inr (.inr e))) id
  · refine ⟨hr.1.trans h.gw.os, hr.2.1.trans h.gw.tape, hr.2.2.trans h.gw.output, by rw [hz]; exact h.gw.size, fun b hb' hn => ?_⟩
    have h1 : b ≠ C := fun e => hn ((h.o b).2 (.inl e))
    have h2 : b ≠ g := fun e => by
      rcases h.at_ with h3 | h3
      · exact hn ((h.o b).2 (.inr (.inr (e ▸ h3))))
      · omega
    exact (hb b (Nat.lt_of_lt_of_le hb' h.gw.size) h1 h2).trans (h.gw.block b hb' hn)
def PtsP (f : Fo) (w : World) (e : Ending) (w' : World) : Prop := ∃ a cap, e = .returned (.slice a (f.all 1).length cap) ∧ Below w.heap.size w w'
structure Reg10 (C B : Nat) (v x0 x1 x2 x3 : Value) (W' : World) : Prop where
  m : W'.cell? ⟨C, 0, none⟩ = some v
  c0 : W'.cell? ⟨B, 0, none⟩ = some x0
  c1 : W'.cell? ⟨B, 1, none⟩ = some x1
  c2 : W'.cell? ⟨B, 2, none⟩ = some x2
  c3 : W'.cell? ⟨B, 3, none⟩ = some x3
theorem Reg10.below {C B n : Nat} {v x0 x1 x2 x3 : Value} {W W' : World} (h : Reg10 C B v x0 x1 x2 x3 W) (hb : Below n W W') (h1 : C < n) (h2 : B < n) : Reg10 C B v x0 x1 x2 x3 W' :=
  ⟨(hb.cell (p := ⟨C, 0, none⟩) h1).trans h.m, (hb.cell (p := ⟨B, 0, none⟩) h2).trans h.c0, (hb.cell (p := ⟨B, 1, none⟩) h2).trans h.c1, (hb.cell (p := ⟨B, 2, none⟩) h2).trans h.c2, (hb.cell (p := ⟨B, 3, none⟩) h2).trans h.c3⟩
structure Reg9 (C B : Nat) (x0 x1 x2 x3 : Value) (W W' : World) : Prop where
  m : W'.cell? ⟨C + 1 + 1, 0, none⟩ = some (.map (some (C + 1)))
  c0 : W'.cell? ⟨B, 0, none⟩ = some x0
  c1 : W'.cell? ⟨B, 1, none⟩ = some x1
  c2 : W'.cell? ⟨B, 2, none⟩ = some x2
  c3 : W'.cell? ⟨B, 3, none⟩ = some x3
  h : W'.heap[C + 1]? = W.heap[C + 1]?
theorem Reg9.heap {C B : Nat} {x0 x1 x2 x3 : Value} {W W' W'' : World} (h : Reg9 C B x0 x1 x2 x3 W W') (hb : ∀ b, b = C + 1 ∨ b = C + 1 + 1 ∨ b = B → W''.heap[b]? = W'.heap[b]?) : Reg9 C B x0 x1 x2 x3 W W'' :=
  ⟨(World.cell?_of_block (hb _ (.inr (.inl rfl)))).trans h.m, (World.cell?_of_block (hb _ (.inr (.inr rfl)))).trans h.c0, (World.cell?_of_block (hb _ (.inr (.inr rfl)))).trans h.c1, (World.cell?_of_block (hb _ (.inr (.inr rfl)))).trans h.c2,
    (World.cell?_of_block (hb _ (.inr (.inr rfl)))).trans h.c3, (hb _ (.inl rfl)).trans h.h⟩
set_option maxRecDepth 20000 in
theorem look_nil {W : World} {b k : Nat} {D : DataW Value} {n : Int} (hD : W.ownsMap Tryd.prog 3 heldE b k D) (hn : D.atKey (.int .i64 n) (.held (.slice none 0 0)) = .held (.slice none 0 0)) (h0 : 0 ≤ n) (h1 : n ≤ 4611686018427387904) :
    (Instr.lookup 73 (.map (some b)) (.int .i64 n) false).run Tryd.prog W = .ok (.slice none 0 0) W := by
  obtain ⟨v, ps, hrun, hv⟩ := hD.lookup law_int Tryd.underlying73 (Tryd.zeroValue23 W) (zd := .held (.slice none 0 0)) (zp := []) rfl (Maps.keyOf_int_mk Tryd.underlying3 (a := n) (WalkArith.wf_i64 (by omega)))
  rw [hn] at hv
  have hv : some (DataW.held v, []) = some (DataW.held (.slice none 0 0), ps) := hv
  injection hv with hv
  injection hv with hv
  injection hv with hv
  rw [hrun, hv]
theorem nodup_take {α β : Type} {g : α → β} : ∀ {l : List α} {k : Nat} {x : α}, (l.map g).Nodup → l[k]? = some x → ∀ y ∈ l.take k, g y ≠ g x
  | [], k, x, _, h, y, hy => by simp at hy
  | z :: r, 0, x, _, h, y, hy => by simp at hy
  | z :: r, k + 1, x, hN, h, y, hy => by
    simp only [List.map_cons, List.nodup_cons] at hN
    simp only [List.getElem?_cons_succ] at h
    simp only [List.take_succ_cons, List.mem_cons] at hy
    rcases hy with rfl | hy
    · exact fun e => hN.1 (e ▸ List.mem_map_of_mem (List.mem_of_getElem? h))
    · exact nodup_take hN.2 h y hy
set_option maxHeartbeats 1000000 in
set_option maxRecDepth 20000 in
theorem parts_c (v0 v1 v2 v3 : Value) (f : Fo) (dn : Nat) (w : World) (hf : FoV dn w v0 v1 v2 v3 f) (hd : dn ≤ w.heap.size) (hF : Fine f) (hFs : ∀ x ∈ f.all 1, Fine x.2) (hfit : fitsB f 1000 1000 = true) (hsz : (f.all 1).length ≤ 1099511627776) (hN : ((f.all 1).map fun x => cnt x.2).Nodup) :
    CallsIn Fence.wide 0 Tryd.prog 16 #[.agg #[v0, v1, v2, v3]] w (PtsP f w) := by
  have hb0 : Below w.heap.size w (w.alloc (.cells #[v0, v1, v2, v3] 25)) := (Below.refl _ w).alloc (Nat.le_refl _) _
  have hfi := Lib.hid (fits_in v0 v1 v2 v3 f 1000 1000 dn _ (hf.below hb0 hd) (by simp; omega) hF (by omega) (by omega))
  have hpa := Lib.hid (fun W (h : FoV dn W v0 v1 v2 v3 f) (h2 : dn ≤ W.heap.size) => parts_in v0 v1 v2 v3 f dn W h h2)
  have hfv := Lib.hid hf
  rw [hfit] at hfi
  obtain ⟨rfl, _, rfl, _, hA0, hS⟩ := hf
  obtain ⟨⟨a1', k1, rfl⟩, _⟩ := hA0.form
  obtain ⟨⟨a2, k2, rfl⟩, _⟩ := hS.form
  refine callsIn_of_wp_marks Tryd.func16 rfl trivial ?_ rfl
  simp only [Tryd.ntmps16, List.size_toArray, List.length_cons, List.length_nil, Nat.reduceAdd, Nat.reduceSub, Array.replicate_succ, Array.replicate_zero, List.push_toArray, List.append_toArray, List.nil_append, List.cons_append]
  gi_wp2_with fail
  refine ⟨trivial, rfl, hfi.out.mono ?_⟩
  clear hfi
  rintro e W0 ⟨rfl, hb1⟩
  obtain ⟨C, hC⟩ : ∃ C, W0.heap.size = C := ⟨_, rfl⟩
  have hmm := @run_makeMap Tryd.prog
  have hz1 : w.heap.size + 1 ≤ C := by have := hb1.size; simp [hC] at this; omega
  rw [World.size_alloc] at hb1
  obtain ⟨Wd, hWd⟩ : ∃ Wd, ((W0.alloc (.cells #[.slice none 0 0] 23)).alloc (.map #[] 0)).alloc (.cells #[.map (some (C + 1))] 73) = Wd := ⟨_, rfl⟩
  have s1 : (W0.alloc (.cells #[.slice none 0 0] 23)).heap.size = C + 1 := by simp [hC]
  have s2 : ((W0.alloc (.cells #[.slice none 0 0] 23)).alloc (.map #[] 0)).heap.size = C + 2 := by simp [hC]
  have hbd : Below C W0 Wd := by rw [← hWd]; exact (((Below.refl C W0).alloc (by omega) _).alloc (by omega) _).alloc (by omega) _
  have hsd : Wd.heap.size = C + 3 := by rw [← hWd]; simp [hC]
  have g0 : Wd.heap[C]? = some (.cells #[.slice none 0 0] 23 (0, 0)) := by
    rw [← hWd, Below.heap_alloc _ _ _ (by omega), Below.heap_alloc _ _ _ (by omega)]
    have := World.alloc_heap_new W0 (.cells #[.slice none 0 0] 23)
    rw [hC] at this
    exact this
  have g1 : Wd.heap[C + 1]? = some (.map #[] 0) := by
    rw [← hWd, Below.heap_alloc _ _ _ (by omega)]
    have := World.alloc_heap_new (W0.alloc (.cells #[.slice none 0 0] 23)) (.map #[] 0)
    rwa [s1] at this
  have g2 : Wd.cell? ⟨C + 2, 0, none⟩ = some (.map (some (C + 1))) := by rw [← hWd, World.cell?_alloc_at _ _ _ _ s2.symm]; rfl
  have hbw : Below w.heap.size w Wd := (hb0.trans (hb1.mono (by omega))).trans (hbd.mono (by omega))
  have hcc : ∀ q, Wd.cell? ⟨w.heap.size, q, none⟩ = (#[.int .u8 f.op, .string f.n, .slice a1' f.args.length k1, .slice a2 f.sub.length k2] : Array Value)[q]? := fun q => by
    rw [hbd.cell (p := ⟨w.heap.size, q, none⟩) (by show w.heap.size < C; omega), hb1.cell (p := ⟨w.heap.size, q, none⟩) (by show w.heap.size < w.heap.size + 1; omega), World.cell?_alloc_at _ _ _ _ rfl]
  have e0 := hcc 0
  have e1 := hcc 1
  have e2 := hcc 2
  have e3 := hcc 3
  simp only [List.getElem?_toArray, List.getElem?_cons_zero, List.getElem?_cons_succ] at e0 e1 e2 e3
  have HW := Lib.hid hWd
  rw [← hWd] at e0 e1 e2 e3
  have hpa1 := Lib.hid (hpa.out Wd (hfv.out.below hbw hd) (by omega))
  clear hcc hWd s1 s2
  gi_wp2_with fail
  rw [HW.out]
  refine ⟨trivial, rfl, hpa1.out.mono ?_⟩
  clear hpa1 hpa
  rintro e W1 ⟨rfl, hb2, hbox, hz2⟩
  have hz : W1.heap.size ≤ C + 4 ∧ C + 4 ≤ W1.heap.size := by omega
  rw [hsd] at hb2 hbox
  rw [hsd]
  have hbw1 : Below w.heap.size w W1 := hbw.trans (hb2.mono (by omega))
  have b0 : W1.heap[C]? = some (.cells #[.slice none 0 0] 23 (0, 0)) := (hb2.block C (by omega)).trans g0
  have b1 : W1.heap[C + 1]? = some (.map #[] 0) := (hb2.block (C + 1) (by omega)).trans g1
  have b2 := Lib.hid ((hb2.cell (p := ⟨C + 2, 0, none⟩) (show C + 2 < C + 3 by omega)).trans g2)
  have hC2 : W0.heap.size ≤ C ∧ C ≤ W0.heap.size := by omega
  clear hz2 e0 e1 e2 e3 g0 g1 g2 HW hsd hC hbw hbd hb1
  have c0 : W1.cell? ⟨C, 0, none⟩ = some (.slice none 0 0) := by simp [World.cell?, b0]
  have f0 : W1.frozen? ⟨C, 0, none⟩ = false := by simp [World.frozen?, b0]
  have m0 : W1.ownsMap (H := Value) Tryd.prog 3 heldE (C + 1) 0 (.map []) := ⟨#[], 0, b1, ⟨by simp, MapKept.stamped_empty 0, by simp⟩, Nat.le_refl _, rfl⟩
  have M0 := Lib.hid m0
  have C0 := Lib.hid c0
  have F0 := Lib.hid f0
  clear b0 b1 c0 f0 m0
  gi_wp2_with fail
  refine range_law (gf := 66) (lb := #[.pointer (some ⟨C + 3, 0, none⟩)]) rfl (enters_of Tryd.func66 (by kernel_rfl) rfl) (parts_iter f (C + 3) dn hF.p)
    (by rintro W x args ⟨_, _, _, _, rfl, _⟩; rfl) (PJ f C) (fun _ _ _ => False) (fun b => b = C ∨ b = C + 1) (PJ.fram (by omega)) (fun c => ⟨fun h => h.elim, fun h => h.elim⟩)
    ⟨⟨_, [], fun b => by simp [Value.ownBlock], C0.out, World.ownsRow_nil _ _ _ _⟩, F0.out, b2.out, ⟨_, M0.out, fun n _ => rfl⟩, by omega⟩
    (fun O' W' hb' hs' => ⟨hbox.below hb' (by omega) (by omega), fun b hb => (hs' b hb).elim (fun h => by omega) fun h => by omega⟩)
    (fun k x args W2 a1 W3 => ∃ v0 v1 v2 v3, FoV dn W2 v0 v1 v2 v3 x.2 ∧ W3 = W2.alloc (.cells #[v0, v1, v2, v3] 25) ∧ ∃ u0 u1 u2 u8 u9 u10 u11 u12 u13 u14 u15, a1 = { tmps := #[u0, u1, u2, .pointer (some ⟨C, 0, none⟩), .pointer (some ⟨C + 1 + 1, 0, none⟩), undef, .pointer (some ⟨W2.heap.size, 0, none⟩), undef, u8, u9, u10, u11, u12, u13, u14, u15, undef, undef, undef, undef, undef, undef, undef, undef, undef, undef, undef, undef, undef, undef, undef, undef, undef, undef, undef, undef, undef, undef, undef], defers := [] }) ?assign ?body ?done ?stop
  case assign =>
    rintro l2 k x O2 W2 args hj hx ⟨v0, v1, v2, v3, rfl, hv⟩
    have HV := Lib.hid hv
    obtain ⟨rfl, hop, rfl, _, hA, hS⟩ := hv
    obtain ⟨⟨a1, k1, rfl⟩, _⟩ := hA.form
    obtain ⟨⟨a2, k2, rfl⟩, _⟩ := hS.form
    clear hj hbox
    gi_wp2
    exact ⟨(Below.refl _ _).alloc (Nat.le_refl _) _, _, _, _, _, HV.out, rfl, _, _, _, _, _, _, _, _, _, _, _, rfl⟩
  case body =>
    rintro l2 k x O2 W3 args _ _ W4 ⟨v0, v1, v2, v3, hv, rfl, u0, u1, u2, u8, u9, u10, u11, u12, u13, u14, u15, rfl⟩ hj hx hrep hbb hbl hz3 hne hl2 hl3 hol
    rw [World.size_alloc] at hz3
    have hd3 : dn ≤ W3.heap.size := by omega
    have hv4 := (hv.below hbb hd3).below hbl (show dn ≤ l2 by omega)
    have hd4 : dn ≤ W4.heap.size := by omega
    have hcc : ∀ q, W4.cell? ⟨W3.heap.size, q, none⟩ = (#[v0, v1, v2, v3] : Array Value)[q]? := fun q => by
      rw [World.cell?_of_block (w := W3.alloc (.cells #[v0, v1, v2, v3] 25)) (hne _ (by show W3.heap.size ≠ l2; omega)), World.cell?_alloc_at _ _ _ _ rfl]
    obtain ⟨hk, hxe⟩ := List.getElem?_eq_some_iff.1 hx
    have hnodes := Lib.hid (nodes_in v0 v1 v2 v3 x.2 dn W4 hv4 hd4 (hFs x (by rw [← hxe]; exact List.getElem_mem hk)))
    have HCP := Lib.hid (fun W' (h : Below dn W4 W') (h' : dn ≤ W'.heap.size) => copyF_c (SizeOf.sizeOf x.2 + 1) x.2 (Nat.lt_succ_self _) v0 v1 v2 v3 dn W' (hv4.below h (Nat.le_refl _)) h')
    obtain ⟨rfl, hop, rfl, _, hA, hS⟩ := hv4
    obtain ⟨⟨a1, k1, rfl⟩, hal⟩ := hA.form
    obtain ⟨⟨a2, k2, rfl⟩, _⟩ := hS.form
    have d0 := hcc 0
    have d1 := hcc 1
    have d2 := hcc 2
    have d3 := hcc 3
    simp only [List.getElem?_toArray, List.getElem?_cons_zero, List.getElem?_cons_succ] at d0 d1 d2 d3
    have HJ := Lib.hid hj
    have hz4 : W4.heap.size ≤ W3.heap.size + 1 ∧ W3.heap.size + 1 ≤ W4.heap.size := by omega
    have HXE := Lib.hid hxe
    have HNT := Lib.hid (nodup_take hN hx)
    have hfn : (levelsL x.2).length ≤ 4611686018427387904 := (hFs x (by rw [← hxe]; exact List.getElem_mem hk)).n
    have hsz3 := hj.lt
    have hCW3 : C + 2 < W3.heap.size := by omega
    clear hcc hne hbl hbb hrep hbox hS hA0 hb2 hxe hx b2 hz hb0 hz3 hj M0 C0 F0 hbw1
    gi_wp2_with fail
    refine ⟨trivial, rfl, (CallsIn.inRound l2 hnodes.out).mono ?_⟩
    clear hnodes
    rintro e W5 ⟨rfl, hb5⟩
    have hj5 := (PJ.fram (f := f) (C := C) (n := C + 3) (by omega)).below HJ.out hb5 (by omega)
    have q0 := (hb5.cell (p := ⟨W3.heap.size, 0, none⟩) (show W3.heap.size < W4.heap.size by omega)).trans d0
    have q1 := (hb5.cell (p := ⟨W3.heap.size, 1, none⟩) (show W3.heap.size < W4.heap.size by omega)).trans d1
    have q2 := (hb5.cell (p := ⟨W3.heap.size, 2, none⟩) (show W3.heap.size < W4.heap.size by omega)).trans d2
    have q3 := (hb5.cell (p := ⟨W3.heap.size, 3, none⟩) (show W3.heap.size < W4.heap.size by omega)).trans d3
    have HB5 := Lib.hid hb5
    clear hb5 d0 d1 d2 d3
    obtain ⟨⟨v, xs, ho, hc, hown⟩, hfr, hm, ⟨D, hD, hDk⟩, hlt⟩ := hj5
    have HDN := Lib.hid (hDk (cnt x.2) HNT.out)
    unfold cnt at HDN
    generalize hn : ((levelsL x.2).length : Int) = n at *
    have hn0 : 0 ≤ n := by omega
    have hn1 : n ≤ 4611686018427387904 := by omega
    have hlook := look_nil hD HDN.out hn0 hn1
    have HO := Lib.hid ho
    have HOW := Lib.hid hown
    have HD := Lib.hid hD
    have HDK := Lib.hid hDk
    have HN := Lib.hid hn
    clear ho hown hD hDk hn
    gi_wp2_with fail
    refine ⟨trivial, rfl, (CallsIn.inRound l2 (callsIn_wide.2 (contains_none _ _))).mono ?_⟩
    rintro e W5' ⟨rfl, rfl⟩
    gi_wp2_with fail
    clear hlook
    have hlk : k < 1099511627776 := by omega
    refine wpIn_region_held (Reg9 C W3.heap.size (.int .u8 x.2.op) (.string x.2.n) (.slice a1 x.2.args.length k1) (.slice a2 x.2.sub.length k2) W5) [8]
      9 #[false, false, false, false, false, false, false, false, false] (by kernel_rfl) (by kernel_rfl) (by kernel_rfl) (by kernel_rfl) ⟨hm, q0, q1, q2, q3, rfl⟩ (fun hHeld => ?_)
    refine wpAnyS_take (i := 0) (oi := ⟨some 23, _, _, _, _, _⟩) (v := .map (some (C + 1))) rfl (by kernel_rfl) (by kernel_rfl) (by kernel_rfl) (by kernel_rfl) (fun _ _ _ h => Norm.panic h) (Or.inl ⟨by rfl, ?_⟩) (by assumption) ?_
    · intro w hSw
      obtain ⟨t0, t1, t2, t3, t4, t5⟩ := hSw
      go_simp
    simp only [Act.put, List.setIfInBounds_toArray, List.set_cons_zero, List.set_cons_succ]
    refine wpAnyS_take (i := 1) (oi := ⟨some 24, _, _, _, _, _⟩) (v := .int .i64 n) rfl (by kernel_rfl) (by kernel_rfl) (by kernel_rfl) (by kernel_rfl) (fun _ _ _ h => Norm.panic h) (Or.inl ⟨by rfl, ?_⟩) (by assumption) ?_
    · intro w hSw
      obtain ⟨t0, t1, t2, t3, t4, t5⟩ := hSw
      go_simp
    simp only [Act.put, List.setIfInBounds_toArray, List.set_cons_zero, List.set_cons_succ]
    refine wpAnyS_take (i := 2) (oi := ⟨some 25, _, _, _, _, _⟩) (v := .map (some (C + 1))) rfl (by kernel_rfl) (by kernel_rfl) (by kernel_rfl) (by kernel_rfl) (fun _ _ _ h => Norm.panic h) (Or.inl ⟨by rfl, ?_⟩) (by assumption) ?_
    · intro w hSw
      obtain ⟨t0, t1, t2, t3, t4, t5⟩ := hSw
      go_simp
    simp only [Act.put, List.setIfInBounds_toArray, List.set_cons_zero, List.set_cons_succ]
    refine wpAnyS_take (i := 3) (oi := ⟨some 26, _, _, _, _, _⟩) (v := .int .i64 n) rfl (by kernel_rfl) (by kernel_rfl) (by kernel_rfl) (by kernel_rfl) (fun _ _ _ h => Norm.panic h) (Or.inl ⟨by rfl, ?_⟩) (by assumption) ?_
    · intro w hSw
      obtain ⟨t0, t1, t2, t3, t4, t5⟩ := hSw
      go_simp
    simp only [Act.put, List.setIfInBounds_toArray, List.set_cons_zero, List.set_cons_succ]
    refine wpAnyS_take (i := 4) (oi := ⟨some 27, _, _, _, _, _⟩) (v := .slice none 0 0) rfl (by kernel_rfl) (by kernel_rfl) (by kernel_rfl) (by kernel_rfl) (fun _ _ _ h => Norm.panic h) (Or.inl ⟨by rfl, ?_⟩) (by assumption) ?_
    · intro w hSw
      obtain ⟨t0, t1, t2, t3, t4, t5⟩ := hSw
      have hlook := look_nil (map_heap HD.out t5) HDN.out hn0 hn1
      go_simp
    simp only [Act.put, List.setIfInBounds_toArray, List.set_cons_zero, List.set_cons_succ]
    refine wpAnyS_take (i := 5) (oi := ⟨some 28, _, _, _, _, _⟩) (v := .agg #[.int .u8 x.2.op, .string x.2.n, .slice a1 x.2.args.length k1, .slice a2 x.2.sub.length k2]) rfl (by kernel_rfl) (by kernel_rfl) (by kernel_rfl) (by kernel_rfl) (fun _ _ _ h => Norm.panic h) (Or.inl ⟨by rfl, ?_⟩) (by assumption) ?_
    · intro w hSw
      obtain ⟨t0, t1, t2, t3, t4, t5⟩ := hSw
      go_simp
    simp only [Act.put, List.setIfInBounds_toArray, List.set_cons_zero, List.set_cons_succ]
    have hSd := hHeld
    clear hHeld
    obtain ⟨W6, hW6⟩ : ∃ W6, W5.drew.alloc (.cells #[.int .u8 x.2.op, .string x.2.n, .slice a1 x.2.args.length k1, .slice a2 x.2.sub.length k2] 25) = W6 := ⟨_, rfl⟩
    refine wpAnyS_one (i := 6) (oi := ⟨some 29, _, _, _, _, _⟩) rfl (by kernel_rfl) (by rfl) (fun K hK => ?_)
    go_simp
    have hW5z := HB5.out.size
    have hb6 : Below W5.heap.size W5 W6 := by rw [← hW6]; exact (Below.drew (Below.refl _ _)).alloc (Nat.le_refl _) _
    have hs6 : W6.heap.size = W5.heap.size + 1 := by rw [← hW6]; simp
    have hS6 : Reg9 C W3.heap.size (.int .u8 x.2.op) (.string x.2.n) (.slice a1 x.2.args.length k1) (.slice a2 x.2.sub.length k2) W5 W6 := hSd.heap fun b hb => hb6.block b (by omega)
    have hn6 : ∀ j u, [Value.int .u8 x.2.op, .string x.2.n, .slice a1 x.2.args.length k1, .slice a2 x.2.sub.length k2][j]? = some u → W6.cell? ((⟨W5.heap.size, 0, none⟩ : Addr).add j) = some u := by rw [← hW6]; exact new_four W5.drew _ _ _ _ _
    refine hK _ _ (fun _ => hS6) ?_
    clear hK K hW6
    obtain ⟨i0, hi, hz0, hz1, hz2⟩ := info_parts infoF
    refine wpAnyS_one (i := 7) (oi := ⟨some 30, _, _, _, _, _⟩) rfl (by kernel_rfl) (by rfl) (fun K hK => ?_)
    refine wp_append_lies W6 (.tmp 27) (.tmp 29) 23 rfl (C + 3) 25 i0 (.agg #[.int .u8 0, .string ByteArray.empty, .slice none 0 0, .slice none 0 0]) 4 72 Tryd.underlying23 hi hz0 hz1 hz2 rfl (by decide) (.slice none 0 0) 0 [] rfl (World.ownsRow_nil _ _ _ _) ⟨W5.heap.size, 0, none⟩ 1 1 _ rfl rfl hn6 (by simp [Value.oneCell']) (by decide) (by unfold maxLen; omega) (by omega) (by omega) (W5.heap.size + 1) hs6 ?_
    intro g7 k7 W7 hown7 hgrow7 hat7 hlt7
    have hG7 : Below W5.heap.size W5 W7 := hb6.trans ⟨hgrow7.os, hgrow7.tape, hgrow7.output, hgrow7.size, fun b hb => hgrow7.block b (by omega) (by simp [Value.ownBlock])⟩
    refine hK _ _ (fun _ => hSd.heap fun b hb => hG7.block b (by omega)) ?_
    clear hK K
    simp only [Act.put, List.setIfInBounds_toArray, List.set_cons_zero, List.set_cons_succ]
    refine wpAnyS_one (i := 8) (oi := ⟨none, _, _, _, _, _⟩) rfl (by kernel_rfl) (by rfl) (fun K hK => ?_)
    obtain ⟨W8, hr8, hD8, hg8⟩ := (map_heap HD.out (hG7.block (C + 1) (by omega))).update law_int Tryd.underlying73 (by unfold maxLen; omega) (Maps.keyOf_int_mk Tryd.underlying3 (a := n) (WalkArith.wf_i64 (by omega))) (val := .slice (some ⟨g7, 0, none⟩) (0 + 1) k7) (d := .held (.slice (some ⟨g7, 0, none⟩) (0 + 1) k7)) (ps := []) rfl
    go_simp
    refine hK _ _ (fun h => absurd (by decide) h) ?_
    clear hK K
    simp only [Act.put, List.setIfInBounds_toArray, List.set_cons_zero, List.set_cons_succ]
    refine wpAnyS_done (by kernel_rfl) ?_
    refine Norm.normal ?_
    have hG7z := hG7.size
    have hblk8 : ∀ b, b < W5.heap.size → b ≠ C + 1 → W8.heap[b]? = W5.heap[b]? := fun b hb hne => (hg8.block b (by omega) (by simpa using hne)).trans (hG7.block b hb)
    have hG8 : Grow (fun b => b = C + 1) W5 W8 := ⟨hg8.os.trans hG7.os, hg8.tape.trans hG7.tape, hg8.output.trans hG7.output, Nat.le_trans hG7.size hg8.size, hblk8⟩
    have hz8 := hG8.size
    have q0' := (World.cell?_of_block (a := ⟨W3.heap.size, 0, none⟩) (hblk8 W3.heap.size (by omega) (by omega))).trans q0
    have q1' := (World.cell?_of_block (a := ⟨W3.heap.size, 1, none⟩) (hblk8 W3.heap.size (by omega) (by omega))).trans q1
    have q2' := (World.cell?_of_block (a := ⟨W3.heap.size, 2, none⟩) (hblk8 W3.heap.size (by omega) (by omega))).trans q2
    have q3' := (World.cell?_of_block (a := ⟨W3.heap.size, 3, none⟩) (hblk8 W3.heap.size (by omega) (by omega))).trans q3
    have hc' := (World.cell?_of_block (a := ⟨C, 0, none⟩) (hblk8 C (by omega) (by omega))).trans hc
    have hfr' := (World.frozen?_of_block (a := ⟨C, 0, none⟩) (hblk8 C (by omega) (by omega))).trans hfr
    have hm' := (World.cell?_of_block (a := ⟨C + 2, 0, none⟩) (hblk8 (C + 2) (by omega) (by omega))).trans hm
    have hgl : ∀ g, v.ownBlock = some g → W8.heap[g]? = W5.heap[g]? := fun g hg => by
      have h1 := (HOW.out.lt g hg).1
      have h2 := (HOW.out.lt g hg).2
      have h3 : g ≠ C + 1 := by omega
      exact hblk8 g h2 h3
    have hown' := own_heap HOW.out hgl
    clear hgl
    have HOW8 := Lib.hid hown'
    have HD8 := Lib.hid hD8
    have HG8 := Lib.hid hG8
    clear hown' hD8 hG8 hblk8 hG7 hown7 hgrow7 hat7 hg8 hr8 hS6 hn6 hb6 hSd q0 q1 q2 q3 hc hfr hm hi hz0 hz1 hz2 hs6 hlt7
    gi_wp2_with fail
    obtain ⟨av, cv, rfl⟩ : ∃ a c, v = .slice a k c := by
      rcases own_cells HOW8.out with ⟨h0, rfl, _⟩ | ⟨g, cap, h0, _⟩
      · exact ⟨_, _, h0⟩
      · exact ⟨_, _, h0⟩
    have hbd8 := (HB5.out.mono (show dn ≤ W4.heap.size by omega)).trans (HG8.out.below (n := dn) (by omega) fun b (hb : b = C + 1) => by omega)
    have HBD := Lib.hid hbd8
    have hW5z := HB5.out.size
    clear hbd8
    have hW3z : W3.heap.size < W8.heap.size := by omega
    refine wpIn_region_held (Reg10 C W3.heap.size (.slice av k cv) (.int .u8 x.2.op) (.string x.2.n) (.slice a1 x.2.args.length k1) (.slice a2 x.2.sub.length k2)) [5, 6, 7, 8]
      9 #[false, false, false, false, false, false, false, false, false] (by kernel_rfl) (by kernel_rfl) (by kernel_rfl) (by kernel_rfl) ⟨hc', q0', q1', q2', q3'⟩ (fun hHeld => ?_)
    refine wpAnyS_take (i := 0) (oi := ⟨some 31, _, _, _, _, _⟩) (v := .slice av k cv) rfl (by kernel_rfl) (by kernel_rfl) (by kernel_rfl) (by kernel_rfl) (fun _ _ _ h => Norm.panic h) (Or.inl ⟨by rfl, ?_⟩) (by assumption) ?_
    · intro w hSw
      obtain ⟨t0, t1, t2, t3, t4⟩ := hSw
      go_simp
    simp only [Act.put, List.setIfInBounds_toArray, List.set_cons_zero, List.set_cons_succ]
    refine wpAnyS_take (i := 1) (oi := ⟨some 32, _, _, _, _, _⟩) (v := .agg #[.int .u8 x.2.op, .string x.2.n, .slice a1 x.2.args.length k1, .slice a2 x.2.sub.length k2]) rfl (by kernel_rfl) (by kernel_rfl) (by kernel_rfl) (by kernel_rfl) (fun _ _ _ h => Norm.panic h) (Or.inl ⟨by rfl, ?_⟩) (by assumption) ?_
    · intro w hSw
      obtain ⟨t0, t1, t2, t3, t4⟩ := hSw
      go_simp
    simp only [Act.put, List.setIfInBounds_toArray, List.set_cons_zero, List.set_cons_succ]
    refine wpAnyS_take (i := 3) (oi := ⟨some 34, _, _, _, _, _⟩) (v := .int .i64 (k : Int)) rfl (by kernel_rfl) (by kernel_rfl) (by kernel_rfl) (by kernel_rfl) (fun _ _ _ h => Norm.panic h) (Or.inl ⟨by rfl, ?_⟩) (by assumption) ?_
    · intro w hSw
      obtain ⟨t0, t1, t2, t3, t4⟩ := hSw
      go_simp
    simp only [Act.put, List.setIfInBounds_toArray, List.set_cons_zero, List.set_cons_succ]
    have HSd := Lib.hid hHeld
    clear hHeld
    refine wpAnyS_two (i := 2) (j := 4) (oi := ⟨some 33, _, _, _, _, _⟩) (oj := ⟨some 35, _, _, _, _, _⟩) rfl rfl (by kernel_rfl) (by rfl) (by rfl) (fun K hK => ?h1) (fun K hK => ?h2)
    case' h1 =>
      go_simp
      refine (HCP.out _ (Below.drew HBD.out) (by simp; omega)).mono ?_
      rintro e w1 ⟨y2, z2, y3, z3, rfl, -, -, hb9⟩
      have hb9' : Below W8.heap.size W8 w1 := (Below.drew (Below.refl _ _)).trans (hb9.mono (by simp))
      have hb9z := hb9'.size
      refine hK _ _ (fun _ => HSd.out.below hb9 (by simp; omega) (by simp; omega)) ?_
      clear hK K hb9
      simp only [Act.put, List.setIfInBounds_toArray, List.set_cons_zero, List.set_cons_succ]
      obtain ⟨W9, hW9⟩ : ∃ W9, w1.alloc (.cells #[.int .u8 0, .string ⟨#[]⟩, .slice none 0 0, .slice none 0 0] 25) = W9 := ⟨_, rfl⟩
      obtain ⟨B9, hB9⟩ : ∃ B9, w1.heap.size = B9 := ⟨_, rfl⟩
      refine wpAnyS_one (i := 4) (oi := ⟨some 35, _, _, _, _, _⟩) rfl (by kernel_rfl) (by rfl) (fun K hK => ?_)
      go_simp
      have hb89 : Below W8.heap.size W8 W9 := by rw [← hW9]; exact hb9'.alloc hb9z _
      have n9 : ∀ j u, [Value.int .u8 0, .string ByteArray.empty, .slice none 0 0, .slice none 0 0][j]? = some u → W9.cell? ((⟨B9, 0, none⟩ : Addr).add j) = some u := by rw [← hW9, ← hB9]; exact new_four w1 _ _ _ _ _
      refine hK _ _ (fun _ => HSd.out.below (n := W8.heap.size) ⟨hb89.os, hb89.tape, hb89.output, hb89.size, hb89.block⟩ (by omega) (by omega)) ?_
      clear hK K hb9' hb9z hW9 hB9
    case' h2 =>
      obtain ⟨Wb, hWb⟩ : ∃ Wb, W8.drew.alloc (.cells #[.int .u8 0, .string ⟨#[]⟩, .slice none 0 0, .slice none 0 0] 25) = Wb := ⟨_, rfl⟩
      go_simp
      have hbb9 : Below W8.heap.size W8 Wb := by rw [← hWb]; exact (Below.drew (Below.refl _ _)).alloc (by simp) _
      have hzb : Wb.heap.size = W8.heap.size + 1 := by rw [← hWb]; simp
      have nb : ∀ j u, [Value.int .u8 0, .string ByteArray.empty, .slice none 0 0, .slice none 0 0][j]? = some u → Wb.cell? ((⟨W8.heap.size, 0, none⟩ : Addr).add j) = some u := by rw [← hWb]; exact new_four W8.drew _ _ _ _ _
      obtain ⟨B9, hB9⟩ : ∃ B9, W8.heap.size = B9 := ⟨_, rfl⟩
      refine hK _ _ (fun _ => HSd.out.below (n := W8.heap.size) ⟨hbb9.os, hbb9.tape, hbb9.output, hbb9.size, hbb9.block⟩ (by omega) (by omega)) ?_
      clear hK K hWb
      simp only [Act.put, List.setIfInBounds_toArray, List.set_cons_zero, List.set_cons_succ]
      refine wpAnyS_one (i := 2) (oi := ⟨some 33, _, _, _, _, _⟩) rfl (by kernel_rfl) (by rfl) (fun K hK => ?_)
      go_simp
      refine (HCP.out _ (HBD.out.trans (hbb9.mono (by omega))) (by omega)).mono ?_
      rintro e W9 ⟨y2, z2, y3, z3, rfl, -, -, hb9⟩
      have hb89 : Below W8.heap.size W8 W9 := hbb9.trans (hb9.mono (by omega))
      have n9 : ∀ j u, [Value.int .u8 0, .string ByteArray.empty, .slice none 0 0, .slice none 0 0][j]? = some u → W9.cell? ((⟨B9, 0, none⟩ : Addr).add j) = some u := fun j u hj => by
        have h := nb j u hj
        rw [Addr.add_lit, hB9] at h
        rw [Addr.add_lit, hb9.cell (p := ⟨B9, 0 + j, none⟩) (show B9 < Wb.heap.size by omega)]
        exact h
      refine hK _ _ (fun _ => HSd.out.below (n := W8.heap.size) ⟨hb89.os, hb89.tape, hb89.output, hb89.size, hb89.block⟩ (by omega) (by omega)) ?_
      clear hK K hbb9 hzb nb hb9 hB9
    all_goals
      simp only [Act.put, List.setIfInBounds_toArray, List.set_cons_zero, List.set_cons_succ]
      obtain ⟨i0, hi, hz0, hz1, hz2⟩ := info_parts infoF
      have hz89 := hb89.size
      refine wpAnyS_one (i := 5) (oi := ⟨some 36, _, _, _, _, _⟩) rfl (by kernel_rfl) (by rfl) (fun K hK => ?_)
      refine wp_append_lies W9 (.tmp 31) (.tmp 35) 23 rfl (C + 3) 25 i0 (.agg #[.int .u8 0, .string ByteArray.empty, .slice none 0 0, .slice none 0 0]) 4 72 Tryd.underlying23 hi hz0 hz1 hz2 rfl (by decide) (.slice av k cv) k xs rfl (own_below HOW8.out hb89) ⟨B9, 0, none⟩ 1 1 [Value.int .u8 0, .string ByteArray.empty, .slice none 0 0, .slice none 0 0] rfl rfl n9 (by simp [Value.oneCell']) (by decide) (by unfold maxLen; omega) (by omega) (by omega) W9.heap.size rfl ?_
      intro g cap W10 hown10 hgrow10 hat10 hlt10
      refine hK _ _ (fun h => absurd (by decide) h) ?_
      clear hK K
      simp only [Act.put, List.setIfInBounds_toArray, List.set_cons_zero, List.set_cons_succ]
      have hgl8 := HOW8.out.lt
      have hblk : ∀ b, b < W8.heap.size → (Value.slice av k cv).ownBlock ≠ some b → W10.heap[b]? = W8.heap[b]? := fun b hb hne => (hgrow10.block b (by omega) (Ne.symm hne)).trans (hb89.block b hb)
      have hz10 := hgrow10.size
      have hnC : ∀ b, b ≤ C + 2 → (Value.slice av k cv).ownBlock ≠ some b := fun b hb h => by have := (hgl8 b h).1; omega
      have hg3 : C + 3 ≤ g := (hown10.lt g rfl).1
      have hPre : Pre f C k g cap av cv O2 W4 W10 := by
        refine ⟨HO.out, ?_, by rw [World.cell?_of_block (a := ⟨C, 0, none⟩) (hblk C (by omega) (hnC C (by omega))), hc']; rfl, (World.frozen?_of_block (a := ⟨C, 0, none⟩) (hblk C (by omega) (hnC C (by omega)))).trans hfr',
          (World.cell?_of_block (a := ⟨C + 2, 0, none⟩) (hblk (C + 2) (by omega) (hnC (C + 2) (by omega)))).trans hm', ⟨_, map_heap HD8.out (hblk (C + 1) (by omega) (hnC (C + 1) (by omega))), fun m hm => ?_⟩, ⟨_, hown10⟩, ?_⟩
        · refine ((Grow.of_below HB5.out).trans (HG8.out.mono fun b _ (h : b = C + 1) => (HO.out b).2 (.inr (.inl h))) (Sub.refl _ _)).trans (O1 := O2) ⟨hgrow10.os.trans hb89.os, hgrow10.tape.trans hb89.tape, hgrow10.output.trans hb89.output, by omega, fun b hb hn => hblk b hb fun e => hn ((HO.out b).2 (.inr (.inr e)))⟩ (Sub.refl _ _)
        · have hmn : n ≠ m := by
            have := hm x (by rw [List.take_succ_eq_append_getElem hk, HXE.out]; simp)
            unfold cnt at this
            rw [HN.out] at this
            exact this
          rw [Maps.atKey_put_other (by intro e; injection e with _ e; exact hmn e.symm)]
          exact HDK.out m fun y hy => hm y (by rw [List.take_succ_eq_append_getElem hk]; exact List.mem_append_left _ hy)
        · rcases hat10 with h | h
          · exact .inl h
          · exact .inr (by omega)
      have hxl : xs.length = k * 4 := HOW8.out.1
      have e0 : W10.cell? ⟨g, k * 4, none⟩ = some (.int .u8 0) := by rw [hown10.cellAt (k * 4) (by omega), List.getElem?_append_right (by omega), hxl, Nat.sub_self]; rfl
      have e1 : W10.cell? ⟨g, k * 4 + 1, none⟩ = some (.string ByteArray.empty) := by rw [hown10.cellAt (k * 4 + 1) (by omega), List.getElem?_append_right (by omega), hxl, Nat.add_sub_cancel_left]; rfl
      have e2 : W10.cell? ⟨g, k * 4 + 2, none⟩ = some (.slice none 0 0) := by rw [hown10.cellAt (k * 4 + 2) (by omega), List.getElem?_append_right (by omega), hxl, Nat.add_sub_cancel_left]; rfl
      have e3 : W10.cell? ⟨g, k * 4 + 3, none⟩ = some (.slice none 0 0) := by rw [hown10.cellAt (k * 4 + 3) (by omega), List.getElem?_append_right (by omega), hxl, Nat.add_sub_cancel_left]; rfl
      have g0 := hown10.frozenAt (k * 4)
      have g1 := hown10.frozenAt (k * 4 + 1)
      have g2 := hown10.frozenAt (k * 4 + 2)
      have g3 := hown10.frozenAt (k * 4 + 3)
      have HP := Lib.hid hPre
      have hlt10 : C + 2 < W10.heap.size := by omega
      have n0 : (0 : Int) ≤ (k : Int) := by omega
      have n1 : (k : Int) < (k : Int) + 1 := by omega
      have hc10 : W10.cell? ⟨C, 0, none⟩ = some (.slice av k cv) := (World.cell?_of_block (a := ⟨C, 0, none⟩) (hblk C (by omega) (hnC C (by omega)))).trans hc'
      have hf10 := hPre.fr
      have HW10 := Lib.hid hown10
      clear hPre hxl hblk hnC hgrow10 hat10 hgl8 n9 hb89 hi hz0 hz1 hz2 hown10 hc' hfr' hm' q0' q1' q2' q3'
      have hlt10g : g < W10.heap.size := (HW10.out.lt g rfl).2
      have hgC : g ≠ C := by omega
      refine wpAnyS_two (i := 6) (j := 8) (oi := ⟨some 37, _, _, _, _, _⟩) (oj := ⟨none, _, _, _, _, _⟩) rfl rfl (by kernel_rfl) (by rfl) (by rfl) (fun K hK => ?_) (fun K hK => ?_)
      rotate_left
      obtain ⟨W11, hW11⟩ : ∃ W11, W10.setCell ⟨C, 0, none⟩ (.slice (some ⟨g, 0, none⟩) (k + 1) cap) = W11 := ⟨_, rfl⟩
      go_simp
      refine hK _ _ (fun h => absurd (by decide) h) ?_
      clear hK K
      simp only [Act.put, List.setIfInBounds_toArray, List.set_cons_zero, List.set_cons_succ]
      have hg11 : W10.grownBy W11 (some C) ∧ W11.heap.size = W10.heap.size := by rw [← hW11]; exact grown_set W10 ⟨C, 0, none⟩ _
      have r11 : W11.os = W10.os ∧ W11.tape = W10.tape ∧ W11.output = W10.output := ⟨hg11.1.os, hg11.1.tape, hg11.1.output⟩
      have c11 : W11.cell? ⟨C, 0, none⟩ = some (.slice (some ⟨g, 0, none⟩) (k + 1) cap) := by rw [← hW11]; exact World.cell?_setCell_same' W10 ⟨C, 0, none⟩ _ (by rw [hc10]; rfl)
      have f11 : W11.frozen? ⟨C, 0, none⟩ = false := by rw [← hW11, World.frozen?_setCell]; exact hf10
      have hb11 : W11.heap[g]? = W10.heap[g]? := hg11.1.block g hlt10g (by simp; omega)
      have e0 := (World.cell?_of_block (a := ⟨g, k * 4, none⟩) hb11).trans e0
      have e1 := (World.cell?_of_block (a := ⟨g, k * 4 + 1, none⟩) hb11).trans e1
      have e2 := (World.cell?_of_block (a := ⟨g, k * 4 + 2, none⟩) hb11).trans e2
      have e3 := (World.cell?_of_block (a := ⟨g, k * 4 + 3, none⟩) hb11).trans e3
      have g0 := (World.frozen?_of_block (a := ⟨g, k * 4, none⟩) hb11).trans g0
      have g1 := (World.frozen?_of_block (a := ⟨g, k * 4 + 1, none⟩) hb11).trans g1
      have g2 := (World.frozen?_of_block (a := ⟨g, k * 4 + 2, none⟩) hb11).trans g2
      have g3 := (World.frozen?_of_block (a := ⟨g, k * 4 + 3, none⟩) hb11).trans g3
      have HG11 := Lib.hid hg11
      have R11 := Lib.hid r11
      have HW11 := Lib.hid (own_heap HW10.out (w' := W11) fun b hb => by
        have hb : g = b := by simpa [Value.ownBlock] using hb
        subst hb
        exact hb11)
      clear hW11 hg11 r11 hb11
      refine wpAnyS_one (i := 6) (oi := ⟨some 37, _, _, _, _, _⟩) rfl (by kernel_rfl) (by rfl) (fun K hK => ?_)
      go_simp
      refine hK _ _ (fun h => absurd (by decide) h) ?_
      clear hK K
      simp only [Act.put, List.setIfInBounds_toArray, List.set_cons_zero, List.set_cons_succ]
      rotate_left
      go_simp
      refine hK _ _ (fun h => absurd (by decide) h) ?_
      clear hK K
      simp only [Act.put, List.setIfInBounds_toArray, List.set_cons_zero, List.set_cons_succ]
      refine wpAnyS_two (i := 7) (j := 8) (oi := ⟨none, _, _, _, _, _⟩) (oj := ⟨none, _, _, _, _, _⟩) rfl rfl (by kernel_rfl) (by rfl) (by rfl) (fun K hK => ?_) (fun K hK => ?_)
      · obtain ⟨W11, hW11⟩ : ∃ W11, set4w W10 g (k * 4) (.int .u8 x.2.op) (.string x.2.n) (.slice y2 x.2.args.length z2) (.slice y3 x.2.sub.length z3) = W11 := ⟨_, rfl⟩
        have hs4 := set4_own (j := k * 4) (x0 := .int .u8 x.2.op) (x1 := .string x.2.n) (x2 := .slice y2 x.2.args.length z2) (x3 := .slice y3 x.2.sub.length z3) HW10.out
        rw [hW11] at hs4
        unfold set4w at hW11
        go_simp
        refine hK _ _ (fun h => absurd (by decide) h) ?_
        clear hK K hW11
        simp only [Act.put, List.setIfInBounds_toArray, List.set_cons_zero, List.set_cons_succ]
        obtain ⟨⟨ys, hy⟩, hg11, hz11⟩ := hs4
        have hbC : W11.heap[C]? = W10.heap[C]? := hg11.block C (by omega) (by simp; omega)
        have c11 := (World.cell?_of_block (a := ⟨C, 0, none⟩) hbC).trans hc10
        have f11 := (World.frozen?_of_block (a := ⟨C, 0, none⟩) hbC).trans hf10
        have c12 := World.cell?_setCell_same' W11 ⟨C, 0, none⟩ (.slice (some ⟨g, 0, none⟩) (k + 1) cap) (by rw [c11]; rfl)
        have f12 : (W11.setCell ⟨C, 0, none⟩ (.slice (some ⟨g, 0, none⟩) (k + 1) cap)).frozen? ⟨C, 0, none⟩ = false := by rw [World.frozen?_setCell]; exact f11
        have hg12 := grown_set W11 ⟨C, 0, none⟩ (.slice (some ⟨g, 0, none⟩) (k + 1) cap)
        have hfin := HP.out.fin (W'' := W11.setCell ⟨C, 0, none⟩ (.slice (some ⟨g, 0, none⟩) (k + 1) cap)) ⟨hg12.1.os.trans hg11.os, hg12.1.tape.trans hg11.tape, hg12.1.output.trans hg11.output⟩ (hg12.2.trans hz11)
          (fun b hb h1 h2 => (hg12.1.block b (by omega) (by simpa using h1)).trans (hg11.block b hb (by simpa using h2)))
          ⟨ys, own_heap hy fun b hb => hg12.1.block b (hy.lt b hb).2 (by have hb : g = b := by simpa [Value.ownBlock] using hb
                                                                         subst hb
                                                                         simpa using hgC)⟩ c12 f12 hlt10
        have HFIN := Lib.hid hfin
        clear hfin c12 f12 hg12 hy hg11
        refine wpAnyS_one (i := 8) (oi := ⟨none, _, _, _, _, _⟩) rfl (by kernel_rfl) (by rfl) (fun K hK => ?_)
        go_simp
        refine hK _ _ (fun h => absurd (by decide) h) ?_
        clear hK K
        refine wpAnyS_done (by kernel_rfl) ?_
        refine Norm.normal ?_
        gi_wp2
        exact HFIN.out
      obtain ⟨W11, hW11⟩ : ∃ W11, W10.setCell ⟨C, 0, none⟩ (.slice (some ⟨g, 0, none⟩) (k + 1) cap) = W11 := ⟨_, rfl⟩
      go_simp
      refine hK _ _ (fun h => absurd (by decide) h) ?_
      clear hK K
      simp only [Act.put, List.setIfInBounds_toArray, List.set_cons_zero, List.set_cons_succ]
      have hg11 : W10.grownBy W11 (some C) ∧ W11.heap.size = W10.heap.size := by rw [← hW11]; exact grown_set W10 ⟨C, 0, none⟩ _
      have r11 : W11.os = W10.os ∧ W11.tape = W10.tape ∧ W11.output = W10.output := ⟨hg11.1.os, hg11.1.tape, hg11.1.output⟩
      have c11 : W11.cell? ⟨C, 0, none⟩ = some (.slice (some ⟨g, 0, none⟩) (k + 1) cap) := by rw [← hW11]; exact World.cell?_setCell_same' W10 ⟨C, 0, none⟩ _ (by rw [hc10]; rfl)
      have f11 : W11.frozen? ⟨C, 0, none⟩ = false := by rw [← hW11, World.frozen?_setCell]; exact hf10
      have hb11 : W11.heap[g]? = W10.heap[g]? := hg11.1.block g hlt10g (by simp; omega)
      have e0 := (World.cell?_of_block (a := ⟨g, k * 4, none⟩) hb11).trans e0
      have e1 := (World.cell?_of_block (a := ⟨g, k * 4 + 1, none⟩) hb11).trans e1
      have e2 := (World.cell?_of_block (a := ⟨g, k * 4 + 2, none⟩) hb11).trans e2
      have e3 := (World.cell?_of_block (a := ⟨g, k * 4 + 3, none⟩) hb11).trans e3
      have g0 := (World.frozen?_of_block (a := ⟨g, k * 4, none⟩) hb11).trans g0
      have g1 := (World.frozen?_of_block (a := ⟨g, k * 4 + 1, none⟩) hb11).trans g1
      have g2 := (World.frozen?_of_block (a := ⟨g, k * 4 + 2, none⟩) hb11).trans g2
      have g3 := (World.frozen?_of_block (a := ⟨g, k * 4 + 3, none⟩) hb11).trans g3
      have HG11 := Lib.hid hg11
      have R11 := Lib.hid r11
      have HW11 := Lib.hid (own_heap HW10.out (w' := W11) fun b hb => by
        have hb : g = b := by simpa [Value.ownBlock] using hb
        subst hb
        exact hb11)
      clear hW11 hg11 r11 hb11
      all_goals
        have hs4 := set4_own (j := k * 4) (x0 := .int .u8 x.2.op) (x1 := .string x.2.n) (x2 := .slice y2 x.2.args.length z2) (x3 := .slice y3 x.2.sub.length z3) HW11.out
        obtain ⟨W12, hW12⟩ : ∃ W12, set4w W11 g (k * 4) (.int .u8 x.2.op) (.string x.2.n) (.slice y2 x.2.args.length z2) (.slice y3 x.2.sub.length z3) = W12 := ⟨_, rfl⟩
        rw [hW12] at hs4
        obtain ⟨hy, hg12, hz12⟩ := hs4
        have hbC : W12.heap[C]? = W11.heap[C]? := hg12.block C (by have := HG11.out.2; omega) (by simp; omega)
        have hfin := HP.out.fin (W'' := W12) ⟨hg12.os.trans R11.out.1, hg12.tape.trans R11.out.2.1, hg12.output.trans R11.out.2.2⟩ (hz12.trans HG11.out.2)
          (fun b hb h1 h2 => (hg12.block b (by have := HG11.out.2; omega) (by simpa using h2)).trans (HG11.out.1.block b hb (by simpa using h1)))
          hy ((World.cell?_of_block (a := ⟨C, 0, none⟩) hbC).trans c11) ((World.frozen?_of_block (a := ⟨C, 0, none⟩) hbC).trans f11) hlt10
        have HFIN := Lib.hid hfin
        clear hfin hy hg12 hbC
        unfold set4w at hW12
        refine wpAnyS_one (i := 7) (oi := ⟨none, _, _, _, _, _⟩) rfl (by kernel_rfl) (by rfl) (fun K hK => ?_)
        go_simp
        refine hK _ _ (fun h => absurd (by decide) h) ?_
        clear hK K hW12
        refine wpAnyS_done (by kernel_rfl) ?_
        refine Norm.normal ?_
        gi_wp2
        exact HFIN.out
  case stop => exact fun c O' W h => h.elim
  case done =>
    rintro O2 W2 hj hs2 nD hg2 hK
    obtain ⟨⟨v, xs, ho, hc, hown⟩, hfr, hm, _, hlt⟩ := hj
    obtain ⟨av, cv, rfl⟩ : ∃ a c, v = .slice a (f.all 1).length c := by
      rcases own_cells hown with ⟨h0, h1, _⟩ | ⟨g, cap, h0, _⟩
      · rw [h1]; exact ⟨_, _, h0⟩
      · exact ⟨_, _, h0⟩
    have hG := Lib.hid (((Grow.of_below (O := fun b => b = C ∨ b = C + 1) hbw1).trans hg2 (Sub.refl _ _)).taken (D := W1.heap.size) (by omega) (.deferred none))
    clear hbox hbw1 hA0 hS hb0 ho hs2 hg2 hown hm hfr b2 hb2 C0 F0 M0
    gi_wp2
    refine ⟨by simp, .inl ⟨_, _, rfl, run_takeDeferred hK, ?_⟩⟩
    exact ⟨_, results_tmp rfl _ _ _, av, cv, rfl, hG.out.below (Nat.le_refl _) fun b (hb : b = C ∨ b = C + 1) => by omega⟩
end Go.Proofs.YtnadjkofjgpabaaDoor.Fm
