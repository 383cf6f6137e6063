/-
  The tokens of a text, one after the other.
-/
import Derived.Test.YtkeckecdhcknhaaDoorLxNext
import Derived.Test.YtkeckecdhcknhaaDoorFmRound
namespace Go.Proofs.YtkeckecdhcknhaaDoor.Lx
open Go Go.RowKit Go.Shelf Go.Proofs.YtkeckecdhcknhaaDoor.Fm
set_option linter.unusedVariables false
set_option linter.unusedSimpArgs false
attribute [local go_sem] Oper.semAt_some
theorem tokens_c (s : ByteArray) (w : World) : Calls Tryd.prog 44 #[.string s] w fun e w' => e = .returned (.func (.func 59) #[] #[.pointer (some ⟨w.heap.size, 0, none⟩)]) ∧ w' = w.alloc (.cells #[.string s] 9) := by
  go_enter Tryd.func44, Tryd.ntmps44
  go_wp2_with fail
  go_ret
  exact ⟨rfl, rfl⟩
/-- What is put in, cell by cell. -/
theorem fold_set (off : Nat) : ∀ (vs : List Value) (i : Nat) (cs : Array Value), ((vs.zipIdx i).foldl (fun cs x => cs.setIfInBounds (off + x.2) x.1) cs).size = cs.size ∧
    ∀ k, ((vs.zipIdx i).foldl (fun cs x => cs.setIfInBounds (off + x.2) x.1) cs)[k]? = if off + i ≤ k ∧ k < off + i + vs.length ∧ k < cs.size then vs[k - (off + i)]? else cs[k]?
  | [], i, cs => ⟨rfl, fun k => by simp; intro h1 h2; omega⟩
  | v :: r, i, cs => by
    obtain ⟨h1, h2⟩ := fold_set off r (i + 1) (cs.setIfInBounds (off + i) v)
    simp only [List.zipIdx_cons, List.foldl_cons]
    refine ⟨by rw [h1]; simp, fun k => ?_⟩
    rw [h2 k]
    simp only [Array.size_setIfInBounds, List.length_cons]
    by_cases hk : k = off + i
    · subst hk
      rw [if_neg (by omega)]
      by_cases hs : off + i < cs.size
      · rw [if_pos (by omega), Array.getElem?_setIfInBounds_self_of_lt hs]; simp
      · rw [if_neg (by omega), Array.getElem?_eq_none (by simp; omega), Array.getElem?_eq_none (by omega)]
    · rw [Array.getElem?_setIfInBounds_ne (by omega)]
      by_cases hc : off + (i + 1) ≤ k ∧ k < off + (i + 1) + r.length ∧ k < cs.size
      · rw [if_pos hc, if_pos (by omega)]
        have : k - (off + i) = (k - (off + (i + 1))) + 1 := by omega
        rw [this, List.getElem?_cons_succ]
      · rw [if_neg hc, if_neg (by omega)]
/-- A new scanner's cells. -/
structure ScC (s : ByteArray) (T : List Value) (C : Array Value) : Prop where
  n : C.size = 258
  c0 : C[0]? = some (.int .i64 0)
  c1 : C[1]? = some (.string s)
  c2 : ∀ j, j < 256 → C[2 + j]? = T[j]?
theorem zero63 : ∃ Z : Array Value, (Tryd.prog.info? 108).map (fun i => (i.zero, i.size)) = some (some (.agg Z), 258) ∧ Z.size = 258 ∧ Z[0]? = some (.int .i64 0) ∧ ∀ j, j < 258 → ∃ v, Z[j]? = some v ∧ v.oneCell' = true :=
  ⟨#[.int .i64 0, .string ⟨#[]⟩] ++ Array.replicate 256 .nilFunc, by kernel_rfl, by simp, by simp, fun j hj => by
    by_cases h0 : j = 0
    · subst h0; exact ⟨_, by simp; rfl, rfl⟩
    · by_cases h1 : j = 1
      · subst h1; exact ⟨_, by simp; rfl, rfl⟩
      · refine ⟨.nilFunc, ?_, rfl⟩
        rw [Array.getElem?_append_right (by show 2 ≤ j; omega)]
        show (Array.replicate 256 Value.nilFunc)[j - 2]? = some .nilFunc
        rw [Array.getElem?_replicate, if_pos (by omega)]⟩
set_option maxRecDepth 20000 in
theorem build_scan (s : ByteArray) (T : List Value) (hT : T.length = 256) : ∃ C, ScC s T C ∧ ∀ W, (Instr.build 108 #[(1, .string s), (2, .agg T.toArray)]).run Tryd.prog W = .ok (.agg C) W := by
  obtain ⟨Z, hZ, hZs, hZ0, _⟩ := zero63
  have hz := (zero_of_info hZ).1
  obtain ⟨a1, a2⟩ := fold_set 2 T 0 (Z.setIfInBounds 1 (.string s))
  refine ⟨_, ⟨a1.trans (by simp [hZs]), ?_, ?_, ?_⟩, ?_⟩
  · rw [a2, if_neg (by omega), Array.getElem?_setIfInBounds_ne (by omega)]; exact hZ0
  · rw [a2, if_neg (by omega), Array.getElem?_setIfInBounds_self_of_lt (by omega)]
  · intro j hj
    rw [a2, if_pos ⟨by omega, by omega, by simp; omega⟩]
    congr 1; omega
  · intro W
    simp only [Instr.build, Sem.run_bind, hz W, Result.andThen_ok, run_underlying Tryd.underlying108]
    simp [Tryd.sizeOf106, Tryd.sizeOf9, Tryd.sizeOf103]
    simp [Instr.fill, Value.cells, hZs, hT]
    trace_state
def RepK (W : World) (y : Tk × Nat) (args : Array Value) : Prop := args = #[tokA y.1, .int .i64 (y.2 : Int)]
def ysL (s : ByteArray) : List (Tk × Nat) := toks KK 0 s.data.toList
theorem exec_build {t : TypeId} {ps : Array (Nat × Operand)} {a : Act} {o : Oper} {C : Array Value} (ho : o.op = .build t ps) (h : ∀ W, (Instr.build t (ps.map fun (i, x) => (i, a.eval x))).run Tryd.prog W = .ok (.agg C) W) (W : World) :
    (execOp a.eval o).run Tryd.prog W = .ok (.value (.agg C)) W := by
  have h1 := h W
  unfold execOp
  rw [ho]
  simp only [Sem.run_bind, h1, Result.andThen_ok]
  rfl
theorem rdr_one {W : World} {lo hi : Nat} {T : List Value} (h : Rdr W lo hi T) : ∀ v ∈ T, v.oneCell' = true := by
  intro v hv
  obtain ⟨j, hj, rfl⟩ := List.getElem_of_mem hv
  have hj' : j < 256 := by rw [← h.n]; exact hj
  have hg : T[j]? = some T[j] := List.getElem?_eq_getElem hj
  cases hl : lb j with
  | true => obtain ⟨B, h1, _⟩ := h.run j hj' hl; rw [hg] at h1; rw [Option.some.inj h1]; rfl
  | false =>
    by_cases h63 : j = 63
    · subst h63; obtain ⟨B, h1, _⟩ := h.mark; rw [hg] at h1; rw [Option.some.inj h1]; rfl
    · by_cases hs : ∃ q, q < 11 ∧ (sgs.getD q (0, [])).1 = j
      · obtain ⟨q, hq, rfl⟩ := hs
        obtain ⟨B, R, h1, _⟩ := h.sign q hq; rw [hg] at h1; rw [Option.some.inj h1]; rfl
      · have := h.nil j hj' hl h63 (fun q hq he => hs ⟨q, hq, he⟩)
        rw [hg] at this; rw [Option.some.inj this]; rfl
theorem sc_one {W : World} {lo hi : Nat} {T : List Value} {C : Array Value} {s0 : ByteArray} (hC : ScC s0 T C) (h : Rdr W lo hi T) (s : ByteArray) : C.all (·.oneCell') = true := by
  rw [Array.all_eq_true]
  intro i hi
  rw [hC.n] at hi
  have hi2 : i < C.size := by rw [hC.n]; exact hi
  have hg : C[i]? = some C[i] := Array.getElem?_eq_getElem hi2
  by_cases h0 : i = 0
  · subst h0; rw [hC.c0] at hg; rw [← Option.some.inj hg]; rfl
  · by_cases h1 : i = 1
    · subst h1; rw [hC.c1] at hg; rw [← Option.some.inj hg]; rfl
    · have h2 := hC.c2 (i - 2) (by omega)
      rw [show 2 + (i - 2) = i by omega, hg] at h2
      exact rdr_one h _ (List.mem_of_getElem? h2.symm)
/-- What the iterator has when its loop begins. -/
def RegQ (s : ByteArray) (B l : Nat) (W : World) (e : Exit) (a : Act) (w' : World) : Prop := ∃ S lo hi T C, e = .normal ∧ a = { tmps := #[.func (.yield l) #[] #[], .pointer (some ⟨B, 0, none⟩), undef, .pointer (some ⟨S, 0, none⟩), undef, undef, .string s, .agg T.toArray, .agg C, undef, undef, undef, undef, undef, undef, undef, undef, undef, undef, undef, undef, undef, undef, undef, undef, undef, undef, undef], defers := [] } ∧ Scn w' S lo hi s T 0 ∧ Below W.heap.size W w' ∧ W.heap.size ≤ lo ∧ W.heap.size ≤ S
theorem scn_new {w1 : World} {S lo hi : Nat} {s : ByteArray} {T : List Value} {C : Array Value} (hd : Rdr w1 lo hi T) (hC : ScC s T C) (ht : w1.there S 0 C.size) (h1 : hi ≤ S ∨ S < lo) (h2 : hi ≤ w1.heap.size) (h3 : S < w1.heap.size) : Scn (w1.setCells S 0 C.toList) S lo hi s T 0 where
  a := World.rangeAt_setCells_same w1 S 0 C.toList (by simpa using ht) 0 _ (by rw [Array.getElem?_toList]; exact hC.c0)
  f := by rw [World.frozen?_setCells]; exact (ht 0 (by rw [hC.n]; omega)).2
  t := World.rangeAt_setCells_same w1 S 0 C.toList (by simpa using ht) 1 _ (by rw [Array.getElem?_toList]; exact hC.c1)
  r j v hv := by
    have hj : j < 256 := by have := (List.getElem?_eq_some_iff.1 hv).1; rw [hd.n] at this; exact this
    have := World.rangeAt_setCells_same w1 S 0 C.toList (by simpa using ht) (2 + j) v (by rw [Array.getElem?_toList, hC.c2 j hj]; exact hv)
    rw [Nat.zero_add] at this
    exact this
  d := hd.keep fun b o h4 h5 => World.cell?_setCells_out _ _ _ _ _ (fun h => absurd h (by show b ≠ S; omega))
  h := h1
  hh := by rw [size_setCells]; exact h2
  z := by rw [size_setCells]; exact h3
  l := Nat.zero_le _
/-- What holds at the loop's head. -/
def TkR (s : ByteArray) (W : World) (S lo hi : Nat) (T : List Value) (J : Nat → (Nat → Prop) → World → Prop) (O : Nat → Prop) (wr : World) : Prop :=
  ∃ k q O1, Sub O W.heap.size O1 ∧ Grow O W wr ∧ J k O1 wr ∧ Scn wr S lo hi s T q ∧ (∀ b, O1 b → b ≠ S ∧ (b < lo ∨ hi ≤ b)) ∧ (ysL s).drop k = toks KK q (restL s q)
theorem jkeep {n S k : Nat} {J : Nat → (Nat → Prop) → World → Prop} (hJ : Fr n J) {O : Nat → Prop} {A A' : World} (h : J k O A) (hg : Grow (fun b => b = S) A A') (hO : ∀ b, O b → b ≠ S) (hS : n ≤ S) (hA : n ≤ A.heap.size) : J k O A' :=
  hJ.keep h (hg.below hA (fun b hb => by have hb : b = S := hb; omega)) (fun b hb => hg.block b (hJ.lt h b hb) (hO b hb))
theorem restL_len (s : ByteArray) (q : Nat) : (restL s q).length = s.size - q := by unfold restL; simp
theorem toks_next (s : ByteArray) (q q' : Nat) (h : (restL s q).dropWhile blk = restL s q') (h1 : q ≤ q') (h2 : q' ≤ s.size) : toks KK q (restL s q) = (nextY s q').1 ::
    (if (nextY s q').1.2 = 0 ∧ (nextY s q').1.1.k ≠ 5 then toks KK (nextY s q').2 (restL s (nextY s q').2) else []) := by
  have ho : q + ((restL s q).length - (restL s q').length) = q' := by rw [restL_len, restL_len]; omega
  rw [toks_eq, h, ho]
  unfold nextY
  by_cases hn : restL s q' = []
  · rw [if_pos hn, if_pos hn, if_neg (by simp)]
  · rw [if_neg hn, if_neg hn]
    by_cases he : (tok1 KK (restL s q')).2.2 = 0
    · have hb := tok1_bd KK he
      rw [if_pos he, he, if_pos ⟨rfl, by show (tok1 KK (restL s q')).1 ≠ 5; omega⟩]
      congr 2
      unfold restL
      rw [List.drop_drop]
    · have hb := tok1_bnd (restL s q') (List.length_pos_iff.2 hn)
      rw [if_neg he, if_neg (by simp [he]), (hb.2 he).1, (hb.2 he).2]
      rfl
theorem next_pos (s : ByteArray) (q : Nat) : q ≤ (nextY s q).2 ∧ ((nextY s q).1.2 = 0 → (nextY s q).1.1.k ≠ 5 → q < (nextY s q).2) := by
  unfold nextY
  split
  · exact ⟨Nat.le_refl _, fun _ h => absurd rfl h⟩
  · refine ⟨Nat.le_add_right _ _, fun h _ => ?_⟩
    have := tok1_bd KK h
    show q < q + (tok1 KK (restL s q)).2.1
    omega
theorem drop_next {α : Type} {l r r2 : List α} {k : Nat} {y : α} (h : l.drop k = y :: r) (h2 : r = r2) : l.drop (k + 1) = r2 := by
  subst h2
  rw [← List.drop_drop, h]; rfl
theorem drop_last {α : Type} {l : List α} {k : Nat} {y : α} (h : l.drop k = [y]) : k + 1 = l.length := by
  have := congrArg List.length h
  rw [List.length_drop] at this
  simp at this; omega
theorem there_new {W : World} {Z : Array Value} {t : TypeId} {m : Nat} (hm : m ≤ Z.size) : (W.alloc (.cells Z t)).there W.heap.size 0 m := fun j hj => by
  rw [Nat.zero_add]
  refine ⟨?_, by rw [World.frozen?_alloc_at _ _ _ _ rfl]⟩
  rw [World.cell?_alloc_at _ _ _ _ rfl]
  simp; omega
set_option maxHeartbeats 1000000 in
set_option maxRecDepth 20000 in
theorem tokens_iter (s : ByteArray) (B : Nat) (hs : s.size ≤ 9223372036854775806) :
    IterOf Tryd.prog 59 #[.pointer (some ⟨B, 0, none⟩)] RepK (ysL s) (fun O W => W.cell? ⟨B, 0, none⟩ = some (.string s) ∧ B < W.heap.size ∧ ¬ O B) := by
  intro l n J Jx O W hJ hJx hn hR h0 ⟨hB, hBl, nB⟩
  have hOW := hJ.lt h0
  obtain ⟨Z, hZ, hZs, hZ0, hZ1⟩ := zero63
  have hz63 := (zero_of_info hZ).1
  have HI := Lib.hid (zero_of_info hZ).2
  refine callsIn_of_wp Tryd.func59 rfl trivial ?_ rfl
  simp only [Tryd.ntmps59, List.size_toArray, List.length_cons, List.length_nil, Nat.reduceAdd, Nat.reduceSub, Array.replicate_succ, Array.replicate_zero, List.push_toArray, List.append_toArray, List.nil_append, List.cons_append]
  gi_wp2_with fail
  refine wpIn_wide.2 (Code.wp_mono (Q := RegQ s B l W) ?_ ?_)
  rotate_left
  · clear hR h0 hJ hJx hOW hn nB
    have HS := Lib.hid (show ∀ W', Below W.heap.size W W' → W'.cell? ⟨B, 0, none⟩ = some (.string s) ∧ Below W.heap.size W W' from fun W' h => ⟨(h.cell (p := ⟨B, 0, none⟩) hBl).trans hB, h⟩)
    refine wp_region_S (fun w' => w'.cell? ⟨B, 0, none⟩ = some (.string s) ∧ Below W.heap.size W w') [] 5 #[false, false, false, false, false] (by kernel_rfl) (by kernel_rfl) (by kernel_rfl) (HS.out _ (Below.drew (Below.refl _ _))) (fun hHeld => ?_)
    have HBk : Below W.heap.size W W.drew := Below.drew (Below.refl _ _)
    have hlt0 : W.heap.size ≤ W.drew.heap.size := Nat.le_refl _
    refine wpAnyS_take (i := 0) (oi := ⟨some 6, _, _, _, _, _⟩) (v := .string s) rfl (by kernel_rfl) (by kernel_rfl) (by kernel_rfl) (by kernel_rfl) (fun _ _ _ h => Norm.panic h) (Or.inl ⟨by rfl, ?_⟩) (by assumption) ?_
    · intro w' hSw
      obtain ⟨hS1, hS2⟩ := hSw
      go_simp
    simp only [Act.put, List.setIfInBounds_toArray, List.set_cons_zero, List.set_cons_succ]
    refine wpAnyS_two (i := 1) (j := 3) (oi := ⟨some 7, _, _, _, _, _⟩) (oj := ⟨some 3, _, _, _, _, _⟩) rfl rfl (by kernel_rfl) (by rfl) (by rfl) (fun K hK => ?_) (fun K hK => ?_)
    · go_simp
      refine (readers_c _).mono ?_
      rintro e w1 ⟨T, rfl, hb1, hr1⟩
      have HB1 := HBk.trans (hb1.mono HBk.size)
      obtain ⟨C, hC, hbuild⟩ := build_scan s T hr1.n
      refine hK _ _ (fun _ => HS.out _ HB1) ?_
      clear hK K hHeld
      have hHeld := HS.out _ HB1
      simp only [Act.put, List.setIfInBounds_toArray, List.set_cons_zero, List.set_cons_succ]
      refine wpAnyS_take (i := 2) (oi := ⟨some 8, _, _, _, _, _⟩) (v := .agg C) rfl (by kernel_rfl) (by kernel_rfl) (by kernel_rfl) (by kernel_rfl) (fun _ _ _ h => Norm.panic h) (Or.inl ⟨by rfl, ?_⟩) (by assumption) ?_
      · intro w' hSw
        obtain ⟨hS1, hS2⟩ := hSw
        refine exec_build (C := C) rfl (fun W => (congrArg (fun ps => (Instr.build 108 ps).run Tryd.prog W) ?_).trans (hbuild W)) w'; (first | rfl | (simp [Act.eval]; done) | go_simp)
      simp only [Act.put, List.setIfInBounds_toArray, List.set_cons_zero, List.set_cons_succ]
      refine wpAnyS_one (i := 3) (oi := ⟨some 3, _, _, _, _, _⟩) rfl (by kernel_rfl) (by rfl) (fun K hK => ?_)
      go_simp
      refine hK _ _ (fun _ => HS.out _ (HB1.alloc HB1.size _)) ?_
      clear hK K hHeld
      simp only [Act.put, List.setIfInBounds_toArray, List.set_cons_zero, List.set_cons_succ]
      refine wpAnyS_one (i := 4) (oi := ⟨none, _, _, _, _, _⟩) rfl (by kernel_rfl) (by rfl) (fun K hK => ?_)
      refine wp_store_mid 108 _ _ rfl w1.heap.size 0 C rfl rfl (there_new (by rw [hC.n, hZs]; exact Nat.le_refl _)) (by rw [hC.n]; exact HI.out) (sc_one hC hr1 s) ?_
      refine hK _ _ (fun _ => HS.out _ (below_setCells HB1.size _ _ (HB1.alloc HB1.size _))) ?_
      refine wpAnyS_done (by kernel_rfl) ?_
      refine Norm.normal ⟨w1.heap.size, W.heap.size, w1.heap.size, T, C, rfl, rfl, ?_, below_setCells HB1.size _ _ (HB1.alloc HB1.size _), Nat.le_refl _, HB1.size⟩
      exact scn_new (hr1.keep fun b o _ h => World.cell?_alloc_lt _ _ _ h) hC (there_new (by rw [hC.n, hZs]; exact Nat.le_refl _)) (.inl (Nat.le_refl _)) (by simp) (by simp)
    · go_simp
      refine hK _ _ (fun _ => HS.out _ (HBk.alloc HBk.size _)) ?_
      clear hK K hHeld
      have hHeld := HS.out _ (HBk.alloc HBk.size (.cells Z 108))
      simp only [Act.put, List.setIfInBounds_toArray, List.set_cons_zero, List.set_cons_succ]
      refine wpAnyS_one (i := 1) (oi := ⟨some 7, _, _, _, _, _⟩) rfl (by kernel_rfl) (by rfl) (fun K hK => ?_)
      go_simp
      refine (readers_c _).mono ?_
      rintro e w1 ⟨T, rfl, hb1, hr1⟩
      have HB1 := (HBk.alloc HBk.size (.cells Z 108)).trans (hb1.mono (by simp))
      have hth : w1.there W.heap.size 0 258 := fun j hj => by
        have h1 := there_new (W := W) (Z := Z) (t := 108) (m := 258) (by omega) j hj
        have h2 := hb1.cell (p := ⟨W.heap.size, 0 + j, none⟩) (by simp)
        have h3 := hb1.frozen (p := ⟨W.heap.size, 0 + j, none⟩) (by simp)
        exact ⟨by rw [h2]; exact h1.1, by rw [h3]; exact h1.2⟩
      have hz1 : W.heap.size < w1.heap.size := by have := hb1.size; simp at this; omega
      obtain ⟨C, hC, hbuild⟩ := build_scan s T hr1.n
      refine hK _ _ (fun _ => HS.out _ HB1) ?_
      clear hK K hHeld
      have hHeld := HS.out _ HB1
      simp only [Act.put, List.setIfInBounds_toArray, List.set_cons_zero, List.set_cons_succ]
      refine wpAnyS_take (i := 2) (oi := ⟨some 8, _, _, _, _, _⟩) (v := .agg C) rfl (by kernel_rfl) (by kernel_rfl) (by kernel_rfl) (by kernel_rfl) (fun _ _ _ h => Norm.panic h) (Or.inl ⟨by rfl, ?_⟩) (by assumption) ?_
      · intro w' hSw
        obtain ⟨hS1, hS2⟩ := hSw
        refine exec_build (C := C) rfl (fun W => (congrArg (fun ps => (Instr.build 108 ps).run Tryd.prog W) ?_).trans (hbuild W)) w'; (first | rfl | (simp [Act.eval]; done) | go_simp)
      simp only [Act.put, List.setIfInBounds_toArray, List.set_cons_zero, List.set_cons_succ]
      refine wpAnyS_one (i := 4) (oi := ⟨none, _, _, _, _, _⟩) rfl (by kernel_rfl) (by rfl) (fun K hK => ?_)
      refine wp_store_mid 108 _ _ rfl W.heap.size 0 C rfl rfl (by rw [hC.n]; exact hth) (by rw [hC.n]; exact HI.out) (sc_one hC hr1 s) ?_
      refine hK _ _ (fun _ => HS.out _ (below_setCells (Nat.le_refl _) _ _ HB1)) ?_
      refine wpAnyS_done (by kernel_rfl) ?_
      refine Norm.normal ⟨W.heap.size, _, w1.heap.size, T, C, rfl, rfl, scn_new hr1 hC (by rw [hC.n]; exact hth) (.inr ?_) (Nat.le_refl _) hz1, below_setCells (Nat.le_refl _) _ _ HB1, ?_, Nat.le_refl _⟩
      · simp
      · simp
  · rintro e a w0 ⟨S, lo, hi, T, C, rfl, rfl, hsc, hb, hlo, hS⟩
    have HR := Lib.hid hR
    have h0' : TkR s W S lo hi T J O w0 := ⟨0, 0, O, Sub.refl _ _, Grow.of_below hb, hJ.below (n := n) h0 (hb.mono (Nat.le_refl _)) hn, hsc, fun b hb => by have := hOW b hb; omega, by
      unfold ysL restL; rw [List.drop_zero, List.drop_zero]⟩
    have H0 := Lib.hid h0'
    clear hR h0 h0' hsc hb hB nB hz63 hZ hZs hZ0 hZ1 HI
    gi_wp2_with fail
    gi_loopw [] (fun wr => TkR s W S lo hi T J O wr) (fun wr => skM s S wr)
    case atStart => exact H0.out
    case round =>
      clear H0
      obtain ⟨k, q, O1, hs1, hg1, h1, hsc, hns, hys⟩ := hrel
      have hlt1 := hJ.lt h1
      have hm0 : skM s S wr = s.size - q := by unfold skM; rw [hsc.a]; simp [intOf]
      have HM := Lib.hid hm0
      clear hm0
      have hzr := hg1.size
      have hSW := hsc.z
      have hiW := hsc.hh
      have HSK := Lib.hid (callsIn_wide.2 (skip_c wr S lo hi s T q hsc hs) : CallsIn Fence.wide 0 Tryd.prog _ _ _ _)
      clear hsc
      gi_wp2_with fail
      refine ⟨trivial, rfl, HSK.out.mono ?_⟩
      clear HSK
      rintro e w1 ⟨rfl, q1, hq1, hsc1, hgs1, hzs1, hdw⟩
      have h2 := jkeep hJ h1 hgs1 (fun b hb => (hns b hb).1) (by omega) (by omega)
      have hz1 := hgs1.size
      have HNX := Lib.hid (callsIn_wide.2 (next_c w1 S lo hi s T q1 hsc1 hs) : CallsIn Fence.wide 0 Tryd.prog _ _ _ _)
      have hnx := toks_next s q q1 hdw hq1 hsc1.l
      rw [hnx] at hys
      clear hsc1 h1 hnx
      gi_wp2_with fail
      refine ⟨trivial, rfl, HNX.out.mono ?_⟩
      clear HNX
      rintro e w2 ⟨rfl, hsc2, hgs2⟩
      have h3 := jkeep hJ h2 hgs2 (fun b hb => (hns b hb).1) (by omega) (by omega)
      have hz2 := hgs2.size
      have hq2 : q1 ≤ (nextY s q1).2 ∧ ((nextY s q1).1.2 = 0 → (nextY s q1).1.1.k ≠ 5 → q1 < (nextY s q1).2) := next_pos s q1
      generalize nextY s q1 = z at *
      obtain ⟨⟨⟨kk, tt, aa⟩, ee⟩, q2⟩ := z
      have hxk : (ysL s)[k]? = some (⟨kk, tt, aa⟩, ee) := by
        have := congrArg (fun l => l[0]?) hys
        simpa using this
      have hbx : Below w2.heap.size w2 (w2.alloc (.cells #[.int .u8 (kk : Int), .string (bs tt), .int .i64 (aa : Int)] 89)) := (Below.refl _ _).alloc (Nat.le_refl _) _
      obtain ⟨fn, tmps, assign, body, hy, hRd⟩ := HR.out k (⟨kk, tt, aa⟩, ee) O1 _ #[.agg #[.int .u8 (kk : Int), .string (bs tt), .int .i64 (aa : Int)], .int .i64 (ee : Int)] (hJ.below h3 hbx (by omega)) hxk rfl
      have nOx : ¬ O1 w2.heap.size := fun h => by have := hlt1 _ h; omega
      have hG2 : Grow (fun b => b = S) wr (w2.alloc (.cells #[.int .u8 (kk : Int), .string (bs tt), .int .i64 (aa : Int)] 89)) := Grow.alloc (hgs1.trans hgs2 (Sub.refl _ _)) _
      have hG3 : Grow O W (w2.alloc (.cells #[.int .u8 (kk : Int), .string (bs tt), .int .i64 (aa : Int)] 89)) := hg1.trans hG2 (fun b hb => .inr (by have hb : b = S := hb; omega))
      have HYS := Lib.hid hys
      have HQ2 := Lib.hid hq2
      have hsc3 := scn_alloc hsc2 (.cells #[.int .u8 (kk : Int), .string (bs tt), .int .i64 (aa : Int)] 89)
      unfold tokA
      clear hys hxk hq2 h2 h3 hdw
      gi_wp2_with fail
      refine ⟨rfl, RoundIn.mono hRd ?_⟩
      clear hRd hy
      have hSub : ∀ O4 : Nat → Prop, Sub O1 (w2.alloc (.cells #[.int .u8 (kk : Int), .string (bs tt), .int .i64 (aa : Int)] 89)).heap.size O4 → Sub O W.heap.size O4 := fun O4 h => hs1.trans h (by simp; omega)
      have hszz : (w2.alloc (.cells #[.int .u8 (kk : Int), .string (bs tt), .int .i64 (aa : Int)] 89)).heap.size = w2.heap.size + 1 := by simp
      rintro e W4 ⟨O4, hs4, hg4, (⟨rfl, h4⟩ | ⟨rfl, h4⟩)⟩
      · have cb : W4.cell? ⟨w2.heap.size, 0, none⟩ = some (.int .u8 (kk : Int)) := by
          rw [hg4.cell (p := ⟨w2.heap.size, 0, none⟩) (by simp) nOx]; simp
        have HG4 := Lib.hid (hG3.trans hg4 hs1)
        have HS4 := Lib.hid (hSub O4 hs4)
        have HJ4 := Lib.hid h4
        have HC4 := Lib.hid (hsc3.keep (fun b hb => hg4.block b (by rw [hszz]; have := hsc2.z; have := hsc2.hh; omega) (fun h => by have := hns b h; omega)) hg4.size)
        have HN4 := Lib.hid (show ∀ b, O4 b → b ≠ S ∧ (b < lo ∨ hi ≤ b) from fun b hb => (hs4 b hb).elim (hns b) fun h => by rw [hszz] at h; have := hsc2.z; have := hsc2.hh; omega)
        by_cases hcont : ee = 0 ∧ kk ≠ 5
        · obtain ⟨rfl, hk5⟩ := hcont
          have d5 : ((kk : Int) == 5) = false := by simp; omega
          have HH := Lib.hid (show (ysL s).drop (k + 1) = toks KK q2 (restL s q2) from drop_next HYS.out (if_pos ⟨rfl, hk5⟩))
          have hlt2 := HQ2.out.2 rfl hk5
          have hq2l := HC4.out.l
          clear hk5 hsc3 hg4 hs4 h4 hSub hszz hG3 hG2 hsc2 hbx
          gi_wp2_with fail
          refine ⟨⟨k + 1, q2, O4, HS4.out, HG4.out, HJ4.out, HC4.out, HN4.out, HH.out⟩, ?_⟩
          rw [HM.out]
          have : skM s S W4 = s.size - q2 := by unfold skM; rw [HC4.out.a]; simp [intOf]
          have hq2l : q2 ≤ s.size := HC4.out.l
          rw [this]; omega
        · have HH := Lib.hid (show k + 1 = (ysL s).length from drop_last (HYS.out.trans (by rw [if_neg hcont])))
          clear hsc3 hg4 hs4 h4 hSub hszz hG3 hG2 hsc2 hbx
          by_cases hee : ee = 0
          · have hk5 : kk = 5 := by
              rcases Nat.decEq kk 5 with h | h
              · exact absurd ⟨hee, h⟩ hcont
              · exact h
            subst hee hk5
            clear hcont
            gi_wp2_with fail
            refine bodyPost_ret (results_none rfl _ _ _) rfl ?_
            exact ⟨⟨_, rfl⟩, O4, HS4.out, HG4.out, .inl (by rw [← HH.out]; exact HJ4.out)⟩
          · have de : ((ee : Int) != 0) = true := by simp; omega
            have de2 : ((ee : Int) == 0) = false := by simp; omega
            clear hcont hee
            gi_wp2_with fail
            refine bodyPost_ret (results_none rfl _ _ _) rfl ?_
            exact ⟨⟨_, rfl⟩, O4, HS4.out, HG4.out, .inl (by rw [← HH.out]; exact HJ4.out)⟩
      · have HG4 := Lib.hid (hG3.trans hg4 hs1)
        have HS4 := Lib.hid (hSub O4 hs4)
        have HJ4 := Lib.hid h4
        clear hsc3 hg4 hs4 h4 hSub hszz hG3 hG2 hsc2 hbx
        gi_wp2_with fail
        refine bodyPost_ret (results_none rfl _ _ _) rfl ?_
        exact ⟨⟨_, rfl⟩, O4, HS4.out, HG4.out, .inr HJ4.out⟩
end Go.Proofs.YtkeckecdhcknhaaDoor.Lx
