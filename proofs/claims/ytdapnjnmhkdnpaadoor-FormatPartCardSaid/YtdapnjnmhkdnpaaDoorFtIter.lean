/-
  slices.Values of terms, and of formulas: the values in their order.
-/
import Derived.Test.YtdapnjnmhkdnpaaDoorFmRight
import Derived.LoopNIn
import Derived.LoopIn
import Derived.Shelf.Abstract
namespace Go.Proofs.YtdapnjnmhkdnpaaDoor.Fb
open Go Go.RowKit Go.Shelf Go.Proofs.YtdapnjnmhkdnpaaDoor.Fm
set_option linter.unusedVariables false
set_option linter.unusedSimpArgs false
attribute [local go_sem] Oper.semAt_some
/-- A term that is yielded. -/
def RepVT (dn : Nat) (W : World) (x : Tm) (args : Array Value) : Prop := ∃ v0 v1 v2, args = #[.agg #[v0, v1, v2]] ∧ TmV dn W v0 v1 v2 x
def VRel (J : Nat → (Nat → Prop) → World → Prop) (n : Nat) (O : Nat → Prop) (W : World) (i : Value) (wr : World) : Prop :=
  ∃ q : Nat, i = .int .i64 (q : Int) ∧ q ≤ n ∧ ∃ O', Sub O W.heap.size O' ∧ Grow O W wr ∧ J q O' wr
theorem valuesT_in (a : Option Addr) (n c : Nat) (w : World) : CallsIn Fence.wide 0 Tryd.prog 67 #[.slice a n c] w fun e w' =>
    e = .returned (.func (.func 88) #[] #[.pointer (some ⟨w.heap.size, 0, none⟩)]) ∧ w' = w.alloc (.cells #[.slice a n c] 22) := by
  refine callsIn_of_wp Tryd.func67 rfl trivial ?_ rfl
  simp only [Tryd.ntmps67, List.size_toArray, List.length_cons, List.length_nil, Nat.reduceAdd, Nat.reduceSub, Array.replicate_succ, Array.replicate_zero, List.push_toArray, List.append_toArray, List.nil_append, List.cons_append]
  gi_wp2_with fail
  go_ret
  exact ⟨rfl, rfl⟩
set_option maxHeartbeats 1000000 in
theorem valuesT_iter (xs : List Tm) (B dn : Nat) (sv : Value) : IterOf Tryd.prog 88 #[.pointer (some ⟨B, 0, none⟩)] (RepVT dn) xs
    (fun O W => W.cell? ⟨B, 0, none⟩ = some sv ∧ SlT dn W sv xs ∧ B < W.heap.size ∧ dn ≤ W.heap.size ∧ ∀ b, O b → dn ≤ b) := by
  intro l n J Jx O W hJ hJx hn hR h0 ⟨hB, hs, hlt, hd, hO⟩
  obtain ⟨⟨sa, cap, rfl⟩, hlen⟩ := hs.form
  refine callsIn_of_wp Tryd.func88 rfl trivial ?_ rfl
  simp only [Tryd.ntmps88, List.size_toArray, List.length_cons, List.length_nil, Nat.reduceAdd, Nat.reduceSub, Array.replicate_succ, Array.replicate_zero, List.push_toArray, List.append_toArray, List.nil_append, List.cons_append]
  gi_wp2_with fail
  gi_loopw [7] (fun i wr => VRel J xs.length O W i wr) (fun i _ => xs.length - (intOf i).toNat)
  case atStart => exact ⟨0, rfl, Nat.zero_le _, O, Sub.refl _ _, Grow.refl _ _, h0⟩
  case round =>
    obtain ⟨q, rfl, hq, O2, hs2, hg2, h2⟩ := hrel
    by_cases hlt2 : q < xs.length
    · have hO2 : ∀ b, O2 b → dn ≤ b := fun b hb => (hs2 b hb).elim (hO b) fun h => by omega
      have hz2 := hg2.size
      obtain ⟨_, b, o, rfl, hbn, u0, u1, u2, c0, c1, c2, hu⟩ := (hs.below (hg2.below hd hO) (Nat.le_refl _)).get hlt2
      obtain ⟨⟨a2, cap2, hu2⟩, hl2⟩ := hu.args.form
      have e0 := hu.v
      have e1 := hu.nm
      subst hu2 e0 e1
      have hb3 : Below wr.heap.size wr (wr.alloc (.cells #[.bool xs[q].v, .string xs[q].n, .slice a2 xs[q].args.length cap2] 39)) := (Below.refl _ _).alloc (Nat.le_refl _) _
      have hxk : xs[q]? = some xs[q] := List.getElem?_eq_getElem hlt2
      obtain ⟨fn, tmps, assign, body, hy, hRd⟩ := hR q xs[q] O2 _ #[.agg #[.bool xs[q].v, .string xs[q].n, .slice a2 xs[q].args.length cap2]] (hJ.below h2 hb3 (by omega)) hxk ⟨_, _, _, rfl, hu.below hb3 (by omega)⟩
      have hgx : Grow O W (wr.alloc (.cells #[.bool xs[q].v, .string xs[q].n, .slice a2 xs[q].args.length cap2] 39)) := hg2.trans (Grow.of_below hb3) hs2
      clear hb3 hu hxk
      gi_wp2_with fail
      refine ⟨rfl, hRd.mono ?_⟩
      clear hRd
      rintro e W1 ⟨O1, hs1, hg1, (⟨rfl, h1⟩ | ⟨rfl, hx1⟩)⟩
      · gi_wp2_with fail
        exact ⟨⟨q + 1, by go_num, by omega, O1, hs2.trans hs1 (by simp; omega), hgx.trans hg1 hs2, h1⟩, by simp [intOf]; omega⟩
      · gi_wp2_with fail
        go_end0
        exact ⟨⟨_, rfl⟩, O1, hs2.trans hs1 (by simp; omega), hgx.trans hg1 hs2, .inr hx1⟩
    · have e : q = xs.length := by omega
      rw [e] at h2
      clear e
      gi_wp2_with fail
      go_end0
      exact ⟨⟨_, rfl⟩, O2, hs2, hg2, .inl h2⟩
/-- A formula that is yielded. -/
def RepVF (dn : Nat) (W : World) (x : Fo) (args : Array Value) : Prop := ∃ v0 v1 v2 v3, args = #[.agg #[v0, v1, v2, v3]] ∧ FoV dn W v0 v1 v2 v3 x
theorem valuesF_in (a : Option Addr) (n c : Nat) (w : World) : CallsIn Fence.wide 0 Tryd.prog 40 #[.slice a n c] w fun e w' =>
    e = .returned (.func (.func 60) #[] #[.pointer (some ⟨w.heap.size, 0, none⟩)]) ∧ w' = w.alloc (.cells #[.slice a n c] 23) := by
  refine callsIn_of_wp Tryd.func40 rfl trivial ?_ rfl
  simp only [Tryd.ntmps40, List.size_toArray, List.length_cons, List.length_nil, Nat.reduceAdd, Nat.reduceSub, Array.replicate_succ, Array.replicate_zero, List.push_toArray, List.append_toArray, List.nil_append, List.cons_append]
  gi_wp2_with fail
  go_ret
  exact ⟨rfl, rfl⟩
set_option maxHeartbeats 1000000 in
theorem valuesF_iter (xs : List Fo) (B dn : Nat) (sv : Value) : IterOf Tryd.prog 60 #[.pointer (some ⟨B, 0, none⟩)] (RepVF dn) xs
    (fun O W => W.cell? ⟨B, 0, none⟩ = some sv ∧ SlF dn W sv xs ∧ B < W.heap.size ∧ dn ≤ W.heap.size ∧ ∀ b, O b → dn ≤ b) := by
  intro l n J Jx O W hJ hJx hn hR h0 ⟨hB, hs, hlt, hd, hO⟩
  obtain ⟨⟨sa, cap, rfl⟩, hlen⟩ := hs.form
  refine callsIn_of_wp Tryd.func60 rfl trivial ?_ rfl
  simp only [Tryd.ntmps60, List.size_toArray, List.length_cons, List.length_nil, Nat.reduceAdd, Nat.reduceSub, Array.replicate_succ, Array.replicate_zero, List.push_toArray, List.append_toArray, List.nil_append, List.cons_append]
  gi_wp2_with fail
  gi_loopw [7] (fun i wr => VRel J xs.length O W i wr) (fun i _ => xs.length - (intOf i).toNat)
  case atStart => exact ⟨0, rfl, Nat.zero_le _, O, Sub.refl _ _, Grow.refl _ _, h0⟩
  case round =>
    obtain ⟨q, rfl, hq, O2, hs2, hg2, h2⟩ := hrel
    by_cases hlt2 : q < xs.length
    · have hO2 : ∀ b, O2 b → dn ≤ b := fun b hb => (hs2 b hb).elim (hO b) fun h => by omega
      have hz2 := hg2.size
      obtain ⟨_, b, o, rfl, hbn, u0, u1, u2, u3, c0, c1, c2, c3, hu⟩ := (hs.below (hg2.below hd hO) (Nat.le_refl _)).get hlt2
      obtain ⟨⟨a2, cap2, hu2⟩, _⟩ := hu.args.form
      obtain ⟨⟨a3, cap3, hu3⟩, _⟩ := hu.sub.form
      have e0 := hu.op
      have e1 := hu.nm
      subst hu2 hu3 e0 e1
      have hb3 : Below wr.heap.size wr (wr.alloc (.cells #[.int .u8 xs[q].op, .string xs[q].n, .slice a2 xs[q].args.length cap2, .slice a3 xs[q].sub.length cap3] 25)) := (Below.refl _ _).alloc (Nat.le_refl _) _
      have hxk : xs[q]? = some xs[q] := List.getElem?_eq_getElem hlt2
      obtain ⟨fn, tmps, assign, body, hy, hRd⟩ := hR q xs[q] O2 _ #[.agg #[.int .u8 xs[q].op, .string xs[q].n, .slice a2 xs[q].args.length cap2, .slice a3 xs[q].sub.length cap3]] (hJ.below h2 hb3 (by omega)) hxk ⟨_, _, _, _, rfl, hu.below hb3 (by omega)⟩
      have hgx : Grow O W (wr.alloc (.cells #[.int .u8 xs[q].op, .string xs[q].n, .slice a2 xs[q].args.length cap2, .slice a3 xs[q].sub.length cap3] 25)) := hg2.trans (Grow.of_below hb3) hs2
      clear hb3 hu hxk
      gi_wp2_with fail
      refine ⟨rfl, hRd.mono ?_⟩
      clear hRd
      rintro e W1 ⟨O1, hs1, hg1, (⟨rfl, h1⟩ | ⟨rfl, hx1⟩)⟩
      · gi_wp2_with fail
        exact ⟨⟨q + 1, by go_num, by omega, O1, hs2.trans hs1 (by simp; omega), hgx.trans hg1 hs2, h1⟩, by simp [intOf]; omega⟩
      · gi_wp2_with fail
        go_end0
        exact ⟨⟨_, rfl⟩, O1, hs2.trans hs1 (by simp; omega), hgx.trans hg1 hs2, .inr hx1⟩
    · have e : q = xs.length := by omega
      rw [e] at h2
      clear e
      gi_wp2_with fail
      go_end0
      exact ⟨⟨_, rfl⟩, O2, hs2, hg2, .inl h2⟩
end Go.Proofs.YtdapnjnmhkdnpaaDoor.Fb
