/-
  The contract of walkTerm: a term and those in it are yielded in their order.
-/
import Derived.Test.YtdapnjnmhkdnpaaDoorFmData
import Derived.Test.YtdapnjnmhkdnpaaDoorProg
import Derived.OwnWalkIn
import Derived.TacticsInMore
import Derived.LoopNIn
import Derived.LoopIn
import Derived.Outline
import Derived.Lib.Hide
namespace Go.Proofs.YtdapnjnmhkdnpaaDoor.Fm
open Go Go.RowKit
set_option linter.unusedVariables false
set_option linter.unusedSimpArgs false
attribute [local go_sem] Oper.semAt_some
def RepT (dn : Nat) (W : World) (x : Int × Tm) (args : Array Value) : Prop := ∃ v0 v1 v2, args = #[.int .i64 x.1, .agg #[v0, v1, v2]] ∧ TmV dn W v0 v1 v2 x.2
/-- What walking through m of the things that are yielded gives. -/
def Walked (J : Nat → (Nat → Prop) → World → Prop) (Jx : (Nat → Prop) → World → Prop) (k : Nat) (O : Nat → Prop) (W : World) (e : Ending) (W' : World) : Prop :=
  ∃ O', Sub O W.heap.size O' ∧ Grow O W W' ∧ ((e = .returned (.bool true) ∧ J k O' W') ∨ (e = .returned (.bool false) ∧ Jx O' W'))
def sumT (lv : Int) (l : List Tm) : Nat := (l.flatMap fun t => t.all (wrap64 (lv + 1))).length
def WTRel (J : Nat → (Nat → Prop) → World → Prop) (k : Nat) (lv : Int) (args : List Tm) (O : Nat → Prop) (W : World) (i : Value) (wr : World) : Prop :=
  ∃ q : Nat, i = .int .i64 (q : Int) ∧ q ≤ args.length ∧ ∃ O', Sub O W.heap.size O' ∧ Grow O W wr ∧ J (k + sumT lv (args.take q)) O' wr
theorem all_len (t : Tm) (lv : Int) : (t.all lv).length = 1 + sumT lv t.args := by rw [Tm.all_eq, List.length_cons, sumT]; omega
theorem sumT_succ (lv : Int) (l : List Tm) (q : Nat) (h : q < l.length) : sumT lv (l.take (q + 1)) = sumT lv (l.take q) + (l[q].all (wrap64 (lv + 1))).length := by
  unfold sumT
  rw [List.take_succ_eq_append_getElem h, List.flatMap_append, List.length_append]
  simp
theorem drop_sub {xs rest : List (Int × Tm)} {k q : Nat} {lv : Int} {t : Tm} (hx : xs.drop k = t.all lv ++ rest) (h : q < t.args.length) :
    ∃ rest', xs.drop (k + 1 + sumT lv (t.args.take q)) = t.args[q].all (wrap64 (lv + 1)) ++ rest' := by
  rw [show k + 1 + sumT lv (t.args.take q) = k + (1 + sumT lv (t.args.take q)) by omega, ← List.drop_drop, hx, Tm.all_eq]
  refine ⟨(t.args.drop (q + 1)).flatMap (fun t => t.all (wrap64 (lv + 1))) ++ rest, ?_⟩
  have e : t.args = t.args.take q ++ (t.args[q] :: t.args.drop (q + 1)) := by rw [← List.drop_eq_getElem_cons h, List.take_append_drop]
  have e2 : t.args.flatMap (fun t => t.all (wrap64 (lv + 1))) = (t.args.take q).flatMap (fun t => t.all (wrap64 (lv + 1))) ++ (t.args[q].all (wrap64 (lv + 1)) ++ (t.args.drop (q + 1)).flatMap (fun t => t.all (wrap64 (lv + 1)))) := by
    conv => lhs; rw [e]
    rw [List.flatMap_append, List.flatMap_cons]
  rw [e2, Nat.add_comm 1, List.cons_append, List.drop_succ_cons]
  simp only [List.append_assoc]
  exact List.drop_left' rfl
theorem size_arg (t : Tm) (q : Nat) (h : q < t.args.length) : SizeOf.sizeOf t.args[q] < SizeOf.sizeOf t := by
  have h1 : SizeOf.sizeOf t.args[q] < SizeOf.sizeOf t.args := List.sizeOf_lt_of_mem (List.getElem_mem h)
  have h2 : SizeOf.sizeOf t.args < SizeOf.sizeOf t := by obtain ⟨v, n, args⟩ := t; simp [Tm.args]; omega
  omega
set_option maxHeartbeats 1000000 in
theorem walkTerm_in (l n dn : Nat) (J : Nat → (Nat → Prop) → World → Prop) (Jx : (Nat → Prop) → World → Prop) (hJ : Fr n J) (hJx : Fr n (fun _ => Jx)) (xs : List (Int × Tm)) (hR : Rounds Tryd.prog l (RepT dn) xs J Jx)
    (hbd : ∀ x ∈ xs, -9223372036854775808 ≤ x.1 ∧ x.1 ≤ 9223372036854775807) (N : Nat) :
    ∀ (t : Tm), SizeOf.sizeOf t < N → ∀ (lv : Int) (k : Nat) (O : Nat → Prop) (W : World) (v0 v1 v2 : Value) (rest : List (Int × Tm)), J k O W → n ≤ W.heap.size → dn ≤ W.heap.size → (∀ b, O b → dn ≤ b) → TmV dn W v0 v1 v2 t →
    xs.drop k = t.all lv ++ rest →
    CallsIn Fence.wide 0 Tryd.prog 100 #[.int .i64 lv, .agg #[v0, v1, v2], .func (.yield l) #[] #[]] W (Walked J Jx (k + (t.all lv).length) O W) := by
  induction N with
  | zero => exact fun t h => absurd h (Nat.not_lt_zero _)
  | succ N ih =>
    intro t hN lv k O W v0 v1 v2 rest h0 hn hdn hO hT hx
    obtain ⟨rfl, rfl, hok, hargs⟩ := hT
    obtain ⟨⟨sa, cap, rfl⟩, hlen⟩ := hargs.form
    refine callsIn_of_wp Tryd.func100 rfl trivial ?_ rfl
    simp only [Tryd.ntmps100, List.size_toArray, List.length_cons, List.length_nil, Nat.reduceAdd, Nat.reduceSub, Array.replicate_succ, Array.replicate_zero, List.push_toArray, List.append_toArray, List.nil_append, List.cons_append]
    have hxk : xs[k]? = some (lv, t) := by
      have := congrArg (fun l => l[0]?) hx
      simpa [Tm.all_eq lv t] using this
    have hb1 : Below W.heap.size W (W.alloc (.cells #[.bool t.v, .string t.n, .slice sa t.args.length cap] 39)) := (Below.refl _ _).alloc (Nat.le_refl _) _
    obtain ⟨fn, tmps, assign, body, hy, hRd⟩ := hR k (lv, t) O _ #[.int .i64 lv, .agg #[.bool t.v, .string t.n, .slice sa t.args.length cap]] (hJ.below h0 hb1 hn) hxk ⟨_, _, _, rfl, rfl, rfl, hok, hargs.below hb1 hdn⟩
    have hlv := hbd _ (List.mem_of_getElem? hxk)
    have hlv0 : -9223372036854775808 ≤ lv := hlv.1
    have hlv1 : lv ≤ 9223372036854775807 := hlv.2
    have HX := Lib.hid hx
    have hOW := hJ.lt h0
    have nO : ¬ O W.heap.size := fun h => by have := hOW _ h; omega
    clear hx hxk hlv
    gi_wp2_with fail
    refine ⟨rfl, hRd.mono ?_⟩
    clear hRd
    rintro e W1 ⟨O1, hs1, hg1, (⟨rfl, h1⟩ | ⟨rfl, hx1⟩)⟩
    · have hG1 : Grow O W W1 := (Grow.of_below hb1).trans hg1 (Sub.refl _ _)
      have hS1 : Sub O W.heap.size O1 := (Sub.refl _ _).trans hs1 (by simp)
      have c2 : W1.cell? ⟨W.heap.size, 2, none⟩ = some (.slice sa t.args.length cap) := by rw [hg1.cell (p := ⟨W.heap.size, 2, none⟩) (by simp) nO]; simp
      clear hs1 hg1 hb1
      gi_wp2_with fail
      gi_loopw [17] (fun i wr => WTRel J (k + 1) lv t.args O W i wr) (fun i _ => t.args.length - (intOf i).toNat)
      case atStart => exact ⟨0, rfl, Nat.zero_le _, O1, hS1, hG1, h1⟩
      case round =>
        clear h1 hG1 hS1 hy c2
        obtain ⟨q, rfl, hq, O2, hs2, hg2, h2⟩ := hrel
        by_cases hlt : q < t.args.length
        · obtain ⟨rest', hx'⟩ := drop_sub HX.out hlt
          have hO2 : ∀ b, O2 b → dn ≤ b := fun b hb => (hs2 b hb).elim (hO b) fun h => by omega
          have hz2 := hg2.size
          obtain ⟨_, b, o, rfl, hbn, u0, u1, u2, c0, c1, c2, hu⟩ := (hargs.below (hg2.below hdn hO) (Nat.le_refl _)).get hlt
          obtain ⟨⟨a2, cap2, hu2⟩, hl2⟩ := hu.args.form
          have e0 := hu.v
          have e1 := hu.nm
          subst hu2 e0 e1
          have hb3 : Below wr.heap.size wr (wr.alloc (.cells #[.bool t.args[q].v, .string t.args[q].n, .slice a2 t.args[q].args.length cap2] 39)) := (Below.refl _ _).alloc (Nat.le_refl _) _
          have hih := ih t.args[q] (by have := size_arg t q hlt; omega) (wrap64 (lv + 1)) (k + 1 + sumT lv (t.args.take q)) O2 (wr.alloc (.cells #[.bool t.args[q].v, .string t.args[q].n, .slice a2 t.args[q].args.length cap2] 39)) _ _ _ rest' (hJ.below h2 hb3 (by omega)) (by simp; omega) (by simp; omega) hO2 (hu.below hb3 (by omega)) hx'
          rw [show k + 1 + sumT lv (t.args.take q) + (t.args[q].all (wrap64 (lv + 1))).length = k + 1 + sumT lv (t.args.take (q + 1)) by rw [sumT_succ lv t.args q hlt]; omega] at hih
          have HI := Lib.hid hih
          clear hih hx' hu
          gi_wp2_with fail
          refine ⟨trivial, rfl, HI.out.mono ?_⟩
          have hgx : Grow O W (wr.alloc (.cells #[.bool t.args[q].v, .string t.args[q].n, .slice a2 t.args[q].args.length cap2] 39)) := hg2.trans (Grow.of_below hb3) hs2
          clear HI hb3
          rintro e W3 ⟨O3, hs3, hg3, (⟨rfl, h3⟩ | ⟨rfl, hx3⟩)⟩
          · gi_wp2_with fail
            exact ⟨⟨q + 1, by go_num, by omega, O3, hs2.trans hs3 (by simp; omega), hgx.trans hg3 hs2, h3⟩, by simp [intOf]; omega⟩
          · gi_wp2_with fail
            go_ret
            exact ⟨O3, hs2.trans hs3 (by simp; omega), hgx.trans hg3 hs2, .inr ⟨rfl, hx3⟩⟩
        · have e : q = t.args.length := by omega
          rw [e, List.take_length] at h2
          have HE := Lib.hid (all_len t lv)
          clear e
          gi_wp2_with fail
          go_ret
          exact ⟨O2, hs2, hg2, .inl ⟨rfl, by rw [HE.out, ← Nat.add_assoc]; exact h2⟩⟩
    · have hG1 : Grow O W W1 := (Grow.of_below hb1).trans hg1 (Sub.refl _ _)
      have hS1 : Sub O W.heap.size O1 := (Sub.refl _ _).trans hs1 (by simp)
      clear hs1 hg1 hb1
      gi_wp2_with fail
      go_ret
      exact ⟨O1, hS1, hG1, .inr ⟨rfl, hx1⟩⟩
end Go.Proofs.YtdapnjnmhkdnpaaDoor.Fm
