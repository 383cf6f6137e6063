/-
  The contract of texts: it makes the two closures.
-/
import Derived.Test.YtdapnjnmhkdnpaaDoorFtWrite
import Derived.Test.YtdapnjnmhkdnpaaDoorFtOps
namespace Go.Proofs.YtdapnjnmhkdnpaaDoor.Fb
open Go Go.RowKit Go.Shelf Go.Proofs.YtdapnjnmhkdnpaaDoor.Fm Go.Proofs.YtdapnjnmhkdnpaaDoor.Lx Go.Proofs.YtdapnjnmhkdnpaaDoor.Ps Go.Proofs.YtdapnjnmhkdnpaaDoor.Ft
set_option linter.unusedVariables false
set_option linter.unusedSimpArgs false
theorem run_store_func {P : Program} {w : World} (a : Addr) (m : Mode) (f : Fn) (x y : Array Value) : (store a (.func f x y) m).run P w = stored P w a (.func f x y) m := run_store P w a _ m rfl
attribute [local go_sem] run_store_func
set_option maxHeartbeats 2000000 in
theorem texts_c (b bk : Nat) (w : World) (hT : STab w) : Calls Tryd.prog 24 #[.pointer (some ⟨b, 0, none⟩), .func (.func bk) #[] #[]] w fun e w' => e = .returned (wrF w.heap.size) ∧ Below w.heap.size w w' ∧ TxS b w.heap.size bk w' ∧ w'.heap.size = w.heap.size + 4 := by
  have HT := Lib.hid hT
  clear hT
  go_enter Tryd.func24, Tryd.ntmps24
  go_wp2_with fail
  go_ret
  obtain ⟨g0, g1, g2, g3, _, hz, hb⟩ := four_boxes w (.pointer (some ⟨b, 0, none⟩)) (.func (.func bk) #[] #[]) (wrF w.heap.size) (paF w.heap.size) 50 56 54 84
  exact ⟨rfl, hb, ⟨g0, g1, g2, g3, by simp only [World.size_alloc]; omega, HT.out.keep (hb.block _ HT.out.1) hb.size⟩, hz⟩
set_option maxHeartbeats 2000000 in
/-- Forms' own function: what is not right. -/
theorem notRight_c (v0 v1 v2 v3 : Value) (f : Fo) (dn : Nat) (w : World) (hf : FoV dn w v0 v1 v2 v3 f) (hd : dn ≤ w.heap.size) (hT : RTab w) :
    Calls Tryd.prog 38 #[.agg #[v0, v1, v2, v3]] w fun e w' => e = .returned (.bool (!rightB true f)) ∧ Below w.heap.size w w' := by
  have hb0 : Below w.heap.size w (w.alloc (.cells #[v0, v1, v2, v3] 25)) := (Below.refl _ _).alloc (Nat.le_refl _) _
  have hs := Lib.hid (schema_c v0 v1 v2 v3 f dn _ (hf.below hb0 hd) (by simp; omega) (hT.below hb0 hT.1))
  have HB := Lib.hid hb0
  obtain ⟨rfl, _, rfl, hok, hA, hS⟩ := hf
  obtain ⟨⟨a1, k1, rfl⟩, _⟩ := hA.form
  obtain ⟨⟨a2, k2, rfl⟩, _⟩ := hS.form
  clear hA hS hok hb0 hT
  go_enter Tryd.func38, Tryd.ntmps38
  go_wp2_with fail
  refine hs.out.mono ?_
  rintro e w1 ⟨rfl, hb1⟩
  have hb := Lib.hid (HB.out.trans (hb1.mono HB.out.size))
  clear hb1
  go_wp2_with fail
  go_ret
  exact ⟨rfl, hb.out⟩
def IxRel (fs : List Fo) (w : World) (x : Value) (wr : World) : Prop := ∃ q : Nat, x = .int .i64 (q : Int) ∧ q ≤ fs.length ∧ Below w.heap.size w wr ∧ ∀ j, (hj : j < fs.length) → j < q → rightB true fs[j] = true
set_option maxHeartbeats 2000000 in
theorem index_c (fs : List Fo) (va : Value) (dn : Nat) (w : World) (hs : SlF dn w va fs) (hd : dn ≤ w.heap.size) (hT : RTab w) :
    Calls Tryd.prog 59 #[va, .func (.func 38) #[] #[]] w fun e w' => (∃ i : Int, e = .returned (.int .i64 i) ∧ decide (0 ≤ i) = fs.any fun f => !rightB true f) ∧ Below w.heap.size w w' := by
  obtain ⟨⟨sa, cap, rfl⟩, hlen⟩ := hs.form
  have HS := Lib.hid hs
  have HT := Lib.hid hT
  clear hs hT
  go_enter Tryd.func59, Tryd.ntmps59
  go_wp2_with fail
  go_loopw [8] (fun x wr => IxRel fs w x wr) (fun x _ => fs.length - (intOf x).toNat)
  case atStart => exact ⟨0, rfl, Nat.zero_le _, Below.refl _ _, fun j hj h => by omega⟩
  case round =>
    obtain ⟨q, rfl, hq, hbw, hall⟩ := hrel
    have HALL := Lib.hid hall
    have hz := hbw.size
    have HBW := Lib.hid hbw
    clear hall hbw
    by_cases hlt : q < fs.length
    · obtain ⟨_, b, o, rfl, hbn, u0, u1, u2, u3, c0, c1, c2, c3, hu⟩ := (HS.out.below HBW.out hd).get hlt
      have HC := Lib.hid (notRight_c u0 u1 u2 u3 fs[q] dn wr hu (by omega) (HT.out.below HBW.out HT.out.1))
      obtain ⟨⟨a3, k3, e3⟩, _⟩ := hu.args.form
      obtain ⟨⟨a4, k4, e4⟩, _⟩ := hu.sub.form
      have e1 := hu.op
      have e2 := hu.nm
      subst e1 e2 e3 e4
      clear hu
      cases hr : rightB true fs[q] with
      | true =>
        rw [hr] at HC
        have HR := Lib.hid hr
        clear hr
        go_wp2_with fail
        refine HC.out.mono ?_
        rintro e w2 ⟨rfl, hb2⟩
        have HB2 := Lib.hid (HBW.out.trans (hb2.mono hz))
        clear hb2 HC
        go_wp2_with fail
        refine ⟨⟨q + 1, by go_num, by omega, HB2.out, fun j h1 h2 => ?_⟩, by simp [intOf]; omega⟩
        rcases Nat.lt_or_ge j q with h | h
        · exact HALL.out j h1 h
        · obtain rfl : j = q := by omega
          exact HR.out
      | false =>
        rw [hr] at HC
        have HR := Lib.hid hr
        clear hr
        go_wp2_with fail
        refine HC.out.mono ?_
        rintro e w2 ⟨rfl, hb2⟩
        have HB2 := Lib.hid (HBW.out.trans (hb2.mono hz))
        clear hb2 HC
        go_wp2_with fail
        go_ret
        refine ⟨⟨_, rfl, ?_⟩, HB2.out⟩
        rw [decide_eq_true (by omega)]
        exact (List.any_eq_true.2 ⟨fs[q], List.getElem_mem hlt, by rw [HR.out]; rfl⟩).symm
    · have e : q = fs.length := by omega
      subst e
      go_wp2_with fail
      go_ret
      refine ⟨⟨_, rfl, ?_⟩, HBW.out⟩
      rw [decide_eq_false (by omega)]
      refine (List.any_eq_false.2 fun f hf => ?_).symm
      obtain ⟨j, hj, rfl⟩ := List.getElem_of_mem hf
      rw [HALL.out j hj hj]
      decide
set_option maxHeartbeats 2000000 in
theorem contains_c (fs : List Fo) (va : Value) (dn : Nat) (w : World) (hs : SlF dn w va fs) (hd : dn ≤ w.heap.size) (hT : RTab w) :
    Calls Tryd.prog 37 #[va, .func (.func 38) #[] #[]] w fun e w' => e = .returned (.bool (fs.any fun f => !rightB true f)) ∧ Below w.heap.size w w' := by
  obtain ⟨⟨sa, cap, rfl⟩, hlen⟩ := hs.form
  have HC := Lib.hid (index_c fs _ dn w hs hd hT)
  clear hs hT
  go_enter Tryd.func37, Tryd.ntmps37
  go_wp2_with fail
  refine HC.out.mono ?_
  rintro e w1 ⟨⟨i, rfl, hi⟩, hb1⟩
  have HB := Lib.hid hb1
  have HI := Lib.hid hi
  clear hb1 hi HC
  go_wp2_with fail
  go_ret
  exact ⟨by rw [← HI.out]; rfl, HB.out⟩
end Go.Proofs.YtdapnjnmhkdnpaaDoor.Fb
