/-
  The contracts of variableTerm, metaTerm and rightTerm.
-/
import Derived.Test.YtdapnjnmhkdnpaaDoorFmVars
namespace Go.Proofs.YtdapnjnmhkdnpaaDoor.Fm
open Go Go.RowKit Go.Shelf
set_option linter.unusedVariables false
set_option linter.unusedSimpArgs false
def varT (t : Tm) : Bool := t.v && decide (t.args.length = 0) && varB t.n
def metaT (t : Tm) : Bool := t.v && decide (t.args.length = 0) && metaB fnB t.n
theorem varT_c (v0 v1 v2 : Value) (t : Tm) (dn : Nat) (w : World) (ht : TmV dn w v0 v1 v2 t) : Calls Tryd.prog 74 #[.agg #[v0, v1, v2]] w fun e w' => e = .returned (.bool (varT t)) ∧ Below w.heap.size w w' := by
  obtain ⟨rfl, rfl, hok, hargs⟩ := ht
  obtain ⟨⟨sa, cap, rfl⟩, hlen⟩ := hargs.form
  have HB := Lib.hid (show varT t = (t.v && decide (t.args.length = 0) && varB t.n) from rfl)
  have HC := Lib.hid (fun w => variable_c t.n w hok)
  clear hargs hok
  generalize varB t.n = vb at *
  generalize t.args.length = L at *
  cases hv : t.v
  · rw [hv] at HB
    clear hv
    go_enter Tryd.func74, Tryd.ntmps74
    go_wp2_with fail
    go_ret
    exact ⟨by rw [HB.out]; rfl, (Below.refl _ _).alloc (Nat.le_refl _) _⟩
  · rw [hv] at HB
    clear hv
    by_cases h0 : L = 0
    · subst h0
      go_enter Tryd.func74, Tryd.ntmps74
      go_wp2_with fail
      refine (HC.out _).mono ?_
      rintro e w1 ⟨rfl, hb⟩
      have hb2 := ((Below.refl _ _).alloc (Nat.le_refl _) _).trans (hb.mono (by simp))
      clear hb
      go_wp2_with fail
      go_ret
      exact ⟨by rw [HB.out]; simp, hb2⟩
    · have HB2 := Lib.hid (HB.out.trans (by rw [decide_eq_false h0]))
      have d1 : ((L : Int) == 0) = false := beq_eq_false_iff_ne.2 (by omega)
      clear h0 HB
      go_enter Tryd.func74, Tryd.ntmps74
      go_wp2_with fail
      go_ret
      exact ⟨by rw [HB2.out]; simp, (Below.refl _ _).alloc (Nat.le_refl _) _⟩
theorem metaT_c (v0 v1 v2 : Value) (t : Tm) (dn : Nat) (w : World) (ht : TmV dn w v0 v1 v2 t) : Calls Tryd.prog 75 #[.agg #[v0, v1, v2]] w fun e w' => e = .returned (.bool (metaT t)) ∧ Below w.heap.size w w' := by
  obtain ⟨rfl, rfl, hok, hargs⟩ := ht
  obtain ⟨⟨sa, cap, rfl⟩, hlen⟩ := hargs.form
  have HB := Lib.hid (show metaT t = (t.v && decide (t.args.length = 0) && metaB fnB t.n) from rfl)
  have HC := Lib.hid (fun w => metaOf_fn t.n w hok)
  clear hargs hok
  generalize metaB fnB t.n = vb at *
  generalize t.args.length = L at *
  cases hv : t.v
  · rw [hv] at HB
    clear hv
    go_enter Tryd.func75, Tryd.ntmps75
    go_wp2_with fail
    go_ret
    exact ⟨by rw [HB.out]; rfl, (Below.refl _ _).alloc (Nat.le_refl _) _⟩
  · rw [hv] at HB
    clear hv
    by_cases h0 : L = 0
    · subst h0
      go_enter Tryd.func75, Tryd.ntmps75
      go_wp2_with fail
      refine (HC.out _).mono ?_
      rintro e w1 ⟨rfl, hb⟩
      have hb2 := ((Below.refl _ _).alloc (Nat.le_refl _) _).trans (hb.mono (by simp))
      clear hb
      go_wp2_with fail
      go_ret
      exact ⟨by rw [HB.out]; simp, hb2⟩
    · have HB2 := Lib.hid (HB.out.trans (by rw [decide_eq_false h0]))
      have d1 : ((L : Int) == 0) = false := beq_eq_false_iff_ne.2 (by omega)
      clear h0 HB
      go_enter Tryd.func75, Tryd.ntmps75
      go_wp2_with fail
      go_ret
      exact ⟨by rw [HB2.out]; simp, (Below.refl _ _).alloc (Nat.le_refl _) _⟩
def Tm.right (sc : Bool) : Tm → Bool
  | .mk v n args => if v then varT (.mk v n args) || sc && metaT (.mk v n args) else fnB n && decide (args.length ≤ 4) && args.attach.all fun ⟨t, _⟩ => t.right sc
theorem Tm.right_eq (sc : Bool) (t : Tm) : t.right sc = if t.v then varT t || sc && metaT t else fnB t.n && decide (t.args.length ≤ 4) && t.args.all fun t => t.right sc := by
  obtain ⟨v, n, args⟩ := t
  rw [Tm.right]
  simp only [Tm.v, Tm.n, Tm.args]
  congr 2
  simp [List.all_subtype]
def RTRel (sc : Bool) (args : List Tm) (w : World) (i : Value) (wr : World) : Prop := ∃ q : Nat, i = .int .i64 (q : Int) ∧ q ≤ args.length ∧ Below w.heap.size w wr ∧ (args.take q).all (fun t => t.right sc) = true
set_option maxHeartbeats 1000000 in
theorem rightT_c (sc : Bool) (N : Nat) : ∀ (t : Tm), SizeOf.sizeOf t < N → ∀ (v0 v1 v2 : Value) (dn : Nat) (w : World), TmV dn w v0 v1 v2 t → dn ≤ w.heap.size →
    Calls Tryd.prog 76 #[.agg #[v0, v1, v2], .bool sc] w fun e w' => e = .returned (.bool (t.right sc)) ∧ Below w.heap.size w w' := by
  induction N with
  | zero => exact fun t h => absurd h (Nat.not_lt_zero _)
  | succ N ih =>
    intro t hN v0 v1 v2 dn w ht hd
    have hb0 : Below w.heap.size w (w.alloc (.cells #[v0, v1, v2] 39)) := (Below.refl _ _).alloc (Nat.le_refl _) _
    have HE := Lib.hid (Tm.right_eq sc t)
    have hv := Lib.hid (fun w (h : TmV dn w v0 v1 v2 t) => varT_c v0 v1 v2 t dn w h)
    have hm := Lib.hid (fun w (h : TmV dn w v0 v1 v2 t) => metaT_c v0 v1 v2 t dn w h)
    have ht0 := ht.below hb0 hd
    have HT0 := Lib.hid ht0
    obtain ⟨rfl, rfl, hok, hargs⟩ := ht
    obtain ⟨⟨sa, cap, rfl⟩, hlen⟩ := hargs.form
    have hf := Lib.hid (fun w => function_c t.n w hok)
    clear ht0
    cases hvv : t.v
    · rw [hvv] at HE hb0 HT0 hv hm
      rw [if_neg (by decide)] at HE
      clear hvv hv hm
      cases hfn : fnB t.n
      · rw [hfn] at hf HE
        clear hfn
        go_enter Tryd.func76, Tryd.ntmps76
        go_wp2_with fail
        refine (hf.out _).mono ?_
        rintro e w1 ⟨rfl, hb⟩
        have hb2 := hb0.trans (hb.mono (by simp))
        clear hb
        go_wp2_with fail
        go_ret
        exact ⟨by rw [HE.out]; simp, hb2⟩
      · rw [hfn] at hf HE
        clear hfn
        by_cases h4 : t.args.length ≤ 4
        · rw [decide_eq_true h4] at HE
          have d4 : decide (4 < (t.args.length : Int)) = false := decide_eq_false (by omega)
          have h4' : (t.args.length : Int) ≤ 4 := by omega
          clear h4
          go_enter Tryd.func76, Tryd.ntmps76
          go_wp2_with fail
          refine (hf.out _).mono ?_
          rintro e w1 ⟨rfl, hb⟩
          have c2 : w1.cell? ⟨w.heap.size, 2, none⟩ = some (.slice sa t.args.length cap) := by rw [hb.cell (p := ⟨w.heap.size, 2, none⟩) (by simp)]; simp
          have hb2 := hb0.trans (hb.mono (by simp))
          clear hb
          go_wp2_with fail
          go_loopw [31] (fun i wr => RTRel sc t.args w i wr) (fun i _ => t.args.length - (intOf i).toNat)
          case atStart => exact ⟨0, rfl, Nat.zero_le _, hb2, rfl⟩
          case round =>
            clear hb2 c2
            obtain ⟨q, rfl, hq, hbq, hall⟩ := hrel
            have HALL := Lib.hid hall
            clear hall
            have hzq := hbq.size
            by_cases hlt : q < t.args.length
            · obtain ⟨_, b, o, rfl, hbn, u0, u1, u2, c0, c1, c2, hu⟩ := (hargs.below (hbq.mono hd) (Nat.le_refl _)).get hlt
              obtain ⟨⟨a2, cap2, hu2⟩, hl2⟩ := hu.args.form
              have e0 := hu.v
              have e1 := hu.nm
              subst hu2 e0 e1
              have hb3 : Below wr.heap.size wr (wr.alloc (.cells #[.bool t.args[q].v, .string t.args[q].n, .slice a2 t.args[q].args.length cap2] 39)) := (Below.refl _ _).alloc (Nat.le_refl _) _
              have hih := ih t.args[q] (by have := size_arg t q hlt; omega) _ _ _ dn (wr.alloc (.cells #[.bool t.args[q].v, .string t.args[q].n, .slice a2 t.args[q].args.length cap2] 39)) (hu.below hb3 (by omega)) (by simp; omega)
              have hbx := hbq.trans (hb3.mono hzq)
              have HTK := Lib.hid (List.take_succ_eq_append_getElem hlt)
              cases hr : t.args[q].right sc
              · rw [hr] at hih
                have HI := Lib.hid hih
                have HR := Lib.hid (show (t.args.all fun t => t.right sc) = false from List.all_eq_false.2 ⟨t.args[q], List.getElem_mem hlt, by rw [hr]; decide⟩)
                clear hih hr hu
                go_wp2_with fail
                refine HI.out.mono ?_
                clear HI
                rintro e w4 ⟨rfl, hb4⟩
                have hb5 := hbx.trans (hb4.mono (by simp; omega))
                clear hb4 hbx hb3
                go_wp2_with fail
                go_ret
                exact ⟨by rw [HE.out, HR.out]; simp, hb5⟩
              · rw [hr] at hih
                have HI := Lib.hid hih
                have HR := Lib.hid hr
                clear hih hr hu
                go_wp2_with fail
                refine HI.out.mono ?_
                clear HI
                rintro e w4 ⟨rfl, hb4⟩
                have hb5 := hbx.trans (hb4.mono (by simp; omega))
                clear hb4 hbx hb3
                go_wp2_with fail
                exact ⟨⟨q + 1, by go_num, by omega, hb5, by rw [HTK.out, List.all_append, HALL.out]; simp [HR.out]⟩, by simp [intOf]; omega⟩
            · have e : q = t.args.length := by omega
              have HR := Lib.hid (show (t.args.all fun t => t.right sc) = true by have := HALL.out; rw [e, List.take_length] at this; exact this)
              clear e
              go_wp2_with fail
              go_ret
              exact ⟨by rw [HE.out, HR.out]; simp, hbq⟩
        · rw [decide_eq_false h4] at HE
          have d4 : decide (4 < (t.args.length : Int)) = true := decide_eq_true (by omega)
          clear h4
          go_enter Tryd.func76, Tryd.ntmps76
          go_wp2_with fail
          refine (hf.out _).mono ?_
          rintro e w1 ⟨rfl, hb⟩
          have c2 : w1.cell? ⟨w.heap.size, 2, none⟩ = some (.slice sa t.args.length cap) := by rw [hb.cell (p := ⟨w.heap.size, 2, none⟩) (by simp)]; simp
          have hb2 := hb0.trans (hb.mono (by simp))
          clear hb
          go_wp2_with fail
          go_ret
          exact ⟨by rw [HE.out]; simp, hb2⟩
    · rw [hvv] at HE hb0 HT0 hv hm
      rw [if_pos rfl] at HE
      clear hf hvv
      have hv' := hv.out _ HT0.out
      cases hr : varT t
      · rw [hr] at hv' HE
        have HV := Lib.hid hv'
        clear hv' hr hv
        cases sc
        · go_enter Tryd.func76, Tryd.ntmps76
          go_wp2_with fail
          refine HV.out.mono ?_
          rintro e w1 ⟨rfl, hb⟩
          have hb2 := hb0.trans (hb.mono (by simp))
          clear hb
          go_wp2_with fail
          go_ret
          exact ⟨by rw [HE.out]; simp, hb2⟩
        · go_enter Tryd.func76, Tryd.ntmps76
          go_wp2_with fail
          refine HV.out.mono ?_
          rintro e w1 ⟨rfl, hb⟩
          have hc : ∀ q, w1.cell? ⟨w.heap.size, q, none⟩ = (#[Value.bool true, .string t.n, .slice sa t.args.length cap] : Array Value)[q]? := fun q => by rw [hb.cell (p := ⟨w.heap.size, q, none⟩) (by simp), World.cell?_alloc_at _ _ _ _ rfl]
          have c0 := hc 0
          have c1 := hc 1
          have c2 := hc 2
          simp only [List.getElem?_toArray, List.getElem?_cons_zero, List.getElem?_cons_succ] at c0 c1 c2
          have HM := Lib.hid (hm.out _ (HT0.out.below (hb.mono (Nat.le_refl _)) (by simp; omega)))
          have hb2 := hb0.trans (hb.mono (by simp))
          clear hb hc hm
          go_wp2_with fail
          refine HM.out.mono ?_
          rintro e w2 ⟨rfl, hb3⟩
          have hb4 := hb2.trans (hb3.mono hb2.size)
          clear hb3 hb2 c0 c1 c2
          go_wp2_with fail
          go_ret
          exact ⟨by rw [HE.out]; simp, hb4⟩
      · rw [hr] at hv' HE
        have HV := Lib.hid hv'
        clear hv' hr hv
        go_enter Tryd.func76, Tryd.ntmps76
        go_wp2_with fail
        refine HV.out.mono ?_
        rintro e w1 ⟨rfl, hb⟩
        have hb2 := hb0.trans (hb.mono (by simp))
        clear hb
        go_wp2_with fail
        go_ret
        exact ⟨by rw [HE.out]; simp, hb2⟩
end Go.Proofs.YtdapnjnmhkdnpaaDoor.Fm
