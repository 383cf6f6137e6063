/-
  The contract of satisfies.
-/
import Derived.Test.YtdapnjnmhkdnpaaDoorFmClass
namespace Go.Proofs.YtdapnjnmhkdnpaaDoor.Fm
open Go Go.RowKit Go.Shelf
set_option linter.unusedVariables false
set_option linter.unusedSimpArgs false
theorem rowOf_bd (op : Int) : (0 ≤ (rowOf op).name ∧ (rowOf op).name ≤ 4) ∧ (0 ≤ (rowOf op).least ∧ (rowOf op).least ≤ 4) ∧ (0 ≤ (rowOf op).most ∧ (rowOf op).most ≤ 4) ∧ (0 ≤ (rowOf op).sub ∧ (rowOf op).sub ≤ 4) := by
  have h : ∀ r ∈ rowsL, (0 ≤ r.name ∧ r.name ≤ 4) ∧ (0 ≤ r.least ∧ r.least ≤ 4) ∧ (0 ≤ r.most ∧ r.most ≤ 4) ∧ (0 ≤ r.sub ∧ r.sub ≤ 4) := by decide
  unfold rowOf
  cases hr : rowsL[op.toNat]? with
  | none => decide
  | some r => exact h r (List.mem_of_getElem? hr)
/-- What is asked of a row ahead of its terms. -/
def headB (sc : Bool) (f : Fo) : Bool :=
  !((rowOf f.op).schema && !sc) && nameB (rowOf f.op).name f.n && !((f.sub.length : Int) != (rowOf f.op).sub) && !(decide ((f.args.length : Int) < (rowOf f.op).least)) && !(decide ((rowOf f.op).most < (f.args.length : Int)))
theorem headB_eq (sc : Bool) (f : Fo) : headB sc f = (!((rowOf f.op).schema && !sc) && nameB (rowOf f.op).name f.n && !((f.sub.length : Int) != (rowOf f.op).sub) && !(decide ((f.args.length : Int) < (rowOf f.op).least)) && !(decide ((rowOf f.op).most < (f.args.length : Int)))) := rfl
def tailB (sc : Bool) (f : Fo) : Bool :=
  if f.op = 16 then (match f.args with | [a, b] => varT a && metaT b | _ => false) else f.args.all fun t => t.right sc
def satB (sc : Bool) (f : Fo) : Bool := headB sc f && tailB sc f
/-- The world in satisfies: the formula's box at F, the row's at R. -/
structure SatW (f : Fo) (v2 v3 : Value) (F R : Nat) (W w' : World) : Prop where
  f0 : w'.cell? ⟨F, 0, none⟩ = some (.int .u8 f.op)
  f1 : w'.cell? ⟨F, 1, none⟩ = some (.string f.n)
  f2 : w'.cell? ⟨F, 2, none⟩ = some v2
  f3 : w'.cell? ⟨F, 3, none⟩ = some v3
  r0 : w'.cell? ⟨R, 0, none⟩ = some (.int .u8 (rowOf f.op).name)
  r1 : w'.cell? ⟨R, 1, none⟩ = some (.int .i64 (rowOf f.op).least)
  r2 : w'.cell? ⟨R, 2, none⟩ = some (.int .i64 (rowOf f.op).most)
  r3 : w'.cell? ⟨R, 3, none⟩ = some (.int .i64 (rowOf f.op).sub)
  r4 : w'.cell? ⟨R, 4, none⟩ = some (.bool (rowOf f.op).schema)
  fl : F < w'.heap.size
  rl : R < w'.heap.size
  b : Below W.heap.size W w'
theorem SatW.step {f : Fo} {v2 v3 : Value} {F R : Nat} {W w w' : World} (h : SatW f v2 v3 F R W w) (hb : Below w.heap.size w w') : SatW f v2 v3 F R W w' := by
  have hF : ∀ q, w'.cell? ⟨F, q, none⟩ = w.cell? ⟨F, q, none⟩ := fun q => hb.cell (p := ⟨F, q, none⟩) h.fl
  have hR : ∀ q, w'.cell? ⟨R, q, none⟩ = w.cell? ⟨R, q, none⟩ := fun q => hb.cell (p := ⟨R, q, none⟩) h.rl
  exact ⟨by rw [hF]; exact h.f0, by rw [hF]; exact h.f1, by rw [hF]; exact h.f2, by rw [hF]; exact h.f3, by rw [hR]; exact h.r0, by rw [hR]; exact h.r1, by rw [hR]; exact h.r2, by rw [hR]; exact h.r3, by rw [hR]; exact h.r4, Nat.lt_of_lt_of_le h.fl hb.size, Nat.lt_of_lt_of_le h.rl hb.size, h.b.trans (hb.mono h.b.size)⟩
theorem SatW.drew {f : Fo} {v2 v3 : Value} {F R : Nat} {W w : World} (h : SatW f v2 v3 F R W w) : SatW f v2 v3 F R W w.drew := h.step (Below.drew (Below.refl _ _))
def RTRel2 (sc : Bool) (args : List Tm) (w : World) (i : Value) (wr : World) : Prop := ∃ q : Nat, i = .int .i64 (q : Int) ∧ q ≤ args.length ∧ Below w.heap.size w wr ∧ (args.take q).all (fun t => t.right sc) = true
set_option maxHeartbeats 4000000 in
theorem sat_c (sc : Bool) (v0 v1 v2 v3 : Value) (f : Fo) (dn : Nat) (w : World) (hf : FoV dn w v0 v1 v2 v3 f) (hd : dn ≤ w.heap.size) (hT : RTab w) :
    Calls Tryd.prog 46 #[.agg #[v0, v1, v2, v3], .bool sc] w fun e w' => e = .returned (.bool (satB sc f)) ∧ Below w.heap.size w w' := by
  have hb0 : Below w.heap.size w (w.alloc (.cells #[v0, v1, v2, v3] 25)) := (Below.refl _ _).alloc (Nat.le_refl _) _
  obtain ⟨rfl, hop, rfl, hok, hA, hS⟩ := hf
  obtain ⟨⟨a1, k1, rfl⟩, hl1⟩ := hA.form
  obtain ⟨⟨a2, k2, rfl⟩, hl2⟩ := hS.form
  obtain ⟨hbn, hbl, hbm, hbs⟩ := rowOf_bd f.op
  have HRO := Lib.hid (fun W (h : RTab W) => rowOf_c f.op W h hop.1 hop.2)
  have HNC := Lib.hid (fun W => nameCheck_c (rowOf f.op).name W hbn.1 hbn.2)
  have HCK := Lib.hid (fun W => check_c (rowOf f.op).name f.n W hbn.1 hbn.2 hok)
  have HT0 := Lib.hid (hT.below hb0 hT.1)
  go_enter Tryd.func46, Tryd.ntmps46
  go_wp2_with fail
  refine (HRO.out _ HT0.out).mono ?_
  rintro e w1 ⟨rfl, hb1⟩
  unfold RowD.val
  have hbw := hb0.trans (hb1.mono (by simp))
  have hc : ∀ q, w1.cell? ⟨w.heap.size, q, none⟩ = (#[Value.int .u8 f.op, .string f.n, .slice a1 f.args.length k1, .slice a2 f.sub.length k2] : Array Value)[q]? := fun q => by rw [hb1.cell (p := ⟨w.heap.size, q, none⟩) (by simp), World.cell?_alloc_at _ _ _ _ rfl]
  have hz1 : w.heap.size < w1.heap.size := by have := hb1.size; simp at this; omega
  have hcf : ∀ args W, (callFunc (checkOf (rowOf f.op).name) args).run Tryd.prog W = .ok (.enter (checkOf (rowOf f.op).name) args) W := by
    have hn : (rowOf f.op).name = 0 ∨ (rowOf f.op).name = 1 ∨ (rowOf f.op).name = 2 ∨ (rowOf f.op).name = 3 ∨ (rowOf f.op).name = 4 := by omega
    rcases hn with h | h | h | h | h <;> rw [h]
    · exact enters_of Tryd.func94 (by kernel_rfl) rfl
    · exact enters_of Tryd.func91 (by kernel_rfl) rfl
    · exact enters_of Tryd.func61 (by kernel_rfl) rfl
    · exact enters_of Tryd.func92 (by kernel_rfl) rfl
    · exact enters_of Tryd.func93 (by kernel_rfl) rfl
  have hS : SatW f (.slice a1 f.args.length k1) (.slice a2 f.sub.length k2) w.heap.size w1.heap.size w (w1.alloc (.cells #[.int .u8 (rowOf f.op).name, .int .i64 (rowOf f.op).least, .int .i64 (rowOf f.op).most, .int .i64 (rowOf f.op).sub, .bool (rowOf f.op).schema] 109)) := by
    have hb2 : Below w1.heap.size w1 (w1.alloc (.cells #[.int .u8 (rowOf f.op).name, .int .i64 (rowOf f.op).least, .int .i64 (rowOf f.op).most, .int .i64 (rowOf f.op).sub, .bool (rowOf f.op).schema] 109)) := (Below.refl _ _).alloc (Nat.le_refl _) _
    have hF : ∀ q, (w1.alloc (.cells #[.int .u8 (rowOf f.op).name, .int .i64 (rowOf f.op).least, .int .i64 (rowOf f.op).most, .int .i64 (rowOf f.op).sub, .bool (rowOf f.op).schema] 109)).cell? ⟨w.heap.size, q, none⟩ = _ := fun q => (hb2.cell (p := ⟨w.heap.size, q, none⟩) hz1).trans (hc q)
    exact ⟨hF 0, hF 1, hF 2, hF 3, by simp, by simp, by simp, by simp, by simp, by simp; omega, by simp, hbw.trans (hb2.mono (by omega))⟩
  obtain ⟨R, hR⟩ : ∃ R, w1.heap.size = R := ⟨_, rfl⟩
  obtain ⟨F, hF⟩ : ∃ F, w.heap.size = F := ⟨_, rfl⟩
  have HD := Lib.hid (headB_eq sc f)
  have HCS := Lib.hid (fun W (h : SatW f (.slice a1 f.args.length k1) (.slice a2 f.sub.length k2) F R w W) => (HCK.out W).mono (R' := fun e w' => e = .returned (.bool (nameB (rowOf f.op).name f.n)) ∧ SatW f (.slice a1 f.args.length k1) (.slice a2 f.sub.length k2) F R w w') fun e w' ⟨h1, h2⟩ => ⟨h1, h.step h2⟩)
  go_wp2_with fail
  rw [hR, hF] at hS
  generalize w1.alloc (.cells #[.int .u8 (rowOf f.op).name, .int .i64 (rowOf f.op).least, .int .i64 (rowOf f.op).most, .int .i64 (rowOf f.op).sub, .bool (rowOf f.op).schema] 109) = wa at *
  clear hR hF hc hz1 hbw hb1 HRO HCK hb0 HT0
  obtain ⟨f0, f1, f2, f3, r0, r1, r2, r3, r4, _, _, _⟩ := id hS
  have HH := Lib.hid (show satB sc f = (headB sc f && tailB sc f) from rfl)
  haveI hne : Nonempty (InS (SatW f (.slice a1 f.args.length k1) (.slice a2 f.sub.length k2) F R w)) := ⟨⟨_, hS⟩⟩
  have q0 : ∀ p : InS (SatW f (.slice a1 f.args.length k1) (.slice a2 f.sub.length k2) F R w), p.w.cell? ⟨R, 0, none⟩ = some (.int .u8 (rowOf f.op).name) := fun p => p.h.r0
  have q1 : ∀ p : InS (SatW f (.slice a1 f.args.length k1) (.slice a2 f.sub.length k2) F R w), p.w.cell? ⟨R, 1, none⟩ = some (.int .i64 (rowOf f.op).least) := fun p => p.h.r1
  have q2 : ∀ p : InS (SatW f (.slice a1 f.args.length k1) (.slice a2 f.sub.length k2) F R w), p.w.cell? ⟨R, 2, none⟩ = some (.int .i64 (rowOf f.op).most) := fun p => p.h.r2
  have q3 : ∀ p : InS (SatW f (.slice a1 f.args.length k1) (.slice a2 f.sub.length k2) F R w), p.w.cell? ⟨R, 3, none⟩ = some (.int .i64 (rowOf f.op).sub) := fun p => p.h.r3
  have p1 : ∀ p : InS (SatW f (.slice a1 f.args.length k1) (.slice a2 f.sub.length k2) F R w), p.w.cell? ⟨F, 1, none⟩ = some (.string f.n) := fun p => p.h.f1
  have p2 : ∀ p : InS (SatW f (.slice a1 f.args.length k1) (.slice a2 f.sub.length k2) F R w), p.w.cell? ⟨F, 2, none⟩ = some (.slice a1 f.args.length k1) := fun p => p.h.f2
  have p3 : ∀ p : InS (SatW f (.slice a1 f.args.length k1) (.slice a2 f.sub.length k2) F R w), p.w.cell? ⟨F, 3, none⟩ = some (.slice a2 f.sub.length k2) := fun p => p.h.f3
  clear r0 r1 r2 r3 r4 f0 f1 f2 f3
  cases hrc : (rowOf f.op).schema
  · have hrcE := Lib.hid hrc
    have q4 : ∀ p : InS (SatW f (.slice a1 f.args.length k1) (.slice a2 f.sub.length k2) F R w), p.w.cell? ⟨R, 4, none⟩ = some (.bool false) := fun p => by rw [← hrcE.out]; exact p.h.r4
    clear hrc
    cases hn : nameB (rowOf f.op).name f.n
    · rw [hn] at HCS
      have hnE := Lib.hid hn
      clear hn
      have hh := Lib.hid (HH.out.trans (by rw [show headB sc f = false by rw [HD.out]; simp [hrcE.out, hnE.out], Bool.false_and]))
      refine wp_region_class (SatW f (.slice a1 f.args.length k1) (.slice a2 f.sub.length k2) F R w) (by kernel_rfl) (by kernel_rfl) hS.drew ?_
      repeat (go_big_quiet_step ((first | exact Calls.class_of ((HNC.out _).mono fun e w' h => ⟨h.1, h.2 ▸ InS.h _⟩) | exact Calls.class_of (HCS.out _ (InS.h _)))))
      refine wpQuiet_nil ?_
      intro w2 hw'
      obtain ⟨⟨w3, hS2⟩, hw''⟩ := hw'
      have hw3 : w2 = w3 := hw''
      subst hw3
      clear hw''
      have hb2 := Lib.hid hS2.b
      clear hS2
      go_wp2_with fail
      go_ret
      exact ⟨by rw [hh.out]; rfl, hb2.out⟩
    · rw [hn] at HCS
      have hnE := Lib.hid hn
      clear hn
      by_cases hs : (f.sub.length : Int) = (rowOf f.op).sub
      · have d1 : ((f.sub.length : Int) != (rowOf f.op).sub) = false := by rw [hs]; simp
        clear hs
        by_cases hl : (f.args.length : Int) < (rowOf f.op).least
        · have d2 : decide ((f.args.length : Int) < (rowOf f.op).least) = true := decide_eq_true hl
          clear hl
          have hh := Lib.hid (HH.out.trans (by rw [show headB sc f = false by rw [HD.out]; simp [hrcE.out, hnE.out, d1, d2], Bool.false_and]))
          refine wp_region_class (SatW f (.slice a1 f.args.length k1) (.slice a2 f.sub.length k2) F R w) (by kernel_rfl) (by kernel_rfl) hS.drew ?_
          repeat (go_big_quiet_step ((first | exact Calls.class_of ((HNC.out _).mono fun e w' h => ⟨h.1, h.2 ▸ InS.h _⟩) | exact Calls.class_of (HCS.out _ (InS.h _)))))
          refine wpQuiet_nil ?_
          intro w2 hw'
          obtain ⟨⟨w3, hS2⟩, hw''⟩ := hw'
          have hw3 : w2 = w3 := hw''
          subst hw3
          clear hw''
          have hb2 := Lib.hid hS2.b
          clear hS2
          go_wp2_with fail
          go_ret
          exact ⟨by rw [hh.out]; rfl, hb2.out⟩
        · have d2 : decide ((f.args.length : Int) < (rowOf f.op).least) = false := decide_eq_false hl
          by_cases hm : (rowOf f.op).most < (f.args.length : Int)
          · have d3 : decide ((rowOf f.op).most < (f.args.length : Int)) = true := decide_eq_true hm
            clear hm hl
            have hh := Lib.hid (HH.out.trans (by rw [show headB sc f = false by rw [HD.out]; simp [hrcE.out, hnE.out, d1, d2, d3], Bool.false_and]))
            refine wp_region_class (SatW f (.slice a1 f.args.length k1) (.slice a2 f.sub.length k2) F R w) (by kernel_rfl) (by kernel_rfl) hS.drew ?_
            repeat (go_big_quiet_step ((first | exact Calls.class_of ((HNC.out _).mono fun e w' h => ⟨h.1, h.2 ▸ InS.h _⟩) | exact Calls.class_of (HCS.out _ (InS.h _)))))
            refine wpQuiet_nil ?_
            intro w2 hw'
            obtain ⟨⟨w3, hS2⟩, hw''⟩ := hw'
            have hw3 : w2 = w3 := hw''
            subst hw3
            clear hw''
            have hb2 := Lib.hid hS2.b
            clear hS2
            go_wp2_with fail
            go_ret
            exact ⟨by rw [hh.out]; rfl, hb2.out⟩
          · have d3 : decide ((rowOf f.op).most < (f.args.length : Int)) = false := decide_eq_false hm
            have hlm := Lib.hid (And.intro hl hm)
            clear hm hl
            have hh := Lib.hid (HH.out.trans (by rw [show headB sc f = true by rw [HD.out]; simp [hrcE.out, hnE.out, d1, d2, d3], Bool.true_and]))
            refine wp_region_class (SatW f (.slice a1 f.args.length k1) (.slice a2 f.sub.length k2) F R w) (by kernel_rfl) (by kernel_rfl) hS.drew ?_
            repeat (go_big_quiet_step ((first | exact Calls.class_of ((HNC.out _).mono fun e w' h => ⟨h.1, h.2 ▸ InS.h _⟩) | exact Calls.class_of (HCS.out _ (InS.h _)))))
            refine wpQuiet_nil ?_
            intro w2 hw'
            obtain ⟨⟨w3, hS2⟩, hw''⟩ := hw'
            have hw3 : w2 = w3 := hw''
            subst hw3
            clear hw''
            obtain ⟨f0, f1, f2, f3, _, _, _, _, _, hfl, hrl, hbw⟩ := hS2
            clear HD HH q0 q1 q2 q3 q4 p1 p2 p3 hne HNC HCS hcf hS
            have h16 : ¬ f.op = 16 := fun h => by rw [h] at hrcE; exact absurd hrcE.out (by decide)
            have HT := Lib.hid (hh.out.trans (by unfold tailB; rw [if_neg h16]))
            have d16 : (f.op == 16) = false := beq_eq_false_iff_ne.2 h16
            clear hh h16
            go_wp2_with fail
            go_loopw [68] (fun i wr => RTRel2 sc f.args w i wr) (fun i _ => f.args.length - (intOf i).toNat)
            case atStart => exact ⟨0, rfl, Nat.zero_le _, hbw, rfl⟩
            case round =>
              clear hbw f0 f1 f2 f3 hfl hrl
              obtain ⟨q, rfl, hq, hbq, hall⟩ := hrel
              have HALL := Lib.hid hall
              clear hall
              have hzq := hbq.size
              by_cases hlt : q < f.args.length
              · obtain ⟨_, b, o, rfl, hbn', u0, u1, u2, c0, c1, c2, hu⟩ := (hA.below (hbq.mono hd) (Nat.le_refl _)).get hlt
                obtain ⟨⟨a2', cap2, hu2⟩, hl2'⟩ := hu.args.form
                have e0 := hu.v
                have e1 := hu.nm
                subst hu2 e0 e1
                have hb3 : Below wr.heap.size wr (wr.alloc (.cells #[.bool f.args[q].v, .string f.args[q].n, .slice a2' f.args[q].args.length cap2] 39)) := (Below.refl _ _).alloc (Nat.le_refl _) _
                have hih := rightT_c sc (SizeOf.sizeOf f.args[q] + 1) f.args[q] (Nat.lt_succ_self _) _ _ _ dn (wr.alloc (.cells #[.bool f.args[q].v, .string f.args[q].n, .slice a2' f.args[q].args.length cap2] 39)) (hu.below hb3 (by omega)) (by simp; omega)
                have hbx := hbq.trans (hb3.mono hzq)
                have HTK := Lib.hid (List.take_succ_eq_append_getElem hlt)
                cases hr : f.args[q].right sc
                · rw [hr] at hih
                  have HI := Lib.hid hih
                  have HR := Lib.hid (show (f.args.all fun t => t.right sc) = false from List.all_eq_false.2 ⟨f.args[q], List.getElem_mem hlt, by rw [hr]; decide⟩)
                  clear hih hr hu
                  go_wp2_with fail
                  refine HI.out.mono ?_
                  clear HI
                  rintro e w4 ⟨rfl, hb4⟩
                  have hb5 := hbx.trans (hb4.mono (by simp; omega))
                  clear hb4 hbx hb3
                  go_wp2_with fail
                  go_ret
                  exact ⟨by rw [HT.out, HR.out]; rfl, hb5⟩
                · rw [hr] at hih
                  have HI := Lib.hid hih
                  have HR := Lib.hid hr
                  clear hih hr hu
                  go_wp2_with fail
                  refine HI.out.mono ?_
                  clear HI
                  rintro e w4 ⟨rfl, hb4⟩
                  have hb5 := hbx.trans (hb4.mono (by simp; omega))
                  clear hb4 hbx hb3
                  go_wp2_with fail
                  exact ⟨⟨q + 1, by go_num, by omega, hb5, by rw [HTK.out, List.all_append, HALL.out]; simp [HR.out]⟩, by simp [intOf]; omega⟩
              · have e : q = f.args.length := by omega
                have HR := Lib.hid (show (f.args.all fun t => t.right sc) = true by have := HALL.out; rw [e, List.take_length] at this; exact this)
                clear e
                go_wp2_with fail
                go_ret
                exact ⟨by rw [HT.out, HR.out]; rfl, hbq⟩
      · have d1 : ((f.sub.length : Int) != (rowOf f.op).sub) = true := by simpa using hs
        clear hs
        have hh := Lib.hid (HH.out.trans (by rw [show headB sc f = false by rw [HD.out]; simp [hrcE.out, hnE.out, d1], Bool.false_and]))
        refine wp_region_class (SatW f (.slice a1 f.args.length k1) (.slice a2 f.sub.length k2) F R w) (by kernel_rfl) (by kernel_rfl) hS.drew ?_
        repeat (go_big_quiet_step ((first | exact Calls.class_of ((HNC.out _).mono fun e w' h => ⟨h.1, h.2 ▸ InS.h _⟩) | exact Calls.class_of (HCS.out _ (InS.h _)))))
        refine wpQuiet_nil ?_
        intro w2 hw'
        obtain ⟨⟨w3, hS2⟩, hw''⟩ := hw'
        have hw3 : w2 = w3 := hw''
        subst hw3
        clear hw''
        have hb2 := Lib.hid hS2.b
        clear hS2
        go_wp2_with fail
        go_ret
        exact ⟨by rw [hh.out]; rfl, hb2.out⟩
  · have hrcE := Lib.hid hrc
    have q4 : ∀ p : InS (SatW f (.slice a1 f.args.length k1) (.slice a2 f.sub.length k2) F R w), p.w.cell? ⟨R, 4, none⟩ = some (.bool true) := fun p => by rw [← hrcE.out]; exact p.h.r4
    clear hrc
    cases sc
    · have hh := Lib.hid (HH.out.trans (by rw [show headB false f = false by rw [HD.out]; simp [hrcE.out], Bool.false_and]))
      refine wp_region_class (SatW f (.slice a1 f.args.length k1) (.slice a2 f.sub.length k2) F R w) (by kernel_rfl) (by kernel_rfl) hS.drew ?_
      repeat (go_big_quiet_step ((first | exact Calls.class_of ((HNC.out _).mono fun e w' h => ⟨h.1, h.2 ▸ InS.h _⟩) | exact Calls.class_of (HCS.out _ (InS.h _)))))
      refine wpQuiet_nil ?_
      intro w2 hw'
      obtain ⟨⟨w3, hS2⟩, hw''⟩ := hw'
      have hw3 : w2 = w3 := hw''
      subst hw3
      clear hw''
      have hb2 := Lib.hid hS2.b
      clear hS2
      go_wp2_with fail
      go_ret
      exact ⟨by rw [hh.out]; rfl, hb2.out⟩
    · cases hn : nameB (rowOf f.op).name f.n
      · rw [hn] at HCS
        have hnE := Lib.hid hn
        clear hn
        have hh := Lib.hid (HH.out.trans (by rw [show headB true f = false by rw [HD.out]; simp [hrcE.out, hnE.out], Bool.false_and]))
        refine wp_region_class (SatW f (.slice a1 f.args.length k1) (.slice a2 f.sub.length k2) F R w) (by kernel_rfl) (by kernel_rfl) hS.drew ?_
        repeat (go_big_quiet_step ((first | exact Calls.class_of ((HNC.out _).mono fun e w' h => ⟨h.1, h.2 ▸ InS.h _⟩) | exact Calls.class_of (HCS.out _ (InS.h _)))))
        refine wpQuiet_nil ?_
        intro w2 hw'
        obtain ⟨⟨w3, hS2⟩, hw''⟩ := hw'
        have hw3 : w2 = w3 := hw''
        subst hw3
        clear hw''
        have hb2 := Lib.hid hS2.b
        clear hS2
        go_wp2_with fail
        go_ret
        exact ⟨by rw [hh.out]; rfl, hb2.out⟩
      · rw [hn] at HCS
        have hnE := Lib.hid hn
        clear hn
        by_cases hs : (f.sub.length : Int) = (rowOf f.op).sub
        · have d1 : ((f.sub.length : Int) != (rowOf f.op).sub) = false := by rw [hs]; simp
          clear hs
          by_cases hl : (f.args.length : Int) < (rowOf f.op).least
          · have d2 : decide ((f.args.length : Int) < (rowOf f.op).least) = true := decide_eq_true hl
            clear hl
            have hh := Lib.hid (HH.out.trans (by rw [show headB true f = false by rw [HD.out]; simp [hrcE.out, hnE.out, d1, d2], Bool.false_and]))
            refine wp_region_class (SatW f (.slice a1 f.args.length k1) (.slice a2 f.sub.length k2) F R w) (by kernel_rfl) (by kernel_rfl) hS.drew ?_
            repeat (go_big_quiet_step ((first | exact Calls.class_of ((HNC.out _).mono fun e w' h => ⟨h.1, h.2 ▸ InS.h _⟩) | exact Calls.class_of (HCS.out _ (InS.h _)))))
            refine wpQuiet_nil ?_
            intro w2 hw'
            obtain ⟨⟨w3, hS2⟩, hw''⟩ := hw'
            have hw3 : w2 = w3 := hw''
            subst hw3
            clear hw''
            have hb2 := Lib.hid hS2.b
            clear hS2
            go_wp2_with fail
            go_ret
            exact ⟨by rw [hh.out]; rfl, hb2.out⟩
          · have d2 : decide ((f.args.length : Int) < (rowOf f.op).least) = false := decide_eq_false hl
            by_cases hm : (rowOf f.op).most < (f.args.length : Int)
            · have d3 : decide ((rowOf f.op).most < (f.args.length : Int)) = true := decide_eq_true hm
              clear hm hl
              have hh := Lib.hid (HH.out.trans (by rw [show headB true f = false by rw [HD.out]; simp [hrcE.out, hnE.out, d1, d2, d3], Bool.false_and]))
              refine wp_region_class (SatW f (.slice a1 f.args.length k1) (.slice a2 f.sub.length k2) F R w) (by kernel_rfl) (by kernel_rfl) hS.drew ?_
              repeat (go_big_quiet_step ((first | exact Calls.class_of ((HNC.out _).mono fun e w' h => ⟨h.1, h.2 ▸ InS.h _⟩) | exact Calls.class_of (HCS.out _ (InS.h _)))))
              refine wpQuiet_nil ?_
              intro w2 hw'
              obtain ⟨⟨w3, hS2⟩, hw''⟩ := hw'
              have hw3 : w2 = w3 := hw''
              subst hw3
              clear hw''
              have hb2 := Lib.hid hS2.b
              clear hS2
              go_wp2_with fail
              go_ret
              exact ⟨by rw [hh.out]; rfl, hb2.out⟩
            · have d3 : decide ((rowOf f.op).most < (f.args.length : Int)) = false := decide_eq_false hm
              have hlm := Lib.hid (And.intro hl hm)
              clear hm hl
              have hh := Lib.hid (HH.out.trans (by rw [show headB true f = true by rw [HD.out]; simp [hrcE.out, hnE.out, d1, d2, d3], Bool.true_and]))
              refine wp_region_class (SatW f (.slice a1 f.args.length k1) (.slice a2 f.sub.length k2) F R w) (by kernel_rfl) (by kernel_rfl) hS.drew ?_
              repeat (go_big_quiet_step ((first | exact Calls.class_of ((HNC.out _).mono fun e w' h => ⟨h.1, h.2 ▸ InS.h _⟩) | exact Calls.class_of (HCS.out _ (InS.h _)))))
              refine wpQuiet_nil ?_
              intro w2 hw'
              obtain ⟨⟨w3, hS2⟩, hw''⟩ := hw'
              have hw3 : w2 = w3 := hw''
              subst hw3
              clear hw''
              obtain ⟨f0, f1, f2, f3, _, _, _, _, _, hfl, hrl, hbw⟩ := hS2
              clear HD HH q0 q1 q2 q3 q4 p1 p2 p3 hne HNC HCS hcf hS
              by_cases h16 : f.op = 16
              · have hl2x : f.args.length = 2 := by
                  have := hlm.out
                  rw [h16, show rowOf 16 = ⟨4, 2, 2, 0, true⟩ from rfl] at this
                  dsimp only at this
                  omega
                obtain ⟨ta, tb, hab⟩ : ∃ ta tb, f.args = [ta, tb] := by
                  match f.args, hl2x with
                  | [a, b], _ => exact ⟨a, b, rfl⟩
                have HT := Lib.hid (show satB true f = (varT ta && metaT tb) from hh.out.trans (by unfold tailB; rw [if_pos h16, hab]))
                have hA2 := hA.below (hbw.mono hd) (Nat.le_refl _)
                rw [hab] at hA2 f2
                obtain ⟨_, b, o, rfl, hbn', x0, x1, x2, c0, c1, c2, hu⟩ := hA2.get (i := 0) (by simp)
                obtain ⟨_, b', o', hbo, _, y0, y1, y2, e0, e1, e2, hv⟩ := hA2.get (i := 1) (by simp)
                simp only [Option.some.injEq, Addr.mk.injEq, and_true] at hbo
                obtain ⟨rfl, rfl⟩ := hbo
                simp only [Nat.zero_mul, Nat.one_mul, Nat.add_zero, List.getElem_cons_zero, List.getElem_cons_succ] at c0 c1 c2 e0 e1 e2 hu hv
                have hvt := varT_c x0 x1 x2 ta dn w2 hu
                have hmt := Lib.hid (fun W (h : TmV dn W y0 y1 y2 tb) => metaT_c y0 y1 y2 tb dn W h)
                have hbw2 : dn ≤ w2.heap.size := Nat.le_trans hd hbw.size
                have hbl2 : b < w2.heap.size := by omega
                have d16 : (f.op == 16) = true := by rw [h16]; rfl
                have HV := Lib.hid hv
                obtain ⟨⟨ax, kx, hx2⟩, _⟩ := hu.args.form
                obtain ⟨⟨ay, ky, hy2⟩, _⟩ := hv.args.form
                have z0 := hu.v
                have z1 := hu.nm
                have z2 := hv.v
                have z3 := hv.nm
                subst hx2 hy2 z0 z1 z2 z3
                have hl2' : ([ta, tb] : List Tm).length = 2 := rfl
                rw [hl2'] at f2
                clear hA2 hA hab hh hlm h16 hu hv hl2x hl2' hl1
                cases hr : varT ta
                · rw [hr] at hvt HT
                  have HVT := Lib.hid hvt
                  clear hvt hr
                  go_wp2_with fail
                  refine HVT.out.mono ?_
                  rintro e w3 ⟨rfl, hb3⟩
                  have hb4 := hbw.trans (hb3.mono hbw.size)
                  clear hb3 HVT
                  go_wp2_with fail
                  go_ret
                  exact ⟨by rw [HT.out]; rfl, hb4⟩
                · rw [hr] at hvt HT
                  have HVT := Lib.hid hvt
                  clear hvt hr
                  go_wp2_with fail
                  refine HVT.out.mono ?_
                  rintro e w3 ⟨rfl, hb3⟩
                  have hb4 := hbw.trans (hb3.mono hbw.size)
                  have g2 : w3.cell? ⟨F, 2, none⟩ = w2.cell? ⟨F, 2, none⟩ := hb3.cell (p := ⟨F, 2, none⟩) hfl
                  rw [f2] at g2
                  have g3 : ∀ q, w3.cell? ⟨b, q, none⟩ = w2.cell? ⟨b, q, none⟩ := fun q => hb3.cell (p := ⟨b, q, none⟩) hbl2
                  have g4 := (g3 _).trans e0
                  have g5 := (g3 _).trans e1
                  have g6 := (g3 _).trans e2
                  have HM := Lib.hid (hmt.out w3 (HV.out.below hb3 hbw2))
                  clear g3 hb3 HVT c0 c1 c2 e0 e1 e2 f0 f1 f2 f3 hmt
                  go_wp2_with fail
                  refine HM.out.mono ?_
                  rintro e w4 ⟨rfl, hb5⟩
                  have hb6 := hb4.trans (hb5.mono hb4.size)
                  clear hb5 HM hb4
                  go_wp2_with fail
                  go_ret
                  exact ⟨by rw [HT.out]; simp, hb6⟩
              · have HT := Lib.hid (hh.out.trans (by unfold tailB; rw [if_neg h16]))
                have d16 : (f.op == 16) = false := beq_eq_false_iff_ne.2 h16
                clear hh h16
                go_wp2_with fail
                go_loopw [68] (fun i wr => RTRel2 true f.args w i wr) (fun i _ => f.args.length - (intOf i).toNat)
                case atStart => exact ⟨0, rfl, Nat.zero_le _, hbw, rfl⟩
                case round =>
                  clear hbw f0 f1 f2 f3 hfl hrl
                  obtain ⟨q, rfl, hq, hbq, hall⟩ := hrel
                  have HALL := Lib.hid hall
                  clear hall
                  have hzq := hbq.size
                  by_cases hlt : q < f.args.length
                  · obtain ⟨_, b, o, rfl, hbn', u0, u1, u2, c0, c1, c2, hu⟩ := (hA.below (hbq.mono hd) (Nat.le_refl _)).get hlt
                    obtain ⟨⟨a2', cap2, hu2⟩, hl2'⟩ := hu.args.form
                    have e0 := hu.v
                    have e1 := hu.nm
                    subst hu2 e0 e1
                    have hb3 : Below wr.heap.size wr (wr.alloc (.cells #[.bool f.args[q].v, .string f.args[q].n, .slice a2' f.args[q].args.length cap2] 39)) := (Below.refl _ _).alloc (Nat.le_refl _) _
                    have hih := rightT_c true (SizeOf.sizeOf f.args[q] + 1) f.args[q] (Nat.lt_succ_self _) _ _ _ dn (wr.alloc (.cells #[.bool f.args[q].v, .string f.args[q].n, .slice a2' f.args[q].args.length cap2] 39)) (hu.below hb3 (by omega)) (by simp; omega)
                    have hbx := hbq.trans (hb3.mono hzq)
                    have HTK := Lib.hid (List.take_succ_eq_append_getElem hlt)
                    cases hr : f.args[q].right true
                    · rw [hr] at hih
                      have HI := Lib.hid hih
                      have HR := Lib.hid (show (f.args.all fun t => t.right true) = false from List.all_eq_false.2 ⟨f.args[q], List.getElem_mem hlt, by rw [hr]; decide⟩)
                      clear hih hr hu
                      go_wp2_with fail
                      refine HI.out.mono ?_
                      clear HI
                      rintro e w4 ⟨rfl, hb4⟩
                      have hb5 := hbx.trans (hb4.mono (by simp; omega))
                      clear hb4 hbx hb3
                      go_wp2_with fail
                      go_ret
                      exact ⟨by rw [HT.out, HR.out]; rfl, hb5⟩
                    · rw [hr] at hih
                      have HI := Lib.hid hih
                      have HR := Lib.hid hr
                      clear hih hr hu
                      go_wp2_with fail
                      refine HI.out.mono ?_
                      clear HI
                      rintro e w4 ⟨rfl, hb4⟩
                      have hb5 := hbx.trans (hb4.mono (by simp; omega))
                      clear hb4 hbx hb3
                      go_wp2_with fail
                      exact ⟨⟨q + 1, by go_num, by omega, hb5, by rw [HTK.out, List.all_append, HALL.out]; simp [HR.out]⟩, by simp [intOf]; omega⟩
                  · have e : q = f.args.length := by omega
                    have HR := Lib.hid (show (f.args.all fun t => t.right true) = true by have := HALL.out; rw [e, List.take_length] at this; exact this)
                    clear e
                    go_wp2_with fail
                    go_ret
                    exact ⟨by rw [HT.out, HR.out]; rfl, hbq⟩
        · have d1 : ((f.sub.length : Int) != (rowOf f.op).sub) = true := by simpa using hs
          clear hs
          have hh := Lib.hid (HH.out.trans (by rw [show headB true f = false by rw [HD.out]; simp [hrcE.out, hnE.out, d1], Bool.false_and]))
          refine wp_region_class (SatW f (.slice a1 f.args.length k1) (.slice a2 f.sub.length k2) F R w) (by kernel_rfl) (by kernel_rfl) hS.drew ?_
          repeat (go_big_quiet_step ((first | exact Calls.class_of ((HNC.out _).mono fun e w' h => ⟨h.1, h.2 ▸ InS.h _⟩) | exact Calls.class_of (HCS.out _ (InS.h _)))))
          refine wpQuiet_nil ?_
          intro w2 hw'
          obtain ⟨⟨w3, hS2⟩, hw''⟩ := hw'
          have hw3 : w2 = w3 := hw''
          subst hw3
          clear hw''
          have hb2 := Lib.hid hS2.b
          clear hS2
          go_wp2_with fail
          go_ret
          exact ⟨by rw [hh.out]; rfl, hb2.out⟩
end Go.Proofs.YtdapnjnmhkdnpaaDoor.Fm
