/-
  The contract of apply: a name with its terms in brackets.
-/
import Derived.Test.YtdapnjnmhkdnpaaDoorFtJoinT
import Derived.Test.YtdapnjnmhkdnpaaDoorFtIter
import Derived.Test.YtdapnjnmhkdnpaaDoorFmRound
namespace Go.Proofs.YtdapnjnmhkdnpaaDoor.Fb
open Go Go.RowKit Go.Shelf Go.Proofs.YtdapnjnmhkdnpaaDoor.Fm Go.Proofs.YtdapnjnmhkdnpaaDoor.Lx Go.Proofs.YtdapnjnmhkdnpaaDoor.Ft
set_option linter.unusedVariables false
set_option linter.unusedSimpArgs false
/-- What is said of apply at some terms. -/
def ApplyAt (c : Pc) (a : List Tm) : Prop := ∀ (n : ByteArray) (w : World) (B b dn : Nat) (v va : Value) (l : Bs), Bw w B b v l → SlT dn w va a → dn ≤ B → B ≤ w.heap.size → l.length + (apB c n a).length ≤ 140737488355328 →
  Calls Tryd.prog 43 #[.pointer (some ⟨b, 0, none⟩), .string n, va, .string (bs (cmB c))] w fun e w' => e = .returned (.tuple #[]) ∧ Wr B b v l w w' (apB c n a)
theorem slT_grow {dn : Nat} {O : Nat → Prop} {W W' : World} {va : Value} {a : List Tm} (h : SlT dn W va a) (hg : Grow O W W') (hO : ∀ q, O q → dn ≤ q) (hd : dn ≤ W.heap.size) : SlT dn W' va a := h.below (hg.below hd hO) (Nat.le_refl _)
theorem tmV_grow {dn : Nat} {O : Nat → Prop} {W W' : World} {v0 v1 v2 : Value} {x : Tm} (h : TmV dn W v0 v1 v2 x) (hg : Grow O W W') (hO : ∀ q, O q → dn ≤ q) (hd : dn ≤ W.heap.size) : TmV dn W' v0 v1 v2 x := h.below (hg.below hd hO) (Nat.le_refl _)
theorem apply1_c (c : Pc) (x : Tm) (hA : ApplyAt c x.args) (w : World) (B b dn P Q : Nat) (v v0 v1 v2 : Value) (l : Bs) (hbd : Bw w B b v l) (hx : TmV dn w v0 v1 v2 x) (hd : dn ≤ B) (hBw : B ≤ w.heap.size) (hlen : l.length + (tmB c x).length ≤ 140737488355328)
    (c0 : w.cell? ⟨P, 0, none⟩ = some (.pointer (some ⟨b, 0, none⟩))) (c1 : w.cell? ⟨Q, 0, none⟩ = some (.string (bs (cmB c)))) (hP : P < w.heap.size) (hQ : Q < w.heap.size) :
    Calls Tryd.prog 68 #[.agg #[v0, v1, v2], .pointer (some ⟨P, 0, none⟩), .pointer (some ⟨Q, 0, none⟩)] w fun e w' => e = .returned (.tuple #[]) ∧ Wr B b v l w w' (tmB c x) := by
  have hb : Below w.heap.size w (w.alloc (.cells #[v0, v1, v2] 39)) := (Below.refl _ _).alloc (Nat.le_refl _) _
  have hc := hA x.n _ B b dn v v2 l (hbd.below hb (Nat.le_refl _)) (hx.args.below hb (by omega)) hd (by simp; omega) hlen
  have HC := Lib.hid hc
  have HB := Lib.hid hb
  obtain ⟨⟨a2, k2, e2⟩, _⟩ := hx.args.form
  have e0 := hx.v
  have e1 := hx.nm
  subst e0 e1 e2
  clear hb hc hbd hx hA
  go_enter Tryd.func68, Tryd.ntmps68
  go_wp2_with fail
  refine HC.out.mono ?_
  rintro e w2 ⟨rfl, hw⟩
  have hF := Lib.hid (Wr.ahead HB.out (Nat.le_refl _) hw)
  clear hw
  go_wp2_with fail
  go_end0
  exact ⟨rfl, hF.out⟩
/-- The boxes of a call of apply. -/
structure ApS (b H : Nat) (sep : ByteArray) (w' : World) : Prop where
  c0 : w'.cell? ⟨H, 0, none⟩ = some (.pointer (some ⟨b, 0, none⟩))
  c1 : w'.cell? ⟨H + 1, 0, none⟩ = some (.string sep)
theorem two_new (w : World) (x y : Value) (t u : TypeId) : ((w.alloc (.cells #[x] t)).alloc (.cells #[y] u)).cell? ⟨w.heap.size, 0, none⟩ = some x ∧ ((w.alloc (.cells #[x] t)).alloc (.cells #[y] u)).cell? ⟨w.heap.size + 1, 0, none⟩ = some y ∧ ((w.alloc (.cells #[x] t)).alloc (.cells #[y] u)).heap.size = w.heap.size + 2 ∧ Below w.heap.size w ((w.alloc (.cells #[x] t)).alloc (.cells #[y] u)) := by
  have h1 : (w.alloc (.cells #[x] t)).heap.size = w.heap.size + 1 := by simp
  have b1 := (Below.refl (w.heap.size + 1) (w.alloc (.cells #[x] t))).alloc (by omega) (.cells #[y] u)
  refine ⟨?_, ?_, by simp, ((Below.refl _ w).alloc (Nat.le_refl _) _).alloc (by omega) _⟩
  · rw [b1.cell (p := ⟨w.heap.size, 0, none⟩) (by show w.heap.size < _; omega), World.cell?_alloc_at _ _ _ _ rfl]; rfl
  · rw [World.cell?_alloc_at _ _ _ _ h1.symm]; rfl
set_option maxHeartbeats 4000000 in
set_option maxRecDepth 20000 in
theorem apply_c (c : Pc) (N : Nat) : ∀ a : List Tm, SizeOf.sizeOf a < N → ApplyAt c a := by
  induction N with
  | zero => exact fun a h => absurd h (Nat.not_lt_zero _)
  | succ N ih =>
    intro a hN n w B b dn v va l hbd hsl hd hBw hlen
    obtain ⟨H, hH⟩ : ∃ H, w.heap.size = H := ⟨_, rfl⟩
    have h2 := two_new w (.pointer (some ⟨b, 0, none⟩)) (.string (bs (cmB c))) 50 9
    rw [hH] at h2
    obtain ⟨g0, g1, hz, hb⟩ := h2
    have hlt := hbd.lt
    have hge := hbd.ge
    rw [hH] at hlt hBw
    have hbd2 := hbd.below hb (by omega)
    have hsl2 := hsl.below hb (by omega)
    have hn : l.length + n.size ≤ 140737488355328 := by
      unfold apB at hlen
      rw [List.length_append] at hlen
      have : n.data.toList.length = n.size := rfl
      omega
    have hws := Lib.hid (wrS hbd2 n hn (by omega))
    have HB := Lib.hid hb
    have HSL := Lib.hid hsl2
    have HLEN := Lib.hid hlen
    have HN := Lib.hid hN
    have HLT := Lib.hid hlt
    have HGE := Lib.hid hge
    obtain ⟨⟨sa, cap, rfl⟩, _⟩ := hsl.form
    clear hbd hsl hlt hge hbd2 hsl2 hb hlen hn hN
    go_enter Tryd.func43, Tryd.ntmps43
    go_wp2_with fail
    generalize ((w.alloc (.cells #[.pointer (some ⟨b, 0, none⟩)] 50)).alloc (.cells #[.string (bs (cmB c))] 9)) = X at *
    refine hws.out.mono ?_
    rintro e w1 ⟨rfl, v1, b1, b2, b3⟩
    clear hws
    have hz1 := b2.size
    have hO1 : ∀ q, Ob b v1 q → q ≠ H ∧ q ≠ H + 1 := fun q hq => (b3 q hq).elim (fun h => by have := HLT.out q h; omega) fun h => by omega
    have hO : ∀ q, Ob b v q → q ≠ H ∧ q ≠ H + 1 := fun q h => by have := HLT.out q h; omega
    have g0 := (b2.cell (p := ⟨H, 0, none⟩) (by show H < _; omega) fun h => (hO _ h).1 rfl).trans g0
    have g1 := (b2.cell (p := ⟨H + 1, 0, none⟩) (by show H + 1 < _; omega) fun h => (hO _ h).2 rfl).trans g1
    by_cases ha : a = []
    · subst ha
      have hF := Lib.hid (show Wr B b v l w w1 (apB c n []) by rw [apB_nil]; exact Wr.ahead HB.out (by omega) ⟨v1, b1, b2, b3⟩)
      clear b1 b2 b3 hO1 hO
      go_wp2_with fail
      (try simp only [Exit.inBlock, Exit.then])
      refine bodyPost_ret (results_none rfl _ _ _) rfl ?_
      exact ⟨rfl, hF.out⟩
    · have hlen0 : a.length ≠ 0 := fun h => ha (List.eq_nil_of_length_eq_zero h)
      have d0 : ((a.length : Int) == 0) = false := beq_eq_false_iff_ne.2 (by omega)
      have hap := apB_cons c n a ha
      have HAP := Lib.hid hap
      have hl2 : (l ++ n.data.toList).length + 1 ≤ 140737488355328 := by
        have := HLEN.out
        rw [hap] at this
        simp only [List.length_append, List.length_cons] at this ⊢
        omega
      have hwb := Lib.hid (wrB b1 40 hl2 (by omega))
      have HSL1 := Lib.hid (slT_grow HSL.out b2 (fun q hq => by have := HGE.out q hq; omega) (by omega))
      have HB2 := Lib.hid b2
      have HB3 := Lib.hid b3
      have HGE1 := Lib.hid b1.ge
      clear hlen0 hap hl2 b1 b2 b3 ha
      go_wp2_with fail
      refine hwb.out.mono ?_
      rintro e w2 ⟨rfl, v2, b1, b2, b3⟩
      clear hwb
      have hz2 := b2.size
      have hO2 : ∀ q, Ob b v2 q → q ≠ H ∧ q ≠ H + 1 := fun q hq => (b3 q hq).elim (fun h => hO1 q h) fun h => by omega
      have g0 := (b2.cell (p := ⟨H, 0, none⟩) (by show H < _; omega) fun h => (hO1 _ h).1 rfl).trans g0
      have g1 := (b2.cell (p := ⟨H + 1, 0, none⟩) (by show H + 1 < _; omega) fun h => (hO1 _ h).2 rfl).trans g1
      have HSL2 := Lib.hid (slT_grow HSL1.out b2 (fun q hq => by have := HGE1.out q hq; omega) (by omega))
      have HG2 := Lib.hid (HB2.out.trans b2 HB3.out)
      have HS2 := Lib.hid (HB3.out.trans b3 hz1)
      have HD2 := Lib.hid b1
      clear HSL1 HSL HB2 HB3 HGE1 b1 b2 b3 hO1 hO
      have hHeld : ApS b H (bs (cmB c)) w2.drew := ⟨g0, g1⟩
      go_wp2_with fail
      refine wp_region_S (ApS b H (bs (cmB c))) [] 6 #[false, false, false, false, false, false] (by kernel_rfl) (by kernel_rfl) (by kernel_rfl) hHeld (fun hHeld => ?_)
      refine wpAnyS_take (i := 0) (oi := ⟨some 16, _, _, _, _, _⟩) (v := .pointer (some ⟨b, 0, none⟩)) rfl (by kernel_rfl) (by kernel_rfl) (by kernel_rfl) (by kernel_rfl) (fun _ _ _ h => Norm.panic h) (Or.inl ⟨by rfl, ?_⟩) (by assumption) ?_
      · intro w' hSw
        obtain ⟨t0, t1⟩ := hSw
        go_simp
      simp only [Act.put, List.setIfInBounds_toArray, List.set_cons_zero, List.set_cons_succ]
      refine wpAnyS_take (i := 1) (oi := ⟨some 17, _, _, _, _, _⟩) (v := .slice sa a.length cap) rfl (by kernel_rfl) (by kernel_rfl) (by kernel_rfl) (by kernel_rfl) (fun _ _ _ h => Norm.panic h) (Or.inl ⟨by rfl, ?_⟩) (by assumption) ?_
      · intro w' hSw
        obtain ⟨t0, t1⟩ := hSw
        go_simp
      simp only [Act.put, List.setIfInBounds_toArray, List.set_cons_zero, List.set_cons_succ]
      refine wpAnyS_take (i := 3) (oi := ⟨some 19, _, _, _, _, _⟩) (v := .string (bs (cmB c))) rfl (by kernel_rfl) (by kernel_rfl) (by kernel_rfl) (by kernel_rfl) (fun _ _ _ h => Norm.panic h) (Or.inl ⟨by rfl, ?_⟩) (by assumption) ?_
      · intro w' hSw
        obtain ⟨t0, t1⟩ := hSw
        go_simp
      simp only [Act.put, List.setIfInBounds_toArray, List.set_cons_zero, List.set_cons_succ]
      refine wpAnyS_take (i := 4) (oi := ⟨some 20, _, _, _, _, _⟩) (v := .func (.func 68) #[] #[.pointer (some ⟨H, 0, none⟩), .pointer (some ⟨H + 1, 0, none⟩)]) rfl (by kernel_rfl) (by kernel_rfl) (by kernel_rfl) (by kernel_rfl) (fun _ _ _ h => Norm.panic h) (Or.inl ⟨by rfl, ?_⟩) (by assumption) ?_
      · intro w' hSw
        obtain ⟨t0, t1⟩ := hSw
        go_simp
      simp only [Act.put, List.setIfInBounds_toArray, List.set_cons_zero, List.set_cons_succ]
      refine wpAnyS_one (i := 2) (oi := ⟨some 18, _, _, _, _, _⟩) rfl (by kernel_rfl) (by rfl) (fun K hK => ?_)
      go_simp
      refine (callsIn_wide.1 (valuesT_in sa a.length cap _)).mono ?_
      rintro e V ⟨rfl, hV⟩
      have hbV : Below w2.heap.size w2 V := by rw [hV]; exact (Below.refl w2.heap.size w2).drew.alloc (Nat.le_refl _) _
      have hzV : V.heap.size = w2.heap.size + 1 := by rw [hV]; simp
      have cV : V.cell? ⟨w2.heap.size, 0, none⟩ = some (.slice sa a.length cap) := by rw [hV]; exact World.cell?_alloc_at _ _ _ _ rfl
      have g0 := (hbV.cell (p := ⟨H, 0, none⟩) (by show H < _; omega)).trans g0
      have g1 := (hbV.cell (p := ⟨H + 1, 0, none⟩) (by show H + 1 < _; omega)).trans g1
      clear hV hHeld
      refine hK _ _ (fun _ => ⟨g0, g1⟩) ?_
      clear hK K
      simp only [Act.put, List.setIfInBounds_toArray, List.set_cons_zero, List.set_cons_succ]
      refine wpAnyS_one (i := 5) (oi := ⟨some 21, _, _, _, _, _⟩) rfl (by kernel_rfl) (by rfl) (fun K hK => ?_)
      go_simp
      have hD3 : Bw V B b v2 (l ++ n.data.toList ++ [40]) := HD2.out.below hbV (Nat.le_refl _)
      have hlt3 := hD3.lt
      have hge3 := hD3.ge
      have hlt2 := HD2.out.lt
      have hsl3 := HSL2.out.below hbV (by omega)
      have hjn := HAP.out
      have hll : (l ++ n.data.toList ++ [40]).length + (jn (cmB c) (a.map (tmB c))).length + 1 ≤ 140737488355328 := by
        have := HLEN.out
        rw [hjn] at this
        simp only [List.length_append, List.length_cons, List.length_nil] at this ⊢
        omega
      have hg0O : ∀ q, G0 b v2 V.heap.size q → dn ≤ q := fun q hq => hq.elim (fun h => by have := hge3 q h; omega) fun h => by omega
      have hjoin := joinT_in V.heap.size V rfl B b v2 (l ++ n.data.toList ++ [40]) hD3 (by omega) 88 #[.pointer (some ⟨w2.heap.size, 0, none⟩)] (enters_of Tryd.func88 (by kernel_rfl) rfl)
        (RepVT dn) a _ (valuesT_iter a w2.heap.size dn (.slice sa a.length cap)) (by
          rintro W x args ⟨_, _, _, rfl, hx⟩
          obtain ⟨⟨a2, k2, e2⟩, _⟩ := hx.args.form
          have e0 := hx.v
          have e1 := hx.nm
          subst e0 e1 e2
          exact ⟨_, _, _, _, _, rfl⟩)
        (tmB c) 68 #[.pointer (some ⟨H, 0, none⟩), .pointer (some ⟨H + 1, 0, none⟩)] (enters_of Tryd.func68 (by kernel_rfl) rfl) (bs (cmB c))
        (fun W => W.cell? ⟨w2.heap.size, 0, none⟩ = some (.slice sa a.length cap) ∧ SlT dn W (.slice sa a.length cap) a ∧ w2.heap.size < W.heap.size ∧ W.cell? ⟨H, 0, none⟩ = some (.pointer (some ⟨b, 0, none⟩)) ∧ W.cell? ⟨H + 1, 0, none⟩ = some (.string (bs (cmB c))))
        (fun W W' hz hg => ⟨(hg.cell (p := ⟨w2.heap.size, 0, none⟩) hz.2.2.1 (fun h => h.elim (fun h => absurd (hlt2 w2.heap.size h) (Nat.lt_irrefl _)) fun h => by have h : V.heap.size ≤ w2.heap.size := h; omega)).trans hz.1, slT_grow hz.2.1 hg hg0O (by have := hz.2.2.1; omega), Nat.lt_of_lt_of_le hz.2.2.1 hg.size,
          (hg.cell (p := ⟨H, 0, none⟩) (by show H < _; have := hz.2.2.1; omega) (fun h => h.elim (fun h => (hO2 _ h).1 rfl) fun h => by have h : V.heap.size ≤ H := h; omega)).trans hz.2.2.2.1,
          (hg.cell (p := ⟨H + 1, 0, none⟩) (by show H + 1 < _; have := hz.2.2.1; omega) (fun h => h.elim (fun h => (hO2 _ h).2 rfl) fun h => by have h : V.heap.size ≤ H + 1 := h; omega)).trans hz.2.2.2.2⟩)
        (fun W W' x args hdw h hg => by
          obtain ⟨y0, y1, y2, rfl, hx⟩ := h
          exact ⟨y0, y1, y2, rfl, tmV_grow hx hg hg0O (by omega)⟩)
        ⟨cV, hsl3, by omega, g0, g1⟩ (fun O W hz hH hO => ⟨hz.1, hz.2.1, hz.2.2.1, by omega, fun q hq => hg0O q (hO q hq)⟩) 140737488355328 (Nat.le_refl _)
        (by
          rintro k x W args u m hx ⟨y0, y1, y2, rfl, hxv⟩ hz hH hs hbu hm
          have hxa : x ∈ a := List.mem_of_getElem? hx
          have hlt : SizeOf.sizeOf x.args < N := by
            have h1 : SizeOf.sizeOf x < SizeOf.sizeOf a := List.sizeOf_lt_of_mem hxa
            have h2 := HN.out
            obtain ⟨xv, xn, xa⟩ := x
            simp only [Tm.args, Tm.mk.sizeOf_spec] at h1 ⊢
            omega
          exact apply1_c c x (ih x.args hlt) W B b dn H (H + 1) u y0 y1 y2 m hbu hxv hd (by omega) hm hz.2.2.2.1 hz.2.2.2.2 (by omega) (by omega))
        (by rw [bs_toList]; omega)
      rw [bs_toList] at hjoin
      refine (callsIn_wide.1 hjoin).mono ?_
      rintro e w3 ⟨rfl, v3, b1, b2, b3⟩
      clear hjoin
      have hz3 := b2.size
      have hO3 : ∀ q, Ob b v2 q → q ≠ H ∧ q ≠ H + 1 := hO2
      have g0 := (b2.cell (p := ⟨H, 0, none⟩) (by show H < _; omega) fun h => (hO2 _ h).1 rfl).trans g0
      have g1 := (b2.cell (p := ⟨H + 1, 0, none⟩) (by show H + 1 < _; omega) fun h => (hO2 _ h).2 rfl).trans g1
      refine hK _ _ (fun _ => ⟨g0, g1⟩) ?_
      clear hK K
      simp only [Act.put, List.setIfInBounds_toArray, List.set_cons_zero, List.set_cons_succ]
      refine wpAnyS_done (by kernel_rfl) ?_
      refine Norm.normal ?_
      have hwb := Lib.hid (wrB b1 41 (by
        rw [List.length_append]
        omega) (by omega))
      have hG := Lib.hid (show Grow (Ob b v) w w3 from (Grow.of_below (HB.out.mono (Nat.le_of_eq hH))).trans (HG2.out.trans ((Grow.of_below hbV).trans b2 (Sub.refl _ _)) HS2.out) fun q hq => .inl hq)
      have hS3 := Lib.hid (show Sub (Ob b v) w.heap.size (Ob b v3) from fun q hq => by
        rcases b3 q hq with h | h
        · rcases HS2.out q h with h | h
          · exact .inl h
          · exact .inr (by omega)
        · exact .inr (by omega))
      clear b1 b2 b3 hsl3 hjn hll hg0O hD3 hlt3 hge3 hlt2 hbV cV
      go_wp2_with fail
      refine hwb.out.mono ?_
      rintro e w4 ⟨rfl, b1⟩
      have hF := Lib.hid (show Wr B b v l w w4 (apB c n a) from by
        have h := Wr.trans (x := n.data.toList ++ ([40] ++ jn (cmB c) (a.map (tmB c)))) (l := l) hG.out hS3.out (by simpa using b1)
        rw [HAP.out]
        simpa using h)
      clear b1 hwb
      go_wp2_with fail
      go_end0
      exact ⟨rfl, hF.out⟩
end Go.Proofs.YtdapnjnmhkdnpaaDoor.Fb
