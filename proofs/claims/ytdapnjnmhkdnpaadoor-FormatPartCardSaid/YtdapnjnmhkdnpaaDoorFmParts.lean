/-
  The iterators parts, terms and levels.
-/
import Derived.Test.YtdapnjnmhkdnpaaDoorFmWalkF
import Derived.Shelf.Abstract
namespace Go.Proofs.YtdapnjnmhkdnpaaDoor.Fm
open Go Go.RowKit Go.Shelf
set_option linter.unusedVariables false
set_option linter.unusedSimpArgs false
attribute [local go_sem] Oper.semAt_some
theorem Fr.mono {n m : Nat} {J : Nat → (Nat → Prop) → World → Prop} (h : Fr n J) (hn : n ≤ m) : Fr m J := ⟨h.lt, fun hj hb ho => h.keep hj (hb.mono hn) ho⟩
/-- A formula in a box, and what it leads to. -/
structure BoxF (dn B : Nat) (f : Fo) (W : World) : Prop where
  v : ∃ v0 v1 v2 v3, W.cell? ⟨B, 0, none⟩ = some v0 ∧ W.cell? ⟨B, 1, none⟩ = some v1 ∧ W.cell? ⟨B, 2, none⟩ = some v2 ∧ W.cell? ⟨B, 3, none⟩ = some v3 ∧ FoV dn W v0 v1 v2 v3 f
  lt : B < W.heap.size
  dn : dn ≤ W.heap.size
theorem BoxF.grow {dn B : Nat} {f : Fo} {O : Nat → Prop} {W W' : World} (h : BoxF dn B f W) (hg : Grow O W W') (hB : ¬ O B) (hO : ∀ b, O b → dn ≤ b) : BoxF dn B f W' := by
  obtain ⟨⟨v0, v1, v2, v3, c0, c1, c2, c3, hv⟩, hl, hd⟩ := h
  have hc : ∀ q, W'.cell? ⟨B, q, none⟩ = W.cell? ⟨B, q, none⟩ := fun q => hg.cell (p := ⟨B, q, none⟩) hl hB
  exact ⟨⟨v0, v1, v2, v3, by rw [hc]; exact c0, by rw [hc]; exact c1, by rw [hc]; exact c2, by rw [hc]; exact c3, hv.below (hg.below hd hO) (Nat.le_refl _)⟩, Nat.lt_of_lt_of_le hl hg.size, Nat.le_trans hd hg.size⟩
theorem BoxF.below {dn B m : Nat} {f : Fo} {W W' : World} (h : BoxF dn B f W) (hb : Below m W W') (hB : B < m) (hm : dn ≤ m) : BoxF dn B f W' := by
  obtain ⟨⟨v0, v1, v2, v3, c0, c1, c2, c3, hv⟩, hl, hd⟩ := h
  have hc : ∀ q, W'.cell? ⟨B, q, none⟩ = W.cell? ⟨B, q, none⟩ := fun q => hb.cell (p := ⟨B, q, none⟩) hB
  exact ⟨⟨v0, v1, v2, v3, by rw [hc]; exact c0, by rw [hc]; exact c1, by rw [hc]; exact c2, by rw [hc]; exact c3, hv.below hb hm⟩, Nat.lt_of_lt_of_le hl hb.size, Nat.le_trans hd hb.size⟩
theorem parts_in (v0 v1 v2 v3 : Value) (f : Fo) (dn : Nat) (w : World) (hf : FoV dn w v0 v1 v2 v3 f) (hd : dn ≤ w.heap.size) :
    CallsIn Fence.wide 0 Tryd.prog 45 #[.agg #[v0, v1, v2, v3]] w fun e w' => e = .returned (.func (.func 70) #[] #[.pointer (some ⟨w.heap.size, 0, none⟩)]) ∧ Below w.heap.size w w' ∧ BoxF dn w.heap.size f w' ∧ w'.heap.size = w.heap.size + 1 := by
  have hf2 := hf.below (m := w.heap.size) ((Below.refl _ w).alloc (Nat.le_refl _) (.cells #[v0, v1, v2, v3] 25)) hd
  obtain ⟨rfl, _, rfl, _, hA, hS⟩ := hf
  obtain ⟨⟨a1, c1, rfl⟩, _⟩ := hA.form
  obtain ⟨⟨a2, c2, rfl⟩, _⟩ := hS.form
  have hF := Lib.hid hf2
  clear hf2
  refine callsIn_of_wp Tryd.func45 rfl trivial ?_ rfl
  simp only [Tryd.ntmps45, List.size_toArray, List.length_cons, List.length_nil, Nat.reduceAdd, Nat.reduceSub, Array.replicate_succ, Array.replicate_zero, List.push_toArray, List.append_toArray, List.nil_append, List.cons_append]
  gi_wp2_with fail
  go_ret
  exact ⟨rfl, (Below.refl _ _).alloc (Nat.le_refl _) _, ⟨⟨_, _, _, _, by simp, by simp, by simp, by simp, hF.out⟩, by simp, by simp; omega⟩, by simp⟩
theorem parts_iter (f : Fo) (B dn : Nat) (hbd : ∀ x ∈ f.all 1, -9223372036854775808 ≤ x.1 ∧ x.1 ≤ 9223372036854775807) :
    IterOf Tryd.prog 70 #[.pointer (some ⟨B, 0, none⟩)] (RepF dn) (f.all 1) (fun O W => BoxF dn B f W ∧ ∀ b, O b → dn ≤ b) := by
  intro l n J Jx O W hJ hJx hn hR h0 ⟨hB, hO⟩
  obtain ⟨⟨v0, v1, v2, v3, c0, c1, c2, c3, hv⟩, hl, hd⟩ := hB
  have hw := Lib.hid (walkForm_in l n dn J Jx hJ hJx (f.all 1) hR hbd (SizeOf.sizeOf f + 1) f (Nat.lt_succ_self _) 1 0 O W v0 v1 v2 v3 [] h0 hn hd hO hv (by simp))
  obtain ⟨rfl, _, rfl, _, hA, hS⟩ := hv
  obtain ⟨⟨a1, k1, rfl⟩, _⟩ := hA.form
  obtain ⟨⟨a2, k2, rfl⟩, _⟩ := hS.form
  refine callsIn_of_wp Tryd.func70 rfl trivial ?_ rfl
  simp only [Tryd.ntmps70, List.size_toArray, List.length_cons, List.length_nil, Nat.reduceAdd, Nat.reduceSub, Array.replicate_succ, Array.replicate_zero, List.push_toArray, List.append_toArray, List.nil_append, List.cons_append]
  gi_wp2_with fail
  refine ⟨trivial, rfl, hw.out.mono ?_⟩
  clear hw
  rintro e W1 ⟨O1, hs1, hg1, (⟨rfl, h1⟩ | ⟨rfl, h1⟩)⟩
  · rw [Nat.zero_add] at h1
    gi_wp2_with fail
    go_end0
    exact ⟨⟨_, rfl⟩, O1, hs1, hg1, .inl h1⟩
  · gi_wp2_with fail
    go_end0
    exact ⟨⟨_, rfl⟩, O1, hs1, hg1, .inr h1⟩
def termsOf (x : Int × Fo) : List (Int × Tm) := x.2.args.flatMap fun t => t.all (wrap64 (x.1 + 1))
def termsL (f : Fo) : List (Int × Tm) := (f.all 1).flatMap termsOf
theorem terms_in (v0 v1 v2 v3 : Value) (f : Fo) (dn : Nat) (w : World) (hf : FoV dn w v0 v1 v2 v3 f) (hd : dn ≤ w.heap.size) :
    CallsIn Fence.wide 0 Tryd.prog 90 #[.agg #[v0, v1, v2, v3]] w fun e w' => e = .returned (.func (.func 99) #[] #[.pointer (some ⟨w.heap.size, 0, none⟩)]) ∧ Below w.heap.size w w' ∧ BoxF dn w.heap.size f w' ∧ w'.heap.size = w.heap.size + 1 := by
  have hf2 := hf.below (m := w.heap.size) ((Below.refl _ w).alloc (Nat.le_refl _) (.cells #[v0, v1, v2, v3] 25)) hd
  obtain ⟨rfl, _, rfl, _, hA, hS⟩ := hf
  obtain ⟨⟨a1, c1, rfl⟩, _⟩ := hA.form
  obtain ⟨⟨a2, c2, rfl⟩, _⟩ := hS.form
  have hF := Lib.hid hf2
  clear hf2
  refine callsIn_of_wp Tryd.func90 rfl trivial ?_ rfl
  simp only [Tryd.ntmps90, List.size_toArray, List.length_cons, List.length_nil, Nat.reduceAdd, Nat.reduceSub, Array.replicate_succ, Array.replicate_zero, List.push_toArray, List.append_toArray, List.nil_append, List.cons_append]
  gi_wp2_with fail
  go_ret
  exact ⟨rfl, (Below.refl _ _).alloc (Nat.le_refl _) _, ⟨⟨_, _, _, _, by simp, by simp, by simp, by simp, hF.out⟩, by simp, by simp; omega⟩, by simp⟩
/-- The state of the range over parts in terms. -/
def TJ (f : Fo) (dn Y l : Nat) (J : Nat → (Nat → Prop) → World → Prop) (k : Nat) (O : Nat → Prop) (W : World) : Prop :=
  J (((f.all 1).take k).flatMap termsOf).length O W ∧ W.cell? ⟨Y, 0, none⟩ = some (.func (.yield l) #[] #[]) ∧ Y < W.heap.size ∧ ¬ O Y ∧ (∀ b, O b → dn ≤ b) ∧ dn ≤ W.heap.size
def TJx (Jx : (Nat → Prop) → World → Prop) (c : Code) (O : Nat → Prop) (W : World) : Prop := c = .ret ∧ Jx O W
theorem TJ.fr {f : Fo} {dn Y l n m : Nat} {J : Nat → (Nat → Prop) → World → Prop} (hJ : Fr n J) (hn : n ≤ m) (hY : Y < m) : Fr m (TJ f dn Y l J) where
  lt h b hb := hJ.lt h.1 b hb
  keep h hb ho := by
    obtain ⟨h1, h2, h3, h4, h5, h6⟩ := h
    exact ⟨hJ.keep h1 (hb.mono hn) ho, by rw [hb.cell (p := ⟨Y, 0, none⟩) hY]; exact h2, Nat.lt_of_lt_of_le h3 hb.size, h4, h5, Nat.le_trans h6 hb.size⟩
theorem TJx.fr {n m : Nat} {Jx : (Nat → Prop) → World → Prop} (hJ : Fr n (fun _ => Jx)) (hn : n ≤ m) (c : Code) : Fr m (fun _ => TJx Jx c) where
  lt h b hb := hJ.lt (k := 0) h.2 b hb
  keep h hb ho := ⟨h.1, hJ.keep (k := 0) h.2 (hb.mono hn) ho⟩
theorem drop_terms {xs : List (Int × Fo)} {k q : Nat} {x : Int × Fo} (hx : xs[k]? = some x) (h : q < x.2.args.length) :
    ∃ rest', (xs.flatMap termsOf).drop (((xs.take k).flatMap termsOf).length + sumT x.1 (x.2.args.take q)) = x.2.args[q].all (wrap64 (x.1 + 1)) ++ rest' := by
  obtain ⟨hk, hx⟩ := List.getElem?_eq_some_iff.1 hx
  have e : xs = xs.take k ++ (x :: xs.drop (k + 1)) := by rw [← hx, ← List.drop_eq_getElem_cons hk, List.take_append_drop]
  have e3 : x.2.args = x.2.args.take q ++ (x.2.args[q] :: x.2.args.drop (q + 1)) := by rw [← List.drop_eq_getElem_cons h, List.take_append_drop]
  have e2 : termsOf x = (x.2.args.take q).flatMap (fun t => t.all (wrap64 (x.1 + 1))) ++ (x.2.args[q].all (wrap64 (x.1 + 1)) ++ (x.2.args.drop (q + 1)).flatMap (fun t => t.all (wrap64 (x.1 + 1)))) := by
    unfold termsOf
    conv => lhs; rw [e3]
    rw [List.flatMap_append, List.flatMap_cons]
  refine ⟨(x.2.args.drop (q + 1)).flatMap (fun t => t.all (wrap64 (x.1 + 1))) ++ (xs.drop (k + 1)).flatMap termsOf, ?_⟩
  rw [← List.drop_drop]
  have e4 : (xs.flatMap termsOf).drop ((xs.take k).flatMap termsOf).length = termsOf x ++ (xs.drop (k + 1)).flatMap termsOf := by
    conv => lhs; rw [e]
    rw [List.flatMap_append, List.flatMap_cons]
    rw [show ((xs.take k ++ x :: xs.drop (k + 1)).take k) = xs.take k by rw [← e]]
    exact List.drop_left' rfl
  rw [e4, e2]
  simp only [List.append_assoc]
  exact List.drop_left' rfl
theorem take_terms {xs : List (Int × Fo)} {k : Nat} {x : Int × Fo} (hx : xs[k]? = some x) : ((xs.take (k + 1)).flatMap termsOf).length = ((xs.take k).flatMap termsOf).length + sumT x.1 x.2.args := by
  obtain ⟨hk, hx⟩ := List.getElem?_eq_some_iff.1 hx
  rw [List.take_succ_eq_append_getElem hk, List.flatMap_append, List.length_append, hx]
  simp [termsOf, sumT]
def TRel (k lv0 : Nat) (lv : Int) (J : Nat → (Nat → Prop) → World → Prop) (args : List Tm) (O : Nat → Prop) (W : World) (i : Value) (wr : World) : Prop :=
  ∃ q : Nat, i = .int .i64 (q : Int) ∧ q ≤ args.length ∧ ∃ O', Sub O W.heap.size O' ∧ Grow O W wr ∧ J (k + sumT lv (args.take q)) O' wr
set_option maxHeartbeats 1000000 in
theorem terms_iter (f : Fo) (B dn : Nat) (hbd : ∀ x ∈ f.all 1, -9223372036854775808 ≤ x.1 ∧ x.1 ≤ 9223372036854775807) (hbt : ∀ x ∈ termsL f, -9223372036854775808 ≤ x.1 ∧ x.1 ≤ 9223372036854775807) :
    IterOf Tryd.prog 99 #[.pointer (some ⟨B, 0, none⟩)] (RepT dn) (termsL f) (fun O W => BoxF dn B f W ∧ ¬ O B ∧ ∀ b, O b → dn ≤ b) := by
  intro l n J Jx O W hJ hJx hn hR h0 ⟨hB, nB, hO⟩
  have hOW := hJ.lt h0
  have nY : ¬ O W.heap.size := fun h => by have := hOW _ h; omega
  have hb0 : Below W.heap.size W (W.alloc (.cells #[.func (.yield l) #[] #[]] 129)) := (Below.refl _ _).alloc (Nat.le_refl _) _
  obtain ⟨⟨v0, v1, v2, v3, c0, c1, c2, c3, hv⟩, hl, hd⟩ := hB
  have hw := Lib.hid (parts_in v0 v1 v2 v3 f dn _ (hv.below hb0 hd) (by simp; omega))
  obtain ⟨rfl, _, rfl, _, hA, hS⟩ := hv
  obtain ⟨⟨a1, k1, rfl⟩, _⟩ := hA.form
  obtain ⟨⟨a2, k2, rfl⟩, _⟩ := hS.form
  refine callsIn_of_wp_marks Tryd.func99 rfl trivial ?_ rfl
  simp only [Tryd.ntmps99, List.size_toArray, List.length_cons, List.length_nil, Nat.reduceAdd, Nat.reduceSub, Array.replicate_succ, Array.replicate_zero, List.push_toArray, List.append_toArray, List.nil_append, List.cons_append]
  gi_wp2_with fail
  refine ⟨trivial, rfl, hw.out.mono ?_⟩
  clear hw
  rintro e W1 ⟨rfl, hb1, hbox, hz1⟩
  rw [World.size_alloc] at hb1 hbox hz1
  rw [World.size_alloc]
  have hz : W1.heap.size = W.heap.size + 2 := by omega
  have hbw : Below W.heap.size W W1 := hb0.trans (hb1.mono (by omega))
  have cY : W1.cell? ⟨W.heap.size, 0, none⟩ = some (.func (.yield l) #[] #[]) := by rw [hb1.cell (p := ⟨W.heap.size, 0, none⟩) (by simp)]; simp
  gi_wp2_with fail
  refine range_law (gf := 70) (lb := #[.pointer (some ⟨W.heap.size + 1, 0, none⟩)]) rfl (enters_of Tryd.func70 (by kernel_rfl) rfl) (parts_iter f (W.heap.size + 1) dn hbd)
    (by rintro W x args ⟨_, _, _, _, rfl, _⟩; rfl) (TJ f dn W.heap.size l J) (TJx Jx) O (TJ.fr hJ (by omega) (by omega)) (fun c => TJx.fr hJx (by omega) c)
    ⟨hJ.keep h0 (hbw.mono hn) (fun b hb => hbw.block b (hOW b hb)), cY, by omega, nY, hO, by omega⟩
    (fun O' W' hb' hs' => ⟨hbox.below hb' (by omega) (by omega), fun b hb => (hs' b hb).elim (hO b) fun h => by omega⟩)
    (fun k x args W2 a1 W3 => ∃ sA kA sS kS u7 u10, SlT dn W2 (.slice sA x.2.args.length kA) x.2.args ∧ (0 ≤ x.2.op ∧ x.2.op ≤ 255) ∧ W3 = W2.alloc (.cells #[.int .u8 x.2.op, .string x.2.n, .slice sA x.2.args.length kA, .slice sS x.2.sub.length kS] 25) ∧
      a1 = { tmps := #[.func (.yield l) #[] #[], .pointer (some ⟨B, 0, none⟩), .pointer (some ⟨W.heap.size, 0, none⟩), .int .i64 x.1, .pointer (some ⟨W2.heap.size, 0, none⟩), undef, undef, u7, .func (.func 70) #[] #[.pointer (some ⟨W.heap.size + 1, 0, none⟩)], .int .i64 x.1, u10,
        undef, undef, undef, undef, undef, undef, undef, undef, undef, undef, undef, undef, undef, undef], defers := [] }) ?assign ?body ?done ?stop
  case assign =>
    rintro l2 k x O2 W2 args hj hx ⟨v0, v1, v2, v3, rfl, hv⟩
    obtain ⟨rfl, hop, rfl, _, hA, hS⟩ := hv
    obtain ⟨⟨a1, k1, rfl⟩, _⟩ := hA.form
    obtain ⟨⟨a2, k2, rfl⟩, _⟩ := hS.form
    have HA := Lib.hid hA
    clear hA hS hbox
    gi_wp2
    exact ⟨(Below.refl _ _).alloc (Nat.le_refl _) _, a1, k1, a2, k2, _, _, HA.out, hop, rfl, rfl⟩
  case body =>
    rintro l2 k x O2 W2 args _ _ W3 ⟨sA, kA, sS, kS, u7, u10, hA, hop, rfl, rfl⟩ hj hx hrep hbb hbl hz3 hne hl2 hl3 hol
    clear hrep c0 c1 c2 c3 hbox
    have hlv := hbd _ (List.mem_of_getElem? hx)
    have hlv0 : -9223372036854775808 ≤ x.1 := hlv.1
    have hlv1 : x.1 ≤ 9223372036854775807 := hlv.2
    obtain ⟨hJk, hY, hYl, hOY, hOd, hd3⟩ := hj
    rw [World.size_alloc] at hz3
    have d2 : W3.cell? ⟨W2.heap.size, 2, none⟩ = some (.slice sA x.2.args.length kA) := by
      rw [World.cell?_of_block (w := W2.alloc (.cells #[.int .u8 x.2.op, .string x.2.n, .slice sA x.2.args.length kA, .slice sS x.2.sub.length kS] 25)) (hne _ (by show W2.heap.size ≠ l2; omega))]; simp
    have hlen := hA.form.2
    have hA3 := (hA.below hbb (by omega)).below hbl (by omega)
    have HK := Lib.hid (take_terms hx)
    have HX := Lib.hid hx
    have HDR : Hid (∀ q (h : q < x.2.args.length), ∃ rest', (termsL f).drop ((((f.all 1).take k).flatMap termsOf).length + sumT x.1 (x.2.args.take q)) = x.2.args[q].all (wrap64 (x.1 + 1)) ++ rest') := Lib.hid fun q h => drop_terms hx h
    have HR := Lib.hid hR
    clear hA hne hbb hx hlv hbl hR cY hbw hb0 hb1 h0
    gi_wp2_with fail
    gi_loopw [14] (fun i wr => TRel (((f.all 1).take k).flatMap termsOf).length 0 x.1 J x.2.args O2 W3 i wr) (fun i _ => x.2.args.length - (intOf i).toNat)
    case atStart => exact ⟨0, rfl, Nat.zero_le _, O2, Sub.refl _ _, Grow.refl _ _, hJk⟩
    case round =>
      clear hJk d2
      obtain ⟨q, rfl, hq, O3, hs3, hg3, h3⟩ := hrel
      have hY3 : wr.cell? ⟨W.heap.size, 0, none⟩ = some (.func (.yield l) #[] #[]) := by rw [hg3.cell (p := ⟨W.heap.size, 0, none⟩) hYl hOY]; exact hY
      have hO3 : ∀ b, O3 b → dn ≤ b := fun b hb => (hs3 b hb).elim (hOd b) fun h => by omega
      have hzr := hg3.size
      have hYr : W.heap.size < wr.heap.size := by omega
      by_cases hlt : q < x.2.args.length
      · obtain ⟨rest', hx'⟩ := HDR.out q hlt
        obtain ⟨_, b, o, rfl, hbn, u0, u1, u2, c0, c1, c2, hu⟩ := (hA3.below (hg3.below hd3 hOd) (Nat.le_refl _)).get hlt
        obtain ⟨⟨a2, cap2, hu2⟩, hl2'⟩ := hu.args.form
        have e0 := hu.v
        have e1 := hu.nm
        subst hu2 e0 e1
        have hb3 : Below wr.heap.size wr (wr.alloc (.cells #[.bool x.2.args[q].v, .string x.2.args[q].n, .slice a2 x.2.args[q].args.length cap2] 39)) := (Below.refl _ _).alloc (Nat.le_refl _) _
        have hih := walkTerm_in l n dn J Jx hJ hJx (termsL f) HR.out hbt (SizeOf.sizeOf x.2.args[q] + 1) x.2.args[q] (Nat.lt_succ_self _) (wrap64 (x.1 + 1)) _ O3 (wr.alloc (.cells #[.bool x.2.args[q].v, .string x.2.args[q].n, .slice a2 x.2.args[q].args.length cap2] 39)) _ _ _ rest' (hJ.below h3 hb3 (by omega)) (by simp; omega) (by simp; omega) hO3 (hu.below hb3 (by omega)) hx'
        rw [Nat.add_assoc, ← sumT_succ x.1 x.2.args q hlt] at hih
        have HI := Lib.hid hih
        clear hih hx' hu
        gi_wp2_with fail
        have hgx : Grow O2 W3 (wr.alloc (.cells #[.bool x.2.args[q].v, .string x.2.args[q].n, .slice a2 x.2.args[q].args.length cap2] 39)) := hg3.trans (Grow.of_below hb3) hs3
        refine ⟨trivial, rfl, (CallsIn.inRound l2 HI.out).mono ?_⟩
        clear HI hb3
        rintro e W4 ⟨O4, hs4, hg4, (⟨rfl, h4⟩ | ⟨rfl, hx4⟩)⟩
        · gi_wp2_with fail
          exact ⟨⟨q + 1, by go_num, by omega, O4, hs3.trans hs4 (by simp; omega), hgx.trans hg4 hs3, h4⟩, by simp [intOf]; omega⟩
        · gi_wp2_with fail
          exact ⟨O4, hs3.trans hs4 (by simp; omega), hgx.trans hg4 hs3, rfl, hx4⟩
      · have e : q = x.2.args.length := by omega
        rw [e, List.take_length, ← HK.out] at h3
        clear e
        gi_wp2_with fail
        exact ⟨O3, hs3, hg3, h3, hY3, by omega, fun h => (hs3 _ h).elim hOY fun h => by omega, hO3, by omega⟩
  case done =>
    rintro O2 W2 hj hs2 nD hg2 hK
    have h1 := hj.1
    rw [List.take_length] at h1
    have hF := hJ.taken h1 (D := W1.heap.size) (by omega) nD (.deferred none)
    have hG := ((Grow.of_below (O := O) hbw).trans hg2 (Sub.refl _ _)).taken (D := W1.heap.size) (by omega) (.deferred none)
    have hS : Sub O W.heap.size O2 := (Sub.refl _ _).trans hs2 (by omega)
    gi_wp2
    refine ⟨by simp, .inl ⟨_, _, rfl, run_takeDeferred hK, ?_⟩⟩
    exact ⟨_, results_none rfl _ _ _, ⟨_, rfl⟩, O2, hS, hG, .inl hF⟩
  case stop =>
    rintro c O2 W2 ⟨rfl, hx⟩ hs2 nD hg2 hK
    have hF := hJx.taken (k := 0) hx (D := W1.heap.size) (by omega) nD (.deferred none)
    have hG := ((Grow.of_below (O := O) hbw).trans hg2 (Sub.refl _ _)).taken (D := W1.heap.size) (by omega) (.deferred none)
    have hS : Sub O W.heap.size O2 := (Sub.refl _ _).trans hs2 (by omega)
    gi_wp2
    refine ⟨by simp, .inl ⟨_, _, rfl, run_takeDeferred hK, ?_⟩⟩
    exact ⟨_, results_none rfl _ _ _, ⟨_, rfl⟩, O2, hS, hG, .inr hF⟩
end Go.Proofs.YtdapnjnmhkdnpaaDoor.Fm
