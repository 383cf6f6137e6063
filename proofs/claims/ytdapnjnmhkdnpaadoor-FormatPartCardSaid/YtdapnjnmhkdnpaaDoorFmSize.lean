/-
  The contracts of the statements' own size, Size and Small: they return.
-/
import Derived.Test.YtdapnjnmhkdnpaaDoorFmRight
namespace Go.Proofs.YtdapnjnmhkdnpaaDoor.Fm
open Go Go.RowKit Go.Shelf
set_option linter.unusedVariables false
set_option linter.unusedSimpArgs false
mutual
def szT (left : Int) : Tm → Int
  | .mk v n l => szL left 0 l
def szL (left n : Int) : List Tm → Int
  | [] => n
  | .mk v nm args :: r => if n ≤ left then szL left (wrap64 (n + wrap64 (wrap64 (1 + wrap64 ((nm.size : Int) / 40)) + szL (wrap64 (left - n)) 0 args))) r else n
end
def SRel (l : List Tm) (left : Int) (w : World) (n i : Value) (wr : World) : Prop := ∃ (q : Nat) (k : Int), n = .int .i64 k ∧ i = .int .i64 (q : Int) ∧ q ≤ l.length ∧ Below w.heap.size w wr ∧ szL left k (l.drop q) = szL left 0 l
theorem szL_step {left n : Int} {l : List Tm} {q : Nat} (h : q < l.length) : szL left n (l.drop q) = if n ≤ left then szL left (wrap64 (n + wrap64 (wrap64 (1 + wrap64 ((l[q].n.size : Int) / 40)) + szL (wrap64 (left - n)) 0 l[q].args))) (l.drop (q + 1)) else n := by
  rw [List.drop_eq_getElem_cons h]
  obtain ⟨v, nm, args⟩ := l[q]
  rw [szL]
  rfl
theorem sizeZ_list {l : List Tm} {q : Nat} (h : q < l.length) : SizeOf.sizeOf l[q].args < SizeOf.sizeOf l := by
  have h1 : SizeOf.sizeOf l[q] < SizeOf.sizeOf l := List.sizeOf_lt_of_mem (List.getElem_mem h)
  have h2 : SizeOf.sizeOf l[q].args < SizeOf.sizeOf l[q] := by obtain ⟨v, n, args⟩ := l[q]; simp [Tm.args]; omega
  omega
set_option maxHeartbeats 2000000 in
theorem sizeT_c (N : Nat) : ∀ (l : List Tm), SizeOf.sizeOf l < N → ∀ (va : Value) (left : Int) (dn : Nat) (w : World), SlT dn w va l → dn ≤ w.heap.size →
    Calls Tryd.prog 36 #[va, .int .i64 left] w fun e w' => e = .returned (.int .i64 (szL left 0 l)) ∧ Below w.heap.size w w' := by
  induction N with
  | zero => exact fun t h => absurd h (Nat.not_lt_zero _)
  | succ N ih =>
    intro l hN va left dn w ha hd
    obtain ⟨⟨sa, ka, rfl⟩, hla⟩ := ha.form
    go_enter Tryd.func36, Tryd.ntmps36
    go_wp2_with fail
    go_loopw [5, 6] (fun n i wr => SRel l left w n i wr) (fun _ i _ => l.length - (intOf i).toNat)
    case atStart => exact ⟨0, 0, rfl, rfl, Nat.zero_le _, Below.refl _ _, by simp⟩
    case round =>
      obtain ⟨q, k, rfl, rfl, hq, hbq, hrest⟩ := hrel
      have HRE := Lib.hid hrest
      clear hrest
      by_cases hlt : q < l.length
      · obtain ⟨_, b, o, rfl, hbn, u0, u1, u2, c0, c1, c2, hu⟩ := (ha.below (hbq.mono hd) (Nat.le_refl _)).get hlt
        have hdr : dn ≤ wr.heap.size := Nat.le_trans hd hbq.size
        have hsz := sizeZ_list hlt
        have HST := Lib.hid (szL_step (left := left) (n := k) hlt)
        have hcc := fun W (h : SlT dn W u2 l[q].args) (h3 : dn ≤ W.heap.size) => ih l[q].args (by omega) u2 (wrap64 (left - k)) dn W h h3
        have HUA := Lib.hid hu.args
        have hok := hu.ok
        obtain ⟨⟨au, ku, hu2⟩, _⟩ := hu.args.form
        have z1 := hu.nm
        subst hu2 z1
        clear hu hsz
        have HCC := Lib.hid (fun (p : InS (Below wr.heap.size wr)) => hcc p.w (HUA.out.below (p.h.mono hdr) (Nat.le_refl _)) (Nat.le_trans hdr p.h.size))
        clear hcc HUA
        haveI hne : Nonempty (InS (Below wr.heap.size wr)) := ⟨⟨_, Below.refl _ _⟩⟩
        have hcl : ∀ (p : InS (Below wr.heap.size wr)) (b q : Nat), b < dn → p.w.cell? ⟨b, q, none⟩ = wr.cell? ⟨b, q, none⟩ := fun p b q h => p.h.cell (p := ⟨b, q, none⟩) (show b < wr.heap.size by omega)
        have i1 := fun p => (hcl p b _ hbn).trans c1
        have i2 := fun p => (hcl p b _ hbn).trans c2
        clear hcl
        generalize szL (wrap64 (left - k)) 0 l[q].args = ss at *
        cases hkl : decide (k ≤ left)
        · have HS2 := Lib.hid (HRE.out.symm.trans (HST.out.trans (if_neg (by simpa using hkl))))
          go_wp2_with fail
          go_ret
          exact ⟨by rw [HS2.out]; rfl, hbq⟩
        · have HS2 := Lib.hid ((HST.out.trans (if_pos (by simpa using hkl))).symm.trans HRE.out)
          go_wp2_with fail
          refine wp_region_class (Below wr.heap.size wr) (by kernel_rfl) (by kernel_rfl) (Below.drew (Below.refl _ _)) ?_
          repeat (go_big_quiet_step ((exact Calls.below_of (HCC.out _))))
          refine wpQuiet_nil ?_
          intro w2 hw'
          obtain ⟨⟨w3, hS2⟩, hw''⟩ := hw'
          have hw3 : w2 = w3 := hw''
          subst hw3
          have hb2 := hbq.trans (hS2.mono hbq.size)
          clear hw'' hS2
          go_wp2_with fail
          exact ⟨⟨q + 1, _, rfl, by go_num, by omega, hb2, HS2.out⟩, by simp [intOf]; omega⟩
      · have e : q = l.length := by omega
        have HF := Lib.hid (show szL left 0 l = k by rw [← HRE.out, e, List.drop_length, szL])
        clear e
        go_wp2_with fail
        go_ret
        exact ⟨by rw [HF.out]; rfl, hbq⟩
mutual
def szF (left : Int) : Fo → Int
  | .mk o n l s => szFL left (wrap64 (wrap64 (1 + wrap64 ((n.size : Int) / 40)) + szL left 0 l)) s
def szFL (left n : Int) : List Fo → Int
  | [] => n
  | x :: r => if n ≤ left then szFL left (wrap64 (n + szF (wrap64 (left - n)) x)) r else n
end
def SRelF (l : List Fo) (left k0 : Int) (w : World) (n i : Value) (wr : World) : Prop := ∃ (q : Nat) (k : Int), n = .int .i64 k ∧ i = .int .i64 (q : Int) ∧ q ≤ l.length ∧ Below w.heap.size w wr ∧ szFL left k (l.drop q) = szFL left k0 l
theorem szFL_step {left n : Int} {l : List Fo} {q : Nat} (h : q < l.length) : szFL left n (l.drop q) = if n ≤ left then szFL left (wrap64 (n + szF (wrap64 (left - n)) l[q])) (l.drop (q + 1)) else n := by
  rw [List.drop_eq_getElem_cons h, szFL]
theorem szF_eq (left : Int) (f : Fo) : szF left f = szFL left (wrap64 (wrap64 (1 + wrap64 ((f.n.size : Int) / 40)) + szL left 0 f.args)) f.sub := by
  obtain ⟨o, n, l, s⟩ := f
  rw [szF]
  rfl
set_option maxHeartbeats 2000000 in
theorem sizeF_c (N : Nat) : ∀ (f : Fo), SizeOf.sizeOf f < N → ∀ (v0 v1 v2 v3 : Value) (left : Int) (dn : Nat) (w : World), FoV dn w v0 v1 v2 v3 f → dn ≤ w.heap.size →
    Calls Tryd.prog 15 #[.agg #[v0, v1, v2, v3], .int .i64 left] w fun e w' => e = .returned (.int .i64 (szF left f)) ∧ Below w.heap.size w w' := by
  induction N with
  | zero => exact fun t h => absurd h (Nat.not_lt_zero _)
  | succ N ih =>
    intro f hN v0 v1 v2 v3 left dn w hf hd
    have hb0 : Below w.heap.size w (w.alloc (.cells #[v0, v1, v2, v3] 25)) := (Below.refl _ _).alloc (Nat.le_refl _) _
    have HE := Lib.hid (szF_eq left f)
    obtain ⟨rfl, _, rfl, _, ha, hb⟩ := hf
    obtain ⟨⟨sa, ka, rfl⟩, hla⟩ := ha.form
    obtain ⟨⟨sb, kb, rfl⟩, hlb⟩ := hb.form
    have hz0 : w.heap.size < (w.alloc (.cells #[.int .u8 f.op, .string f.n, .slice sa f.args.length ka, .slice sb f.sub.length kb] 25)).heap.size := by simp
    have hc0 : ∀ q, (w.alloc (.cells #[.int .u8 f.op, .string f.n, .slice sa f.args.length ka, .slice sb f.sub.length kb] 25)).cell? ⟨w.heap.size, q, none⟩ = (#[Value.int .u8 f.op, .string f.n, .slice sa f.args.length ka, .slice sb f.sub.length kb] : Array Value)[q]? := fun q => by rw [World.cell?_alloc_at _ _ _ _ rfl]
    go_enter Tryd.func15, Tryd.ntmps15
    go_wp2_with fail
    generalize w.alloc (.cells #[.int .u8 f.op, .string f.n, .slice sa f.args.length ka, .slice sb f.sub.length kb] 25) = w0 at *
    have hd0 : dn ≤ w0.heap.size := Nat.le_trans hd hb0.size
    have ha := ha.below hb0 hd
    have hb := hb.below hb0 hd
    have HA := Lib.hid (fun (p : InS (Below w0.heap.size w0)) => sizeT_c _ f.args (Nat.lt_succ_self _) _ left dn p.w (ha.below (p.h.mono hd0) (Nat.le_refl _)) (Nat.le_trans hd0 p.h.size))
    have e1 : w0.cell? ⟨w.heap.size, 1, none⟩ = some (.string f.n) := hc0 1
    have e2 : w0.cell? ⟨w.heap.size, 2, none⟩ = some (.slice sa f.args.length ka) := hc0 2
    have e3 : w0.cell? ⟨w.heap.size, 3, none⟩ = some (.slice sb f.sub.length kb) := hc0 3
    clear hc0 ha
    haveI hne : Nonempty (InS (Below w0.heap.size w0)) := ⟨⟨_, Below.refl _ _⟩⟩
    have i1 := fun (p : InS (Below w0.heap.size w0)) => (p.h.cell (p := ⟨w.heap.size, 1, none⟩) hz0).trans e1
    have i2 := fun (p : InS (Below w0.heap.size w0)) => (p.h.cell (p := ⟨w.heap.size, 2, none⟩) hz0).trans e2
    generalize szL left 0 f.args = ss at *
    refine wp_region_class (Below w0.heap.size w0) (by kernel_rfl) (by kernel_rfl) (Below.drew (Below.refl _ _)) ?_
    repeat (go_big_quiet_step ((exact Calls.below_of (HA.out _))))
    refine wpQuiet_nil ?_
    intro w2 hw'
    obtain ⟨⟨w3, hS2⟩, hw''⟩ := hw'
    have hw3 : w2 = w3 := hw''
    subst hw3
    have hb2 : Below w0.heap.size w0 w2 := hS2
    clear hw'' hS2 i1 i2 HA hne
    generalize wrap64 (wrap64 (1 + wrap64 ((f.n.size : Int) / 40)) + ss) = k0 at *
    go_wp2_with fail
    go_loopw [5, 6] (fun n i wr => SRelF f.sub left k0 w0 n i wr) (fun _ i _ => f.sub.length - (intOf i).toNat)
    case atStart => exact ⟨0, k0, rfl, rfl, Nat.zero_le _, hb2, by simp⟩
    case round =>
      obtain ⟨q, k, rfl, rfl, hq, hbq, hrest⟩ := hrel
      have HRE := Lib.hid hrest
      clear hrest
      have r3 := (hbq.cell (p := ⟨w.heap.size, 3, none⟩) hz0).trans e3
      by_cases hlt : q < f.sub.length
      · obtain ⟨_, b, o, rfl, hbn, u0, u1, u2, u3, c0, c1, c2, c3, hu⟩ := (hb.below (hbq.mono hd0) (Nat.le_refl _)).get hlt
        have hdr : dn ≤ wr.heap.size := Nat.le_trans hd0 hbq.size
        have hsz := size_sub f q hlt
        have HST := Lib.hid (szFL_step (left := left) (n := k) hlt)
        have HCC := Lib.hid (ih f.sub[q] (by omega) u0 u1 u2 u3 (wrap64 (left - k)) dn wr hu hdr)
        have z0 := hu.op
        have z1 := hu.nm
        obtain ⟨⟨au, ku, hu2⟩, _⟩ := hu.args.form
        obtain ⟨⟨av, kv, hu3⟩, _⟩ := hu.sub.form
        subst hu2 hu3 z0 z1
        clear hu hsz
        generalize szF (wrap64 (left - k)) f.sub[q] = ss at *
        cases hkl : decide (k ≤ left)
        · have HS2 := Lib.hid (HRE.out.symm.trans (HST.out.trans (if_neg (by simpa using hkl))))
          go_wp2_with fail
          go_ret
          exact ⟨by rw [HE.out, HS2.out]; rfl, hb0.trans (hbq.mono hb0.size)⟩
        · have HS2 := Lib.hid ((HST.out.trans (if_pos (by simpa using hkl))).symm.trans HRE.out)
          go_wp2_with fail
          refine HCC.out.mono ?_
          rintro e w3 ⟨rfl, hb3⟩
          have hb4 := hbq.trans (hb3.mono hbq.size)
          clear hb3
          go_wp2_with fail
          exact ⟨⟨q + 1, _, rfl, by go_num, by omega, hb4, HS2.out⟩, by simp [intOf]; omega⟩
      · have e : q = f.sub.length := by omega
        have HF := Lib.hid (show szFL left k0 f.sub = k by rw [← HRE.out, e, List.drop_length, szFL])
        clear e
        go_wp2_with fail
        go_ret
        exact ⟨by rw [HE.out, HF.out]; rfl, hb0.trans (hbq.mono hb0.size)⟩
def szS (n : Int) : List Fo → Int
  | [] => n
  | x :: r => if n ≤ 500 then szS (wrap64 (n + szF (wrap64 (500 - n)) x)) r else n
theorem szS_step {n : Int} {l : List Fo} {q : Nat} (h : q < l.length) : szS n (l.drop q) = if n ≤ 500 then szS (wrap64 (n + szF (wrap64 (500 - n)) l[q])) (l.drop (q + 1)) else n := by
  rw [List.drop_eq_getElem_cons h, szS]
def SRelS (l : List Fo) (w : World) (n i : Value) (wr : World) : Prop := ∃ (q : Nat) (k : Int), n = .int .i64 k ∧ i = .int .i64 (q : Int) ∧ q ≤ l.length ∧ Below w.heap.size w wr ∧ szS k (l.drop q) = szS 0 l
set_option maxHeartbeats 2000000 in
theorem small_c (l : List Fo) (va : Value) (dn : Nat) (w : World) (ha : SlF dn w va l) (hd : dn ≤ w.heap.size) :
    Calls Tryd.prog 7 #[va] w fun e w' => e = .returned (.bool (decide (szS 0 l ≤ 500))) ∧ Below w.heap.size w w' := by
  obtain ⟨⟨sa, ka, rfl⟩, hla⟩ := ha.form
  go_enter Tryd.func7, Tryd.ntmps7
  go_wp2_with fail
  go_loopw [3, 4] (fun n i wr => SRelS l w n i wr) (fun _ i _ => l.length - (intOf i).toNat)
  case atStart => exact ⟨0, 0, rfl, rfl, Nat.zero_le _, Below.refl _ _, by simp⟩
  case round =>
    obtain ⟨q, k, rfl, rfl, hq, hbq, hrest⟩ := hrel
    have HRE := Lib.hid hrest
    clear hrest
    by_cases hlt : q < l.length
    · obtain ⟨_, b, o, rfl, hbn, u0, u1, u2, u3, c0, c1, c2, c3, hu⟩ := (ha.below (hbq.mono hd) (Nat.le_refl _)).get hlt
      have hdr : dn ≤ wr.heap.size := Nat.le_trans hd hbq.size
      have HST := Lib.hid (szS_step (n := k) hlt)
      have HCC := Lib.hid (sizeF_c _ l[q] (Nat.lt_succ_self _) u0 u1 u2 u3 (wrap64 (500 - k)) dn wr hu hdr)
      have z0 := hu.op
      have z1 := hu.nm
      obtain ⟨⟨au, ku, hu2⟩, _⟩ := hu.args.form
      obtain ⟨⟨av, kv, hu3⟩, _⟩ := hu.sub.form
      subst hu2 hu3 z0 z1
      clear hu
      generalize szF (wrap64 (500 - k)) l[q] = ss at *
      cases hkl : decide (k ≤ 500)
      · have HS2 := Lib.hid (HRE.out.symm.trans (HST.out.trans (if_neg (by simpa using hkl))))
        have HK := Lib.hid hkl
        go_wp2_with fail
        go_ret
        exact ⟨by rw [HS2.out, HK.out]; rfl, hbq⟩
      · have HS2 := Lib.hid ((HST.out.trans (if_pos (by simpa using hkl))).symm.trans HRE.out)
        go_wp2_with fail
        refine HCC.out.mono ?_
        rintro e w3 ⟨rfl, hb3⟩
        have hb4 := hbq.trans (hb3.mono hbq.size)
        clear hb3
        go_wp2_with fail
        exact ⟨⟨q + 1, _, rfl, by go_num, by omega, hb4, HS2.out⟩, by simp [intOf]; omega⟩
    · have e : q = l.length := by omega
      have HF := Lib.hid (show szS 0 l = k by rw [← HRE.out, e, List.drop_length, szS])
      clear e
      cases hkl : decide (k ≤ 500)
      all_goals
        have HK := Lib.hid hkl
        go_wp2_with fail
        go_ret
        exact ⟨by rw [HF.out, HK.out]; rfl, hbq⟩
end Go.Proofs.YtdapnjnmhkdnpaaDoor.Fm
