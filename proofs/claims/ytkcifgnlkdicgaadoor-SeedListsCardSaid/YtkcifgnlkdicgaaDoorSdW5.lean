/-
  The contract of Perm.
-/
import Derived.Test.YtkcifgnlkdicgaaDoorSdW4
import Derived.Test.YtkcifgnlkdicgaaDoorSdDr
namespace Go.Proofs.YtkcifgnlkdicgaaDoor.Sd
open Go Go.RowKit
set_option linter.unusedVariables false
set_option linter.unusedSimpArgs false

def iota (n : Nat) : List Int := (List.range n).map Int.ofNat
/-- What is at the places v and p is exchanged. -/
def swp (l : List Int) (v p : Nat) : List Int := (l.set v (l.getD p 0)).set p (l.getD v 0)
def permF (k : Int) : Nat → Int → List Int → Option (List Int × Int)
  | 0, i, l => some (l, i)
  | p + 1, i, l => match below k i (p + 2 : Nat) with
    | none => none
    | some (v, j) => permF k p j (swp l v.toNat (p + 1))
def perm (k i : Int) (n : Nat) : Option (List Int × Int) := permF k (n - 1) i (iota n)
/-- The first loop: the numbers up to j stand there. -/
def PermRel1 (m b : Nat) (w2 : World) (x : Value) (wr : World) : Prop :=
  ∃ j : Nat, x = .int .i64 j ∧ j ≤ m ∧ Below b w2 wr ∧ wr.heap.size = b + 1 ∧ Row wr b ((iota j) ++ List.replicate (m - j) 0)
theorem perm_step {k j p : Int} {l : List Int} {R : List Int × Int} (hp : 0 < p) (h : permF k p.toNat j l = some R) :
    ∃ v j', below k j (p + 1) = some (v, j') ∧ permF k (p - 1).toNat j' (swp l v.toNat p.toNat) = some R := by
  obtain ⟨q, hq⟩ : ∃ q, p.toNat = q + 1 := ⟨p.toNat - 1, by omega⟩
  rw [hq, permF] at h
  rw [show ((q + 2 : Nat) : Int) = p + 1 by omega] at h
  split at h
  · cases h
  · rename_i v j' hb
    exact ⟨v, j', hb, by rw [show (p - 1).toNat = q by omega, hq]; exact h⟩
/-- The second loop: what is still to do gives the whole. -/
def PermRel2 (k : Int) (m B d : Nat) (target : Option (List Int × Int)) (w : World) (x : Value) (wr : World) : Prop :=
  ∃ (p j : Int) (l : List Int), x = .int .i64 p ∧ -1 ≤ p ∧ p < m ∧ l.length = m ∧ permF k p.toNat j l = target ∧ Row wr (B + 2) l ∧ Dr k j (B + 1) d wr ∧ Tab wr ∧ Below B w wr
theorem iota_step (m j : Nat) (h : j < m) : ((iota j) ++ List.replicate (m - j) 0).set j (j : Int) = iota (j + 1) ++ List.replicate (m - (j + 1)) 0 := by
  have e : m - j = (m - (j + 1)) + 1 := by omega
  rw [e, List.replicate_succ]
  have hl : (iota j).length = j := by simp [iota]
  rw [List.set_append_right _ _ (by omega), hl, Nat.sub_self, List.set_cons_zero]
  unfold iota
  rw [List.range_succ, List.map_append, List.append_assoc]
  rfl
set_option maxHeartbeats 1000000 in
theorem perm_some_c (k i j : Int) (m : Nat) (l : List Int) (w : World) (hx0 : 0 ≤ k) (hx1 : k < 18446744073709551616) (hT : Tab w) (h0 : 0 ≤ i) (h1 : i ≤ 1099511627776) (hm : m ≤ 1000) (h : perm k i m = some (l, j)) :
    Calls Tryd.prog 27 #[.agg #[.int .u64 k], .int .i64 i, .int .i64 (m : Int)] w fun e w' =>
      e = .returned (.tuple #[.slice (some ⟨w.heap.size + 2, 0, none⟩) m m, .int .i64 j, .int .i64 0]) ∧ Row w' (w.heap.size + 2) l ∧ l.length = m ∧ Below w.heap.size w w' := by
  have hd : (decide (0 ≤ i) && decide (i ≤ 1099511627776)) = true := by simp [h0, h1]
  have H : Hid (perm k i m = some (l, j)) := h
  clear h
  have hmk := make_ints m m (Nat.le_refl _) (by omega)
  go_enter Tryd.func27, Tryd.ntmps27
  go_wp2_with fail
  refine (drawable_c i _).mono ?_
  rw [hd]
  clear hd
  rintro e w1 ⟨rfl, rfl⟩
  go_wp2
  go_loopw [10, 30] (fun _ x wr => PermRel1 m (w.heap.size + 2) ((w.alloc (.cells #[.int .u64 k] 33)).alloc (.cells #[.int .i64 i] 3)) x wr) (fun _ x _ => (m - (intOf x).toNat))
  case atStart =>
    refine ⟨0, rfl, Nat.zero_le _, (Below.refl _ _).alloc (by simp) _, by simp, ?_⟩
    have := Row.made ((w.alloc (.cells #[.int .u64 k] 33)).alloc (.cells #[.int .i64 i] 3)) m
    simpa [iota] using this
  case round =>
    obtain ⟨q, rfl, hq, hb, hz, hr⟩ := hrel
    by_cases hlt : q < m
    · have hcell := hr.cell q (by simp [iota]; omega)
      have hfree := hr.free q (by simp [iota]; omega)
      have H2 : Hid _ := hcell
      clear hcell
      have hcell : ∃ v, wr.cell? ⟨w.heap.size + 2, q, none⟩ = some v := ⟨_, H2.out⟩
      obtain ⟨v0, hv0⟩ := hcell
      have hrow := hr.set q (by simp [iota]; omega) (q : Int)
      rw [iota_step m q hlt] at hrow
      have HR : Hid (Row (wr.setCell ⟨w.heap.size + 2, q, none⟩ (.int .i64 (q : Int))) (w.heap.size + 2) (iota (q + 1) ++ List.replicate (m - (q + 1)) 0)) := hrow
      clear hrow hr
      go_wp2
      exact ⟨⟨q + 1, by go_num, by omega, hb.setCell (by simp) _, by rw [size_setCell]; exact hz, HR.out⟩, by simp [intOf]; omega⟩
    · have e : q = m := by omega
      have hr2 : Row wr (w.heap.size + 2) (iota m) := by
        have := hr
        rw [e, Nat.sub_self] at this
        simpa using this
      clear hr e
      have hT1 : Tab wr := (hT.below (show Below w.heap.size w _ by repeat' (first | with_reducible exact Below.refl _ _ | with_reducible assumption | with_reducible refine below_drewN ?_ _ | with_reducible refine Below.drew ?_ | with_reducible refine Below.alloc ?_ ?_ _ | with_reducible refine Below.setCell ?_ ?_ _ | omega | (simp; done) | (simp; omega))) hT.pos).below hb (by omega)
      obtain ⟨d, hd⟩ : ∃ d, wr.heap.size = d := ⟨_, rfl⟩
      have hz' : w.heap.size + 2 < d := by omega
      have ck : wr.cell? ⟨w.heap.size, 0, none⟩ = some (.int .u64 k) := by rw [hb.cell (p := ⟨w.heap.size, 0, none⟩) (by simp)]; simp
      have ci : wr.cell? ⟨w.heap.size + 1, 0, none⟩ = some (.int .i64 i) := by rw [hb.cell (p := ⟨w.heap.size + 1, 0, none⟩) (by simp)]; simp
      have fi : wr.frozen? ⟨w.heap.size + 1, 0, none⟩ = false := by rw [hb.frozen (p := ⟨w.heap.size + 1, 0, none⟩) (by simp)]; simp
      have hB : Below w.heap.size w wr := (show Below w.heap.size w _ by repeat' (first | with_reducible exact Below.refl _ _ | with_reducible assumption | with_reducible refine below_drewN ?_ _ | with_reducible refine Below.drew ?_ | with_reducible refine Below.alloc ?_ ?_ _ | with_reducible refine Below.setCell ?_ ?_ _ | omega | (simp; done) | (simp; omega))).trans (hb.mono (by omega))
      clear hz hb
      go_wp2_with fail
      refine (drawer_c _ _ _).mono ?_
      rintro e w1 ⟨rfl, rfl⟩
      go_wp2_with fail
      obtain ⟨wo, rfl⟩ : ∃ wo : World, wo = wr := ⟨_, rfl⟩
      go_loopw [12] (fun x wr => PermRel2 k m (w.heap.size) d (perm k i m) w x wr) (fun x _ => (intOf x).toNat)
      case atStart =>
        refine ⟨(m : Int) - 1, i, iota m, rfl, by omega, by omega, by simp [iota], ?_, ?_, ?_, ?_, ?_⟩
        · unfold perm; rw [show ((m : Int) - 1).toNat = m - 1 by omega]
        · exact hr2.below (show Below wo.heap.size wo _ by repeat' (first | with_reducible exact Below.refl _ _ | with_reducible assumption | with_reducible refine below_drewN ?_ _ | with_reducible refine Below.drew ?_ | with_reducible refine Below.alloc ?_ ?_ _ | with_reducible refine Below.setCell ?_ ?_ _ | omega | (simp; done) | (simp; omega))) hr2.lt
        · refine ⟨?_, ?_, ?_, ?_, by omega, ?_, by omega, h0, h1⟩
          · rw [World.cell?_alloc_past _ _ _ (by simp; omega), World.cell?_alloc_past _ _ _ (by omega)]; exact ci
          · rw [World.frozen?_alloc_past _ _ _ (by simp; omega), World.frozen?_alloc_past _ _ _ (by omega)]; exact fi
          · rw [World.cell?_alloc_past _ _ _ (by simp; omega), World.cell?_alloc_at _ _ _ _ hd.symm]; rfl
          · rw [World.cell?_alloc_at _ _ _ _ (by simp; omega)]; rfl
          · simp; omega
        · exact hT1.below (show Below wo.heap.size wo _ by repeat' (first | with_reducible exact Below.refl _ _ | with_reducible assumption | with_reducible refine below_drewN ?_ _ | with_reducible refine Below.drew ?_ | with_reducible refine Below.alloc ?_ ?_ _ | with_reducible refine Below.setCell ?_ ?_ _ | omega | (simp; done) | (simp; omega))) hT1.pos
        · exact hB.trans ((show Below wo.heap.size wo _ by repeat' (first | with_reducible exact Below.refl _ _ | with_reducible assumption | with_reducible refine below_drewN ?_ _ | with_reducible refine Below.drew ?_ | with_reducible refine Below.alloc ?_ ?_ _ | with_reducible refine Below.setCell ?_ ?_ _ | omega | (simp; done) | (simp; omega))).mono hB.size)
      case round =>
        obtain ⟨p, j2, l2, rfl, hp1, hp2, hl2, hpf, hrow, hD, hT2, hB2⟩ := hrel
        rw [H.out] at hpf
        have HP : Hid (permF k p.toNat j2 l2 = some (l, j)) := hpf
        clear hpf
        have HL : Hid (l2.length = m) := hl2
        clear hl2
        by_cases hp : 0 < p
        · obtain ⟨v, j3, hbv, hnext⟩ := perm_step hp HP.out
          have HN : Hid (permF k (p - 1).toNat j3 (swp l2 v.toNat p.toNat) = some (l, j)) := hnext
          clear hnext
          have hvr := below_range (by omega) hD.le hbv
          go_wp2_with fail
          refine (dr_some_c k j2 (p + 1) v j3 (w.heap.size + 1) d _ hx0 hx1 hT2 hD (by omega) (by omega) hbv).mono ?_
          rintro e w3 ⟨rfl, hdr⟩
          have hj3 : 0 ≤ j3 := by have := hD.lo; omega
          have hrow3 := hdr.row hrow (by omega)
          have hD3 := hdr.dr hD hj3 (by omega)
          have hT3 := hdr.tab hT2 (by omega)
          have hB3 := hdr.below hB2 (by omega) hB2.size
          obtain ⟨vn, rfl⟩ := Int.eq_ofNat_of_zero_le hvr.1
          obtain ⟨pn, rfl⟩ := Int.eq_ofNat_of_zero_le (show 0 ≤ p by omega)
          clear hdr hrow hD hT2 hB2 hbv
          have hvl : vn < l2.length := by have := HL.out; omega
          have hpl : pn < l2.length := by have := HL.out; omega
          have cv := hrow3.cell vn hvl
          have cp := hrow3.cell pn hpl
          have fv := hrow3.free vn hvl
          have fp := hrow3.free pn hpl
          have hvm : vn < m := by have := HL.out; omega
          have hpm : pn < m := by have := HL.out; omega
          have HR : Hid (Row ((w3.setCell ⟨w.heap.size + 2, vn, none⟩ (.int .i64 (l2.getD pn 0))).setCell ⟨w.heap.size + 2, pn, none⟩ (.int .i64 (l2.getD vn 0))) (w.heap.size + 2) (swp l2 vn pn)) :=
            (hrow3.set vn hvl (l2.getD pn 0)).set pn (by simpa using hpl) (l2.getD vn 0)
          have HD : Hid (Dr k j3 (w.heap.size + 1) d ((w3.setCell ⟨w.heap.size + 2, vn, none⟩ (.int .i64 (l2.getD pn 0))).setCell ⟨w.heap.size + 2, pn, none⟩ (.int .i64 (l2.getD vn 0)))) :=
            (hD3.other (by omega) (by omega) (by omega) _).other (by omega) (by omega) (by omega) _
          clear hrow3 hD3
          have hB4 : Below w.heap.size w (((w3.setCell ⟨w.heap.size + 1 + 1, vn, none⟩ (.int .i64 (l2.getD pn 0))).setCell ⟨w.heap.size + 1 + 1, pn, none⟩ (.int .i64 (l2.getD vn 0))).drew) :=
            ((hB3.setCell (show w.heap.size ≤ w.heap.size + 1 + 1 by omega) _).setCell (show w.heap.size ≤ w.heap.size + 1 + 1 by omega) _).drew
          have hT4 : Tab (((w3.setCell ⟨w.heap.size + 1 + 1, vn, none⟩ (.int .i64 (l2.getD pn 0))).setCell ⟨w.heap.size + 1 + 1, pn, none⟩ (.int .i64 (l2.getD vn 0))).drew) :=
            hT3.below ((((Below.refl 1 _).setCell (by simp) _).setCell (by simp) _).drew) (by decide)
          have HN2 : Hid (permF k ((pn : Int) - 1).toNat j3 (swp l2 vn pn) = perm k i m) := by rw [H.out]; exact HN.out
          clear hB3 hT3 HN
          by_cases hvp : vn = pn
          · subst hvp
            generalize l2.getD vn 0 = lv at *
            go_wp2_with fail
            go_region
            go_wp2
            exact ⟨⟨(vn : Int) - 1, j3, swp l2 vn vn, rfl, by omega, by omega, by simp [swp]; exact HL.out, HN2.out, HR.out.below (Below.drew (Below.refl (w.heap.size + 3) _)) (by omega), HD.out.below (Below.drew (Below.refl (d + 2) _)) (by omega), hT4, hB4⟩, by simp [intOf]; omega⟩
          · generalize l2.getD vn 0 = lv at *
            generalize l2.getD pn 0 = lp at *
            go_wp2_with fail
            go_region
            go_wp2
            exact ⟨⟨(pn : Int) - 1, j3, swp l2 vn pn, rfl, by omega, by omega, by simp [swp]; exact HL.out, HN2.out, HR.out.below (Below.drew (Below.refl (w.heap.size + 3) _)) (by omega), HD.out.below (Below.drew (Below.refl (d + 2) _)) (by omega), hT4, hB4⟩, by simp [intOf]; omega⟩
        · have hat := hD.at
          go_wp2
          go_quiet (fail)
          go_wp2
          go_ret3
          have hend := HP.out
          rw [show p.toNat = 0 by omega] at hend
          simp only [permF, Option.some.injEq, Prod.mk.injEq] at hend
          obtain ⟨rfl, rfl⟩ := hend
          exact ⟨rfl, hrow.below (show Below (w.heap.size + 3) wr _ by repeat' (first | with_reducible exact Below.refl _ _ | with_reducible assumption | with_reducible refine below_drewN ?_ _ | with_reducible refine Below.drew ?_ | with_reducible refine Below.alloc ?_ ?_ _ | with_reducible refine Below.setCell ?_ ?_ _ | omega | (simp; done) | (simp; omega))) (by omega), HL.out, below_drewN hB2 _⟩
/-- An order that can't be drawn to its end. -/
theorem permF_none {k j p : Int} {l : List Int} (h : permF k p.toNat j l = none) : 0 < p := by
  by_cases hp : 0 < p
  · exact hp
  · rw [show p.toNat = 0 by omega] at h; cases h
theorem perm_step_none {k j p : Int} {l : List Int} (hp : 0 < p) (h : permF k p.toNat j l = none) :
    below k j (p + 1) = none ∨ ∃ v j', below k j (p + 1) = some (v, j') ∧ permF k (p - 1).toNat j' (swp l v.toNat p.toNat) = none := by
  obtain ⟨q, hq⟩ : ∃ q, p.toNat = q + 1 := ⟨p.toNat - 1, by omega⟩
  rw [hq, permF] at h
  rw [show ((q + 2 : Nat) : Int) = p + 1 by omega] at h
  split at h
  · exact .inl (by assumption)
  · rename_i v j' hb
    exact .inr ⟨v, j', hb, by rw [show (p - 1).toNat = q by omega, hq]; exact h⟩
set_option maxHeartbeats 1000000 in
theorem perm_none_c (k i : Int) (m : Nat) (w : World) (hx0 : 0 ≤ k) (hx1 : k < 18446744073709551616) (hT : Tab w) (h0 : 0 ≤ i) (h1 : i ≤ 1099511627776) (hm : m ≤ 1000) (h : perm k i m = none) :
    Calls Tryd.prog 27 #[.agg #[.int .u64 k], .int .i64 i, .int .i64 (m : Int)] w fun e w' =>
      e = .returned (.tuple #[.slice none 0 0, .int .i64 0, .int .i64 4]) ∧ Below w.heap.size w w' := by
  have hd : (decide (0 ≤ i) && decide (i ≤ 1099511627776)) = true := by simp [h0, h1]
  have H : Hid (perm k i m = none) := h
  clear h
  have hmk := make_ints m m (Nat.le_refl _) (by omega)
  go_enter Tryd.func27, Tryd.ntmps27
  go_wp2_with fail
  refine (drawable_c i _).mono ?_
  rw [hd]
  clear hd
  rintro e w1 ⟨rfl, rfl⟩
  go_wp2
  go_loopw [10, 30] (fun _ x wr => PermRel1 m (w.heap.size + 2) ((w.alloc (.cells #[.int .u64 k] 33)).alloc (.cells #[.int .i64 i] 3)) x wr) (fun _ x _ => (m - (intOf x).toNat))
  case atStart =>
    refine ⟨0, rfl, Nat.zero_le _, (Below.refl _ _).alloc (by simp) _, by simp, ?_⟩
    have := Row.made ((w.alloc (.cells #[.int .u64 k] 33)).alloc (.cells #[.int .i64 i] 3)) m
    simpa [iota] using this
  case round =>
    obtain ⟨q, rfl, hq, hb, hz, hr⟩ := hrel
    by_cases hlt : q < m
    · have hcell := hr.cell q (by simp [iota]; omega)
      have hfree := hr.free q (by simp [iota]; omega)
      have H2 : Hid _ := hcell
      clear hcell
      have hcell : ∃ v, wr.cell? ⟨w.heap.size + 2, q, none⟩ = some v := ⟨_, H2.out⟩
      obtain ⟨v0, hv0⟩ := hcell
      have hrow := hr.set q (by simp [iota]; omega) (q : Int)
      rw [iota_step m q hlt] at hrow
      have HR : Hid (Row (wr.setCell ⟨w.heap.size + 2, q, none⟩ (.int .i64 (q : Int))) (w.heap.size + 2) (iota (q + 1) ++ List.replicate (m - (q + 1)) 0)) := hrow
      clear hrow hr
      go_wp2
      exact ⟨⟨q + 1, by go_num, by omega, hb.setCell (by simp) _, by rw [size_setCell]; exact hz, HR.out⟩, by simp [intOf]; omega⟩
    · have e : q = m := by omega
      have hr2 : Row wr (w.heap.size + 2) (iota m) := by
        have := hr
        rw [e, Nat.sub_self] at this
        simpa using this
      clear hr e
      have hT1 : Tab wr := (hT.below (show Below w.heap.size w _ by repeat' (first | with_reducible exact Below.refl _ _ | with_reducible assumption | with_reducible refine below_drewN ?_ _ | with_reducible refine Below.drew ?_ | with_reducible refine Below.alloc ?_ ?_ _ | with_reducible refine Below.setCell ?_ ?_ _ | omega | (simp; done) | (simp; omega))) hT.pos).below hb (by omega)
      obtain ⟨d, hd⟩ : ∃ d, wr.heap.size = d := ⟨_, rfl⟩
      have hz' : w.heap.size + 2 < d := by omega
      have ck : wr.cell? ⟨w.heap.size, 0, none⟩ = some (.int .u64 k) := by rw [hb.cell (p := ⟨w.heap.size, 0, none⟩) (by simp)]; simp
      have ci : wr.cell? ⟨w.heap.size + 1, 0, none⟩ = some (.int .i64 i) := by rw [hb.cell (p := ⟨w.heap.size + 1, 0, none⟩) (by simp)]; simp
      have fi : wr.frozen? ⟨w.heap.size + 1, 0, none⟩ = false := by rw [hb.frozen (p := ⟨w.heap.size + 1, 0, none⟩) (by simp)]; simp
      have hB : Below w.heap.size w wr := (show Below w.heap.size w _ by repeat' (first | with_reducible exact Below.refl _ _ | with_reducible assumption | with_reducible refine below_drewN ?_ _ | with_reducible refine Below.drew ?_ | with_reducible refine Below.alloc ?_ ?_ _ | with_reducible refine Below.setCell ?_ ?_ _ | omega | (simp; done) | (simp; omega))).trans (hb.mono (by omega))
      clear hz hb
      go_wp2_with fail
      refine (drawer_c _ _ _).mono ?_
      rintro e w1 ⟨rfl, rfl⟩
      go_wp2_with fail
      obtain ⟨wo, rfl⟩ : ∃ wo : World, wo = wr := ⟨_, rfl⟩
      go_loopw [12] (fun x wr => PermRel2 k m (w.heap.size) d (perm k i m) w x wr) (fun x _ => (intOf x).toNat)
      case atStart =>
        refine ⟨(m : Int) - 1, i, iota m, rfl, by omega, by omega, by simp [iota], ?_, ?_, ?_, ?_, ?_⟩
        · unfold perm; rw [show ((m : Int) - 1).toNat = m - 1 by omega]
        · exact hr2.below (show Below wo.heap.size wo _ by repeat' (first | with_reducible exact Below.refl _ _ | with_reducible assumption | with_reducible refine below_drewN ?_ _ | with_reducible refine Below.drew ?_ | with_reducible refine Below.alloc ?_ ?_ _ | with_reducible refine Below.setCell ?_ ?_ _ | omega | (simp; done) | (simp; omega))) hr2.lt
        · refine ⟨?_, ?_, ?_, ?_, by omega, ?_, by omega, h0, h1⟩
          · rw [World.cell?_alloc_past _ _ _ (by simp; omega), World.cell?_alloc_past _ _ _ (by omega)]; exact ci
          · rw [World.frozen?_alloc_past _ _ _ (by simp; omega), World.frozen?_alloc_past _ _ _ (by omega)]; exact fi
          · rw [World.cell?_alloc_past _ _ _ (by simp; omega), World.cell?_alloc_at _ _ _ _ hd.symm]; rfl
          · rw [World.cell?_alloc_at _ _ _ _ (by simp; omega)]; rfl
          · simp; omega
        · exact hT1.below (show Below wo.heap.size wo _ by repeat' (first | with_reducible exact Below.refl _ _ | with_reducible assumption | with_reducible refine below_drewN ?_ _ | with_reducible refine Below.drew ?_ | with_reducible refine Below.alloc ?_ ?_ _ | with_reducible refine Below.setCell ?_ ?_ _ | omega | (simp; done) | (simp; omega))) hT1.pos
        · exact hB.trans ((show Below wo.heap.size wo _ by repeat' (first | with_reducible exact Below.refl _ _ | with_reducible assumption | with_reducible refine below_drewN ?_ _ | with_reducible refine Below.drew ?_ | with_reducible refine Below.alloc ?_ ?_ _ | with_reducible refine Below.setCell ?_ ?_ _ | omega | (simp; done) | (simp; omega))).mono hB.size)
      case round =>
        obtain ⟨p, j2, l2, rfl, hp1, hp2, hl2, hpf, hrow, hD, hT2, hB2⟩ := hrel
        rw [H.out] at hpf
        have HP : Hid (permF k p.toNat j2 l2 = none) := hpf
        clear hpf
        have HL : Hid (l2.length = m) := hl2
        clear hl2
        have hp := permF_none HP.out
        rcases perm_step_none hp HP.out with hbv | ⟨v, j3, hbv, hnext⟩
        · go_wp2_with fail
          refine (dr_none_c k j2 (p + 1) (w.heap.size + 1) d _ hx0 hx1 hT2 hD (by omega) (by omega) hbv).mono ?_
          rintro e w3 ⟨rfl, hdr⟩
          have hB3 := hdr.below hB2 (by omega) hB2.size
          clear hdr hrow hD hT2 hB2 hbv
          go_wp2
          go_ret3
          exact ⟨rfl, hB3⟩
        · skip
          have HN : Hid (permF k (p - 1).toNat j3 (swp l2 v.toNat p.toNat) = none) := hnext
          clear hnext
          have hvr := below_range (by omega) hD.le hbv
          go_wp2_with fail
          refine (dr_some_c k j2 (p + 1) v j3 (w.heap.size + 1) d _ hx0 hx1 hT2 hD (by omega) (by omega) hbv).mono ?_
          rintro e w3 ⟨rfl, hdr⟩
          have hj3 : 0 ≤ j3 := by have := hD.lo; omega
          have hrow3 := hdr.row hrow (by omega)
          have hD3 := hdr.dr hD hj3 (by omega)
          have hT3 := hdr.tab hT2 (by omega)
          have hB3 := hdr.below hB2 (by omega) hB2.size
          obtain ⟨vn, rfl⟩ := Int.eq_ofNat_of_zero_le hvr.1
          obtain ⟨pn, rfl⟩ := Int.eq_ofNat_of_zero_le (show 0 ≤ p by omega)
          clear hdr hrow hD hT2 hB2 hbv
          have hvl : vn < l2.length := by have := HL.out; omega
          have hpl : pn < l2.length := by have := HL.out; omega
          have cv := hrow3.cell vn hvl
          have cp := hrow3.cell pn hpl
          have fv := hrow3.free vn hvl
          have fp := hrow3.free pn hpl
          have hvm : vn < m := by have := HL.out; omega
          have hpm : pn < m := by have := HL.out; omega
          have HR : Hid (Row ((w3.setCell ⟨w.heap.size + 2, vn, none⟩ (.int .i64 (l2.getD pn 0))).setCell ⟨w.heap.size + 2, pn, none⟩ (.int .i64 (l2.getD vn 0))) (w.heap.size + 2) (swp l2 vn pn)) :=
            (hrow3.set vn hvl (l2.getD pn 0)).set pn (by simpa using hpl) (l2.getD vn 0)
          have HD : Hid (Dr k j3 (w.heap.size + 1) d ((w3.setCell ⟨w.heap.size + 2, vn, none⟩ (.int .i64 (l2.getD pn 0))).setCell ⟨w.heap.size + 2, pn, none⟩ (.int .i64 (l2.getD vn 0)))) :=
            (hD3.other (by omega) (by omega) (by omega) _).other (by omega) (by omega) (by omega) _
          clear hrow3 hD3
          have hB4 : Below w.heap.size w (((w3.setCell ⟨w.heap.size + 1 + 1, vn, none⟩ (.int .i64 (l2.getD pn 0))).setCell ⟨w.heap.size + 1 + 1, pn, none⟩ (.int .i64 (l2.getD vn 0))).drew) :=
            ((hB3.setCell (show w.heap.size ≤ w.heap.size + 1 + 1 by omega) _).setCell (show w.heap.size ≤ w.heap.size + 1 + 1 by omega) _).drew
          have hT4 : Tab (((w3.setCell ⟨w.heap.size + 1 + 1, vn, none⟩ (.int .i64 (l2.getD pn 0))).setCell ⟨w.heap.size + 1 + 1, pn, none⟩ (.int .i64 (l2.getD vn 0))).drew) :=
            hT3.below ((((Below.refl 1 _).setCell (by simp) _).setCell (by simp) _).drew) (by decide)
          have HN2 : Hid (permF k ((pn : Int) - 1).toNat j3 (swp l2 vn pn) = perm k i m) := by rw [H.out]; exact HN.out
          clear hB3 hT3 HN
          by_cases hvp : vn = pn
          · subst hvp
            generalize l2.getD vn 0 = lv at *
            go_wp2_with fail
            go_region
            go_wp2
            exact ⟨⟨(vn : Int) - 1, j3, swp l2 vn vn, rfl, by omega, by omega, by simp [swp]; exact HL.out, HN2.out, HR.out.below (Below.drew (Below.refl (w.heap.size + 3) _)) (by omega), HD.out.below (Below.drew (Below.refl (d + 2) _)) (by omega), hT4, hB4⟩, by simp [intOf]; omega⟩
          · generalize l2.getD vn 0 = lv at *
            generalize l2.getD pn 0 = lp at *
            go_wp2_with fail
            go_region
            go_wp2
            exact ⟨⟨(pn : Int) - 1, j3, swp l2 vn pn, rfl, by omega, by omega, by simp [swp]; exact HL.out, HN2.out, HR.out.below (Below.drew (Below.refl (w.heap.size + 3) _)) (by omega), HD.out.below (Below.drew (Below.refl (d + 2) _)) (by omega), hT4, hB4⟩, by simp [intOf]; omega⟩
set_option maxHeartbeats 1000000 in
theorem perm_err_c (k i n : Int) (w : World) (h : i < 0 ∨ 1099511627776 < i ∨ 1000 < n ∨ n < 0) :
    Calls Tryd.prog 27 #[.agg #[.int .u64 k], .int .i64 i, .int .i64 n] w fun e w' => e = .returned (.tuple #[.slice none 0 0, .int .i64 0, .int .i64 2]) ∧ Below w.heap.size w w' := by
  by_cases hd : (decide (0 ≤ i) && decide (i ≤ 1099511627776)) = true
  · have hrest : 1000 < n ∨ n < 0 := by simp at hd; omega
    rcases hrest with h1 | h1
    all_goals
      go_enter Tryd.func27, Tryd.ntmps27
      go_wp2_with fail
      refine (drawable_c i _).mono ?_
      rw [hd]
      clear hd h
      rintro e w1 ⟨rfl, rfl⟩
      go_wp2
      go_ret3
      exact ⟨rfl, by repeat' (first | with_reducible exact Below.refl _ _ | with_reducible assumption | with_reducible refine below_drewN ?_ _ | with_reducible refine Below.drew ?_ | with_reducible refine Below.alloc ?_ ?_ _ | with_reducible refine Below.setCell ?_ ?_ _ | omega | (simp; done) | (simp; omega))⟩
  · have hd' : (decide (0 ≤ i) && decide (i ≤ 1099511627776)) = false := by simpa using hd
    clear hd h
    go_enter Tryd.func27, Tryd.ntmps27
    go_wp2_with fail
    refine (drawable_c i _).mono ?_
    rw [hd']
    clear hd'
    rintro e w1 ⟨rfl, rfl⟩
    go_wp2
    go_ret3
    exact ⟨rfl, by repeat' (first | with_reducible exact Below.refl _ _ | with_reducible assumption | with_reducible refine below_drewN ?_ _ | with_reducible refine Below.drew ?_ | with_reducible refine Below.alloc ?_ ?_ _ | with_reducible refine Below.setCell ?_ ?_ _ | omega | (simp; done) | (simp; omega))⟩
end Go.Proofs.YtkcifgnlkdicgaaDoor.Sd
