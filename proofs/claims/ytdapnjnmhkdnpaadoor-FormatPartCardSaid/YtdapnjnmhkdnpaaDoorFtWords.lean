/-
  The words of the text with signs in front, one after the other.
-/
import Derived.Test.YtdapnjnmhkdnpaaDoorFtInS
import Derived.Test.YtdapnjnmhkdnpaaDoorFtTexts
import Derived.Test.YtdapnjnmhkdnpaaDoorFmParts
import Derived.Test.YtdapnjnmhkdnpaaDoorFtFullC
namespace Go.Proofs.YtdapnjnmhkdnpaaDoor.Fb
open Go Go.RowKit Go.Shelf Go.Proofs.YtdapnjnmhkdnpaaDoor.Fm Go.Proofs.YtdapnjnmhkdnpaaDoor.Lx Go.Proofs.YtdapnjnmhkdnpaaDoor.Ps Go.Proofs.YtdapnjnmhkdnpaaDoor.Ft
set_option linter.unusedVariables false
set_option linter.unusedSimpArgs false
attribute [local go_sem] Oper.semAt_some
set_option maxHeartbeats 4000000 in
theorem oneWord_c (m : Bool) (f : Fo) (hs : Shp m f) (hsub : f.sub = []) (hl : (baB [] f).length ≤ 20000) (v0 v1 v2 v3 : Value) (dn : Nat) (w : World) (hf : FoV dn w v0 v1 v2 v3 f) (hd : dn ≤ w.heap.size) :
    Calls Tryd.prog 53 #[.agg #[v0, v1, v2, v3]] w fun e w' => e = .returned (.string (bs (baB [] f))) ∧ Below w.heap.size w w' := by
  have HF := Lib.hid (fun w1 (h : Below w.heap.size w w1) => hf.below h hd)
  have hb0 : Below w.heap.size w (w.alloc (.cells #[v0, v1, v2, v3] 25)) := (Below.refl _ _).alloc (Nat.le_refl _) _
  have HB0 := Lib.hid hb0
  obtain ⟨rfl, _, rfl, hok, hA, hS⟩ := hf
  obtain ⟨⟨a1, k1, rfl⟩, _⟩ := hA.form
  obtain ⟨⟨a2, k2, rfl⟩, _⟩ := hS.form
  obtain ⟨R, hR⟩ : ∃ R, bs (baB [] f) = R := ⟨_, rfl⟩
  rw [hR]
  have HR := Lib.hid hR
  have HSUB := Lib.hid hsub
  clear hA hS hok hb0 hR hsub
  go_enter Tryd.func53, Tryd.ntmps53
  go_wp2_with fail
  have hb0 := HB0.out
  clear HB0
  have hz0 : (w.alloc (.cells #[.int .u8 f.op, .string f.n, .slice a1 f.args.length k1, .slice a2 f.sub.length k2] 25)).heap.size = w.heap.size + 1 := by simp
  generalize w.alloc (.cells #[.int .u8 f.op, .string f.n, .slice a1 f.args.length k1, .slice a2 f.sub.length k2] 25) = X at hb0 hz0 ⊢
  have hbd := bd_new X
  have hbv : Below X.heap.size X (X.alloc (.cells #[.pointer none, .slice none 0 0] 53)) := (Below.refl _ _).alloc (Nat.le_refl _) _
  have hzV : (X.alloc (.cells #[.pointer none, .slice none 0 0] 53)).heap.size = X.heap.size + 1 := by simp
  obtain ⟨V, hV⟩ : ∃ V, X.alloc (.cells #[.pointer none, .slice none 0 0] 53) = V := ⟨_, rfl⟩
  rw [hV] at hbd hbv hzV ⊢
  clear hV
  have hfV := HF.out V (hb0.trans (hbv.mono hb0.size))
  have hba := basic_c m [] f hs HSUB.out V X.heap.size X.heap.size dn (.slice none 0 0) _ _ _ _ [] hbd hfV (by omega) (by omega) (by simp only [List.length_nil]; omega)
  have hcm : bs (cmB []) = ⟨#[44]⟩ := rfl
  rw [hcm, hz0] at hba
  refine hba.mono ?_
  rintro e Y ⟨rfl, v9, e1, e2, e3⟩
  have hzY := e2.size
  have hst := Lib.hid (str_c e1 (by omega))
  have hbY : Below w.heap.size w Y := (hb0.trans (hbv.mono hb0.size)).trans (e2.below (by omega) fun q hq => by rw [ob_nil] at hq; omega)
  have HBY := Lib.hid hbY
  clear hba e1 e2 e3 hbd hbv hfV hb0 hbY
  go_wp2_with fail
  refine hst.out.mono ?_
  rintro e Q ⟨rfl, hbQ⟩
  have HBQ := Lib.hid (HBY.out.trans (hbQ.mono (by omega)))
  clear hbQ hst
  go_wp2_with fail
  go_ret
  exact ⟨by rw [← HR.out]; rfl, HBQ.out⟩
theorem words_in (v0 v1 v2 v3 : Value) (f : Fo) (dn : Nat) (w : World) (hf : FoV dn w v0 v1 v2 v3 f) (hd : dn ≤ w.heap.size) :
    CallsIn Fence.wide 0 Tryd.prog 28 #[.agg #[v0, v1, v2, v3]] w fun e w' => e = .returned (.func (.func 52) #[] #[.pointer (some ⟨w.heap.size, 0, none⟩)]) ∧ Below w.heap.size w w' ∧ BoxF dn w.heap.size f w' ∧ w'.heap.size = w.heap.size + 1 := by
  have hf2 := hf.below (m := w.heap.size) ((Below.refl _ w).alloc (Nat.le_refl _) (.cells #[v0, v1, v2, v3] 25)) hd
  obtain ⟨rfl, _, rfl, _, hA, hS⟩ := hf
  obtain ⟨⟨a1, c1, rfl⟩, _⟩ := hA.form
  obtain ⟨⟨a2, c2, rfl⟩, _⟩ := hS.form
  have hF := Lib.hid hf2
  clear hf2
  refine callsIn_of_wp Tryd.func28 rfl trivial ?_ rfl
  simp only [Tryd.ntmps28, List.size_toArray, List.length_cons, List.length_nil, Nat.reduceAdd, Nat.reduceSub, Array.replicate_succ, Array.replicate_zero, List.push_toArray, List.append_toArray, List.nil_append, List.cons_append]
  gi_wp2_with fail
  go_ret
  exact ⟨rfl, (Below.refl _ _).alloc (Nat.le_refl _) _, ⟨⟨_, _, _, _, by simp, by simp, by simp, by simp, hF.out⟩, by simp, by simp; omega⟩, by simp⟩
/-- A word that is yielded. -/
def RepS (W : World) (x : ByteArray) (args : Array Value) : Prop := args = #[.string x]
/-- What words' iterator leans on. -/
structure WoR (dn B : Nat) (f : Fo) (O : Nat → Prop) (W : World) : Prop where
  b : BoxF dn B f W
  t : STab W
  nb : ¬ O B
  nt : ¬ O 0
  od : ∀ q, O q → dn ≤ q
def WoAt (f : Fo) : Prop := ∀ (B dn : Nat), IterOf Tryd.prog 52 #[.pointer (some ⟨B, 0, none⟩)] RepS ((pwB f).map bs) (WoR dn B f)
structure LfS (B Y : Nat) (x0 x1 x2 x3 : Value) (l : Nat) (w' : World) : Prop where
  c0 : w'.cell? ⟨B, 0, none⟩ = some x0
  c1 : w'.cell? ⟨B, 1, none⟩ = some x1
  c2 : w'.cell? ⟨B, 2, none⟩ = some x2
  c3 : w'.cell? ⟨B, 3, none⟩ = some x3
  y : w'.cell? ⟨Y, 0, none⟩ = some (.func (.yield l) #[] #[])
set_option maxHeartbeats 4000000 in
theorem wo_leaf (m : Bool) (f : Fo) (hs : Shp m f) (hsub : f.sub = []) (hl : (baB [] f).length ≤ 20000) : WoAt f := by
  intro B dn l n J Jx O W hJ hJx hn hR h0 ⟨hB, hT, nB, nT, hO⟩
  rw [pwB_leaf hsub] at hR ⊢
  have hOW := hJ.lt h0
  have nY : ¬ O W.heap.size := fun h => by have := hOW _ h; omega
  have hb0 : Below W.heap.size W (W.alloc (.cells #[.func (.yield l) #[] #[]] 91)) := (Below.refl _ _).alloc (Nat.le_refl _) _
  have hBX := Lib.hid (hB.below hb0 hB.lt hB.dn)
  have HB0 := Lib.hid hb0
  have hcy : (W.alloc (.cells #[.func (.yield l) #[] #[]] 91)).cell? ⟨W.heap.size, 0, none⟩ = some (.func (.yield l) #[] #[]) := World.cell?_alloc_at _ _ _ _ rfl
  obtain ⟨⟨v0, v1, v2, v3, c0, c1, c2, c3, hv⟩, hbl, hd⟩ := hB
  have hvX := hv.below hb0 hd
  obtain ⟨rfl, _, rfl, _, hA, hS⟩ := hv
  obtain ⟨⟨a1, k1, rfl⟩, _⟩ := hA.form
  obtain ⟨⟨a2, k2, rfl⟩, _⟩ := hS.form
  have hsl : f.sub.length = 0 := by rw [hsub]; rfl
  have hHeld : LfS B W.heap.size (.int .u8 f.op) (.string f.n) (.slice a1 f.args.length k1) (.slice a2 0 k2) l (W.alloc (.cells #[.func (.yield l) #[] #[]] 91)) :=
    ⟨(hb0.cell (p := ⟨B, 0, none⟩) hbl).trans c0, (hb0.cell (p := ⟨B, 1, none⟩) hbl).trans c1, (hb0.cell (p := ⟨B, 2, none⟩) hbl).trans c2, by have h := (hb0.cell (p := ⟨B, 3, none⟩) hbl).trans c3; rwa [hsl] at h, hcy⟩
  rw [hsl] at hvX c3
  have HV := Lib.hid hvX
  have HL := Lib.hid hHeld
  have HSUB := Lib.hid hsub
  clear hA hS hsub hvX hsl hcy hb0 hHeld
  refine callsIn_of_wp_marks Tryd.func52 rfl trivial ?_ rfl
  simp only [Tryd.ntmps52, List.size_toArray, List.length_cons, List.length_nil, Nat.reduceAdd, Nat.reduceSub, Array.replicate_succ, Array.replicate_zero, List.push_toArray, List.append_toArray, List.nil_append, List.cons_append]
  gi_wp2_with fail
  have hHeld := HL.out
  refine region_inS (LfS B W.heap.size (.int .u8 f.op) (.string f.n) (.slice a1 f.args.length k1) (.slice a2 0 k2) l) 4 #[false, false, false, false] (by kernel_rfl) (by kernel_rfl) (by kernel_rfl) ⟨hHeld.c0, hHeld.c1, hHeld.c2, hHeld.c3, hHeld.y⟩ (fun hHeld => ?_)
  refine anyInS_take (i := 0) (oi := ⟨some 10, _, _, _, _, _⟩) (v := .func (.yield l) #[] #[]) rfl rfl (by kernel_rfl) (by kernel_rfl) (by kernel_rfl) (fun _ _ _ h => Norm.panic h) (Or.inl ⟨by rfl, ?_⟩) (fun _ => rfl) (by assumption) ?_
  · intro w' hSw
    obtain ⟨t0, t1, t2, t3, t4⟩ := hSw
    go_simp
  simp only [Act.put, List.setIfInBounds_toArray, List.set_cons_zero, List.set_cons_succ]
  refine anyInS_take (i := 1) (oi := ⟨some 11, _, _, _, _, _⟩) (v := .agg #[.int .u8 f.op, .string f.n, .slice a1 f.args.length k1, .slice a2 0 k2]) rfl rfl (by kernel_rfl) (by kernel_rfl) (by kernel_rfl) (fun _ _ _ h => Norm.panic h) (Or.inl ⟨by rfl, ?_⟩) (fun _ => rfl) (by assumption) ?_
  · intro w' hSw
    obtain ⟨t0, t1, t2, t3, t4⟩ := hSw
    go_simp
  simp only [Act.put, List.setIfInBounds_toArray, List.set_cons_zero, List.set_cons_succ]
  refine anyInS_one (i := 2) (oi := ⟨some 12, _, _, _, _, _⟩) rfl (by kernel_rfl) (by rfl) (fun _ _ => trivial) (fun K hK => ?_)
  refine op_wide ?_
  go_simp
  have hX : Below W.heap.size W (W.alloc (.cells #[.func (.yield l) #[] #[]] 91)).drew := HB0.out.drew
  have hvX : FoV dn (W.alloc (.cells #[.func (.yield l) #[] #[]] 91)).drew (.int .u8 f.op) (.string f.n) (.slice a1 f.args.length k1) (.slice a2 0 k2) f := HV.out.below (n := dn) (m := (W.alloc (.cells #[.func (.yield l) #[] #[]] 91)).heap.size) (Below.refl _ _).drew (by simp; omega)
  generalize hXX : (W.alloc (.cells #[.func (.yield l) #[] #[]] 91)).drew = X at *
  have hzX := hX.size
  refine (oneWord_c m f hs HSUB.out hl _ _ _ _ dn X hvX (by omega)).mono ?_
  rintro e V ⟨rfl, hbV⟩
  have hzV := hbV.size
  have hzX1 : W.heap.size + 1 = X.heap.size := by rw [← hXX]; simp
  have hHeld := (⟨(hbV.cell (p := ⟨B, 0, none⟩) (by show B < _; omega)).trans hHeld.c0, (hbV.cell (p := ⟨B, 1, none⟩) (by show B < _; omega)).trans hHeld.c1, (hbV.cell (p := ⟨B, 2, none⟩) (by show B < _; omega)).trans hHeld.c2, (hbV.cell (p := ⟨B, 3, none⟩) (by show B < _; omega)).trans hHeld.c3, (hbV.cell (p := ⟨W.heap.size, 0, none⟩) (by show W.heap.size < _; omega)).trans hHeld.y⟩ : LfS B W.heap.size (.int .u8 f.op) (.string f.n) (.slice a1 f.args.length k1) (.slice a2 0 k2) l V)
  refine hK _ _ hHeld ?_
  clear hK K
  simp only [Act.put, List.setIfInBounds_toArray, List.set_cons_zero, List.set_cons_succ]
  have hWV : Below W.heap.size W V := hX.trans (hbV.mono hX.size)
  have h0V : J 0 O V := hJ.keep h0 (hWV.mono hn) (fun b hb => hWV.block b (hOW b hb))
  obtain ⟨fn, tmps, assign, body, hy, hRd⟩ := hR 0 (bs (baB [] f)) O V #[.string (bs (baB [] f))] h0V rfl rfl
  refine anyInS_one (i := 3) (oi := ⟨some 13, _, _, _, _, _⟩) rfl (by kernel_rfl) (by rfl) (fun _ _ => trivial) (fun K hK => ?_)
  unfold Oper.wpIn
  refine ⟨fun _ _ => trivial, ?_⟩
  go_simp
  refine ⟨rfl, RoundIn.mono hRd ?_⟩
  clear hRd hy
  rintro e U ⟨O4, hs4, hg4, hcase⟩
  have hHU := (⟨(hg4.cell (p := ⟨B, 0, none⟩) (by show B < _; omega) nB).trans hHeld.c0, (hg4.cell (p := ⟨B, 1, none⟩) (by show B < _; omega) nB).trans hHeld.c1, (hg4.cell (p := ⟨B, 2, none⟩) (by show B < _; omega) nB).trans hHeld.c2, (hg4.cell (p := ⟨B, 3, none⟩) (by show B < _; omega) nB).trans hHeld.c3, (hg4.cell (p := ⟨W.heap.size, 0, none⟩) (by show W.heap.size < _; omega) nY).trans hHeld.y⟩ : LfS B W.heap.size (.int .u8 f.op) (.string f.n) (.slice a1 f.args.length k1) (.slice a2 0 k2) l U)
  have hF := Lib.hid (show ∃ O', Fm.Sub O W.heap.size O' ∧ Grow O W U ∧ (J 1 O' U ∨ Jx O' U) from ⟨O4, (Sub.refl _ _).trans hs4 (by omega), (Grow.of_below (O := O) hWV).trans hg4 (Sub.refl _ _), hcase.imp (fun h => h.2) (fun h => h.2)⟩)
  have he : ∃ bb, e = .returned (.bool bb) := hcase.elim (fun h => ⟨_, h.1⟩) (fun h => ⟨_, h.1⟩)
  obtain ⟨bb, rfl⟩ := he
  clear hcase hs4 hg4
  refine hK _ _ hHU ?_
  clear hK K
  simp only [Act.put, List.setIfInBounds_toArray, List.set_cons_zero, List.set_cons_succ]
  refine anyInS_done (by kernel_rfl) ?_
  refine Norm.normal ?_
  clear hHU hHeld c0 c1 c2 c3
  gi_wp2
  exact ⟨_, results_none rfl _ _ _, ⟨_, rfl⟩, hF.out⟩
end Go.Proofs.YtdapnjnmhkdnpaaDoor.Fb
