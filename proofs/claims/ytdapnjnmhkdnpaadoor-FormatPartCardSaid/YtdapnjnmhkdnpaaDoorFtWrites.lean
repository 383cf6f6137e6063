/-
  The statements' own check of a formula's three texts.
-/
import Derived.Test.YtdapnjnmhkdnpaaDoorFtPrefix
import Derived.Test.YtdapnjnmhkdnpaaDoorFtForms
namespace Go.Proofs.YtdapnjnmhkdnpaaDoor.Fb
open Go Go.RowKit Go.Shelf Go.Proofs.YtdapnjnmhkdnpaaDoor.Fm Go.Proofs.YtdapnjnmhkdnpaaDoor.Lx Go.Proofs.YtdapnjnmhkdnpaaDoor.Ps Go.Proofs.YtdapnjnmhkdnpaaDoor.Ft
set_option linter.unusedVariables false
set_option linter.unusedSimpArgs false
set_option maxHeartbeats 4000000 in
set_option maxRecDepth 20000 in
theorem writes_c (v0 v1 v2 v3 : Value) (f : Fo) (dn : Nat) (w : World) (hf : FoV dn w v0 v1 v2 v3 f) (hd : dn ≤ w.heap.size) (hT : RTab w) (hS : STab w) (hr : rightB true f = true) (t u x : ByteArray) (ht : bs (foB brN f) = t) (hu : bs (foB brB f) = u) (hx : bs (pfB f) = x) :
    Calls Tryd.prog 22 #[.agg #[v0, v1, v2, v3], .string t, .string u, .string x] w fun e w' => e = .returned (.bool true) ∧ Below w.heap.size w w' := by
  have HF := Lib.hid (fun w1 (h : Below w.heap.size w w1) => (⟨hf.below h hd, hT.below h hT.1, hS.below h⟩ : _ ∧ _ ∧ _))
  have hb0 : Below w.heap.size w (w.alloc (.cells #[v0, v1, v2, v3] 25)) := (Below.refl _ _).alloc (Nat.le_refl _) _
  obtain ⟨p0, p1, p2, p3, pz⟩ := box4 w v0 v1 v2 v3 25
  have hbx : BoxS w.heap.size v0 v1 v2 v3 (w.alloc (.cells #[v0, v1, v2, v3] 25)) := ⟨p0, p1, p2, p3⟩
  have HX := Lib.hid (fun w1 (h : Below (w.alloc (.cells #[v0, v1, v2, v3] 25)).heap.size (w.alloc (.cells #[v0, v1, v2, v3] 25)) w1) => hbx.grow (Grow.of_below (O := fun _ => False) h) pz (fun h => h))
  have HD := Lib.hid hd
  have HR := Lib.hid (⟨hr, ht, hu, hx⟩ : _ ∧ _ ∧ _ ∧ _)
  obtain ⟨rfl, _, rfl, hok, hA, hS'⟩ := hf
  obtain ⟨⟨a1, k1, rfl⟩, _⟩ := hA.form
  obtain ⟨⟨a2, k2, rfl⟩, _⟩ := hS'.form
  have HB0 := Lib.hid hb0
  have HP := Lib.hid (⟨p0, p1, p2, p3, pz⟩ : _ ∧ _ ∧ _ ∧ _ ∧ _)
  clear hA hS' hok hT hS hd hr ht hu hx hb0 hbx p0 p1 p2 p3 pz
  go_enter Tryd.func22, Tryd.ntmps22
  go_wp2_with fail
  have hb0 := HB0.out
  have hst := HF.out _ hb0
  have hzz := hb0.size
  have hdd := HD.out
  generalize hY0 : w.alloc (.cells #[.int .u8 f.op, .string f.n, .slice a1 f.args.length k1, .slice a2 f.sub.length k2] 25) = Y0 at *
  refine (form_c _ _ _ _ f dn Y0 hst.1 (by omega) hst.2.1 hst.2.2).mono ?_
  rintro e Y1 ⟨rfl, hb1⟩
  rw [HR.out.1, TxtR_ok, HR.out.2.1]
  have hb01 := hb0.trans (hb1.mono hb0.size)
  have HB1 := Lib.hid hb01
  have HBY := Lib.hid hb1
  obtain ⟨c0, c1, c2, c3⟩ := HX.out Y1 hb1
  clear hb1 hb0 hst hb01 hzz hdd HB0 HP
  go_wp2_with fail
  have hst := HF.out _ HB1.out
  clear c0 c1 c2 c3
  refine (full_c _ _ _ _ f dn Y1 hst.1 (by have := HB1.out.size; have := HD.out; omega) hst.2.1 hst.2.2).mono ?_
  rintro e Y2 ⟨rfl, hb2⟩
  rw [HR.out.1, TxtR_ok, HR.out.2.2.1]
  have HB2 := Lib.hid (HB1.out.trans (hb2.mono HB1.out.size))
  have HBZ := Lib.hid (HBY.out.trans (hb2.mono HBY.out.size))
  obtain ⟨c0, c1, c2, c3⟩ := HX.out Y2 HBZ.out
  clear hb2 hst
  go_wp2_with fail
  have hst := HF.out _ HB2.out
  clear c0 c1 c2 c3
  refine (prefix_c _ _ _ _ f dn Y2 hst.1 (by have := HB2.out.size; have := HD.out; omega) hst.2.1 hst.2.2).mono ?_
  rintro e Y3 ⟨rfl, hb3⟩
  rw [HR.out.1, TxtR_ok, HR.out.2.2.2]
  have HB3 := Lib.hid (HB2.out.trans (hb3.mono HB2.out.size))
  clear hb3 hst HX hY0
  go_wp2_with fail
  go_ret
  exact ⟨rfl, HB3.out⟩
end Go.Proofs.YtdapnjnmhkdnpaaDoor.Fb
