/-
  The contract of Full.
-/
import Derived.Test.YtdapnjnmhkdnpaaDoorFtTexts
namespace Go.Proofs.YtdapnjnmhkdnpaaDoor.Fb
open Go Go.RowKit Go.Shelf Go.Proofs.YtdapnjnmhkdnpaaDoor.Fm Go.Proofs.YtdapnjnmhkdnpaaDoor.Lx Go.Proofs.YtdapnjnmhkdnpaaDoor.Ps Go.Proofs.YtdapnjnmhkdnpaaDoor.Ft
set_option linter.unusedVariables false
set_option linter.unusedSimpArgs false
/-- What a text's function gives. -/
def TxtR (r : Bool) (x : Bs) : Value := .tuple #[.string (if r then bs x else ⟨#[]⟩), .int .i64 (if r then 0 else 2)]
theorem TxtR_ok (x : Bs) : TxtR true x = .tuple #[.string (bs x), .int .i64 0] := rfl
theorem TxtR_er (x : Bs) : TxtR false x = .tuple #[.string ⟨#[]⟩, .int .i64 2] := rfl
theorem bd_new (w : World) : Bw (w.alloc (.cells #[.pointer none, .slice none 0 0] 53)) w.heap.size w.heap.size (.slice none 0 0) [] := Bw.new (Nat.le_refl _) (World.alloc_heap_new w _)
set_option maxHeartbeats 4000000 in
set_option maxRecDepth 20000 in
theorem full_c (v0 v1 v2 v3 : Value) (f : Fo) (dn : Nat) (w : World) (hf : FoV dn w v0 v1 v2 v3 f) (hd : dn ≤ w.heap.size) (hT : RTab w) (hS : STab w) :
    Calls Tryd.prog 10 #[.agg #[v0, v1, v2, v3]] w fun e w' => e = .returned (TxtR (rightB true f) (foB brB f)) ∧ Below w.heap.size w w' := by
  have hb0 : Below w.heap.size w (w.alloc (.cells #[v0, v1, v2, v3] 25)) := (Below.refl _ _).alloc (Nat.le_refl _) _
  have hs := schema_c v0 v1 v2 v3 f dn _ (hf.below hb0 hd) (by simp; omega) (hT.below hb0 hT.1)
  obtain ⟨p0, p1, p2, p3, pz⟩ := box4 w v0 v1 v2 v3 25
  have hbx : BoxS w.heap.size v0 v1 v2 v3 (w.alloc (.cells #[v0, v1, v2, v3] 25)) := ⟨p0, p1, p2, p3⟩
  have HF := Lib.hid (fun w1 (h : Below w.heap.size w w1) => hf.below h hd)
  have HST := Lib.hid hS
  have hop := fov_opsOk hf
  obtain ⟨rfl, _, rfl, hok, hA, hS'⟩ := hf
  obtain ⟨⟨a1, k1, rfl⟩, _⟩ := hA.form
  obtain ⟨⟨a2, k2, rfl⟩, _⟩ := hS'.form
  have HALL := Lib.hid (⟨hs, hbx, pz, hb0⟩ : _ ∧ _ ∧ _ ∧ _)
  have HOP := Lib.hid hop
  obtain ⟨R, hR⟩ : ∃ R, TxtR (rightB true f) (foB brB f) = R := ⟨_, rfl⟩
  rw [hR]
  have HR := Lib.hid hR
  clear hA hS' hok hb0 hT hS hs hbx pz p0 p1 p2 p3 hop hR
  go_enter Tryd.func10, Tryd.ntmps10
  go_wp2_with fail
  refine HALL.out.1.mono ?_
  rintro e w1 ⟨rfl, hb1⟩
  obtain ⟨hs, hbx, pz, hb0⟩ := HALL.out
  have hb01 := hb0.trans (hb1.mono hb0.size)
  have hbx1 := hbx.grow (Grow.of_below (O := fun _ => False) hb1) pz (fun h => h)
  have hz1 := hb1.size
  have hzw : w.heap.size < w1.heap.size := Nat.lt_of_lt_of_le pz hz1
  have HB1 := Lib.hid hb01
  clear HALL hs hbx pz hb0 hb1 hz1 hb01
  by_cases hr : rightB true f = true
  rotate_left
  · have hr : rightB true f = false := by simpa using hr
    have hRR := HR.out
    rw [hr, TxtR_er] at hRR
    rw [hr]
    have HRR := Lib.hid hRR
    clear hr hRR HR
    go_wp2_with fail
    (try simp only [Exit.inBlock, Exit.then])
    refine bodyPost_ret (v := .tuple #[.string ⟨#[]⟩, .int .i64 2]) (by simp [results, Tryd.results10, go_sem]) rfl ?_
    exact ⟨by rw [← HRR.out], HB1.out⟩
  · have hRR := HR.out
    rw [hr, TxtR_ok] at hRR
    rw [hr]
    have HRR := Lib.hid hRR
    have HRT := Lib.hid hr
    have HBX := Lib.hid hbx1
    clear hr hRR HR hbx1
    go_wp2_with fail
    have hbd := bd_new w1
    have hbv : Below w1.heap.size w1 (w1.alloc (.cells #[.pointer none, .slice none 0 0] 53)) := (Below.refl _ _).alloc (Nat.le_refl _) _
    have hzV : (w1.alloc (.cells #[.pointer none, .slice none 0 0] 53)).heap.size = w1.heap.size + 1 := by simp
    obtain ⟨V, hV⟩ : ∃ V, w1.alloc (.cells #[.pointer none, .slice none 0 0] 53) = V := ⟨_, rfl⟩
    rw [hV] at hbd hbv hzV ⊢
    clear hV
    have HZV := Lib.hid hzV
    have hbx := HBX.out.grow (Grow.of_below (O := fun _ => False) hbv) hzw (fun h => h)
    have hHeld : BoxS w.heap.size (.int .u8 f.op) (.string f.n) (.slice a1 f.args.length k1) (.slice a2 f.sub.length k2) V.drew := ⟨hbx.c0, hbx.c1, hbx.c2, hbx.c3⟩
    refine wp_region_S (BoxS w.heap.size (.int .u8 f.op) (.string f.n) (.slice a1 f.args.length k1) (.slice a2 f.sub.length k2)) [] 3 #[false, false, false] (by kernel_rfl) (by kernel_rfl) (by kernel_rfl) hHeld (fun hHeld => ?_)
    refine wpAnyS_take (i := 1) (oi := ⟨some 9, _, _, _, _, _⟩) (v := .agg #[.int .u8 f.op, .string f.n, .slice a1 f.args.length k1, .slice a2 f.sub.length k2]) rfl (by kernel_rfl) (by kernel_rfl) (by kernel_rfl) (by kernel_rfl) (fun _ _ _ h => Norm.panic h) (Or.inl ⟨by rfl, ?_⟩) (by assumption) ?_
    · intro w' hSw
      obtain ⟨t0, t1, t2, t3⟩ := hSw
      go_simp
    simp only [Act.put, List.setIfInBounds_toArray, List.set_cons_zero, List.set_cons_succ]
    refine wpAnyS_one (i := 0) (oi := ⟨some 8, _, _, _, _, _⟩) rfl (by kernel_rfl) (by rfl) (fun K hK => ?_)
    go_simp
    have hsV : STab V.drew := (HST.out.keep (HB1.out.block _ HST.out.1) HB1.out.size).keep (hbv.block _ (Nat.lt_of_lt_of_le HST.out.1 HB1.out.size)) hbv.size
    refine (texts_c w1.heap.size 25 V.drew hsV).mono ?_
    rintro e U ⟨rfl, hbU, hTx, hzU⟩
    have hVd : Below V.heap.size V U := (Below.refl V.heap.size V).drew.trans hbU
    have hHeld := hbx.grow (Grow.of_below (O := fun _ => False) hVd) (by omega) (fun h => h)
    refine hK _ _ (fun _ => hHeld) ?_
    clear hK K
    simp only [Act.put, List.setIfInBounds_toArray, List.set_cons_zero, List.set_cons_succ]
    refine wpAnyS_one (i := 2) (oi := ⟨some 10, _, _, _, _, _⟩) rfl (by kernel_rfl) (by rfl) (fun K hK => ?_)
    simp only [wrF]
    go_simp
    have hVz : V.drew.heap.size = V.heap.size := rfl
    have hzV := HZV.out
    rw [hVz, hzV] at hTx hzU
    have hbdU : Bw U w1.heap.size w1.heap.size (.slice none 0 0) [] := hbd.below hVd (Nat.le_refl _)
    have hTN : TxN w1.heap.size (w1.heap.size + 1) (.slice none 0 0) := fun q hq => by
      rw [ob_nil] at hq
      subst hq
      have h1 := HST.out.1
      have h2 := HB1.out.size
      refine ⟨by omega, by omega, by omega, by omega, fun h => ?_⟩
      omega
    have hfU := HF.out U (HB1.out.trans ((hbv.trans (hVd.mono hbv.size)).mono HB1.out.size))
    have hlen := foB_len HRT.out HOP.out brB
    have hw := write_c true brB 25 binary_ok _ f (Nat.lt_succ_self _) 1 (fok_right HRT.out HOP.out) (Int.le_refl _) U w1.heap.size w1.heap.size dn (w1.heap.size + 1) (.slice none 0 0) _ _ _ _ [] hbdU hfU hTx hTN (by omega) (by omega) (by simp only [List.length_nil]; omega)
    refine hw.mono ?_
    rintro e Y ⟨rfl, v9, e1, e2, e3⟩
    have hHeld := hHeld.grow e2 (by omega) (fun h => by rw [ob_nil] at h; omega)
    refine hK _ _ (fun _ => hHeld) ?_
    clear hK K
    simp only [Act.put, List.setIfInBounds_toArray, List.set_cons_zero, List.set_cons_succ]
    refine wpAnyS_done (by kernel_rfl) ?_
    refine Norm.normal ?_
    have hzY := e2.size
    have hst := Lib.hid (str_c e1 (by omega))
    have hbY : Below w1.heap.size w1 Y := (hbv.trans (hVd.mono hbv.size)).trans (e2.below (by omega) fun q hq => by rw [ob_nil] at hq; omega)
    have HBY := Lib.hid (HB1.out.trans (hbY.mono HB1.out.size))
    clear hw e1 e2 e3 hHeld hbdU hTN hfU hlen hTx hVd hbU hbY hbd hbv hbx
    go_wp2_with fail
    refine hst.out.mono ?_
    rintro e Q ⟨rfl, hbQ⟩
    have HBQ := Lib.hid (HBY.out.trans (hbQ.mono HB1.out.size))
    clear hbQ hst
    go_wp2_with fail
    (try simp only [Exit.inBlock, Exit.then])
    refine bodyPost_ret (v := .tuple #[.string (bs ([] ++ foB brB f)), .int .i64 0]) (by simp [results, Tryd.results10, go_sem]) rfl ?_
    exact ⟨by rw [← HRR.out, List.nil_append], HBQ.out⟩
end Go.Proofs.YtdapnjnmhkdnpaaDoor.Fb
