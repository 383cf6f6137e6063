/-
  The words of every right schema; the contract of Prefix.
-/
import Derived.Test.YtdapnjnmhkdnpaaDoorMgWo
import Derived.Test.YtdapnjnmhkdnpaaDoorFtJoinS
namespace Go.Proofs.YtdapnjnmhkdnpaaDoor.Fb
open Go Go.RowKit Go.Shelf Go.Proofs.YtdapnjnmhkdnpaaDoor.Fm Go.Proofs.YtdapnjnmhkdnpaaDoor.Lx Go.Proofs.YtdapnjnmhkdnpaaDoor.Ps Go.Proofs.YtdapnjnmhkdnpaaDoor.Ft
set_option linter.unusedVariables false
set_option linter.unusedSimpArgs false
theorem var_size {n : ByteArray} (h : varB n = true) : n.size ≠ 0 := fun e => by
  have hn : n = ⟨#[]⟩ := by
    obtain ⟨⟨l⟩⟩ := n
    have : l.length = 0 := e
    rw [List.length_eq_zero_iff] at this
    rw [this]
  rw [hn] at h
  exact absurd h (by decide +kernel)
theorem wo_all {m : Bool} (N : Nat) : ∀ f, SizeOf.sizeOf f < N → ∀ (lv : Int), FoK m lv f → 1 ≤ lv → tl (pwB f) ≤ 20000 → WoAt f := by
  induction N with
  | zero => exact fun f h => absurd h (Nat.not_lt_zero _)
  | succ N ih =>
    intro f hN lv hf h1 htl
    by_cases hs : f.sub = []
    · refine wo_leaf m f hf.shape hs ?_
      rw [pwB_leaf hs, tl_cons, tl_nil] at htl
      omega
    · have hsub : ∀ i (h : i < f.sub.length), WoAt f.sub[i] := by
        intro i hi
        have hg : f.sub[i] ∈ f.sub := List.getElem_mem hi
        have hlt : SizeOf.sizeOf f.sub[i] < SizeOf.sizeOf f := by
          generalize f.sub[i] = g at hg
          obtain ⟨o, n, a, ss⟩ := f
          have : SizeOf.sizeOf g < SizeOf.sizeOf ss := List.sizeOf_lt_of_mem hg
          simp only [Fo.mk.sizeOf_spec]; omega
        have ht : tl (pwB f.sub[i]) ≤ tl (pwB f) := by
          rw [pwB_node hs, tl_cons, tl_app]
          obtain ⟨p, q, e⟩ := List.append_of_mem hg
          generalize f.sub[i] = g at e
          rw [e, List.flatMap_append, List.flatMap_cons, tl_app, tl_app]
          omega
        exact ih _ (by omega) (lv + 1) (hf.sub h1 hg) (by omega) (by omega)
      cases hf.shape with
      | ato => exact absurd rfl hs
      | fal => exact absurd rfl hs
      | met => exact absurd rfl hs
      | ins => exact absurd rfl hs
      | @qua o n g ho hn =>
        obtain ⟨k, rfl⟩ := Int.eq_ofNat_of_zero_le (show 0 ≤ o by omega)
        exact wo_Q _ k rfl (by omega) (by omega) rfl (var_size hn) hsub
      | @una o g ho =>
        obtain ⟨k, rfl⟩ := Int.eq_ofNat_of_zero_le (show 0 ≤ o by omega)
        exact wo_U _ k rfl (by omega) (by omega) rfl rfl hsub
      | @bin o g h ho =>
        obtain ⟨k, rfl⟩ := Int.eq_ofNat_of_zero_le (show 0 ≤ o by omega)
        exact wo_B _ k rfl (by omega) (by omega) rfl rfl hsub
set_option maxHeartbeats 1000000 in
theorem pre1_c (w : World) (B b : Nat) (v : Value) (l : Bs) (s : ByteArray) (h : Bw w B b v l) (hlen : l.length + s.size ≤ 140737488355328) (hBw : B ≤ w.heap.size) :
    Calls Tryd.prog 29 #[.string s, .pointer (some ⟨b, 0, none⟩)] w fun e w' => e = .returned (.tuple #[]) ∧ Wr B b v l w w' s.data.toList := by
  have HW := Lib.hid (wrS h s hlen hBw)
  clear h
  go_enter Tryd.func29, Tryd.ntmps29
  go_wp2_with fail
  refine HW.out.mono ?_
  rintro e W ⟨rfl, hw⟩
  have HH := Lib.hid hw
  clear hw HW
  go_wp2_with fail
  go_end0
  exact ⟨rfl, HH.out⟩
theorem words_out (l : List Bs) : (l.map bs).map (fun s => s.data.toList) = l := by
  rw [List.map_map]
  exact List.map_id'' (fun x => rfl) l
set_option maxHeartbeats 4000000 in
set_option maxRecDepth 20000 in
theorem prefix_c (v0 v1 v2 v3 : Value) (f : Fo) (dn : Nat) (w : World) (hf : FoV dn w v0 v1 v2 v3 f) (hd : dn ≤ w.heap.size) (hT : RTab w) (hS : STab w) :
    Calls Tryd.prog 11 #[.agg #[v0, v1, v2, v3]] w fun e w' => e = .returned (TxtR (rightB true f) (pfB f)) ∧ Below w.heap.size w w' := by
  have hb0 : Below w.heap.size w (w.alloc (.cells #[v0, v1, v2, v3] 25)) := (Below.refl _ _).alloc (Nat.le_refl _) _
  have hs := schema_c v0 v1 v2 v3 f dn _ (hf.below hb0 hd) (by simp; omega) (hT.below hb0 hT.1)
  obtain ⟨p0, p1, p2, p3, pz⟩ := box4 w v0 v1 v2 v3 25
  have hbx : BoxS w.heap.size v0 v1 v2 v3 (w.alloc (.cells #[v0, v1, v2, v3] 25)) := ⟨p0, p1, p2, p3⟩
  have HF := Lib.hid (fun w1 (h : Below w.heap.size w w1) => hf.below h hd)
  have HST := Lib.hid hS
  have hop := fov_opsOk hf
  obtain ⟨rfl, _, rfl, hok, hA, hS'⟩ := hf
  obtain ⟨⟨a1, k1, rfl⟩, _⟩ := hA.form
  obtain ⟨⟨a2, k2, rfl⟩, _⟩ := hS'.form
  have HALL := Lib.hid (⟨hs, hbx, pz, hb0⟩ : _ ∧ _ ∧ _ ∧ _)
  have HOP := Lib.hid hop
  obtain ⟨R, hR⟩ : ∃ R, TxtR (rightB true f) (pfB f) = R := ⟨_, rfl⟩
  rw [hR]
  have HR := Lib.hid hR
  clear hA hS' hok hb0 hT hS hs hbx pz p0 p1 p2 p3 hop hR
  go_enter Tryd.func11, Tryd.ntmps11
  go_wp2_with fail
  refine HALL.out.1.mono ?_
  rintro e w1 ⟨rfl, hb1⟩
  obtain ⟨hs, hbx, pz, hb0⟩ := HALL.out
  have hb01 := hb0.trans (hb1.mono hb0.size)
  have hbx1 := hbx.grow (Grow.of_below (O := fun _ => False) hb1) pz (fun h => h)
  have hz1 := hb1.size
  have hzw : w.heap.size < w1.heap.size := Nat.lt_of_lt_of_le pz hz1
  have HB1 := Lib.hid hb01
  clear HALL hs hbx pz hb0 hb1 hz1 hb01
  by_cases hr : rightB true f = true
  rotate_left
  · have hr : rightB true f = false := by simpa using hr
    have hRR := HR.out
    rw [hr, TxtR_er] at hRR
    rw [hr]
    have HRR := Lib.hid hRR
    clear hr hRR HR
    go_wp2_with fail
    (try simp only [Exit.inBlock, Exit.then])
    refine bodyPost_ret (v := .tuple #[.string ⟨#[]⟩, .int .i64 2]) (by simp [results, Tryd.results11, go_sem]) rfl ?_
    exact ⟨by rw [← HRR.out], HB1.out⟩
  · have hRR := HR.out
    rw [hr, TxtR_ok] at hRR
    rw [hr]
    have HRR := Lib.hid hRR
    have HRT := Lib.hid hr
    have HBX := Lib.hid hbx1
    have hbd := bd_new w1
    have hbv : Below w1.heap.size w1 (w1.alloc (.cells #[.pointer none, .slice none 0 0] 53)) := (Below.refl _ _).alloc (Nat.le_refl _) _
    have hzV : (w1.alloc (.cells #[.pointer none, .slice none 0 0] 53)).heap.size = w1.heap.size + 1 := by simp
    obtain ⟨c0, c1, c2, c3⟩ := HBX.out.grow (Grow.of_below (O := fun _ => False) hbv) hzw (fun h => h)
    have HALL := Lib.hid (⟨hbd, hbv, hzV⟩ : _ ∧ _ ∧ _)
    clear hr hRR HR hbx1 hbd hbv hzV
    go_wp2_with fail
    obtain ⟨hbd, hbv, hzV⟩ := HALL.out
    clear HALL c0 c1 c2 c3
    obtain ⟨V, hV⟩ : ∃ V, w1.alloc (.cells #[.pointer none, .slice none 0 0] 53) = V := ⟨_, rfl⟩
    rw [hV] at hbd hbv hzV ⊢
    clear hV
    have HBD := Lib.hid hbd
    have HBV := Lib.hid hbv
    have HZV := Lib.hid hzV
    have hfV := HF.out V (HB1.out.trans (hbv.mono HB1.out.size))
    clear hbd hbv hzV
    refine (callsIn_wide.1 (words_in _ _ _ _ f dn V hfV (by have := HB1.out.size; have := HBV.out.size; omega))).mono ?_
    rintro e U ⟨rfl, hbU, hbox, hzU⟩
    have HU := Lib.hid (⟨hbU, hbox, hzU⟩ : _ ∧ _ ∧ _)
    clear hbU hbox hzU hfV
    go_wp2_with fail
    obtain ⟨hbU, hbox, hzU⟩ := HU.out
    have hzV := HZV.out
    have hsig : 0 < w.heap.size := HST.out.1
    have hz1 := HB1.out.size
    have hbwU : Below w1.heap.size w1 U := HBV.out.trans (hbU.mono HBV.out.size)
    have hbdU : Bw U w1.heap.size w1.heap.size (.slice none 0 0) [] := HBD.out.below hbU (Nat.le_refl _)
    have hsU : STab U := HST.out.keep ((hbwU.block _ (by omega)).trans (HB1.out.block _ HST.out.1)) (Nat.le_trans hz1 hbwU.size)
    have hG : ∀ q, G0 w1.heap.size (.slice none 0 0) U.heap.size q → q = w1.heap.size ∨ U.heap.size ≤ q := fun q hq => hq.imp (fun h => (ob_nil _ _).1 h) (fun h => h)
    have hGd : ∀ q, G0 w1.heap.size (.slice none 0 0) U.heap.size q → dn ≤ q := fun q hq => (hG q hq).elim (fun h => by omega) fun h => by omega
    have hGV : ¬ G0 w1.heap.size (.slice none 0 0) U.heap.size V.heap.size := fun h => (hG _ h).elim (fun h => by omega) fun h => by omega
    have hGs : ¬ G0 w1.heap.size (.slice none 0 0) U.heap.size 0 := fun h => (hG _ h).elim (fun h => by omega) fun h => by omega
    have hlen := pf_len HRT.out HOP.out
    have hjl := jn_tl (pwB f)
    have hjoin := joinS_in U.heap.size U rfl w1.heap.size w1.heap.size (.slice none 0 0) [] hbdU (by omega) 52 #[.pointer (some ⟨V.heap.size, 0, none⟩)] (enters_of Tryd.func52 (by kernel_rfl) rfl)
      RepS ((pwB f).map bs) (WoR dn V.heap.size f) (wo_all _ f (Nat.lt_succ_self _) 1 (fok_right HRT.out HOP.out) (Int.le_refl _) (by omega) V.heap.size dn) (by rintro W x args rfl; exact ⟨x, rfl⟩)
      (fun s => s.data.toList) 29 #[.pointer (some ⟨w1.heap.size, 0, none⟩)] (enters_of Tryd.func29 (by kernel_rfl) rfl) ⟨#[32]⟩
      (fun W => BoxF dn V.heap.size f W ∧ STab W) (fun W W' hz hg => ⟨hz.1.grow hg hGV hGd, hz.2.grow hg hGs⟩) (fun W W' x args _ h _ => h) ⟨hbox, hsU⟩
      (fun O W hz hH hO => ⟨hz.1, hz.2, fun h => hGV (hO _ h), fun h => hGs (hO _ h), fun q hq => hGd q (hO q hq)⟩) 140737488355328 (by omega)
      (by
        rintro k x W args u m hx rfl hz hH hs hbu hm
        exact pre1_c W w1.heap.size w1.heap.size u m x hbu (by simpa using hm) (by omega))
      (by
        rw [words_out]
        simp only [List.length_nil]
        show 0 + (jn [32] (pwB f)).length ≤ 140737488355328
        omega)
    rw [words_out] at hjoin
    refine (callsIn_wide.1 hjoin).mono ?_
    rintro e Y ⟨rfl, v9, e1, e2, e3⟩
    have hzY := e2.size
    have hst := Lib.hid (str_c e1 (by omega))
    have hbY : Below w1.heap.size w1 Y := hbwU.trans (e2.below (by omega) fun q hq => by rw [ob_nil] at hq; omega)
    have HBY := Lib.hid (HB1.out.trans (hbY.mono HB1.out.size))
    clear hjoin e1 e2 e3 hbdU hbox hsU hbU hbwU hbY hG hGd hGV hGs hlen hjl
    go_wp2_with fail
    refine hst.out.mono ?_
    rintro e Q ⟨rfl, hbQ⟩
    have HBQ := Lib.hid (HBY.out.trans (hbQ.mono HB1.out.size))
    clear hbQ hst
    go_wp2_with fail
    (try simp only [Exit.inBlock, Exit.then])
    refine bodyPost_ret (v := .tuple #[.string (bs ([] ++ jn (⟨#[32]⟩ : ByteArray).data.toList (pwB f))), .int .i64 0]) (by simp [results, Tryd.results11, go_sem]) rfl ?_
    exact ⟨by rw [← HRR.out]; rfl, HBQ.out⟩
end Go.Proofs.YtdapnjnmhkdnpaaDoor.Fb
