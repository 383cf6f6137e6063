/-
  The closures of texts: write writes a formula.
-/
import Derived.Test.YtdapnjnmhkdnpaaDoorFtPart
import Derived.Test.YtdapnjnmhkdnpaaDoorFtApartT
namespace Go.Proofs.YtdapnjnmhkdnpaaDoor.Fb
open Go Go.RowKit Go.Shelf Go.Proofs.YtdapnjnmhkdnpaaDoor.Fm Go.Proofs.YtdapnjnmhkdnpaaDoor.Lx Go.Proofs.YtdapnjnmhkdnpaaDoor.Ps Go.Proofs.YtdapnjnmhkdnpaaDoor.Ft
set_option linter.unusedVariables false
set_option linter.unusedSimpArgs false
/-- The cells of a form's box. -/
structure BoxS (P : Nat) (x0 x1 x2 x3 : Value) (w' : World) : Prop where
  c0 : w'.cell? ⟨P, 0, none⟩ = some x0
  c1 : w'.cell? ⟨P, 1, none⟩ = some x1
  c2 : w'.cell? ⟨P, 2, none⟩ = some x2
  c3 : w'.cell? ⟨P, 3, none⟩ = some x3
theorem BoxS.grow {P : Nat} {x0 x1 x2 x3 : Value} {O : Nat → Prop} {W W' : World} (h : BoxS P x0 x1 x2 x3 W) (hg : Grow O W W') (h1 : P < W.heap.size) (n1 : ¬ O P) : BoxS P x0 x1 x2 x3 W' :=
  ⟨(hg.cell (p := ⟨P, 0, none⟩) h1 n1).trans h.c0, (hg.cell (p := ⟨P, 1, none⟩) h1 n1).trans h.c1, (hg.cell (p := ⟨P, 2, none⟩) h1 n1).trans h.c2, (hg.cell (p := ⟨P, 3, none⟩) h1 n1).trans h.c3⟩
/-- The state between two writes. -/
structure MidS (B b dn H bk : Nat) (l : Bs) (P : Nat) (x0 x1 x2 x3 : Value) (f : Fo) (v : Value) (W0 : World) (v0 : Value) (x : Bs) (w : World) : Prop where
  bd : Bw w B b v (l ++ x)
  fo : FoV dn w x0 x1 x2 x3 f
  t : TxS b H bk w
  n : TxN b H v
  bx : BoxS P x0 x1 x2 x3 w
  lt : P < w.heap.size
  np : ¬ Ob b v P
  bw : B ≤ w.heap.size
  g : Grow (Ob b v0) W0 w
  s : Sub (Ob b v0) W0.heap.size (Ob b v)
theorem MidS.step {B b dn H bk P : Nat} {l x y : Bs} {x0 x1 x2 x3 v v0 : Value} {f : Fo} {W0 w w' : World} (h : MidS B b dn H bk l P x0 x1 x2 x3 f v W0 v0 x w) (hd : dn ≤ B) (hw : Wr B b v (l ++ x) w w' y) :
    ∃ v', MidS B b dn H bk l P x0 x1 x2 x3 f v' W0 v0 (x ++ y) w' := by
  obtain ⟨v', h1, h2, h3⟩ := hw
  have hz := h2.size
  have hl := h.lt
  have hbw := h.bw
  refine ⟨v', by rw [← List.append_assoc]; exact h1, foV_grow h.fo h2 (fun q hq => by have := h.bd.ge q hq; omega) (by omega), h.t.grow h.n h2, h.n.step h.t h3, h.bx.grow h2 h.lt h.np, by omega, fun hq => (h3 _ hq).elim h.np fun k => by omega, by omega, h.g.trans h2 h.s, h.s.trans h3 h.g.size⟩
theorem MidS.drew {B b dn H bk P : Nat} {l x : Bs} {x0 x1 x2 x3 v v0 : Value} {f : Fo} {W0 w : World} (h : MidS B b dn H bk l P x0 x1 x2 x3 f v W0 v0 x w) (hd : dn ≤ B) : MidS B b dn H bk l P x0 x1 x2 x3 f v W0 v0 x w.drew := by
  have hb : Below w.heap.size w w.drew := (Below.refl _ _).drew
  have hbw := h.bw
  exact ⟨h.bd.below hb (Nat.le_refl _), h.fo.below hb (by omega), h.t.below hb (Nat.le_refl _), h.n, ⟨h.bx.c0, h.bx.c1, h.bx.c2, h.bx.c3⟩, h.lt, h.np, h.bw, h.g.trans (Grow.of_below (O := Ob b v) hb) h.s, h.s⟩
theorem MidS.wr {B b dn H bk P : Nat} {l x : Bs} {x0 x1 x2 x3 v v0 : Value} {f : Fo} {W0 w : World} (h : MidS B b dn H bk l P x0 x1 x2 x3 f v W0 v0 x w) : Wr B b v0 l W0 w x := ⟨v, h.bd, h.g, h.s⟩
/-- What the region of the sign reads. -/
structure SgS (b H P k : Nat) (x0 : Value) (s : ByteArray) (w' : World) : Prop where
  c0 : w'.cell? ⟨H, 0, none⟩ = some (.pointer (some ⟨b, 0, none⟩))
  p0 : w'.cell? ⟨P, 0, none⟩ = some x0
  s0 : w'.cell? ⟨0, k * 4, none⟩ = some (.string s)
theorem kNat {o : Int} (h : 1 ≤ o ∧ o < 17) : ∃ k : Nat, o = (k : Int) ∧ 1 ≤ k ∧ k < 17 := by
  obtain ⟨k, hk⟩ := Int.eq_ofNat_of_zero_le (show 0 ≤ o by omega)
  exact ⟨k, hk, by omega, by omega⟩
theorem shp_op {m : Bool} {f : Fo} (h : Shp m f) : 1 ≤ f.op ∧ f.op < 17 := by
  cases h with
  | ato => simp [Fo.op]
  | fal => simp [Fo.op]
  | met => simp [Fo.op]
  | ins => simp [Fo.op]
  | qua h => simp only [Fo.op]; omega
  | una h => simp only [Fo.op]; omega
  | bin h => simp only [Fo.op]; omega
set_option maxHeartbeats 8000000 in
set_option maxRecDepth 20000 in
theorem write_c (m : Bool) (br : Fo → Nat → Bool) (bk : Nat) (hbk : BrOk bk br) (N : Nat) : ∀ f : Fo, SizeOf.sizeOf f < N → ∀ lv : Int, FoK m lv f → 1 ≤ lv → WriteAt br bk f := by
  induction N with
  | zero => exact fun a h => absurd h (Nat.not_lt_zero _)
  | succ N ih =>
    intro f hN lv hk hl1 w B b dn H v v0 v1 v2 v3 l hbd hf hT hTN hd hBw hlen
    have hb0 : Below w.heap.size w (w.alloc (.cells #[v0, v1, v2, v3] 25)) := (Below.refl _ _).alloc (Nat.le_refl _) _
    obtain ⟨p0, p1, p2, p3, pz⟩ := box4 w v0 v1 v2 v3 25
    have hM : MidS B b dn H bk l w.heap.size v0 v1 v2 v3 f v w v [] (w.alloc (.cells #[v0, v1, v2, v3] 25)) :=
      ⟨by rw [List.append_nil]; exact hbd.below hb0 (Nat.le_refl _), hf.below hb0 (by omega), hT.below hb0 (Nat.le_refl _), hTN, ⟨p0, p1, p2, p3⟩, pz, fun h => absurd (hbd.lt _ h) (Nat.lt_irrefl _), by omega, Grow.of_below hb0, Sub.refl _ _⟩
    have hsub : ∀ g ∈ f.sub, WriteAt br bk g ∧ 1 ≤ g.op ∧ g.op < 17 := by
      intro g hg
      have hlt : SizeOf.sizeOf g < SizeOf.sizeOf f := by
        obtain ⟨o, n, a, ss⟩ := f
        have : SizeOf.sizeOf g < SizeOf.sizeOf ss := List.sizeOf_lt_of_mem hg
        simp only [Fo.mk.sizeOf_spec]; omega
      exact ⟨ih g (by omega) (lv + 1) (hk.sub hl1 hg) (by omega), shp_op (hk.sub hl1 hg).shape⟩
    have hsh := hk.shape
    obtain ⟨R, hR⟩ : ∃ R, foB br f = R := ⟨_, rfl⟩
    rw [hR] at hlen ⊢
    have HLEN := Lib.hid hlen
    have HR := Lib.hid hR
    clear hlen hR ih hN hk p0 p1 p2 p3 hbd hT hTN hb0
    cases shp_kd hsh with
    | @leaf f hl =>
      have hcm : bs (cmB [none]) = ⟨#[44, 32]⟩ := rfl
      have hba := basic_c m [none] f hsh hl _ B b dn v v0 v1 v2 v3 (l ++ []) hM.bd hM.fo hd hM.bw (by rw [← foB_bas hl, HR.out, List.append_nil]; have := HLEN.out; omega)
      rw [hcm, ← foB_bas hl, HR.out] at hba
      have t0 := hM.t.c0
      have hM2 := hM
      obtain ⟨rfl, _, rfl, _, hA, hS⟩ := hf
      obtain ⟨⟨a1, k1, rfl⟩, _⟩ := hA.form
      obtain ⟨⟨a2, k2, rfl⟩, _⟩ := hS.form
      have hsl : f.sub.length = 0 := by rw [hl]; rfl
      rw [hsl] at hba hM2 t0 pz ⊢
      have HALL := Lib.hid (⟨hba, hM2⟩ : _ ∧ _)
      clear hsl
      clear hA hS hM hM2 hba hsub hsh
      go_enter Tryd.func49, Tryd.ntmps49
      go_wp2_with fail
      refine HALL.out.1.mono ?_
      rintro e w1 ⟨rfl, hw⟩
      have hF := Lib.hid (show Wr B b v l w w1 R by
        obtain ⟨v', hM'⟩ := HALL.out.2.step hd hw
        exact hM'.wr)
      clear hw
      go_wp2_with fail
      go_end0
      exact ⟨rfl, hF.out⟩
    | @one o n g ho hn =>
      obtain ⟨k, rfl, hk1, hk2⟩ := kNat (o := o) (by omega)
      have hah := ahead_c k (by omega) (by omega) n [] [g] (var_le hn) _ B b dn v v0 v1 v2 v3 (l ++ []) hM.bd hM.fo hd hM.bw hM.t.st (fun h => (hM.n _ h).2.2.2.2 rfl) (by rw [List.append_nil]; have := HLEN.out; omega)
      obtain ⟨hwg, hg1, hg2⟩ := hsub g (List.mem_singleton.2 rfl)
      have t0 := hM.t.c0
      have hM2 := hM
      have hRR := HR.out
      rw [foB_una (f := .mk (k : Int) n [] [g]) (g := g) rfl rfl] at hRR
      have HRR := Lib.hid hRR
      obtain ⟨rfl, _, rfl, _, hA, hS⟩ := hf
      obtain ⟨⟨a1, k1, rfl⟩, _⟩ := hA.form
      obtain ⟨⟨a2, k2, rfl⟩, _⟩ := hS.form
      simp only [op_mk, n_mk, args_mk, sub_mk, List.length_cons, List.length_nil, Nat.zero_add, Nat.reduceAdd] at hah hM2 t0 pz ⊢
      have HALL := Lib.hid (⟨hah, hM2⟩ : _ ∧ _)
      clear hA hS hM hM2 hah hsub hsh hRR HR
      go_enter Tryd.func49, Tryd.ntmps49
      go_wp2_with fail
      refine HALL.out.1.mono ?_
      rintro e w1 ⟨rfl, hw⟩
      obtain ⟨v5, hM1⟩ := HALL.out.2.step hd hw
      have hpa := Lib.hid (part_c br bk hbk (.mk (k : Int) n [] [g]) 0 (Nat.zero_lt_succ _) hwg w1 B b dn H v5 _ _ _ _ (l ++ ([] ++ ahB (.mk (k : Int) n [] [g]))) hM1.bd hM1.fo hM1.t hM1.n hd hM1.bw (by rw [op_mk]; omega) (by rw [op_mk]; omega) hg1 hg2 (by
        have h1 := HLEN.out
        rw [← HRR.out, List.length_append] at h1
        rw [List.length_append, List.nil_append]
        exact Nat.le_trans (Nat.le_of_eq (by simp only [sub_mk, List.getElem_cons_zero]; omega)) h1))
      have c3 : w1.cell? ⟨H + 3, 0, none⟩ = some (.func (.func 47) #[] #[.pointer (some ⟨H + 1, 0, none⟩), .pointer (some ⟨H + 2, 0, none⟩), .pointer (some ⟨H, 0, none⟩)]) := hM1.t.c3
      obtain ⟨x0, x1, x2, x3⟩ := hM1.bx
      have HM1 := Lib.hid hM1
      clear hM1 hw HALL t0 pz
      go_wp2_with fail
      refine hpa.out.mono ?_
      rintro e w2 ⟨rfl, hw⟩
      have hF := Lib.hid (show Wr B b v l w w2 R by
        obtain ⟨v6, hM6⟩ := HM1.out.step hd hw
        have := hM6.wr
        rw [← HRR.out]
        simp only [List.nil_append] at this
        exact this)
      clear hw hpa HM1
      go_wp2_with fail
      go_end0
      exact ⟨rfl, hF.out⟩
    | @una o g ho =>
      obtain ⟨k, rfl, hk1, hk2⟩ := kNat (o := o) (by omega)
      have hah := ahead_c k (by omega) (by omega) ⟨#[]⟩ [] [g] (by decide) _ B b dn v v0 v1 v2 v3 (l ++ []) hM.bd hM.fo hd hM.bw hM.t.st (fun h => (hM.n _ h).2.2.2.2 rfl) (by rw [List.append_nil]; have := HLEN.out; omega)
      obtain ⟨hwg, hg1, hg2⟩ := hsub g (List.mem_singleton.2 rfl)
      have t0 := hM.t.c0
      have hM2 := hM
      have hRR := HR.out
      rw [foB_una (f := .mk (k : Int) ⟨#[]⟩ [] [g]) (g := g) rfl rfl] at hRR
      have HRR := Lib.hid hRR
      obtain ⟨rfl, _, rfl, _, hA, hS⟩ := hf
      obtain ⟨⟨a1, k1, rfl⟩, _⟩ := hA.form
      obtain ⟨⟨a2, k2, rfl⟩, _⟩ := hS.form
      simp only [op_mk, n_mk, args_mk, sub_mk, List.length_cons, List.length_nil, Nat.zero_add, Nat.reduceAdd] at hah hM2 t0 pz ⊢
      have HALL := Lib.hid (⟨hah, hM2⟩ : _ ∧ _)
      clear hA hS hM hM2 hah hsub hsh hRR HR
      go_enter Tryd.func49, Tryd.ntmps49
      go_wp2_with fail
      refine HALL.out.1.mono ?_
      rintro e w1 ⟨rfl, hw⟩
      obtain ⟨v5, hM1⟩ := HALL.out.2.step hd hw
      have hpa := Lib.hid (part_c br bk hbk (.mk (k : Int) ⟨#[]⟩ [] [g]) 0 (Nat.zero_lt_succ _) hwg w1 B b dn H v5 _ _ _ _ (l ++ ([] ++ ahB (.mk (k : Int) ⟨#[]⟩ [] [g]))) hM1.bd hM1.fo hM1.t hM1.n hd hM1.bw (by rw [op_mk]; omega) (by rw [op_mk]; omega) hg1 hg2 (by
        have h1 := HLEN.out
        rw [← HRR.out, List.length_append] at h1
        rw [List.length_append, List.nil_append]
        exact Nat.le_trans (Nat.le_of_eq (by simp only [sub_mk, List.getElem_cons_zero]; omega)) h1))
      have c3 : w1.cell? ⟨H + 3, 0, none⟩ = some (.func (.func 47) #[] #[.pointer (some ⟨H + 1, 0, none⟩), .pointer (some ⟨H + 2, 0, none⟩), .pointer (some ⟨H, 0, none⟩)]) := hM1.t.c3
      obtain ⟨x0, x1, x2, x3⟩ := hM1.bx
      have HM1 := Lib.hid hM1
      clear hM1 hw HALL t0 pz
      go_wp2_with fail
      refine hpa.out.mono ?_
      rintro e w2 ⟨rfl, hw⟩
      have hF := Lib.hid (show Wr B b v l w w2 R by
        obtain ⟨v6, hM6⟩ := HM1.out.step hd hw
        have := hM6.wr
        rw [← HRR.out]
        simp only [List.nil_append] at this
        exact this)
      clear hw hpa HM1
      go_wp2_with fail
      go_end0
      exact ⟨rfl, hF.out⟩
    | @bin o g h ho =>
      obtain ⟨k, rfl, hk1, hk2⟩ := kNat (o := o) (by omega)
      obtain ⟨hwg, hg1, hg2⟩ := hsub g (List.mem_cons_self ..)
      obtain ⟨hwh, hh1, hh2⟩ := hsub h (List.mem_cons_of_mem _ (List.mem_singleton.2 rfl))
      have hRR := HR.out
      rw [foB_bin (f := .mk (k : Int) ⟨#[]⟩ [] [g, h]) (g := g) (h := h) rfl] at hRR
      have HRR := Lib.hid hRR
      have hl1 := HLEN.out
      rw [← hRR] at hl1
      simp only [List.length_append, List.length_cons] at hl1
      have HL1 := Lib.hid hl1
      have hpa := part_c br bk hbk (.mk (k : Int) ⟨#[]⟩ [] [g, h]) 0 (Nat.zero_lt_succ _) hwg _ B b dn H v v0 v1 v2 v3 (l ++ []) hM.bd hM.fo hM.t hM.n hd hM.bw (by rw [op_mk]; omega) (by rw [op_mk]; omega) hg1 hg2 (by
        rw [List.append_nil]
        exact Nat.le_trans (Nat.le_of_eq rfl) (show l.length + (parB (br (.mk (k : Int) ⟨#[]⟩ [] [g, h]) 0) (foB br g)).length ≤ _ by omega))
      have t3 : (w.alloc (.cells #[v0, v1, v2, v3] 25)).cell? ⟨H + 3, 0, none⟩ = some (.func (.func 47) #[] #[.pointer (some ⟨H + 1, 0, none⟩), .pointer (some ⟨H + 2, 0, none⟩), .pointer (some ⟨H, 0, none⟩)]) := hM.t.c3
      have hM2 := hM
      obtain ⟨rfl, _, rfl, _, hA, hS⟩ := hf
      obtain ⟨⟨a1, k1, rfl⟩, _⟩ := hA.form
      obtain ⟨⟨a2, k2, rfl⟩, _⟩ := hS.form
      simp only [op_mk, n_mk, args_mk, sub_mk, List.length_cons, List.length_nil, Nat.zero_add, Nat.reduceAdd] at hpa hM2 t3 pz ⊢
      have HALL := Lib.hid (⟨hpa, hM2⟩ : _ ∧ _)
      clear hA hS hM hM2 hpa hsub hsh hRR HR hl1
      go_enter Tryd.func49, Tryd.ntmps49
      go_wp2_with fail
      refine HALL.out.1.mono ?_
      rintro e w1 ⟨rfl, hw⟩
      obtain ⟨v5, hM1⟩ := HALL.out.2.step hd hw
      have hst := hM1.t.st
      obtain ⟨s0, _, _, _⟩ := hst.2 k (by omega) (by omega)
      rw [sgT_node (by omega) (by omega)] at s0
      have hsz := sg_le (k : Int)
      have HSG := Lib.hid (show (sgW (Fo.mk (k : Int) ⟨#[]⟩ [] [g, h]).op) = sgW (k : Int) from rfl)
      generalize hsg : sgW (k : Int) = sg at *
      have HSG2 := HSG
      have hSg : SgS b H w.heap.size k (.int .u8 (k : Int)) sg w1.drew := ⟨hM1.t.c0, hM1.bx.c0, s0⟩
      have n1 : (k : Int) < 17 := by omega
      have q1 : ¬ 9223372036854775807 < 1 + sg.size := by omega
      have q2 : ¬ 9223372036854775807 < 1 + sg.size + 1 := by omega
      have HM1 := Lib.hid (hM1.drew hd)
      clear hM1 hw HALL t3 pz hst s0 hsg HSG
      go_wp2_with fail
      refine wp_region_S (SgS b H w.heap.size k (.int .u8 (k : Int)) sg) [] 9 #[false, false, false, false, false, false, false, false, false] (by kernel_rfl) (by kernel_rfl) (by kernel_rfl) hSg (fun hHeld => ?_)
      refine wpAnyS_take (i := 0) (oi := ⟨some 10, _, _, _, _, _⟩) (v := .pointer (some ⟨b, 0, none⟩)) rfl (by kernel_rfl) (by kernel_rfl) (by kernel_rfl) (by kernel_rfl) (fun _ _ _ h => Norm.panic h) (Or.inl ⟨by rfl, ?_⟩) (by assumption) ?_
      · intro w' hSw
        obtain ⟨t0, t1, t2⟩ := hSw
        go_simp
      simp only [Act.put, List.setIfInBounds_toArray, List.set_cons_zero, List.set_cons_succ]
      refine wpAnyS_take (i := 1) (oi := ⟨some 11, _, _, _, _, _⟩) (v := .pointer (some ⟨w.heap.size, 0, none⟩)) rfl (by kernel_rfl) (by kernel_rfl) (by kernel_rfl) (by kernel_rfl) (fun _ _ _ h => Norm.panic h) (Or.inl ⟨by rfl, ?_⟩) (by assumption) ?_
      · intro w' hSw
        obtain ⟨t0, t1, t2⟩ := hSw
        go_simp
      simp only [Act.put, List.setIfInBounds_toArray, List.set_cons_zero, List.set_cons_succ]
      refine wpAnyS_take (i := 2) (oi := ⟨some 12, _, _, _, _, _⟩) (v := .int .u8 (k : Int)) rfl (by kernel_rfl) (by kernel_rfl) (by kernel_rfl) (by kernel_rfl) (fun _ _ _ h => Norm.panic h) (Or.inl ⟨by rfl, ?_⟩) (by assumption) ?_
      · intro w' hSw
        obtain ⟨t0, t1, t2⟩ := hSw
        go_simp
      simp only [Act.put, List.setIfInBounds_toArray, List.set_cons_zero, List.set_cons_succ]
      refine wpAnyS_take (i := 3) (oi := ⟨some 13, _, _, _, _, _⟩) (v := .pointer (some ⟨0, k * 4, none⟩)) rfl (by kernel_rfl) (by kernel_rfl) (by kernel_rfl) (by kernel_rfl) (fun _ _ _ h => Norm.panic h) (Or.inl ⟨by rfl, ?_⟩) (by assumption) ?_
      · intro w' hSw
        obtain ⟨t0, t1, t2⟩ := hSw
        go_simp
      simp only [Act.put, List.setIfInBounds_toArray, List.set_cons_zero, List.set_cons_succ]
      refine wpAnyS_take (i := 4) (oi := ⟨some 14, _, _, _, _, _⟩) (v := .pointer (some ⟨0, k * 4, none⟩)) rfl (by kernel_rfl) (by kernel_rfl) (by kernel_rfl) (by kernel_rfl) (fun _ _ _ h => Norm.panic h) (Or.inl ⟨by rfl, ?_⟩) (by assumption) ?_
      · intro w' hSw
        obtain ⟨t0, t1, t2⟩ := hSw
        go_simp
      simp only [Act.put, List.setIfInBounds_toArray, List.set_cons_zero, List.set_cons_succ]
      refine wpAnyS_take (i := 5) (oi := ⟨some 15, _, _, _, _, _⟩) (v := .string sg) rfl (by kernel_rfl) (by kernel_rfl) (by kernel_rfl) (by kernel_rfl) (fun _ _ _ h => Norm.panic h) (Or.inl ⟨by rfl, ?_⟩) (by assumption) ?_
      · intro w' hSw
        obtain ⟨t0, t1, t2⟩ := hSw
        go_simp
      simp only [Act.put, List.setIfInBounds_toArray, List.set_cons_zero, List.set_cons_succ]
      refine wpAnyS_take (i := 6) (oi := ⟨some 16, _, _, _, _, _⟩) (v := .string (⟨#[32]⟩ ++ sg)) rfl (by kernel_rfl) (by kernel_rfl) (by kernel_rfl) (by kernel_rfl) (fun _ _ _ h => Norm.panic h) (Or.inl ⟨by rfl, ?_⟩) (by assumption) ?_
      · intro w' hSw
        obtain ⟨t0, t1, t2⟩ := hSw
        go_simp
      simp only [Act.put, List.setIfInBounds_toArray, List.set_cons_zero, List.set_cons_succ]
      refine wpAnyS_take (i := 7) (oi := ⟨some 17, _, _, _, _, _⟩) (v := .string (⟨#[32]⟩ ++ sg ++ ⟨#[32]⟩)) rfl (by kernel_rfl) (by kernel_rfl) (by kernel_rfl) (by kernel_rfl) (fun _ _ _ h => Norm.panic h) (Or.inl ⟨by rfl, ?_⟩) (by assumption) ?_
      · intro w' hSw
        obtain ⟨t0, t1, t2⟩ := hSw
        go_simp
      simp only [Act.put, List.setIfInBounds_toArray, List.set_cons_zero, List.set_cons_succ]
      refine wpAnyS_one (i := 8) (oi := ⟨some 18, _, _, _, _, _⟩) rfl (by kernel_rfl) (by rfl) (fun K hK => ?_)
      go_simp
      have hcat : (⟨#[32]⟩ ++ sg ++ ⟨#[32]⟩ : ByteArray).data.toList = 32 :: (sg.data.toList ++ [32]) := by simp
      have hcs : (⟨#[32]⟩ ++ sg ++ ⟨#[32]⟩ : ByteArray).size = sg.size + 2 := by
        rw [ByteArray.size_append, ByteArray.size_append]
        show 1 + sg.size + 1 = _
        omega
      generalize ⟨#[32]⟩ ++ sg ++ ⟨#[32]⟩ = cs at hcat hcs ⊢
      have HCAT := Lib.hid hcat
      have hle : (l ++ ([] ++ parB (br (.mk (k : Int) ⟨#[]⟩ [] [g, h]) 0) (foB br g))).length + cs.size ≤ 140737488355328 := by
        have := HL1.out
        rw [HSG2.out] at this
        rw [List.length_append, List.nil_append]
        have e : sg.data.toList.length = sg.size := rfl
        omega
      refine (wrS HM1.out.bd cs hle HM1.out.bw).mono ?_
      rintro e w2 ⟨rfl, hw⟩
      obtain ⟨v6, hM2⟩ := HM1.out.step hd hw
      have hst := hM2.t.st
      obtain ⟨s0, _, _, _⟩ := hst.2 k (by omega) (by omega)
      rw [sgT_node (by omega) (by omega), show sgW (k : Int) = sg from HSG2.out] at s0
      have hSg : SgS b H w.heap.size k (.int .u8 (k : Int)) sg w2 := ⟨hM2.t.c0, hM2.bx.c0, s0⟩
      refine hK _ _ (fun _ => hSg) ?_
      clear hK K
      simp only [Act.put, List.setIfInBounds_toArray, List.set_cons_zero, List.set_cons_succ]
      refine wpAnyS_done (by kernel_rfl) ?_
      refine Norm.normal ?_
      have hpa := Lib.hid (part_c br bk hbk (.mk (k : Int) ⟨#[]⟩ [] [g, h]) 1 (Nat.succ_lt_succ (Nat.zero_lt_succ _)) hwh w2 B b dn H v6 _ _ _ _ (l ++ ([] ++ parB (br (.mk (k : Int) ⟨#[]⟩ [] [g, h]) 0) (foB br g) ++ cs.data.toList)) hM2.bd hM2.fo hM2.t hM2.n hd hM2.bw (by rw [op_mk]; omega) (by rw [op_mk]; omega) hh1 hh2 (by
        have h1 := HL1.out
        rw [HSG2.out] at h1
        have e : cs.data.toList.length = cs.size := rfl
        have e2 : sg.data.toList.length = sg.size := rfl
        rw [List.length_append, List.nil_append, List.length_append]
        refine Nat.le_trans (Nat.le_of_eq rfl) (show l.length + ((parB (br (.mk (k : Int) ⟨#[]⟩ [] [g, h]) 0) (foB br g)).length + cs.data.toList.length) + (parB (br (.mk (k : Int) ⟨#[]⟩ [] [g, h]) 1) (foB br h)).length ≤ _ by omega)))
      have c3 : w2.cell? ⟨H + 3, 0, none⟩ = some (.func (.func 47) #[] #[.pointer (some ⟨H + 1, 0, none⟩), .pointer (some ⟨H + 2, 0, none⟩), .pointer (some ⟨H, 0, none⟩)]) := hM2.t.c3
      obtain ⟨x0, x1, x2, x3⟩ := hM2.bx
      have HM2 := Lib.hid hM2
      clear hM2 hw hle hSg hst s0 hcat hcs hHeld
      go_wp2_with fail
      refine hpa.out.mono ?_
      rintro e w3 ⟨rfl, hw⟩
      have hF := Lib.hid (show Wr B b v l w w3 R by
        obtain ⟨v7, hM7⟩ := HM2.out.step hd hw
        have := hM7.wr
        rw [← HRR.out, HSG2.out]
        rw [HCAT.out, List.nil_append] at this
        have this2 : Wr B b v l w w3 (parB (br (.mk (k : Int) ⟨#[]⟩ [] [g, h]) 0) (foB br g) ++ (32 :: (sg.data.toList ++ [32])) ++ parB (br (.mk (k : Int) ⟨#[]⟩ [] [g, h]) 1) (foB br h)) := this
        simpa using this2)
      clear hw hpa HM2
      go_wp2_with fail
      go_end0
      exact ⟨rfl, hF.out⟩
end Go.Proofs.YtdapnjnmhkdnpaaDoor.Fb
