/-
  compares and FormCompares: the walks.
-/
import Derived.Test.YtnadjkofjgpabaaGreatDoorFmRef2
import Derived.Test.YtnadjkofjgpabaaGreatDoorFmOrderLib
import Derived.Test.YtnadjkofjgpabaaGreatDoorFmOwnF
import Derived.Test.YtnadjkofjgpabaaGreatDoorFmRound
namespace Go.Proofs.YtnadjkofjgpabaaGreatDoor.Fm
open Go Go.RowKit Go.Shelf
set_option linter.unusedVariables false
set_option linter.unusedSimpArgs false
structure CmS (B : Nat) (x0 x1 x2 x3 y0 y1 y2 y3 : Value) (W' : World) : Prop where
  a : RegC B x0 x1 x2 x3 W'
  b : RegC (B + 1) y0 y1 y2 y3 W'
structure CmT (B b o b' o' q : Nat) (x0 x1 x2 x3 y0 y1 y2 y3 t0 t1 t2 u0 u1 u2 : Value) (W' : World) : Prop where
  l : CmS B x0 x1 x2 x3 y0 y1 y2 y3 W'
  c0 : W'.cell? ⟨b, o + q * 3, none⟩ = some t0
  c1 : W'.cell? ⟨b, o + q * 3 + 1, none⟩ = some t1
  c2 : W'.cell? ⟨b, o + q * 3 + 2, none⟩ = some t2
  e0 : W'.cell? ⟨b', o' + q * 3, none⟩ = some u0
  e1 : W'.cell? ⟨b', o' + q * 3 + 1, none⟩ = some u1
  e2 : W'.cell? ⟨b', o' + q * 3 + 2, none⟩ = some u2
def CmRel (w : World) (i : Value) (wr : World) : Prop := ∃ q : Nat, i = .int .i64 (q : Int) ∧ q ≤ 4611686018427387904 ∧ Below w.heap.size w wr
set_option maxHeartbeats 2000000 in
set_option maxRecDepth 20000 in
theorem compares_c (t u : Fo) (x0 x1 x2 x3 y0 y1 y2 y3 : Value) (dn : Nat) (w : World) (ht : FoV dn w x0 x1 x2 x3 t) (hu : FoV dn w y0 y1 y2 y3 u) (hd : dn ≤ w.heap.size) :
    Calls Tryz.prog 6 #[.agg #[x0, x1, x2, x3], .agg #[y0, y1, y2, y3]] w fun e w' => e = .returned (.bool true) ∧ Below w.heap.size w w' := by
  have hb0 : Below w.heap.size w ((w.alloc (.cells #[x0, x1, x2, x3] 25)).alloc (.cells #[y0, y1, y2, y3] 25)) := ((Below.refl _ _).alloc (Nat.le_refl _) _).alloc (by simp) _
  have h2 := two_boxes w #[x0, x1, x2, x3] #[y0, y1, y2, y3] 25
  have HT := Lib.hid (fun W (h : Below w.heap.size w W) => ht.below h hd)
  have HU := Lib.hid (fun W (h : Below w.heap.size w W) => hu.below h hd)
  obtain ⟨rfl, hop, rfl, _, ha, hs⟩ := ht
  obtain ⟨rfl, hop', rfl, _, hb, hs'⟩ := hu
  obtain ⟨⟨sa, ka, rfl⟩, hla⟩ := ha.form
  obtain ⟨⟨sb, kb, rfl⟩, hlb⟩ := hb.form
  obtain ⟨⟨sc, kc, rfl⟩, hlc⟩ := hs.form
  obtain ⟨⟨sd, kd, rfl⟩, hld⟩ := hs'.form
  clear hs hs'
  have hW2 : ((w.alloc (.cells #[.int .u8 t.op, .string t.n, .slice sa t.args.length ka, .slice sc t.sub.length kc] 25)).alloc (.cells #[.int .u8 u.op, .string u.n, .slice sb u.args.length kb, .slice sd u.sub.length kd] 25)).heap.size = w.heap.size + 2 := by simp
  go_enter Tryz.func6, Tryz.ntmps6
  go_wp2_with fail
  generalize ((w.alloc (.cells #[.int .u8 t.op, .string t.n, .slice sa t.args.length ka, .slice sc t.sub.length kc] 25)).alloc (.cells #[.int .u8 u.op, .string u.n, .slice sb u.args.length kb, .slice sd u.sub.length kd] 25)) = W at *
  obtain ⟨p1, p2⟩ := h2
  have hW : CmS w.heap.size (.int .u8 t.op) (.string t.n) (.slice sa t.args.length ka) (.slice sc t.sub.length kc) (.int .u8 u.op) (.string u.n) (.slice sb u.args.length kb) (.slice sd u.sub.length kd) W := ⟨⟨p1 0, p1 1, p1 2, p1 3⟩, ⟨p2 0, p2 1, p2 2, p2 3⟩⟩
  have HS := Lib.hid (fun W' (hb : Below W.heap.size W W') => show CmS w.heap.size (.int .u8 t.op) (.string t.n) (.slice sa t.args.length ka) (.slice sc t.sub.length kc) (.int .u8 u.op) (.string u.n) (.slice sb u.args.length kb) (.slice sd u.sub.length kd) W' from ⟨hW.a.below hb (by omega), hW.b.below hb (by omega)⟩)
  have HB0 := Lib.hid hb0
  clear p1 p2 hW hb0
  have HBk : Below W.heap.size W W.drew := (Below.refl _ _).drew
  refine wp_region_S (CmS w.heap.size (.int .u8 t.op) (.string t.n) (.slice sa t.args.length ka) (.slice sc t.sub.length kc) (.int .u8 u.op) (.string u.n) (.slice sb u.args.length kb) (.slice sd u.sub.length kd)) [] 16 #[false, false, false, false, false, false, false, false, false, false, false, false, false, false, false, false] (by kernel_rfl) (by kernel_rfl) (by kernel_rfl) (HS.out _ HBk) (fun hHeld => ?_)
  refine wpAnyS_take (i := 0) (oi := ⟨some 6, _, _, _, _, _⟩) (v := .agg #[.int .u8 t.op, .string t.n, .slice sa t.args.length ka, .slice sc t.sub.length kc]) rfl (by kernel_rfl) (by kernel_rfl) (by kernel_rfl) (by kernel_rfl) (fun _ _ _ h => Norm.panic h) (Or.inl ⟨by rfl, ?_⟩) (by assumption) ?_
  · intro w' hSw
    obtain ⟨⟨t0, t1, t2, t3⟩, t4, t5, t6, t7⟩ := hSw
    go_simp
  simp only [Act.put, List.setIfInBounds_toArray, List.set_cons_zero, List.set_cons_succ]
  refine wpAnyS_take (i := 1) (oi := ⟨some 7, _, _, _, _, _⟩) (v := .agg #[.int .u8 u.op, .string u.n, .slice sb u.args.length kb, .slice sd u.sub.length kd]) rfl (by kernel_rfl) (by kernel_rfl) (by kernel_rfl) (by kernel_rfl) (fun _ _ _ h => Norm.panic h) (Or.inl ⟨by rfl, ?_⟩) (by assumption) ?_
  · intro w' hSw
    obtain ⟨⟨t0, t1, t2, t3⟩, t4, t5, t6, t7⟩ := hSw
    go_simp
  simp only [Act.put, List.setIfInBounds_toArray, List.set_cons_zero, List.set_cons_succ]
  refine wpAnyS_take (i := 3) (oi := ⟨some 9, _, _, _, _, _⟩) (v := .agg #[.int .u8 t.op, .string t.n, .slice sa t.args.length ka, .slice sc t.sub.length kc]) rfl (by kernel_rfl) (by kernel_rfl) (by kernel_rfl) (by kernel_rfl) (fun _ _ _ h => Norm.panic h) (Or.inl ⟨by rfl, ?_⟩) (by assumption) ?_
  · intro w' hSw
    obtain ⟨⟨t0, t1, t2, t3⟩, t4, t5, t6, t7⟩ := hSw
    go_simp
  simp only [Act.put, List.setIfInBounds_toArray, List.set_cons_zero, List.set_cons_succ]
  refine wpAnyS_take (i := 4) (oi := ⟨some 10, _, _, _, _, _⟩) (v := .agg #[.int .u8 u.op, .string u.n, .slice sb u.args.length kb, .slice sd u.sub.length kd]) rfl (by kernel_rfl) (by kernel_rfl) (by kernel_rfl) (by kernel_rfl) (fun _ _ _ h => Norm.panic h) (Or.inl ⟨by rfl, ?_⟩) (by assumption) ?_
  · intro w' hSw
    obtain ⟨⟨t0, t1, t2, t3⟩, t4, t5, t6, t7⟩ := hSw
    go_simp
  simp only [Act.put, List.setIfInBounds_toArray, List.set_cons_zero, List.set_cons_succ]
  refine wpAnyS_one (i := 2) (oi := ⟨some 8, _, _, _, _, _⟩) rfl (by kernel_rfl) (by rfl) (fun K hK => ?_)
  go_simp
  refine (compare_c t u _ _ _ _ _ _ _ _ dn _ (HT.out _ (HB0.out.trans (HBk.mono HB0.out.size))) (HU.out _ (HB0.out.trans (HBk.mono HB0.out.size))) (Nat.le_trans hd (HB0.out.trans (HBk.mono HB0.out.size)).size)).mono ?_
  rintro e wn ⟨rfl, hbn⟩
  have HBn := HBk.trans (hbn.mono HBk.size)
  clear HBk hbn
  have HBk := HBn
  clear HBn
  have hHeld := HS.out _ HBk
  refine hK _ _ (fun _ => hHeld) ?_
  clear hK K
  simp only [Act.put, List.setIfInBounds_toArray, List.set_cons_zero, List.set_cons_succ]
  refine wpAnyS_one (i := 5) (oi := ⟨some 11, _, _, _, _, _⟩) rfl (by kernel_rfl) (by rfl) (fun K hK => ?_)
  go_simp
  refine (refF_c (SizeOf.sizeOf t + 1) t (Nat.lt_succ_self _) u _ _ _ _ _ _ _ _ dn _ (HT.out _ (HB0.out.trans (HBk.mono HB0.out.size))) (HU.out _ (HB0.out.trans (HBk.mono HB0.out.size))) (Nat.le_trans hd (HB0.out.trans (HBk.mono HB0.out.size)).size)).mono ?_
  rintro e wn ⟨rfl, hbn⟩
  have HBn := HBk.trans (hbn.mono HBk.size)
  clear HBk hbn
  have HBk := HBn
  clear HBn
  have hHeld := HS.out _ HBk
  refine hK _ _ (fun _ => hHeld) ?_
  clear hK K
  simp only [Act.put, List.setIfInBounds_toArray, List.set_cons_zero, List.set_cons_succ]
  refine wpAnyS_take (i := 6) (oi := ⟨some 12, _, _, _, _, _⟩) (v := .bool false) rfl (by kernel_rfl) (by kernel_rfl) (by kernel_rfl) (by kernel_rfl) (fun _ _ _ h => Norm.panic h) (Or.inl ⟨by rfl, ?_⟩) (by assumption) ?_
  · intro w' hSw
    obtain ⟨⟨t0, t1, t2, t3⟩, t4, t5, t6, t7⟩ := hSw
    go_simp
    try simp
  simp only [Act.put, List.setIfInBounds_toArray, List.set_cons_zero, List.set_cons_succ]
  refine wpAnyS_take (i := 7) (oi := ⟨some 13, _, _, _, _, _⟩) (v := .bool false) rfl (by kernel_rfl) (by kernel_rfl) (by kernel_rfl) (by kernel_rfl) (fun _ _ _ h => Norm.panic h) (Or.inl ⟨by rfl, ?_⟩) (by assumption) ?_
  · intro w' hSw
    obtain ⟨⟨t0, t1, t2, t3⟩, t4, t5, t6, t7⟩ := hSw
    go_simp
  simp only [Act.put, List.setIfInBounds_toArray, List.set_cons_zero, List.set_cons_succ]
  refine wpAnyS_take (i := 8) (oi := ⟨some 14, _, _, _, _, _⟩) (v := .agg #[.int .u8 t.op, .string t.n, .slice sa t.args.length ka, .slice sc t.sub.length kc]) rfl (by kernel_rfl) (by kernel_rfl) (by kernel_rfl) (by kernel_rfl) (fun _ _ _ h => Norm.panic h) (Or.inl ⟨by rfl, ?_⟩) (by assumption) ?_
  · intro w' hSw
    obtain ⟨⟨t0, t1, t2, t3⟩, t4, t5, t6, t7⟩ := hSw
    go_simp
  simp only [Act.put, List.setIfInBounds_toArray, List.set_cons_zero, List.set_cons_succ]
  refine wpAnyS_take (i := 9) (oi := ⟨some 15, _, _, _, _, _⟩) (v := .agg #[.int .u8 u.op, .string u.n, .slice sb u.args.length kb, .slice sd u.sub.length kd]) rfl (by kernel_rfl) (by kernel_rfl) (by kernel_rfl) (by kernel_rfl) (fun _ _ _ h => Norm.panic h) (Or.inl ⟨by rfl, ?_⟩) (by assumption) ?_
  · intro w' hSw
    obtain ⟨⟨t0, t1, t2, t3⟩, t4, t5, t6, t7⟩ := hSw
    go_simp
  simp only [Act.put, List.setIfInBounds_toArray, List.set_cons_zero, List.set_cons_succ]
  refine wpAnyS_take (i := 11) (oi := ⟨some 17, _, _, _, _, _⟩) (v := .agg #[.int .u8 t.op, .string t.n, .slice sa t.args.length ka, .slice sc t.sub.length kc]) rfl (by kernel_rfl) (by kernel_rfl) (by kernel_rfl) (by kernel_rfl) (fun _ _ _ h => Norm.panic h) (Or.inl ⟨by rfl, ?_⟩) (by assumption) ?_
  · intro w' hSw
    obtain ⟨⟨t0, t1, t2, t3⟩, t4, t5, t6, t7⟩ := hSw
    go_simp
  simp only [Act.put, List.setIfInBounds_toArray, List.set_cons_zero, List.set_cons_succ]
  refine wpAnyS_take (i := 12) (oi := ⟨some 18, _, _, _, _, _⟩) (v := .agg #[.int .u8 u.op, .string u.n, .slice sb u.args.length kb, .slice sd u.sub.length kd]) rfl (by kernel_rfl) (by kernel_rfl) (by kernel_rfl) (by kernel_rfl) (fun _ _ _ h => Norm.panic h) (Or.inl ⟨by rfl, ?_⟩) (by assumption) ?_
  · intro w' hSw
    obtain ⟨⟨t0, t1, t2, t3⟩, t4, t5, t6, t7⟩ := hSw
    go_simp
  simp only [Act.put, List.setIfInBounds_toArray, List.set_cons_zero, List.set_cons_succ]
  refine wpAnyS_one (i := 10) (oi := ⟨some 16, _, _, _, _, _⟩) rfl (by kernel_rfl) (by rfl) (fun K hK => ?_)
  go_simp
  refine (same_c t u _ _ _ _ _ _ _ _ dn _ (HT.out _ (HB0.out.trans (HBk.mono HB0.out.size))) (HU.out _ (HB0.out.trans (HBk.mono HB0.out.size))) (Nat.le_trans hd (HB0.out.trans (HBk.mono HB0.out.size)).size)).mono ?_
  rintro e wn ⟨rfl, hbn⟩
  have HBn := HBk.trans (hbn.mono HBk.size)
  clear HBk hbn
  have HBk := HBn
  clear HBn
  have hHeld := HS.out _ HBk
  refine hK _ _ (fun _ => hHeld) ?_
  clear hK K
  simp only [Act.put, List.setIfInBounds_toArray, List.set_cons_zero, List.set_cons_succ]
  refine wpAnyS_one (i := 13) (oi := ⟨some 19, _, _, _, _, _⟩) rfl (by kernel_rfl) (by rfl) (fun K hK => ?_)
  go_simp
  refine (refSameF_c t u _ _ _ _ _ _ _ _ dn _ (HT.out _ (HB0.out.trans (HBk.mono HB0.out.size))) (HU.out _ (HB0.out.trans (HBk.mono HB0.out.size))) (Nat.le_trans hd (HB0.out.trans (HBk.mono HB0.out.size)).size)).mono ?_
  rintro e wn ⟨rfl, hbn⟩
  have HBn := HBk.trans (hbn.mono HBk.size)
  clear HBk hbn
  have HBk := HBn
  clear HBn
  have hHeld := HS.out _ HBk
  refine hK _ _ (fun _ => hHeld) ?_
  clear hK K
  simp only [Act.put, List.setIfInBounds_toArray, List.set_cons_zero, List.set_cons_succ]
  refine wpAnyS_take (i := 14) (oi := ⟨some 20, _, _, _, _, _⟩) (v := .bool false) rfl (by kernel_rfl) (by kernel_rfl) (by kernel_rfl) (by kernel_rfl) (fun _ _ _ h => Norm.panic h) (Or.inl ⟨by rfl, ?_⟩) (by assumption) ?_
  · intro w' hSw
    obtain ⟨⟨t0, t1, t2, t3⟩, t4, t5, t6, t7⟩ := hSw
    go_simp
    try simp
  simp only [Act.put, List.setIfInBounds_toArray, List.set_cons_zero, List.set_cons_succ]
  refine wpAnyS_take (i := 15) (oi := ⟨some 21, _, _, _, _, _⟩) (v := .bool false) rfl (by kernel_rfl) (by kernel_rfl) (by kernel_rfl) (by kernel_rfl) (fun _ _ _ h => Norm.panic h) (Or.inl ⟨by rfl, ?_⟩) (by assumption) ?_
  · intro w' hSw
    obtain ⟨⟨t0, t1, t2, t3⟩, t4, t5, t6, t7⟩ := hSw
    go_simp
  simp only [Act.put, List.setIfInBounds_toArray, List.set_cons_zero, List.set_cons_succ]
  refine wpAnyS_done (by kernel_rfl) ?_
  refine Norm.normal ?_
  clear hHeld
  go_wp2_with fail
  go_loopw [5] (fun i wr => CmRel W i wr) (fun i _ => t.args.length - (intOf i).toNat)
  case atStart => exact ⟨0, rfl, by omega, HBk⟩
  case round =>
    clear HBk
    obtain ⟨q, rfl, hq, hbq⟩ := hrel
    obtain ⟨⟨a0, a1, a2, a3⟩, b0, b1, b2, b3⟩ := HS.out _ hbq
    have hwq := HB0.out.trans (hbq.mono HB0.out.size)
    have hdr : dn ≤ wr.heap.size := Nat.le_trans hd hwq.size
    have HFIN := Lib.hid hwq
    by_cases hlt : q < t.args.length
    · by_cases hltm : q < u.args.length
      · have hTa := (ha.below (hwq.mono hd) (Nat.le_refl _)).get hlt
        have hTb := (hb.below (hwq.mono hd) (Nat.le_refl _)).get hltm
        obtain ⟨_, b, o, rfl, hbn, u0, u1, u2, c0, c1, c2, hx⟩ := hTa
        obtain ⟨_, b', o', rfl, hbn', v0, v1, v2, e0, e1, e2, hy⟩ := hTb
        have HX := Lib.hid (fun W' (h : Below wr.heap.size wr W') => hx.below (h.mono hdr) (Nat.le_refl _))
        have HY := Lib.hid (fun W' (h : Below wr.heap.size wr W') => hy.below (h.mono hdr) (Nat.le_refl _))
        obtain ⟨⟨au, ku, hu2⟩, _⟩ := hx.args.form
        obtain ⟨⟨av, kv, hv2⟩, _⟩ := hy.args.form
        have z0 := hx.v
        have z1 := hx.nm
        have z2 := hy.v
        have z3 := hy.nm
        subst hu2 hv2 z0 z1 z2 z3
        clear hx hy
        have HT2 := Lib.hid (fun W' (hb : Below wr.heap.size wr W') => show CmT w.heap.size b o b' o' q (.int .u8 t.op) (.string t.n) (.slice (some ⟨b, o, none⟩) t.args.length ka) (.slice sc t.sub.length kc) (.int .u8 u.op) (.string u.n) (.slice (some ⟨b', o', none⟩) u.args.length kb) (.slice sd u.sub.length kd) (.bool t.args[q].v) (.string t.args[q].n) (.slice au t.args[q].args.length ku) (.bool u.args[q].v) (.string u.args[q].n) (.slice av u.args[q].args.length kv) W' from
          ⟨HS.out _ (hbq.trans (hb.mono hbq.size)), (hb.cell (p := ⟨b, _, none⟩) (show b < wr.heap.size by omega)).trans c0, (hb.cell (p := ⟨b, _, none⟩) (show b < wr.heap.size by omega)).trans c1, (hb.cell (p := ⟨b, _, none⟩) (show b < wr.heap.size by omega)).trans c2, (hb.cell (p := ⟨b', _, none⟩) (show b' < wr.heap.size by omega)).trans e0, (hb.cell (p := ⟨b', _, none⟩) (show b' < wr.heap.size by omega)).trans e1, (hb.cell (p := ⟨b', _, none⟩) (show b' < wr.heap.size by omega)).trans e2⟩)
        go_wp2_with fail
        have HBk : Below wr.heap.size wr wr.drew := (Below.refl _ _).drew
        refine wp_region_S (CmT w.heap.size b o b' o' q (.int .u8 t.op) (.string t.n) (.slice (some ⟨b, o, none⟩) t.args.length ka) (.slice sc t.sub.length kc) (.int .u8 u.op) (.string u.n) (.slice (some ⟨b', o', none⟩) u.args.length kb) (.slice sd u.sub.length kd) (.bool t.args[q].v) (.string t.args[q].n) (.slice au t.args[q].args.length ku) (.bool u.args[q].v) (.string u.args[q].n) (.slice av u.args[q].args.length kv)) [] 23 #[false, false, false, false, false, false, false, false, false, false, false, false, false, false, false, false, false, false, false, false, false, false, false] (by kernel_rfl) (by kernel_rfl) (by kernel_rfl) (HT2.out _ HBk) (fun hHeld => ?_)
        refine wpAnyS_take (i := 0) (oi := ⟨some 36, _, _, _, _, _⟩) (v := .pointer (some ⟨w.heap.size, 2, none⟩)) rfl (by kernel_rfl) (by kernel_rfl) (by kernel_rfl) (by kernel_rfl) (fun _ _ _ h => Norm.panic h) (Or.inl ⟨by rfl, ?_⟩) (by assumption) ?_
        · intro w' hSw
          obtain ⟨⟨⟨t0, t1, t2, t3⟩, t4, t5, t6, t7⟩, s0, s1, s2, s3, s4, s5⟩ := hSw
          go_simp
        simp only [Act.put, List.setIfInBounds_toArray, List.set_cons_zero, List.set_cons_succ]
        refine wpAnyS_take (i := 1) (oi := ⟨some 37, _, _, _, _, _⟩) (v := .slice (some ⟨b, o, none⟩) t.args.length ka) rfl (by kernel_rfl) (by kernel_rfl) (by kernel_rfl) (by kernel_rfl) (fun _ _ _ h => Norm.panic h) (Or.inl ⟨by rfl, ?_⟩) (by assumption) ?_
        · intro w' hSw
          obtain ⟨⟨⟨t0, t1, t2, t3⟩, t4, t5, t6, t7⟩, s0, s1, s2, s3, s4, s5⟩ := hSw
          go_simp
        simp only [Act.put, List.setIfInBounds_toArray, List.set_cons_zero, List.set_cons_succ]
        refine wpAnyS_take (i := 2) (oi := ⟨some 38, _, _, _, _, _⟩) (v := .int .i64 (q : Int)) rfl (by kernel_rfl) (by kernel_rfl) (by kernel_rfl) (by kernel_rfl) (fun _ _ _ h => Norm.panic h) (Or.inl ⟨by rfl, ?_⟩) (by assumption) ?_
        · intro w' hSw
          obtain ⟨⟨⟨t0, t1, t2, t3⟩, t4, t5, t6, t7⟩, s0, s1, s2, s3, s4, s5⟩ := hSw
          go_simp
        simp only [Act.put, List.setIfInBounds_toArray, List.set_cons_zero, List.set_cons_succ]
        refine wpAnyS_take (i := 3) (oi := ⟨some 39, _, _, _, _, _⟩) (v := .pointer (some ⟨b, o + q * 3, none⟩)) rfl (by kernel_rfl) (by kernel_rfl) (by kernel_rfl) (by kernel_rfl) (fun _ _ _ h => Norm.panic h) (Or.inl ⟨by rfl, ?_⟩) (by assumption) ?_
        · intro w' hSw
          obtain ⟨⟨⟨t0, t1, t2, t3⟩, t4, t5, t6, t7⟩, s0, s1, s2, s3, s4, s5⟩ := hSw
          go_simp
        simp only [Act.put, List.setIfInBounds_toArray, List.set_cons_zero, List.set_cons_succ]
        refine wpAnyS_take (i := 4) (oi := ⟨some 40, _, _, _, _, _⟩) (v := .agg #[.bool t.args[q].v, .string t.args[q].n, .slice au t.args[q].args.length ku]) rfl (by kernel_rfl) (by kernel_rfl) (by kernel_rfl) (by kernel_rfl) (fun _ _ _ h => Norm.panic h) (Or.inl ⟨by rfl, ?_⟩) (by assumption) ?_
        · intro w' hSw
          obtain ⟨⟨⟨t0, t1, t2, t3⟩, t4, t5, t6, t7⟩, s0, s1, s2, s3, s4, s5⟩ := hSw
          go_simp
        simp only [Act.put, List.setIfInBounds_toArray, List.set_cons_zero, List.set_cons_succ]
        refine wpAnyS_take (i := 5) (oi := ⟨some 41, _, _, _, _, _⟩) (v := .pointer (some ⟨w.heap.size + 1, 2, none⟩)) rfl (by kernel_rfl) (by kernel_rfl) (by kernel_rfl) (by kernel_rfl) (fun _ _ _ h => Norm.panic h) (Or.inl ⟨by rfl, ?_⟩) (by assumption) ?_
        · intro w' hSw
          obtain ⟨⟨⟨t0, t1, t2, t3⟩, t4, t5, t6, t7⟩, s0, s1, s2, s3, s4, s5⟩ := hSw
          go_simp
        simp only [Act.put, List.setIfInBounds_toArray, List.set_cons_zero, List.set_cons_succ]
        refine wpAnyS_take (i := 6) (oi := ⟨some 42, _, _, _, _, _⟩) (v := .slice (some ⟨b', o', none⟩) u.args.length kb) rfl (by kernel_rfl) (by kernel_rfl) (by kernel_rfl) (by kernel_rfl) (fun _ _ _ h => Norm.panic h) (Or.inl ⟨by rfl, ?_⟩) (by assumption) ?_
        · intro w' hSw
          obtain ⟨⟨⟨t0, t1, t2, t3⟩, t4, t5, t6, t7⟩, s0, s1, s2, s3, s4, s5⟩ := hSw
          go_simp
        simp only [Act.put, List.setIfInBounds_toArray, List.set_cons_zero, List.set_cons_succ]
        refine wpAnyS_take (i := 7) (oi := ⟨some 43, _, _, _, _, _⟩) (v := .int .i64 (q : Int)) rfl (by kernel_rfl) (by kernel_rfl) (by kernel_rfl) (by kernel_rfl) (fun _ _ _ h => Norm.panic h) (Or.inl ⟨by rfl, ?_⟩) (by assumption) ?_
        · intro w' hSw
          obtain ⟨⟨⟨t0, t1, t2, t3⟩, t4, t5, t6, t7⟩, s0, s1, s2, s3, s4, s5⟩ := hSw
          go_simp
        simp only [Act.put, List.setIfInBounds_toArray, List.set_cons_zero, List.set_cons_succ]
        refine wpAnyS_take (i := 8) (oi := ⟨some 44, _, _, _, _, _⟩) (v := .pointer (some ⟨b', o' + q * 3, none⟩)) rfl (by kernel_rfl) (by kernel_rfl) (by kernel_rfl) (by kernel_rfl) (fun _ _ _ h => Norm.panic h) (Or.inl ⟨by rfl, ?_⟩) (by assumption) ?_
        · intro w' hSw
          obtain ⟨⟨⟨t0, t1, t2, t3⟩, t4, t5, t6, t7⟩, s0, s1, s2, s3, s4, s5⟩ := hSw
          go_simp
        simp only [Act.put, List.setIfInBounds_toArray, List.set_cons_zero, List.set_cons_succ]
        refine wpAnyS_take (i := 9) (oi := ⟨some 45, _, _, _, _, _⟩) (v := .agg #[.bool u.args[q].v, .string u.args[q].n, .slice av u.args[q].args.length kv]) rfl (by kernel_rfl) (by kernel_rfl) (by kernel_rfl) (by kernel_rfl) (fun _ _ _ h => Norm.panic h) (Or.inl ⟨by rfl, ?_⟩) (by assumption) ?_
        · intro w' hSw
          obtain ⟨⟨⟨t0, t1, t2, t3⟩, t4, t5, t6, t7⟩, s0, s1, s2, s3, s4, s5⟩ := hSw
          go_simp
        simp only [Act.put, List.setIfInBounds_toArray, List.set_cons_zero, List.set_cons_succ]
        refine wpAnyS_take (i := 11) (oi := ⟨some 47, _, _, _, _, _⟩) (v := .pointer (some ⟨w.heap.size, 2, none⟩)) rfl (by kernel_rfl) (by kernel_rfl) (by kernel_rfl) (by kernel_rfl) (fun _ _ _ h => Norm.panic h) (Or.inl ⟨by rfl, ?_⟩) (by assumption) ?_
        · intro w' hSw
          obtain ⟨⟨⟨t0, t1, t2, t3⟩, t4, t5, t6, t7⟩, s0, s1, s2, s3, s4, s5⟩ := hSw
          go_simp
        simp only [Act.put, List.setIfInBounds_toArray, List.set_cons_zero, List.set_cons_succ]
        refine wpAnyS_take (i := 12) (oi := ⟨some 48, _, _, _, _, _⟩) (v := .slice (some ⟨b, o, none⟩) t.args.length ka) rfl (by kernel_rfl) (by kernel_rfl) (by kernel_rfl) (by kernel_rfl) (fun _ _ _ h => Norm.panic h) (Or.inl ⟨by rfl, ?_⟩) (by assumption) ?_
        · intro w' hSw
          obtain ⟨⟨⟨t0, t1, t2, t3⟩, t4, t5, t6, t7⟩, s0, s1, s2, s3, s4, s5⟩ := hSw
          go_simp
        simp only [Act.put, List.setIfInBounds_toArray, List.set_cons_zero, List.set_cons_succ]
        refine wpAnyS_take (i := 13) (oi := ⟨some 49, _, _, _, _, _⟩) (v := .int .i64 (q : Int)) rfl (by kernel_rfl) (by kernel_rfl) (by kernel_rfl) (by kernel_rfl) (fun _ _ _ h => Norm.panic h) (Or.inl ⟨by rfl, ?_⟩) (by assumption) ?_
        · intro w' hSw
          obtain ⟨⟨⟨t0, t1, t2, t3⟩, t4, t5, t6, t7⟩, s0, s1, s2, s3, s4, s5⟩ := hSw
          go_simp
        simp only [Act.put, List.setIfInBounds_toArray, List.set_cons_zero, List.set_cons_succ]
        refine wpAnyS_take (i := 14) (oi := ⟨some 50, _, _, _, _, _⟩) (v := .pointer (some ⟨b, o + q * 3, none⟩)) rfl (by kernel_rfl) (by kernel_rfl) (by kernel_rfl) (by kernel_rfl) (fun _ _ _ h => Norm.panic h) (Or.inl ⟨by rfl, ?_⟩) (by assumption) ?_
        · intro w' hSw
          obtain ⟨⟨⟨t0, t1, t2, t3⟩, t4, t5, t6, t7⟩, s0, s1, s2, s3, s4, s5⟩ := hSw
          go_simp
        simp only [Act.put, List.setIfInBounds_toArray, List.set_cons_zero, List.set_cons_succ]
        refine wpAnyS_take (i := 15) (oi := ⟨some 51, _, _, _, _, _⟩) (v := .agg #[.bool t.args[q].v, .string t.args[q].n, .slice au t.args[q].args.length ku]) rfl (by kernel_rfl) (by kernel_rfl) (by kernel_rfl) (by kernel_rfl) (fun _ _ _ h => Norm.panic h) (Or.inl ⟨by rfl, ?_⟩) (by assumption) ?_
        · intro w' hSw
          obtain ⟨⟨⟨t0, t1, t2, t3⟩, t4, t5, t6, t7⟩, s0, s1, s2, s3, s4, s5⟩ := hSw
          go_simp
        simp only [Act.put, List.setIfInBounds_toArray, List.set_cons_zero, List.set_cons_succ]
        refine wpAnyS_take (i := 16) (oi := ⟨some 52, _, _, _, _, _⟩) (v := .pointer (some ⟨w.heap.size + 1, 2, none⟩)) rfl (by kernel_rfl) (by kernel_rfl) (by kernel_rfl) (by kernel_rfl) (fun _ _ _ h => Norm.panic h) (Or.inl ⟨by rfl, ?_⟩) (by assumption) ?_
        · intro w' hSw
          obtain ⟨⟨⟨t0, t1, t2, t3⟩, t4, t5, t6, t7⟩, s0, s1, s2, s3, s4, s5⟩ := hSw
          go_simp
        simp only [Act.put, List.setIfInBounds_toArray, List.set_cons_zero, List.set_cons_succ]
        refine wpAnyS_take (i := 17) (oi := ⟨some 53, _, _, _, _, _⟩) (v := .slice (some ⟨b', o', none⟩) u.args.length kb) rfl (by kernel_rfl) (by kernel_rfl) (by kernel_rfl) (by kernel_rfl) (fun _ _ _ h => Norm.panic h) (Or.inl ⟨by rfl, ?_⟩) (by assumption) ?_
        · intro w' hSw
          obtain ⟨⟨⟨t0, t1, t2, t3⟩, t4, t5, t6, t7⟩, s0, s1, s2, s3, s4, s5⟩ := hSw
          go_simp
        simp only [Act.put, List.setIfInBounds_toArray, List.set_cons_zero, List.set_cons_succ]
        refine wpAnyS_take (i := 18) (oi := ⟨some 54, _, _, _, _, _⟩) (v := .int .i64 (q : Int)) rfl (by kernel_rfl) (by kernel_rfl) (by kernel_rfl) (by kernel_rfl) (fun _ _ _ h => Norm.panic h) (Or.inl ⟨by rfl, ?_⟩) (by assumption) ?_
        · intro w' hSw
          obtain ⟨⟨⟨t0, t1, t2, t3⟩, t4, t5, t6, t7⟩, s0, s1, s2, s3, s4, s5⟩ := hSw
          go_simp
        simp only [Act.put, List.setIfInBounds_toArray, List.set_cons_zero, List.set_cons_succ]
        refine wpAnyS_take (i := 19) (oi := ⟨some 55, _, _, _, _, _⟩) (v := .pointer (some ⟨b', o' + q * 3, none⟩)) rfl (by kernel_rfl) (by kernel_rfl) (by kernel_rfl) (by kernel_rfl) (fun _ _ _ h => Norm.panic h) (Or.inl ⟨by rfl, ?_⟩) (by assumption) ?_
        · intro w' hSw
          obtain ⟨⟨⟨t0, t1, t2, t3⟩, t4, t5, t6, t7⟩, s0, s1, s2, s3, s4, s5⟩ := hSw
          go_simp
        simp only [Act.put, List.setIfInBounds_toArray, List.set_cons_zero, List.set_cons_succ]
        refine wpAnyS_take (i := 20) (oi := ⟨some 56, _, _, _, _, _⟩) (v := .agg #[.bool u.args[q].v, .string u.args[q].n, .slice av u.args[q].args.length kv]) rfl (by kernel_rfl) (by kernel_rfl) (by kernel_rfl) (by kernel_rfl) (fun _ _ _ h => Norm.panic h) (Or.inl ⟨by rfl, ?_⟩) (by assumption) ?_
        · intro w' hSw
          obtain ⟨⟨⟨t0, t1, t2, t3⟩, t4, t5, t6, t7⟩, s0, s1, s2, s3, s4, s5⟩ := hSw
          go_simp
        simp only [Act.put, List.setIfInBounds_toArray, List.set_cons_zero, List.set_cons_succ]
        refine wpAnyS_one (i := 10) (oi := ⟨some 46, _, _, _, _, _⟩) rfl (by kernel_rfl) (by rfl) (fun K hK => ?_)
        go_simp
        refine (sameT_c t.args[q] u.args[q] _ _ _ _ _ _ dn _ (HX.out _ HBk) (HY.out _ HBk) (Nat.le_trans hdr HBk.size)).mono ?_
        rintro e wn ⟨rfl, hbn⟩
        have HBn := HBk.trans (hbn.mono HBk.size)
        clear HBk hbn
        have HBk := HBn
        clear HBn
        have hHeld := HT2.out _ HBk
        refine hK _ _ (fun _ => hHeld) ?_
        clear hK K
        simp only [Act.put, List.setIfInBounds_toArray, List.set_cons_zero, List.set_cons_succ]
        refine wpAnyS_one (i := 21) (oi := ⟨some 57, _, _, _, _, _⟩) rfl (by kernel_rfl) (by rfl) (fun K hK => ?_)
        go_simp
        refine (refSameT_c t.args[q] u.args[q] _ _ _ _ _ _ dn _ (HX.out _ HBk) (HY.out _ HBk) (Nat.le_trans hdr HBk.size)).mono ?_
        rintro e wn ⟨rfl, hbn⟩
        have HBn := HBk.trans (hbn.mono HBk.size)
        clear HBk hbn
        have HBk := HBn
        clear HBn
        have hHeld := HT2.out _ HBk
        refine hK _ _ (fun _ => hHeld) ?_
        clear hK K
        simp only [Act.put, List.setIfInBounds_toArray, List.set_cons_zero, List.set_cons_succ]
        refine wpAnyS_take (i := 22) (oi := ⟨some 58, _, _, _, _, _⟩) (v := .bool false) rfl (by kernel_rfl) (by kernel_rfl) (by kernel_rfl) (by kernel_rfl) (fun _ _ _ h => Norm.panic h) (Or.inl ⟨by rfl, ?_⟩) (by assumption) ?_
        · intro w' hSw
          obtain ⟨⟨⟨t0, t1, t2, t3⟩, t4, t5, t6, t7⟩, s0, s1, s2, s3, s4, s5⟩ := hSw
          go_simp
          try simp
        simp only [Act.put, List.setIfInBounds_toArray, List.set_cons_zero, List.set_cons_succ]
        refine wpAnyS_done (by kernel_rfl) ?_
        refine Norm.normal ?_
        clear hHeld
        go_wp2_with fail
        exact ⟨⟨q + 1, by go_num, by omega, hbq.trans (HBk.mono hbq.size)⟩, by simp [intOf]; omega⟩
      · go_wp2_with fail
        go_ret
        exact ⟨rfl, HFIN.out⟩
    · go_wp2_with fail
      go_ret
      exact ⟨rfl, HFIN.out⟩
end Go.Proofs.YtnadjkofjgpabaaGreatDoor.Fm
